/- What Write of fano answers, for whatever list and greatest number it is handed; no condition but those that each fact names. -/
import Derived.Test.YtkbelhclcpepaaaJYYOf
import Derived.Test.YtkbelhclcpepaaaJYYChk
import Derived.Deep.RegionWith
namespace Go.Proofs.Ytkbelhclcpepaaa
set_option maxRecDepth 100000
set_option linter.unusedVariables false
open Go.RowKit Go.Shelf

/-- A list's parts and an error come back. -/
def FnP (w : World) (n t k : Int) (L H : List Bool) (err : Int) (e : Ending) (w' : World) : Prop :=
  ∃ A1 c1 A2 c2, e = .returned (.tuple #[.agg #[.int .i64 n, .int .i64 t, .int .i64 k, .int .i64 (L.length : Int), .slice A1 (pack L).length c1, .int .i64 (H.length : Int), .slice A2 (pack H).length c2], .int .i64 err]) ∧ Rd w' w'.heap.size A1 (pack L) ∧ Rd w' w'.heap.size A2 (pack H) ∧ Below w.heap.size w w'
theorem eachF (t : Nat) : ∀ (xs : List Int) (v : Int), -1 ≤ v → eachS (ckS (okT (t : Int)) 0) id v xs = 0 → ∃ l : List Nat, xs = ns l ∧ (∀ x ∈ l, x ≤ t) ∧ Up v.toNat l
  | [], v, _, _ => ⟨[], rfl, by simp, trivial⟩
  | x :: r, v, hv, h => by
    rw [eachS_cons] at h
    by_cases h0 : ckS (okT (t : Int)) 0 v x = 0
    · rw [if_pos h0] at h
      unfold ckS at h0
      by_cases h1 : okT (t : Int) x = false
      · rw [if_pos h1] at h0; cases h0
      · rw [if_neg h1] at h0
        have h1' : okT (t : Int) x = true := by simpa using h1
        have h2 : 0 ≤ x ∧ x ≤ (t : Int) := by unfold okT at h1'; simpa using h1'
        by_cases h3 : x < v + 0
        · rw [if_pos h3] at h0; cases h0
        · obtain ⟨l, rfl, hl, hu⟩ := eachF t r x (by omega) h
          obtain ⟨y, rfl⟩ := Int.eq_ofNat_of_zero_le h2.1
          refine ⟨y :: l, rfl, fun z hz => ?_, by omega, hu⟩
          rcases List.mem_cons.1 hz with rfl | hz
          · omega
          · exact hl z hz
    · rw [if_neg h0] at h; exact absurd h h0
theorem eachF_ok (t : Nat) : ∀ (l : List Nat) (v : Int), (∀ x ∈ l, x ≤ t) → Up v.toNat l → eachS (ckS (okT (t : Int)) 0) id v (ns l) = 0
  | [], _, _, _ => rfl
  | x :: r, v, hl, hu => by
    have h1 : okT (t : Int) (x : Int) = true := by have := hl x (by simp); unfold okT; simp; omega
    have h2 : ckS (okT (t : Int)) 0 v (x : Int) = 0 := by
      unfold ckS
      rw [if_neg (by rw [h1]; decide), if_neg (by have := hu.1; omega)]
    rw [show ns (x :: r) = (x : Int) :: ns r from rfl, eachS_cons, if_pos h2]
    exact eachF_ok t r (x : Int) (fun z hz => hl z (by simp [hz])) (by simpa using hu.2)
theorem fE_zero {xs : List Int} {top : Int} (h : fE xs top = 0) : ∃ (l : List Nat) (t : Nat), xs = ns l ∧ top = (t : Int) ∧ t ≤ 1048576 ∧ l.length ≤ 300 ∧ (∀ x ∈ l, x ≤ t) ∧ Up 0 l := by
  unfold fE at h
  by_cases h1 : okN top = false
  · rw [if_pos h1] at h; cases h
  · rw [if_neg h1] at h
    have h1' : okN top = true := by simpa using h1
    have h2 : 0 ≤ top ∧ top ≤ 1048576 := by unfold okN at h1'; simpa using h1'
    by_cases h3 : 300 < xs.length
    · rw [if_pos h3] at h; cases h
    · rw [if_neg h3] at h
      obtain ⟨t, rfl⟩ := Int.eq_ofNat_of_zero_le h2.1
      obtain ⟨l, rfl, hl, hu⟩ := eachF t xs (-1) (by omega) h
      exact ⟨l, t, rfl, rfl, by omega, by rw [ns_length] at h3; omega, hl, hu⟩
theorem fE_ok {l : List Nat} {t : Nat} (ht : t ≤ 1048576) (hn : l.length ≤ 300) (hl : ∀ x ∈ l, x ≤ t) (hu : Up 0 l) : fE (ns l) (t : Int) = 0 := by
  unfold fE
  rw [if_neg (by rw [okN_nat t ht]; decide), if_neg (by rw [ns_length]; omega)]
  exact eachF_ok t l (-1) hl hu
theorem ret7 {w V : World} {R : Nat} {T : TypeId} {a b c d e f g : Value} (h : V.heap[R]? = some (.cells #[a, b, c, d, e, f, g] T (0, 0))) :
    (V.cell? ⟨R, 0, none⟩ = some a ∧ V.cell? ⟨R, 1, none⟩ = some b ∧ V.cell? ⟨R, 2, none⟩ = some c ∧ V.cell? ⟨R, 3, none⟩ = some d ∧ V.cell? ⟨R, 4, none⟩ = some e ∧ V.cell? ⟨R, 5, none⟩ = some f ∧ V.cell? ⟨R, 6, none⟩ = some g) ∧
    (V.frozen? ⟨R, 0, none⟩ = false ∧ V.frozen? ⟨R, 1, none⟩ = false ∧ V.frozen? ⟨R, 2, none⟩ = false ∧ V.frozen? ⟨R, 3, none⟩ = false ∧ V.frozen? ⟨R, 4, none⟩ = false ∧ V.frozen? ⟨R, 5, none⟩ = false ∧ V.frozen? ⟨R, 6, none⟩ = false) :=
  ⟨(cells7 h).1, (cells7 h).2 0, (cells7 h).2 1, (cells7 h).2 2, (cells7 h).2 3, (cells7 h).2 4, (cells7 h).2 5, (cells7 h).2 6⟩
set_option maxHeartbeats 1000000 in
theorem fwrite_e (xs : List Int) (n : Nat) (hn : xs.length = n) (hn2 : n ≤ 9223372036854775807) (top e0 : Int) (he : fE xs top = e0) (h0 : e0 ≠ 0) (A : Option Addr) (c : Nat) (w : World) (h : RdV w w.heap.size A (zc xs)) :
    Calls Try.prog 49 #[.slice A n c, .int .i64 top] w (FnP w 0 0 0 [] [] e0) := by
  have HC : Hid (∀ V, Below w.heap.size w V → Calls Try.prog 74 #[.slice A n c, .int .i64 top] V fun e w' => e = .returned (.int .i64 e0) ∧ Below V.heap.size V w') := fun V hV => by
    have := fcheck_any xs n hn hn2 top A c V (h.on hV)
    rwa [he] at this
  have t0 : (e0 != 0) = true := by simpa using h0
  clear h he h0 hn
  go_enter Try.func49, Try.ntmps49
  go_wp2_with fail
  obtain ⟨V0, hV0⟩ : ∃ V0, V0 = w.alloc (.cells #[.int .i64 0, .int .i64 0, .int .i64 0, .int .i64 0, .slice none 0 0, .int .i64 0, .slice none 0 0] 70) := ⟨_, rfl⟩
  have HV : Hid (Below w.heap.size w V0) := by rw [hV0]; exact one_below _ _
  have hb : V0.heap[w.heap.size]? = some (.cells #[.int .i64 0, .int .i64 0, .int .i64 0, .int .i64 0, .slice none 0 0, .int .i64 0, .slice none 0 0] 70 (0, 0)) := by rw [hV0]; exact World.alloc_heap_new _ _
  have hz : w.heap.size < V0.heap.size := by rw [hV0, World.size_alloc]; omega
  rw [← hV0]
  clear hV0
  refine (HC.out V0 HV.out).mono ?_
  rintro e w1 ⟨rfl, B1⟩
  obtain ⟨⟨r0, r1, r2, r3, r4, r5, r6⟩, k0, k1, k2, k3, k4, k5, k6⟩ := ret7 (w := w) ((B1.block _ hz).trans hb)
  have HL : Hid (Below w.heap.size w w1) := HV.out.trans (B1.mono (by omega))
  clear B1 hb
  go_wp2
  exact bodyPost_ret (v := .tuple #[.agg #[.int .i64 0, .int .i64 0, .int .i64 0, .int .i64 0, .slice none 0 0, .int .i64 0, .slice none 0 0], .int .i64 e0]) (by simp [results, Try.results49, go_sem, r0, r1, r2, r3, r4, r5, r6]) rfl ⟨none, 0, none, 0, rfl, .inl rfl, .inl rfl, below_set7 HL.out (Nat.le_refl _) _ _ _ _ _ _ _⟩
theorem rd_set7 {w : World} {B X i : Nat} {A : Option Addr} {bs : List Nat} {a b c d f : Int} {s1 s2 : Option Addr} {n1 c1 n2 c2 : Nat} {T : TypeId} (u : Value) (h : Rd w B A bs)
    (hX : w.heap[X]? = some (.cells #[.int .i64 a, .int .i64 b, .int .i64 c, .int .i64 d, .slice s1 n1 c1, .int .i64 f, .slice s2 n2 c2] T (0, 0))) : Rd (w.setCell ⟨X, i, none⟩ u) B A bs := by
  rcases h with h | ⟨g, off, rfl, hb, hc⟩
  · exact .inl h
  · by_cases h0 : bs = []
    · exact .inl h0
    · have hl : 0 < bs.length := List.length_pos_iff.2 h0
      have hne : g ≠ X := by
        rintro rfl
        have h1 := hc 0 hl
        simp only [World.cell?, hX] at h1
        rcases (show off = 0 ∨ off = 1 ∨ off = 2 ∨ off = 3 ∨ off = 4 ∨ off = 5 ∨ off = 6 ∨ 7 ≤ off by omega) with rfl | rfl | rfl | rfl | rfl | rfl | rfl | h2
        · simp at h1
        · simp at h1
        · simp at h1
        · simp at h1
        · simp at h1
        · simp at h1
        · simp at h1
        · rw [Array.getElem?_eq_none (by simp; omega)] at h1
          cases h1
      exact .inr ⟨g, off, rfl, hb, fun j hj => (World.cell?_setCell_other w _ ⟨g, off + j, none⟩ u (by intro e; exact hne (congrArg Addr.block e).symm)).trans (hc j hj)⟩
/-- Low and high bits are stored. -/
theorem st4 {w w7 : World} {X n1 c1 n2 c2 : Nat} {n t k lL lH : Int} {A1 A2 : Option Addr} {b1 b2 : List Nat} (hX : w7.heap[X]? = some (.cells #[.int .i64 n, .int .i64 t, .int .i64 k, .int .i64 0, .slice none 0 0, .int .i64 0, .slice none 0 0] 70 (0, 0))) (hs : w7.heap[w.heap.size]? = some (.cells #[.int .i64 0, .int .i64 0, .int .i64 0, .int .i64 0, .slice none 0 0, .int .i64 0, .slice none 0 0] 70 (0, 0)))
    (hlt : w.heap.size < X) (R1 : Rd w7 w7.heap.size A1 b1) (R2 : Rd w7 w7.heap.size A2 b2) (hb : Below w.heap.size w w7) :
    ∃ W8, W8 = (((w7.setCell ⟨X, 3, none⟩ (.int .i64 lL)).setCell ⟨X, 4, none⟩ (.slice A1 n1 c1)).setCell ⟨X, 5, none⟩ (.int .i64 lH)).setCell ⟨X, 6, none⟩ (.slice A2 n2 c2) ∧
      W8.heap[X]? = some (.cells #[.int .i64 n, .int .i64 t, .int .i64 k, .int .i64 lL, .slice A1 n1 c1, .int .i64 lH, .slice A2 n2 c2] 70 (0, 0)) ∧ W8.heap[w.heap.size]? = some (.cells #[.int .i64 0, .int .i64 0, .int .i64 0, .int .i64 0, .slice none 0 0, .int .i64 0, .slice none 0 0] 70 (0, 0)) ∧ Rd W8 W8.heap.size A1 b1 ∧ Rd W8 W8.heap.size A2 b2 ∧ Below w.heap.size w W8 := by
  have h3 := heap_set_same w7 X 3 (.int .i64 lL) 70 _ hX
  simp only [List.setIfInBounds_toArray, List.set_cons_zero, List.set_cons_succ] at h3
  have h4 := heap_set_same _ X 4 (.slice A1 n1 c1) 70 _ h3
  simp only [List.setIfInBounds_toArray, List.set_cons_zero, List.set_cons_succ] at h4
  have h5 := heap_set_same _ X 5 (.int .i64 lH) 70 _ h4
  simp only [List.setIfInBounds_toArray, List.set_cons_zero, List.set_cons_succ] at h5
  have h6 := heap_set_same _ X 6 (.slice A2 n2 c2) 70 _ h5
  simp only [List.setIfInBounds_toArray, List.set_cons_zero, List.set_cons_succ] at h6
  have hz : ((((w7.setCell ⟨X, 3, none⟩ (.int .i64 lL)).setCell ⟨X, 4, none⟩ (.slice A1 n1 c1)).setCell ⟨X, 5, none⟩ (.int .i64 lH)).setCell ⟨X, 6, none⟩ (.slice A2 n2 c2)).heap.size = w7.heap.size := by simp [World.setCell]
  refine ⟨_, rfl, h6, ?_, ?_, ?_, (((hb.setCell (p := ⟨X, 3, none⟩) (by simp only; omega) _).setCell (p := ⟨X, 4, none⟩) (by simp only; omega) _).setCell (p := ⟨X, 5, none⟩) (by simp only; omega) _).setCell (p := ⟨X, 6, none⟩) (by simp only; omega) _⟩
  · rw [Below.heap_setCell _ _ _ _ (by simp only; omega), Below.heap_setCell _ _ _ _ (by simp only; omega), Below.heap_setCell _ _ _ _ (by simp only; omega), Below.heap_setCell _ _ _ _ (by simp only; omega)]; exact hs
  · rw [hz]; exact rd_set7 _ (rd_set7 _ (rd_set7 _ (rd_set7 _ R1 hX) h3) h4) h5
  · rw [hz]; exact rd_set7 _ (rd_set7 _ (rd_set7 _ (rd_set7 _ R2 hX) h3) h4) h5
/-- The answer is stored. -/
theorem fin7 {w W : World} {n t k : Int} {L H : List Bool} {A1 A2 : Option Addr} {c1 c2 : Nat} (hs : W.heap[w.heap.size]? = some (.cells #[.int .i64 0, .int .i64 0, .int .i64 0, .int .i64 0, .slice none 0 0, .int .i64 0, .slice none 0 0] 70 (0, 0))) (R1 : Rd W W.heap.size A1 (pack L)) (R2 : Rd W W.heap.size A2 (pack H)) (hb : Below w.heap.size w W) :
    FnP w n t k L H 0 (.returned (.tuple #[.agg #[.int .i64 n, .int .i64 t, .int .i64 k, .int .i64 (L.length : Int), .slice A1 (pack L).length c1, .int .i64 (H.length : Int), .slice A2 (pack H).length c2], .int .i64 0]))
      (((((((W.setCell ⟨w.heap.size, 0, none⟩ (.int .i64 n)).setCell ⟨w.heap.size, 1, none⟩ (.int .i64 t)).setCell ⟨w.heap.size, 2, none⟩ (.int .i64 k)).setCell ⟨w.heap.size, 3, none⟩ (.int .i64 (L.length : Int))).setCell ⟨w.heap.size, 4, none⟩ (.slice A1 (pack L).length c1)).setCell ⟨w.heap.size, 5, none⟩ (.int .i64 (H.length : Int))).setCell ⟨w.heap.size, 6, none⟩ (.slice A2 (pack H).length c2)) := by
  have g0 := heap_set_same W w.heap.size 0 (.int .i64 n) 70 _ hs
  simp only [List.setIfInBounds_toArray, List.set_cons_zero] at g0
  have g1 := heap_set_same _ w.heap.size 1 (.int .i64 t) 70 _ g0
  simp only [List.setIfInBounds_toArray, List.set_cons_zero, List.set_cons_succ] at g1
  have g2 := heap_set_same _ w.heap.size 2 (.int .i64 k) 70 _ g1
  simp only [List.setIfInBounds_toArray, List.set_cons_zero, List.set_cons_succ] at g2
  have g3 := heap_set_same _ w.heap.size 3 (.int .i64 (L.length : Int)) 70 _ g2
  simp only [List.setIfInBounds_toArray, List.set_cons_zero, List.set_cons_succ] at g3
  have g4 := heap_set_same _ w.heap.size 4 (.slice A1 (pack L).length c1) 70 _ g3
  simp only [List.setIfInBounds_toArray, List.set_cons_zero, List.set_cons_succ] at g4
  have g5 := heap_set_same _ w.heap.size 5 (.int .i64 (H.length : Int)) 70 _ g4
  simp only [List.setIfInBounds_toArray, List.set_cons_zero, List.set_cons_succ] at g5
  refine ⟨A1, c1, A2, c2, rfl, ?_, ?_, below_set7 hb (Nat.le_refl _) _ _ _ _ _ _ _⟩
  · have := rd_set7 (i := 6) (.slice A2 (pack H).length c2) (rd_set7 (i := 5) (.int .i64 (H.length : Int)) (rd_set7 (i := 4) (.slice A1 (pack L).length c1) (rd_set7 (i := 3) (.int .i64 (L.length : Int)) (rd_set7 (i := 2) (.int .i64 k) (rd_set7 (i := 1) (.int .i64 t) (rd_set7 (i := 0) (.int .i64 n) R1 hs) g0) g1) g2) g3) g4) g5
    simpa [World.setCell] using this
  · have := rd_set7 (i := 6) (.slice A2 (pack H).length c2) (rd_set7 (i := 5) (.int .i64 (H.length : Int)) (rd_set7 (i := 4) (.slice A1 (pack L).length c1) (rd_set7 (i := 3) (.int .i64 (L.length : Int)) (rd_set7 (i := 2) (.int .i64 k) (rd_set7 (i := 1) (.int .i64 t) (rd_set7 (i := 0) (.int .i64 n) R2 hs) g0) g1) g2) g3) g4) g5
    simpa [World.setCell] using this
set_option maxHeartbeats 2000000 in
theorem fwrite_full (l : List Nat) (n t k z : Nat) (hn : l.length = n) (hn3 : n ≤ 300) (ht : t ≤ 1048576) (hl : ∀ x ∈ l, x ≤ t) (hu : Up 0 l) (hk : fw n t = k) (hz : n + t / 2 ^ k + 1 = z) (hbig : 8192 < z) (A : Option Addr) (c : Nat) (w : World) (h : RdV w w.heap.size A (zc (ns l))) :
    Calls Try.prog 49 #[.slice A n c, .int .i64 (t : Int)] w (FnP w 0 0 0 [] [] 8) := by
  have HC : Hid (∀ V, Below w.heap.size w V → Calls Try.prog 74 #[.slice A n c, .int .i64 (t : Int)] V fun e w' => e = .returned (.int .i64 0) ∧ Below V.heap.size V w') := fun V hV => by
    have := fcheck_any (ns l) n (by rw [ns_length]; exact hn) (by omega) (t : Int) A c V (h.on hV)
    rwa [fE_ok ht (by omega) hl hu] at this
  have HS : Hid (∀ V, Calls Try.prog 75 #[.int .i64 (n : Int), .int .i64 (t : Int)] V fun e w' => e = .returned (.agg #[.int .i64 (n : Int), .int .i64 (t : Int), .int .i64 (k : Int), .int .i64 0, .slice none 0 0, .int .i64 0, .slice none 0 0]) ∧ Below V.heap.size V w') := fun V => shape_ok n t k hk (by omega) ht V
  have hk20 : k ≤ 20 := by rw [← hk]; exact fw_bound n t ht
  obtain ⟨q, hq⟩ : ∃ q, n * k = q := ⟨_, rfl⟩
  have hq6 : q ≤ 6000 := by rw [← hq]; exact Nat.mul_le_mul hn3 hk20
  have HLl : Hid (∀ V, Calls Try.prog 76 #[.agg #[.int .i64 (n : Int), .int .i64 (t : Int), .int .i64 (k : Int), .int .i64 0, .slice none 0 0, .int .i64 0, .slice none 0 0]] V fun e w' => e = .returned (.int .i64 (q : Int)) ∧ Below V.heap.size V w') := fun V => lowLen_ok n t k q hq hn3 hk20 V
  have HHl : Hid (∀ V, Calls Try.prog 77 #[.agg #[.int .i64 (n : Int), .int .i64 (t : Int), .int .i64 (k : Int), .int .i64 0, .slice none 0 0, .int .i64 0, .slice none 0 0]] V fun e w' => e = .returned (.int .i64 (z : Int)) ∧ Below V.heap.size V w') := fun V => highLen_ok n t k z hz hn3 ht hk20 V
  have tq : decide ((8192 : Int) < (q : Int)) = false := by simp; omega
  have tq2 : decide (8192 < q) = false := by simp; omega
  have tz : decide ((8192 : Int) < (z : Int)) = true := by simp; omega
  have tz2 : decide (8192 < z) = true := by simp; omega
  clear h hn hl hu hk hz hq hq6 hbig hk20 hn3 ht
  go_enter Try.func49, Try.ntmps49
  go_wp2_with fail
  obtain ⟨V0, hV0⟩ : ∃ V0, V0 = w.alloc (.cells #[.int .i64 0, .int .i64 0, .int .i64 0, .int .i64 0, .slice none 0 0, .int .i64 0, .slice none 0 0] 70) := ⟨_, rfl⟩
  have HV : Hid (Below w.heap.size w V0) := by rw [hV0]; exact one_below _ _
  have hb : V0.heap[w.heap.size]? = some (.cells #[.int .i64 0, .int .i64 0, .int .i64 0, .int .i64 0, .slice none 0 0, .int .i64 0, .slice none 0 0] 70 (0, 0)) := by rw [hV0]; exact World.alloc_heap_new _ _
  have hzz : w.heap.size < V0.heap.size := by rw [hV0, World.size_alloc]; omega
  rw [← hV0]
  clear hV0
  refine (HC.out V0 HV.out).mono ?_
  rintro e w1 ⟨rfl, B1⟩
  have HB1 : Hid (Below w.heap.size w w1) := HV.out.trans (B1.mono (by omega))
  have HR1 : Hid (w1.heap[w.heap.size]? = some (.cells #[.int .i64 0, .int .i64 0, .int .i64 0, .int .i64 0, .slice none 0 0, .int .i64 0, .slice none 0 0] 70 (0, 0)) ∧ w.heap.size < w1.heap.size) := ⟨(B1.block _ hzz).trans hb, by have := B1.size; omega⟩
  clear B1 hb hzz
  go_wp2_with fail
  refine (HS.out w1).mono ?_
  rintro e w2 ⟨rfl, B2⟩
  obtain ⟨w3, hw3⟩ : ∃ w3, w3 = w2.alloc (.cells #[.int .i64 (n : Int), .int .i64 (t : Int), .int .i64 (k : Int), .int .i64 0, .slice none 0 0, .int .i64 0, .slice none 0 0] 70) := ⟨_, rfl⟩
  obtain ⟨X, hX⟩ : ∃ X, X = w2.heap.size := ⟨_, rfl⟩
  have H3 : Hid (Below w.heap.size w w3 ∧ w3.heap[w.heap.size]? = some (.cells #[.int .i64 0, .int .i64 0, .int .i64 0, .int .i64 0, .slice none 0 0, .int .i64 0, .slice none 0 0] 70 (0, 0)) ∧ w3.heap[X]? = some (.cells #[.int .i64 (n : Int), .int .i64 (t : Int), .int .i64 (k : Int), .int .i64 0, .slice none 0 0, .int .i64 0, .slice none 0 0] 70 (0, 0)) ∧ w.heap.size < X ∧ X < w3.heap.size) := by
    have hs := HR1.out.2
    have hs2 := B2.size
    rw [hw3, hX]
    refine ⟨HB1.out.trans ((B2.trans ((one_below _ _).mono B2.size)).mono HB1.out.size), ?_, World.alloc_heap_new _ _, by omega, by rw [World.size_alloc]; omega⟩
    rw [(one_below _ _).block _ (by omega)]; exact (B2.block _ hs).trans HR1.out.1
  obtain ⟨p0, p1, p2, p3, p4, p5, p6⟩ := (cells7 H3.out.2.2.1).1
  clear B2 HB1 HR1
  go_wp2_with fail
  rw [← hw3, ← hX]
  clear hw3 hX
  refine (HLl.out w3).mono ?_
  rintro e w4 ⟨rfl, B4⟩
  have H4 : Hid (Below w.heap.size w w4 ∧ w4.heap[w.heap.size]? = some (.cells #[.int .i64 0, .int .i64 0, .int .i64 0, .int .i64 0, .slice none 0 0, .int .i64 0, .slice none 0 0] 70 (0, 0)) ∧ w4.heap[X]? = some (.cells #[.int .i64 (n : Int), .int .i64 (t : Int), .int .i64 (k : Int), .int .i64 0, .slice none 0 0, .int .i64 0, .slice none 0 0] 70 (0, 0)) ∧ w.heap.size < X ∧ X < w4.heap.size) :=
    ⟨H3.out.1.trans (B4.mono H3.out.1.size), (B4.block _ (by have := H3.out; omega)).trans H3.out.2.1, (B4.block _ H3.out.2.2.2.2).trans H3.out.2.2.1, H3.out.2.2.2.1, by have := H3.out; have := B4.size; omega⟩
  clear B4 H3 p0 p1 p2 p3 p4 p5 p6
  obtain ⟨p0, p1, p2, p3, p4, p5, p6⟩ := (cells7 H4.out.2.2.1).1
  go_wp2_with fail
  refine (HHl.out w4).mono ?_
  rintro e w5 ⟨rfl, B5⟩
  have H5 : Hid (Below w.heap.size w w5 ∧ w5.heap[w.heap.size]? = some (.cells #[.int .i64 0, .int .i64 0, .int .i64 0, .int .i64 0, .slice none 0 0, .int .i64 0, .slice none 0 0] 70 (0, 0)) ∧ w5.heap[X]? = some (.cells #[.int .i64 (n : Int), .int .i64 (t : Int), .int .i64 (k : Int), .int .i64 0, .slice none 0 0, .int .i64 0, .slice none 0 0] 70 (0, 0)) ∧ w.heap.size < X ∧ X < w5.heap.size) :=
    ⟨H4.out.1.trans (B5.mono H4.out.1.size), (B5.block _ (by have := H4.out; omega)).trans H4.out.2.1, (B5.block _ H4.out.2.2.2.2).trans H4.out.2.2.1, H4.out.2.2.2.1, by have := H4.out; have := B5.size; omega⟩
  clear B5 H4 p0 p1 p2 p3 p4 p5 p6
  obtain ⟨⟨r0, r1, r2, r3, r4, r5, r6⟩, k0, k1, k2, k3, k4, k5, k6⟩ := ret7 (w := w) H5.out.2.1
  go_wp2
  exact bodyPost_ret (v := .tuple #[.agg #[.int .i64 0, .int .i64 0, .int .i64 0, .int .i64 0, .slice none 0 0, .int .i64 0, .slice none 0 0], .int .i64 8]) (by simp [results, Try.results49, go_sem, r0, r1, r2, r3, r4, r5, r6]) rfl ⟨none, 0, none, 0, rfl, .inl rfl, .inl rfl, below_set7 H5.out.1 (Nat.le_refl _) _ _ _ _ _ _ _⟩
set_option maxHeartbeats 4000000 in
theorem fwrite_ok (l : List Nat) (n t k z : Nat) (hn : l.length = n) (hn3 : n ≤ 300) (ht : t ≤ 1048576) (hl : ∀ x ∈ l, x ≤ t) (hu : Up 0 l) (hk : fw n t = k) (hz : n + t / 2 ^ k + 1 = z) (hfit : z ≤ 8192) (A : Option Addr) (c : Nat) (w : World) (h : RdV w w.heap.size A (zc (ns l))) :
    Calls Try.prog 49 #[.slice A n c, .int .i64 (t : Int)] w (FnP w (n : Int) (t : Int) (k : Int) (loP k l) (fhi k l t) 0) := by
  have HC : Hid (∀ V, Below w.heap.size w V → Calls Try.prog 74 #[.slice A n c, .int .i64 (t : Int)] V fun e w' => e = .returned (.int .i64 0) ∧ Below V.heap.size V w') := fun V hV => by
    have := fcheck_any (ns l) n (by rw [ns_length]; exact hn) (by omega) (t : Int) A c V (h.on hV)
    rwa [fE_ok ht (by omega) hl hu] at this
  have HS : Hid (∀ V, Calls Try.prog 75 #[.int .i64 (n : Int), .int .i64 (t : Int)] V fun e w' => e = .returned (.agg #[.int .i64 (n : Int), .int .i64 (t : Int), .int .i64 (k : Int), .int .i64 0, .slice none 0 0, .int .i64 0, .slice none 0 0]) ∧ Below V.heap.size V w') := fun V => shape_ok n t k hk (by omega) ht V
  have hk20 : k ≤ 20 := by rw [← hk]; exact fw_bound n t ht
  obtain ⟨q, hq⟩ : ∃ q, n * k = q := ⟨_, rfl⟩
  have hq6 : q ≤ 6000 := by rw [← hq]; exact Nat.mul_le_mul hn3 hk20
  have HLl : Hid (∀ V, Calls Try.prog 76 #[.agg #[.int .i64 (n : Int), .int .i64 (t : Int), .int .i64 (k : Int), .int .i64 0, .slice none 0 0, .int .i64 0, .slice none 0 0]] V fun e w' => e = .returned (.int .i64 (q : Int)) ∧ Below V.heap.size V w') := fun V => lowLen_ok n t k q hq hn3 hk20 V
  have HHl : Hid (∀ V, Calls Try.prog 77 #[.agg #[.int .i64 (n : Int), .int .i64 (t : Int), .int .i64 (k : Int), .int .i64 0, .slice none 0 0, .int .i64 0, .slice none 0 0]] V fun e w' => e = .returned (.int .i64 (z : Int)) ∧ Below V.heap.size V w') := fun V => highLen_ok n t k z hz hn3 ht hk20 V
  have tq : decide ((8192 : Int) < (q : Int)) = false := by simp; omega
  have tq2 : decide (8192 < q) = false := by simp; omega
  have tz : decide ((8192 : Int) < (z : Int)) = false := by simp; omega
  have tz2 : decide (8192 < z) = false := by simp; omega
  have HLo : Hid (∀ V, Below w.heap.size w V → Calls Try.prog 78 #[.slice A n c, .agg #[.int .i64 (n : Int), .int .i64 (t : Int), .int .i64 (k : Int), .int .i64 0, .slice none 0 0, .int .i64 0, .slice none 0 0]] V (PkP V (loP k l))) := fun V hV => lowOf_ok l n n t k hn hn3 hk20 (fun x hx => Nat.le_trans (hl x hx) ht) A c V (h.on hV)
  have HHi : Hid (∀ V, Below w.heap.size w V → Calls Try.prog 79 #[.slice A n c, .agg #[.int .i64 (n : Int), .int .i64 (t : Int), .int .i64 (k : Int), .int .i64 0, .slice none 0 0, .int .i64 0, .slice none 0 0]] V (PkP V (fhi k l t))) := fun V hV => highOf_ok l n n t k rfl hn hn3 hk20 ht hl hu (by omega) A c V (h.on hV)
  clear h hn hl hu hk hz hq hq6 hfit hk20 hn3 ht
  generalize loP k l = L at *
  generalize fhi k l t = H at *
  go_enter Try.func49, Try.ntmps49
  go_wp2_with fail
  obtain ⟨V0, hV0⟩ : ∃ V0, V0 = w.alloc (.cells #[.int .i64 0, .int .i64 0, .int .i64 0, .int .i64 0, .slice none 0 0, .int .i64 0, .slice none 0 0] 70) := ⟨_, rfl⟩
  have HV : Hid (Below w.heap.size w V0) := by rw [hV0]; exact one_below _ _
  have hb : V0.heap[w.heap.size]? = some (.cells #[.int .i64 0, .int .i64 0, .int .i64 0, .int .i64 0, .slice none 0 0, .int .i64 0, .slice none 0 0] 70 (0, 0)) := by rw [hV0]; exact World.alloc_heap_new _ _
  have hzz : w.heap.size < V0.heap.size := by rw [hV0, World.size_alloc]; omega
  rw [← hV0]
  clear hV0
  refine (HC.out V0 HV.out).mono ?_
  rintro e w1 ⟨rfl, B1⟩
  have HB1 : Hid (Below w.heap.size w w1) := HV.out.trans (B1.mono (by omega))
  have HR1 : Hid (w1.heap[w.heap.size]? = some (.cells #[.int .i64 0, .int .i64 0, .int .i64 0, .int .i64 0, .slice none 0 0, .int .i64 0, .slice none 0 0] 70 (0, 0)) ∧ w.heap.size < w1.heap.size) := ⟨(B1.block _ hzz).trans hb, by have := B1.size; omega⟩
  clear B1 hb hzz
  go_wp2_with fail
  refine (HS.out w1).mono ?_
  rintro e w2 ⟨rfl, B2⟩
  obtain ⟨w3, hw3⟩ : ∃ w3, w3 = w2.alloc (.cells #[.int .i64 (n : Int), .int .i64 (t : Int), .int .i64 (k : Int), .int .i64 0, .slice none 0 0, .int .i64 0, .slice none 0 0] 70) := ⟨_, rfl⟩
  obtain ⟨X, hX⟩ : ∃ X, X = w2.heap.size := ⟨_, rfl⟩
  have H3 : Hid (Below w.heap.size w w3 ∧ w3.heap[w.heap.size]? = some (.cells #[.int .i64 0, .int .i64 0, .int .i64 0, .int .i64 0, .slice none 0 0, .int .i64 0, .slice none 0 0] 70 (0, 0)) ∧ w3.heap[X]? = some (.cells #[.int .i64 (n : Int), .int .i64 (t : Int), .int .i64 (k : Int), .int .i64 0, .slice none 0 0, .int .i64 0, .slice none 0 0] 70 (0, 0)) ∧ w.heap.size < X ∧ X < w3.heap.size) := by
    have hs := HR1.out.2
    have hs2 := B2.size
    rw [hw3, hX]
    refine ⟨HB1.out.trans ((B2.trans ((one_below _ _).mono B2.size)).mono HB1.out.size), ?_, World.alloc_heap_new _ _, by omega, by rw [World.size_alloc]; omega⟩
    rw [(one_below _ _).block _ (by omega)]; exact (B2.block _ hs).trans HR1.out.1
  obtain ⟨p0, p1, p2, p3, p4, p5, p6⟩ := (cells7 H3.out.2.2.1).1
  clear B2 HB1 HR1
  go_wp2_with fail
  rw [← hw3, ← hX]
  clear hw3 hX
  refine (HLl.out w3).mono ?_
  rintro e w4 ⟨rfl, B4⟩
  have H4 : Hid (Below w.heap.size w w4 ∧ w4.heap[w.heap.size]? = some (.cells #[.int .i64 0, .int .i64 0, .int .i64 0, .int .i64 0, .slice none 0 0, .int .i64 0, .slice none 0 0] 70 (0, 0)) ∧ w4.heap[X]? = some (.cells #[.int .i64 (n : Int), .int .i64 (t : Int), .int .i64 (k : Int), .int .i64 0, .slice none 0 0, .int .i64 0, .slice none 0 0] 70 (0, 0)) ∧ w.heap.size < X ∧ X < w4.heap.size) :=
    ⟨H3.out.1.trans (B4.mono H3.out.1.size), (B4.block _ (by have := H3.out; omega)).trans H3.out.2.1, (B4.block _ H3.out.2.2.2.2).trans H3.out.2.2.1, H3.out.2.2.2.1, by have := H3.out; have := B4.size; omega⟩
  clear B4 H3 p0 p1 p2 p3 p4 p5 p6
  obtain ⟨p0, p1, p2, p3, p4, p5, p6⟩ := (cells7 H4.out.2.2.1).1
  go_wp2_with fail
  refine (HHl.out w4).mono ?_
  rintro e w5 ⟨rfl, B5⟩
  have H5 : Hid (Below w.heap.size w w5 ∧ w5.heap[w.heap.size]? = some (.cells #[.int .i64 0, .int .i64 0, .int .i64 0, .int .i64 0, .slice none 0 0, .int .i64 0, .slice none 0 0] 70 (0, 0)) ∧ w5.heap[X]? = some (.cells #[.int .i64 (n : Int), .int .i64 (t : Int), .int .i64 (k : Int), .int .i64 0, .slice none 0 0, .int .i64 0, .slice none 0 0] 70 (0, 0)) ∧ w.heap.size < X ∧ X < w5.heap.size) :=
    ⟨H4.out.1.trans (B5.mono H4.out.1.size), (B5.block _ (by have := H4.out; omega)).trans H4.out.2.1, (B5.block _ H4.out.2.2.2.2).trans H4.out.2.2.1, H4.out.2.2.2.1, by have := H4.out; have := B5.size; omega⟩
  clear B5 H4 p0 p1 p2 p3 p4 p5 p6
  obtain ⟨⟨p0, p1, p2, p3, p4, p5, p6⟩, f0, f1, f2, f3, f4, f5, f6⟩ := ret7 (w := w) H5.out.2.2.1
  go_wp2_with fail
  go_region_with (first
    | (go_at_call 78; refine (HLo.out _ (by first | exact H5.out.1.drew | exact H5.out.1)).mono ?_; rintro e w6 ⟨A1, c1, rfl, R1, B6⟩; have HK6 : Hid (Below w5.heap.size w5 w6) := ((Below.refl _ w5).drew).trans B6; have HR6 := Lib.hid R1; obtain ⟨⟨p0, p1, p2, p3, p4, p5, p6⟩, f0, f1, f2, f3, f4, f5, f6⟩ := ret7 (w := w) ((HK6.out.block X H5.out.2.2.2.2).trans H5.out.2.2.1); clear B6 R1)
    | (go_at_call 79; refine (HHi.out _ (H5.out.1.trans (HK6.out.mono H5.out.1.size))).mono ?_; rintro e w7 ⟨A2, c2, rfl, R2, B7⟩; have HK7 : Hid (Below w5.heap.size w5 w7) := HK6.out.trans (B7.mono HK6.out.size); have HR7 := Lib.hid R2; have HR67 := Lib.hid (HR6.out.on B7); obtain ⟨⟨p0, p1, p2, p3, p4, p5, p6⟩, f0, f1, f2, f3, f4, f5, f6⟩ := ret7 (w := w) ((HK7.out.block X H5.out.2.2.2.2).trans H5.out.2.2.1); clear B7 R2))
  all_goals (
    obtain ⟨W8, hW8, hx8, hs8, q1, q2, hb8⟩ := st4 (w := w) (lL := (L.length : Int)) (lH := (H.length : Int)) (n1 := (pack L).length) (n2 := (pack H).length) (c1 := c1) (c2 := c2) ((HK7.out.block X H5.out.2.2.2.2).trans H5.out.2.2.1) ((HK7.out.block _ (by have := H5.out; omega)).trans H5.out.2.1) H5.out.2.2.2.1 HR67.out HR7.out (H5.out.1.trans (HK7.out.mono H5.out.1.size))
    rw [← hW8]
    clear hW8 p0 p1 p2 p3 p4 p5 p6 f0 f1 f2 f3 f4 f5 f6
    have HF7 := fun (n t k : Int) => fin7 (n := n) (t := t) (k := k) (c1 := c1) (c2 := c2) hs8 q1 q2 hb8
    have HF := Lib.hid (HF7 (n : Int) (t : Int) (k : Int))
    clear HF7
    obtain ⟨⟨r0, r1, r2, r3, r4, r5, r6⟩, k0, k1, k2, k3, k4, k5, k6⟩ := ret7 (w := w) hs8
    obtain ⟨p0, p1, p2, p3, p4, p5, p6⟩ := (cells7 hx8).1
    clear hx8 hs8 q1 q2 hb8
    go_wp2
    exact bodyPost_ret (v := .tuple #[.agg #[.int .i64 (n : Int), .int .i64 (t : Int), .int .i64 (k : Int), .int .i64 (L.length : Int), .slice A1 (pack L).length c1, .int .i64 (H.length : Int), .slice A2 (pack H).length c2], .int .i64 0]) (by simp [results, Try.results49, go_sem, r0, r1, r2, r3, r4, r5, r6]) rfl HF.out)
end Go.Proofs.Ytkbelhclcpepaaa
