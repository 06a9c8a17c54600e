/- Texts of this proof, one behind the other; each fact names its conditions. -/
import Derived.Test.YtbddcokjkdoaaaaGreatSN27
import Derived.Test.YtbddcokjkdoaaaaGreatSN28
import Derived.Deep.RegionWith
import Derived.Test.YtbddcokjkdoaaaaGreatSN26
import Derived.Deep.RegionHeld3
import Derived.Test.YtbddcokjkdoaaaaGreatSN10
import Derived.Stop.RegionWithIn
import Derived.OwnWalkIn
import Derived.Deep.LoopGhost
import Derived.Deep.Draws
import Derived.BigQuiet
namespace Go.Proofs.YtbddcokjkdoaaaaGreat
section
set_option maxRecDepth 100000
set_option linter.unusedVariables false
open Go.RowKit Go.Shelf
def FnP (w : World) (n t k : Int) (L H : List Bool) (err : Int) (e : Ending) (w' : World) : Prop :=
  ∃ A1 c1 A2 c2, e = .returned (.tuple #[.agg #[.int .i64 n, .int .i64 t, .int .i64 k, .int .i64 (L.length : Int), .slice A1 (pack L).length c1, .int .i64 (H.length : Int), .slice A2 (pack H).length c2], .int .i64 err]) ∧ Rd w' w'.heap.size A1 (pack L) ∧ Rd w' w'.heap.size A2 (pack H) ∧ Below w.heap.size w w'
theorem eachF_ok (t : Nat) : ∀ (l : List Nat) (v : Int), (∀ x ∈ l, x ≤ t) → Up v.toNat l → eachS (ckS (okT (t : Int)) 0) id v (ns l) = 0
  | [], _, _, _ => rfl
  | x :: r, v, hl, hu => by
    have h1 : okT (t : Int) (x : Int) = true := by have := hl x (by simp); unfold okT; simp; omega
    have h2 : ckS (okT (t : Int)) 0 v (x : Int) = 0 := by
      unfold ckS
      rw [if_neg (by rw [h1]; decide), if_neg (by have := hu.1; omega)]
    rw [show ns (x :: r) = (x : Int) :: ns r from rfl, eachS_cons, if_pos h2]
    exact eachF_ok t r (x : Int) (fun z hz => hl z (by simp [hz])) (by simpa using hu.2)
theorem fE_ok {l : List Nat} {t : Nat} (ht : t ≤ 1048576) (hn : l.length ≤ 300) (hl : ∀ x ∈ l, x ≤ t) (hu : Up 0 l) : fE (ns l) (t : Int) = 0 := by
  unfold fE
  rw [if_neg (by rw [okN_nat t ht]; decide), if_neg (by rw [ns_length]; omega)]
  exact eachF_ok t l (-1) hl hu
theorem ret7 {w V : World} {R : Nat} {T : TypeId} {a b c d e f g : Value} (h : V.heap[R]? = some (.cells #[a, b, c, d, e, f, g] T (0, 0))) :
    (V.cell? ⟨R, 0, none⟩ = some a ∧ V.cell? ⟨R, 1, none⟩ = some b ∧ V.cell? ⟨R, 2, none⟩ = some c ∧ V.cell? ⟨R, 3, none⟩ = some d ∧ V.cell? ⟨R, 4, none⟩ = some e ∧ V.cell? ⟨R, 5, none⟩ = some f ∧ V.cell? ⟨R, 6, none⟩ = some g) ∧
    (V.frozen? ⟨R, 0, none⟩ = false ∧ V.frozen? ⟨R, 1, none⟩ = false ∧ V.frozen? ⟨R, 2, none⟩ = false ∧ V.frozen? ⟨R, 3, none⟩ = false ∧ V.frozen? ⟨R, 4, none⟩ = false ∧ V.frozen? ⟨R, 5, none⟩ = false ∧ V.frozen? ⟨R, 6, none⟩ = false) :=
  ⟨(cells7 h).1, (cells7 h).2 0, (cells7 h).2 1, (cells7 h).2 2, (cells7 h).2 3, (cells7 h).2 4, (cells7 h).2 5, (cells7 h).2 6⟩
theorem rd_set7 {w : World} {B X i : Nat} {A : Option Addr} {bs : List Nat} {a b c d f : Int} {s1 s2 : Option Addr} {n1 c1 n2 c2 : Nat} {T : TypeId} (u : Value) (h : Rd w B A bs)
    (hX : w.heap[X]? = some (.cells #[.int .i64 a, .int .i64 b, .int .i64 c, .int .i64 d, .slice s1 n1 c1, .int .i64 f, .slice s2 n2 c2] T (0, 0))) : Rd (w.setCell ⟨X, i, none⟩ u) B A bs := by
  rcases h with h | ⟨g, off, rfl, hb, hc⟩
  · exact .inl h
  · by_cases h0 : bs = []
    · exact .inl h0
    · have hl : 0 < bs.length := List.length_pos_iff.2 h0
      have hne : g ≠ X := by
        rintro rfl
        have h1 := hc 0 hl
        simp only [World.cell?, hX] at h1
        rcases (show off = 0 ∨ off = 1 ∨ off = 2 ∨ off = 3 ∨ off = 4 ∨ off = 5 ∨ off = 6 ∨ 7 ≤ off by omega) with rfl | rfl | rfl | rfl | rfl | rfl | rfl | h2
        · simp at h1
        · simp at h1
        · simp at h1
        · simp at h1
        · simp at h1
        · simp at h1
        · simp at h1
        · rw [Array.getElem?_eq_none (by simp; omega)] at h1
          cases h1
      exact .inr ⟨g, off, rfl, hb, fun j hj => (World.cell?_setCell_other w _ ⟨g, off + j, none⟩ u (by intro e; exact hne (congrArg Addr.block e).symm)).trans (hc j hj)⟩
theorem st4 {w w7 : World} {X n1 c1 n2 c2 : Nat} {n t k lL lH : Int} {A1 A2 : Option Addr} {b1 b2 : List Nat} (hX : w7.heap[X]? = some (.cells #[.int .i64 n, .int .i64 t, .int .i64 k, .int .i64 0, .slice none 0 0, .int .i64 0, .slice none 0 0] 65 (0, 0))) (hs : w7.heap[w.heap.size]? = some (.cells #[.int .i64 0, .int .i64 0, .int .i64 0, .int .i64 0, .slice none 0 0, .int .i64 0, .slice none 0 0] 65 (0, 0)))
    (hlt : w.heap.size < X) (R1 : Rd w7 w7.heap.size A1 b1) (R2 : Rd w7 w7.heap.size A2 b2) (hb : Below w.heap.size w w7) :
    ∃ W8, W8 = (((w7.setCell ⟨X, 3, none⟩ (.int .i64 lL)).setCell ⟨X, 4, none⟩ (.slice A1 n1 c1)).setCell ⟨X, 5, none⟩ (.int .i64 lH)).setCell ⟨X, 6, none⟩ (.slice A2 n2 c2) ∧
      W8.heap[X]? = some (.cells #[.int .i64 n, .int .i64 t, .int .i64 k, .int .i64 lL, .slice A1 n1 c1, .int .i64 lH, .slice A2 n2 c2] 65 (0, 0)) ∧ W8.heap[w.heap.size]? = some (.cells #[.int .i64 0, .int .i64 0, .int .i64 0, .int .i64 0, .slice none 0 0, .int .i64 0, .slice none 0 0] 65 (0, 0)) ∧ Rd W8 W8.heap.size A1 b1 ∧ Rd W8 W8.heap.size A2 b2 ∧ Below w.heap.size w W8 := by
  have h3 := heap_set_same w7 X 3 (.int .i64 lL) 65 _ hX
  simp only [List.setIfInBounds_toArray, List.set_cons_zero, List.set_cons_succ] at h3
  have h4 := heap_set_same _ X 4 (.slice A1 n1 c1) 65 _ h3
  simp only [List.setIfInBounds_toArray, List.set_cons_zero, List.set_cons_succ] at h4
  have h5 := heap_set_same _ X 5 (.int .i64 lH) 65 _ h4
  simp only [List.setIfInBounds_toArray, List.set_cons_zero, List.set_cons_succ] at h5
  have h6 := heap_set_same _ X 6 (.slice A2 n2 c2) 65 _ h5
  simp only [List.setIfInBounds_toArray, List.set_cons_zero, List.set_cons_succ] at h6
  have hz : ((((w7.setCell ⟨X, 3, none⟩ (.int .i64 lL)).setCell ⟨X, 4, none⟩ (.slice A1 n1 c1)).setCell ⟨X, 5, none⟩ (.int .i64 lH)).setCell ⟨X, 6, none⟩ (.slice A2 n2 c2)).heap.size = w7.heap.size := by simp [World.setCell]
  refine ⟨_, rfl, h6, ?_, ?_, ?_, (((hb.setCell (p := ⟨X, 3, none⟩) (by simp only; omega) _).setCell (p := ⟨X, 4, none⟩) (by simp only; omega) _).setCell (p := ⟨X, 5, none⟩) (by simp only; omega) _).setCell (p := ⟨X, 6, none⟩) (by simp only; omega) _⟩
  · rw [Below.heap_setCell _ _ _ _ (by simp only; omega), Below.heap_setCell _ _ _ _ (by simp only; omega), Below.heap_setCell _ _ _ _ (by simp only; omega), Below.heap_setCell _ _ _ _ (by simp only; omega)]; exact hs
  · rw [hz]; exact rd_set7 _ (rd_set7 _ (rd_set7 _ (rd_set7 _ R1 hX) h3) h4) h5
  · rw [hz]; exact rd_set7 _ (rd_set7 _ (rd_set7 _ (rd_set7 _ R2 hX) h3) h4) h5
theorem fin7 {w W : World} {n t k : Int} {L H : List Bool} {A1 A2 : Option Addr} {c1 c2 : Nat} (hs : W.heap[w.heap.size]? = some (.cells #[.int .i64 0, .int .i64 0, .int .i64 0, .int .i64 0, .slice none 0 0, .int .i64 0, .slice none 0 0] 65 (0, 0))) (R1 : Rd W W.heap.size A1 (pack L)) (R2 : Rd W W.heap.size A2 (pack H)) (hb : Below w.heap.size w W) :
    FnP w n t k L H 0 (.returned (.tuple #[.agg #[.int .i64 n, .int .i64 t, .int .i64 k, .int .i64 (L.length : Int), .slice A1 (pack L).length c1, .int .i64 (H.length : Int), .slice A2 (pack H).length c2], .int .i64 0]))
      (((((((W.setCell ⟨w.heap.size, 0, none⟩ (.int .i64 n)).setCell ⟨w.heap.size, 1, none⟩ (.int .i64 t)).setCell ⟨w.heap.size, 2, none⟩ (.int .i64 k)).setCell ⟨w.heap.size, 3, none⟩ (.int .i64 (L.length : Int))).setCell ⟨w.heap.size, 4, none⟩ (.slice A1 (pack L).length c1)).setCell ⟨w.heap.size, 5, none⟩ (.int .i64 (H.length : Int))).setCell ⟨w.heap.size, 6, none⟩ (.slice A2 (pack H).length c2)) := by
  have g0 := heap_set_same W w.heap.size 0 (.int .i64 n) 65 _ hs
  simp only [List.setIfInBounds_toArray, List.set_cons_zero] at g0
  have g1 := heap_set_same _ w.heap.size 1 (.int .i64 t) 65 _ g0
  simp only [List.setIfInBounds_toArray, List.set_cons_zero, List.set_cons_succ] at g1
  have g2 := heap_set_same _ w.heap.size 2 (.int .i64 k) 65 _ g1
  simp only [List.setIfInBounds_toArray, List.set_cons_zero, List.set_cons_succ] at g2
  have g3 := heap_set_same _ w.heap.size 3 (.int .i64 (L.length : Int)) 65 _ g2
  simp only [List.setIfInBounds_toArray, List.set_cons_zero, List.set_cons_succ] at g3
  have g4 := heap_set_same _ w.heap.size 4 (.slice A1 (pack L).length c1) 65 _ g3
  simp only [List.setIfInBounds_toArray, List.set_cons_zero, List.set_cons_succ] at g4
  have g5 := heap_set_same _ w.heap.size 5 (.int .i64 (H.length : Int)) 65 _ g4
  simp only [List.setIfInBounds_toArray, List.set_cons_zero, List.set_cons_succ] at g5
  refine ⟨A1, c1, A2, c2, rfl, ?_, ?_, below_set7 hb (Nat.le_refl _) _ _ _ _ _ _ _⟩
  · have := rd_set7 (i := 6) (.slice A2 (pack H).length c2) (rd_set7 (i := 5) (.int .i64 (H.length : Int)) (rd_set7 (i := 4) (.slice A1 (pack L).length c1) (rd_set7 (i := 3) (.int .i64 (L.length : Int)) (rd_set7 (i := 2) (.int .i64 k) (rd_set7 (i := 1) (.int .i64 t) (rd_set7 (i := 0) (.int .i64 n) R1 hs) g0) g1) g2) g3) g4) g5
    simpa [World.setCell] using this
  · have := rd_set7 (i := 6) (.slice A2 (pack H).length c2) (rd_set7 (i := 5) (.int .i64 (H.length : Int)) (rd_set7 (i := 4) (.slice A1 (pack L).length c1) (rd_set7 (i := 3) (.int .i64 (L.length : Int)) (rd_set7 (i := 2) (.int .i64 k) (rd_set7 (i := 1) (.int .i64 t) (rd_set7 (i := 0) (.int .i64 n) R2 hs) g0) g1) g2) g3) g4) g5
    simpa [World.setCell] using this
set_option maxHeartbeats 4000000 in
theorem fwrite_ok (l : List Nat) (n t k z : Nat) (hn : l.length = n) (hn3 : n ≤ 300) (ht : t ≤ 1048576) (hl : ∀ x ∈ l, x ≤ t) (hu : Up 0 l) (hk : fnw n t = k) (hz : n + t / 2 ^ k + 1 = z) (hfit : z ≤ 8192) (A : Option Addr) (c : Nat) (w : World) (h : RdV w w.heap.size A (zc (ns l))) :
    Calls Tryz.prog 121 #[.slice A n c, .int .i64 (t : Int)] w (FnP w (n : Int) (t : Int) (k : Int) (loP k l) (fhi k l t) 0) := by
  have HC : Hid (∀ V, Below w.heap.size w V → Calls Tryz.prog 159 #[.slice A n c, .int .i64 (t : Int)] V fun e w' => e = .returned (.int .i64 0) ∧ Below V.heap.size V w') := fun V hV => by
    have := fcheck_any (ns l) n (by rw [ns_length]; exact hn) (by omega) (t : Int) A c V (h.on hV)
    rwa [fE_ok ht (by omega) hl hu] at this
  have HS : Hid (∀ V, Calls Tryz.prog 160 #[.int .i64 (n : Int), .int .i64 (t : Int)] V fun e w' => e = .returned (.agg #[.int .i64 (n : Int), .int .i64 (t : Int), .int .i64 (k : Int), .int .i64 0, .slice none 0 0, .int .i64 0, .slice none 0 0]) ∧ Below V.heap.size V w') := fun V => shape_ok n t k hk (by omega) ht V
  have hk20 : k ≤ 20 := by rw [← hk]; exact fw_bound n t ht
  obtain ⟨q, hq⟩ : ∃ q, n * k = q := ⟨_, rfl⟩
  have hq6 : q ≤ 6000 := by rw [← hq]; exact Nat.mul_le_mul hn3 hk20
  have HLl : Hid (∀ V, Calls Tryz.prog 161 #[.agg #[.int .i64 (n : Int), .int .i64 (t : Int), .int .i64 (k : Int), .int .i64 0, .slice none 0 0, .int .i64 0, .slice none 0 0]] V fun e w' => e = .returned (.int .i64 (q : Int)) ∧ Below V.heap.size V w') := fun V => lowLen_ok n t k q hq hn3 hk20 V
  have HHl : Hid (∀ V, Calls Tryz.prog 162 #[.agg #[.int .i64 (n : Int), .int .i64 (t : Int), .int .i64 (k : Int), .int .i64 0, .slice none 0 0, .int .i64 0, .slice none 0 0]] V fun e w' => e = .returned (.int .i64 (z : Int)) ∧ Below V.heap.size V w') := fun V => highLen_ok n t k z hz hn3 ht hk20 V
  have tq : decide ((8192 : Int) < (q : Int)) = false := by simp; omega
  have tq2 : decide (8192 < q) = false := by simp; omega
  have tz : decide ((8192 : Int) < (z : Int)) = false := by simp; omega
  have tz2 : decide (8192 < z) = false := by simp; omega
  have HLo : Hid (∀ V, Below w.heap.size w V → Calls Tryz.prog 163 #[.slice A n c, .agg #[.int .i64 (n : Int), .int .i64 (t : Int), .int .i64 (k : Int), .int .i64 0, .slice none 0 0, .int .i64 0, .slice none 0 0]] V (PkP V (loP k l))) := fun V hV => lowOf_ok l n n t k hn hn3 hk20 (fun x hx => Nat.le_trans (hl x hx) ht) A c V (h.on hV)
  have HHi : Hid (∀ V, Below w.heap.size w V → Calls Tryz.prog 164 #[.slice A n c, .agg #[.int .i64 (n : Int), .int .i64 (t : Int), .int .i64 (k : Int), .int .i64 0, .slice none 0 0, .int .i64 0, .slice none 0 0]] V (PkP V (fhi k l t))) := fun V hV => highOf_ok l n n t k rfl hn hn3 hk20 ht hl hu (by omega) A c V (h.on hV)
  clear h hn hl hu hk hz hq hq6 hfit hk20 hn3 ht
  generalize loP k l = L at *
  generalize fhi k l t = H at *
  go_enter Tryz.func121, Tryz.ntmps121
  go_wp2_with fail
  obtain ⟨V0, hV0⟩ : ∃ V0, V0 = w.alloc (.cells #[.int .i64 0, .int .i64 0, .int .i64 0, .int .i64 0, .slice none 0 0, .int .i64 0, .slice none 0 0] 65) := ⟨_, rfl⟩
  have HV : Hid (Below w.heap.size w V0) := by rw [hV0]; exact one_below _ _
  have hb : V0.heap[w.heap.size]? = some (.cells #[.int .i64 0, .int .i64 0, .int .i64 0, .int .i64 0, .slice none 0 0, .int .i64 0, .slice none 0 0] 65 (0, 0)) := by rw [hV0]; exact World.alloc_heap_new _ _
  have hzz : w.heap.size < V0.heap.size := by rw [hV0, World.size_alloc]; omega
  rw [← hV0]
  clear hV0
  refine (HC.out V0 HV.out).mono ?_
  rintro e w1 ⟨rfl, B1⟩
  have HB1 : Hid (Below w.heap.size w w1) := HV.out.trans (B1.mono (by omega))
  have HR1 : Hid (w1.heap[w.heap.size]? = some (.cells #[.int .i64 0, .int .i64 0, .int .i64 0, .int .i64 0, .slice none 0 0, .int .i64 0, .slice none 0 0] 65 (0, 0)) ∧ w.heap.size < w1.heap.size) := ⟨(B1.block _ hzz).trans hb, by have := B1.size; omega⟩
  clear B1 hb hzz
  go_wp2_with fail
  refine (HS.out w1).mono ?_
  rintro e w2 ⟨rfl, B2⟩
  obtain ⟨w3, hw3⟩ : ∃ w3, w3 = w2.alloc (.cells #[.int .i64 (n : Int), .int .i64 (t : Int), .int .i64 (k : Int), .int .i64 0, .slice none 0 0, .int .i64 0, .slice none 0 0] 65) := ⟨_, rfl⟩
  obtain ⟨X, hX⟩ : ∃ X, X = w2.heap.size := ⟨_, rfl⟩
  have H3 : Hid (Below w.heap.size w w3 ∧ w3.heap[w.heap.size]? = some (.cells #[.int .i64 0, .int .i64 0, .int .i64 0, .int .i64 0, .slice none 0 0, .int .i64 0, .slice none 0 0] 65 (0, 0)) ∧ w3.heap[X]? = some (.cells #[.int .i64 (n : Int), .int .i64 (t : Int), .int .i64 (k : Int), .int .i64 0, .slice none 0 0, .int .i64 0, .slice none 0 0] 65 (0, 0)) ∧ w.heap.size < X ∧ X < w3.heap.size) := by
    have hs := HR1.out.2
    have hs2 := B2.size
    rw [hw3, hX]
    refine ⟨HB1.out.trans ((B2.trans ((one_below _ _).mono B2.size)).mono HB1.out.size), ?_, World.alloc_heap_new _ _, by omega, by rw [World.size_alloc]; omega⟩
    rw [(one_below _ _).block _ (by omega)]; exact (B2.block _ hs).trans HR1.out.1
  obtain ⟨p0, p1, p2, p3, p4, p5, p6⟩ := (cells7 H3.out.2.2.1).1
  clear B2 HB1 HR1
  go_wp2_with fail
  rw [← hw3, ← hX]
  clear hw3 hX
  refine (HLl.out w3).mono ?_
  rintro e w4 ⟨rfl, B4⟩
  have H4 : Hid (Below w.heap.size w w4 ∧ w4.heap[w.heap.size]? = some (.cells #[.int .i64 0, .int .i64 0, .int .i64 0, .int .i64 0, .slice none 0 0, .int .i64 0, .slice none 0 0] 65 (0, 0)) ∧ w4.heap[X]? = some (.cells #[.int .i64 (n : Int), .int .i64 (t : Int), .int .i64 (k : Int), .int .i64 0, .slice none 0 0, .int .i64 0, .slice none 0 0] 65 (0, 0)) ∧ w.heap.size < X ∧ X < w4.heap.size) :=
    ⟨H3.out.1.trans (B4.mono H3.out.1.size), (B4.block _ (by have := H3.out; omega)).trans H3.out.2.1, (B4.block _ H3.out.2.2.2.2).trans H3.out.2.2.1, H3.out.2.2.2.1, by have := H3.out; have := B4.size; omega⟩
  clear B4 H3 p0 p1 p2 p3 p4 p5 p6
  obtain ⟨p0, p1, p2, p3, p4, p5, p6⟩ := (cells7 H4.out.2.2.1).1
  go_wp2_with fail
  refine (HHl.out w4).mono ?_
  rintro e w5 ⟨rfl, B5⟩
  have H5 : Hid (Below w.heap.size w w5 ∧ w5.heap[w.heap.size]? = some (.cells #[.int .i64 0, .int .i64 0, .int .i64 0, .int .i64 0, .slice none 0 0, .int .i64 0, .slice none 0 0] 65 (0, 0)) ∧ w5.heap[X]? = some (.cells #[.int .i64 (n : Int), .int .i64 (t : Int), .int .i64 (k : Int), .int .i64 0, .slice none 0 0, .int .i64 0, .slice none 0 0] 65 (0, 0)) ∧ w.heap.size < X ∧ X < w5.heap.size) :=
    ⟨H4.out.1.trans (B5.mono H4.out.1.size), (B5.block _ (by have := H4.out; omega)).trans H4.out.2.1, (B5.block _ H4.out.2.2.2.2).trans H4.out.2.2.1, H4.out.2.2.2.1, by have := H4.out; have := B5.size; omega⟩
  clear B5 H4 p0 p1 p2 p3 p4 p5 p6
  obtain ⟨⟨p0, p1, p2, p3, p4, p5, p6⟩, f0, f1, f2, f3, f4, f5, f6⟩ := ret7 (w := w) H5.out.2.2.1
  go_wp2_with fail
  go_region_with (first
    | (go_at_call 163; refine (HLo.out _ (by first | exact H5.out.1.drew | exact H5.out.1)).mono ?_; rintro e w6 ⟨A1, c1, rfl, R1, B6⟩; have HK6 : Hid (Below w5.heap.size w5 w6) := ((Below.refl _ w5).drew).trans B6; have HR6 := Lib.hid R1; obtain ⟨⟨p0, p1, p2, p3, p4, p5, p6⟩, f0, f1, f2, f3, f4, f5, f6⟩ := ret7 (w := w) ((HK6.out.block X H5.out.2.2.2.2).trans H5.out.2.2.1); clear B6 R1)
    | (go_at_call 164; refine (HHi.out _ (H5.out.1.trans (HK6.out.mono H5.out.1.size))).mono ?_; rintro e w7 ⟨A2, c2, rfl, R2, B7⟩; have HK7 : Hid (Below w5.heap.size w5 w7) := HK6.out.trans (B7.mono HK6.out.size); have HR7 := Lib.hid R2; have HR67 := Lib.hid (HR6.out.on B7); obtain ⟨⟨p0, p1, p2, p3, p4, p5, p6⟩, f0, f1, f2, f3, f4, f5, f6⟩ := ret7 (w := w) ((HK7.out.block X H5.out.2.2.2.2).trans H5.out.2.2.1); clear B7 R2))
  all_goals (
    obtain ⟨W8, hW8, hx8, hs8, q1, q2, hb8⟩ := st4 (w := w) (lL := (L.length : Int)) (lH := (H.length : Int)) (n1 := (pack L).length) (n2 := (pack H).length) (c1 := c1) (c2 := c2) ((HK7.out.block X H5.out.2.2.2.2).trans H5.out.2.2.1) ((HK7.out.block _ (by have := H5.out; omega)).trans H5.out.2.1) H5.out.2.2.2.1 HR67.out HR7.out (H5.out.1.trans (HK7.out.mono H5.out.1.size))
    rw [← hW8]
    clear hW8 p0 p1 p2 p3 p4 p5 p6 f0 f1 f2 f3 f4 f5 f6
    have HF7 := fun (n t k : Int) => fin7 (n := n) (t := t) (k := k) (c1 := c1) (c2 := c2) hs8 q1 q2 hb8
    have HF := Lib.hid (HF7 (n : Int) (t : Int) (k : Int))
    clear HF7
    obtain ⟨⟨r0, r1, r2, r3, r4, r5, r6⟩, k0, k1, k2, k3, k4, k5, k6⟩ := ret7 (w := w) hs8
    obtain ⟨p0, p1, p2, p3, p4, p5, p6⟩ := (cells7 hx8).1
    clear hx8 hs8 q1 q2 hb8
    go_wp2
    exact bodyPost_ret (v := .tuple #[.agg #[.int .i64 (n : Int), .int .i64 (t : Int), .int .i64 (k : Int), .int .i64 (L.length : Int), .slice A1 (pack L).length c1, .int .i64 (H.length : Int), .slice A2 (pack H).length c2], .int .i64 0]) (by simp [results, Tryz.results121, go_sem, r0, r1, r2, r3, r4, r5, r6]) rfl HF.out)
end
section
set_option maxRecDepth 100000
set_option linter.unusedVariables false
open Go.RowKit Go.Shelf
set_option maxHeartbeats 2000000 in
theorem has_F (n t k q z ones : Nat) (kw ll lh er ec : Int) (r : Bool) (A1 A2 : Option Addr) (n1 c1 n2 c2 : Nat) (w : World)
    (HS : Hid (∀ V, Calls Tryz.prog 160 #[.int .i64 (n : Int), .int .i64 (t : Int)] V fun e w' => e = .returned (.agg #[.int .i64 (n : Int), .int .i64 (t : Int), .int .i64 (k : Int), .int .i64 0, .slice none 0 0, .int .i64 0, .slice none 0 0]) ∧ Below V.heap.size V w'))
    (HLl : Hid (∀ V, Calls Tryz.prog 161 #[.agg #[.int .i64 (n : Int), .int .i64 (t : Int), .int .i64 (k : Int), .int .i64 0, .slice none 0 0, .int .i64 0, .slice none 0 0]] V fun e w' => e = .returned (.int .i64 (q : Int)) ∧ Below V.heap.size V w'))
    (HHl : Hid (∀ V, Calls Tryz.prog 162 #[.agg #[.int .i64 (n : Int), .int .i64 (t : Int), .int .i64 (k : Int), .int .i64 0, .slice none 0 0, .int .i64 0, .slice none 0 0]] V fun e w' => e = .returned (.int .i64 (z : Int)) ∧ Below V.heap.size V w'))
    (HRk : Hid (∀ V, Below w.heap.size w V → Calls Tryz.prog 236 #[.agg #[.int .i64 lh, .slice A2 n2 c2], .int .i64 lh] V (RkP V ones er)))
    (HCk : Hid (∀ V, Below w.heap.size w V → Calls Tryz.prog 53 #[.agg #[.int .i64 ll, .slice A1 n1 c1]] V fun e w' => e = .returned (.int .i64 ec) ∧ Below V.heap.size V w')) (tw : kw = (k : Int)) (tl : ll = (q : Int)) (th : lh = (z : Int)) (te : er = 0) (to : (ones : Int) = (n : Int)) (tc : (ec == 0) = r) :
    Calls Tryz.prog 203 #[.agg #[.int .i64 (n : Int), .int .i64 (t : Int), .int .i64 kw, .int .i64 ll, .slice A1 n1 c1, .int .i64 lh, .slice A2 n2 c2]] w fun e w' => e = .returned (.bool r) ∧ Below w.heap.size w w' := by
  subst tw
  subst tl
  subst th
  subst te
  go_enter Tryz.func203, Tryz.ntmps203
  go_wp2_with fail
  obtain ⟨V0, hV0⟩ : ∃ V0, V0 = w.alloc (.cells #[.int .i64 (n : Int), .int .i64 (t : Int), .int .i64 (k : Int), .int .i64 (q : Int), .slice A1 n1 c1, .int .i64 (z : Int), .slice A2 n2 c2] 65) := ⟨_, rfl⟩
  have H0 : Hid (Below w.heap.size w V0 ∧ V0.heap[w.heap.size]? = some (.cells #[.int .i64 (n : Int), .int .i64 (t : Int), .int .i64 (k : Int), .int .i64 (q : Int), .slice A1 n1 c1, .int .i64 (z : Int), .slice A2 n2 c2] 65 (0, 0)) ∧ w.heap.size < V0.heap.size) := by rw [hV0]; exact ⟨one_below _ _, World.alloc_heap_new _ _, by rw [World.size_alloc]; omega⟩
  rw [← hV0]
  clear hV0
  refine (HS.out V0).mono ?_
  rintro e w1 ⟨rfl, B1⟩
  obtain ⟨X, hX⟩ : ∃ X, X = w1.heap.size := ⟨_, rfl⟩
  obtain ⟨w2, hw2⟩ : ∃ w2, w2 = w1.alloc (.cells #[.int .i64 (n : Int), .int .i64 (t : Int), .int .i64 (k : Int), .int .i64 0, .slice none 0 0, .int .i64 0, .slice none 0 0] 65) := ⟨_, rfl⟩
  have H2 : Hid (Below w.heap.size w w2 ∧ w2.heap[w.heap.size]? = some (.cells #[.int .i64 (n : Int), .int .i64 (t : Int), .int .i64 (k : Int), .int .i64 (q : Int), .slice A1 n1 c1, .int .i64 (z : Int), .slice A2 n2 c2] 65 (0, 0)) ∧ w2.heap[X]? = some (.cells #[.int .i64 (n : Int), .int .i64 (t : Int), .int .i64 (k : Int), .int .i64 0, .slice none 0 0, .int .i64 0, .slice none 0 0] 65 (0, 0)) ∧ w.heap.size < X ∧ X < w2.heap.size) := by
    have h0 := H0.out
    have hs2 := B1.size
    rw [hw2, hX]
    refine ⟨h0.1.trans ((B1.trans ((one_below _ _).mono B1.size)).mono h0.1.size), ?_, World.alloc_heap_new _ _, by omega, by rw [World.size_alloc]; omega⟩
    rw [(one_below _ _).block _ (by omega)]; exact (B1.block _ h0.2.2).trans h0.2.1
  have HK : Hid (∀ w' : World, Below w2.heap.size w2 w' → w'.cell? ⟨w.heap.size, 0, none⟩ = some (.int .i64 (n : Int)) ∧ w'.cell? ⟨w.heap.size, 2, none⟩ = some (.int .i64 (k : Int)) ∧ w'.cell? ⟨w.heap.size, 3, none⟩ = some (.int .i64 (q : Int)) ∧ w'.cell? ⟨w.heap.size, 4, none⟩ = some (.slice A1 n1 c1) ∧ w'.cell? ⟨w.heap.size, 5, none⟩ = some (.int .i64 (z : Int)) ∧ w'.cell? ⟨w.heap.size, 6, none⟩ = some (.slice A2 n2 c2) ∧ w'.cell? ⟨X, 0, none⟩ = some (.int .i64 (n : Int)) ∧ w'.cell? ⟨X, 1, none⟩ = some (.int .i64 (t : Int)) ∧ w'.cell? ⟨X, 2, none⟩ = some (.int .i64 (k : Int)) ∧ w'.cell? ⟨X, 3, none⟩ = some (.int .i64 0) ∧ w'.cell? ⟨X, 4, none⟩ = some (.slice none 0 0) ∧ w'.cell? ⟨X, 5, none⟩ = some (.int .i64 0) ∧ w'.cell? ⟨X, 6, none⟩ = some (.slice none 0 0)) := fun w' h => by
    obtain ⟨⟨g0, g1, g2, g3, g4, g5, g6⟩, -⟩ := cells7 ((h.block _ (by have := H2.out; omega)).trans H2.out.2.1)
    obtain ⟨⟨d0, d1, d2, d3, d4, d5, d6⟩, -⟩ := cells7 ((h.block _ H2.out.2.2.2.2).trans H2.out.2.2.1)
    exact ⟨g0, g2, g3, g4, g5, g6, d0, d1, d2, d3, d4, d5, d6⟩
  clear B1 H0
  obtain ⟨k1, k2, k3, k4, k5, k6, k7, k8, k9, k10, k11, k12, k13⟩ := HK.out _ (Below.refl _ _)
  go_wp2_with fail
  rw [← hw2, ← hX]
  clear hw2 hX k1 k2 k3 k4 k5 k6 k7 k8 k9 k10 k11 k12 k13
  refine wp_region_held_drew (S := fun w' => w'.cell? ⟨w.heap.size, 0, none⟩ = some (.int .i64 (n : Int)) ∧ w'.cell? ⟨w.heap.size, 2, none⟩ = some (.int .i64 (k : Int)) ∧ w'.cell? ⟨w.heap.size, 3, none⟩ = some (.int .i64 (q : Int)) ∧ w'.cell? ⟨w.heap.size, 4, none⟩ = some (.slice A1 n1 c1) ∧ w'.cell? ⟨w.heap.size, 5, none⟩ = some (.int .i64 (z : Int)) ∧ w'.cell? ⟨w.heap.size, 6, none⟩ = some (.slice A2 n2 c2) ∧ w'.cell? ⟨X, 0, none⟩ = some (.int .i64 (n : Int)) ∧ w'.cell? ⟨X, 1, none⟩ = some (.int .i64 (t : Int)) ∧ w'.cell? ⟨X, 2, none⟩ = some (.int .i64 (k : Int)) ∧ w'.cell? ⟨X, 3, none⟩ = some (.int .i64 0) ∧ w'.cell? ⟨X, 4, none⟩ = some (.slice none 0 0) ∧ w'.cell? ⟨X, 5, none⟩ = some (.int .i64 0) ∧ w'.cell? ⟨X, 6, none⟩ = some (.slice none 0 0)) (by kernel_rfl) (HK.out _ (Below.refl _ _).drew) (fun hHeld => ?_)
  (refine held_val (i := 0) rfl (by kernel_rfl) (by kernel_rfl) (by kernel_rfl) (fun _ _ _ _ h => h) hHeld (by rfl) ?_; apply Exists.intro; refine ⟨fun wq hSw => ?_, ?_⟩; ((try dsimp only at hSw); obtain ⟨k1, k2, k3, k4, k5, k6, k7, k8, k9, k10, k11, k12, k13⟩ := hSw; go_simp; try rfl); try simp only [Act.put, List.setIfInBounds_toArray, List.set_cons_zero, List.set_cons_succ])
  (refine held_val (i := 1) rfl (by kernel_rfl) (by kernel_rfl) (by kernel_rfl) (fun _ _ _ _ h => h) hHeld (by rfl) ?_; apply Exists.intro; refine ⟨fun wq hSw => ?_, ?_⟩; ((try dsimp only at hSw); obtain ⟨k1, k2, k3, k4, k5, k6, k7, k8, k9, k10, k11, k12, k13⟩ := hSw; go_simp; try rfl); try simp only [Act.put, List.setIfInBounds_toArray, List.set_cons_zero, List.set_cons_succ])
  (refine held_val (i := 2) rfl (by kernel_rfl) (by kernel_rfl) (by kernel_rfl) (fun _ _ _ _ h => h) hHeld (by rfl) ?_; apply Exists.intro; refine ⟨fun wq hSw => ?_, ?_⟩; ((try dsimp only at hSw); obtain ⟨k1, k2, k3, k4, k5, k6, k7, k8, k9, k10, k11, k12, k13⟩ := hSw; go_simp; try rfl); try simp only [Act.put, List.setIfInBounds_toArray, List.set_cons_zero, List.set_cons_succ])
  (refine held_val (i := 3) rfl (by kernel_rfl) (by kernel_rfl) (by kernel_rfl) (fun _ _ _ _ h => h) hHeld (by rfl) ?_; apply Exists.intro; refine ⟨fun wq hSw => ?_, ?_⟩; ((try dsimp only at hSw); obtain ⟨k1, k2, k3, k4, k5, k6, k7, k8, k9, k10, k11, k12, k13⟩ := hSw; go_simp; try rfl); try simp only [Act.put, List.setIfInBounds_toArray, List.set_cons_zero, List.set_cons_succ])
  (refine held_val (i := 4) rfl (by kernel_rfl) (by kernel_rfl) (by kernel_rfl) (fun _ _ _ _ h => h) hHeld (by rfl) ?_; apply Exists.intro; refine ⟨fun wq hSw => ?_, ?_⟩; ((try dsimp only at hSw); obtain ⟨k1, k2, k3, k4, k5, k6, k7, k8, k9, k10, k11, k12, k13⟩ := hSw; go_simp; try rfl); try simp only [Act.put, List.setIfInBounds_toArray, List.set_cons_zero, List.set_cons_succ])
  (refine held_val (i := 5) rfl (by kernel_rfl) (by kernel_rfl) (by kernel_rfl) (fun _ _ _ _ h => h) hHeld (by rfl) ?_; apply Exists.intro; refine ⟨fun wq hSw => ?_, ?_⟩; ((try dsimp only at hSw); obtain ⟨k1, k2, k3, k4, k5, k6, k7, k8, k9, k10, k11, k12, k13⟩ := hSw; go_simp; try rfl); try simp only [Act.put, List.setIfInBounds_toArray, List.set_cons_zero, List.set_cons_succ])
  (refine held_val (i := 6) rfl (by kernel_rfl) (by kernel_rfl) (by kernel_rfl) (fun _ _ _ _ h => h) hHeld (by rfl) ?_; apply Exists.intro; refine ⟨fun wq hSw => ?_, ?_⟩; ((try dsimp only at hSw); obtain ⟨k1, k2, k3, k4, k5, k6, k7, k8, k9, k10, k11, k12, k13⟩ := hSw; go_simp; try rfl); try simp only [Act.put, List.setIfInBounds_toArray, List.set_cons_zero, List.set_cons_succ])
  (refine held_val (i := 7) rfl (by kernel_rfl) (by kernel_rfl) (by kernel_rfl) (fun _ _ _ _ h => h) hHeld (by rfl) ?_; apply Exists.intro; refine ⟨fun wq hSw => ?_, ?_⟩; ((try dsimp only at hSw); obtain ⟨k1, k2, k3, k4, k5, k6, k7, k8, k9, k10, k11, k12, k13⟩ := hSw; go_simp; try rfl); try simp only [Act.put, List.setIfInBounds_toArray, List.set_cons_zero, List.set_cons_succ])
  (refine held_val (i := 8) rfl (by kernel_rfl) (by kernel_rfl) (by kernel_rfl) (fun _ _ _ _ h => h) hHeld (by rfl) ?_; apply Exists.intro; refine ⟨fun wq hSw => ?_, ?_⟩; ((try dsimp only at hSw); obtain ⟨k1, k2, k3, k4, k5, k6, k7, k8, k9, k10, k11, k12, k13⟩ := hSw; go_simp; try rfl); try simp only [Act.put, List.setIfInBounds_toArray, List.set_cons_zero, List.set_cons_succ])
  (refine held_val (i := 9) rfl (by kernel_rfl) (by kernel_rfl) (by kernel_rfl) (fun _ _ _ _ h => h) hHeld (by rfl) ?_; apply Exists.intro; refine ⟨fun wq hSw => ?_, ?_⟩; ((try dsimp only at hSw); obtain ⟨k1, k2, k3, k4, k5, k6, k7, k8, k9, k10, k11, k12, k13⟩ := hSw; go_simp; try rfl); try simp only [Act.put, List.setIfInBounds_toArray, List.set_cons_zero, List.set_cons_succ])
  refine wpAnyH_ready (rs := [10]) (by kernel_rfl) (by simp) ?_
  refine AllReadyH.cons (of_drop rfl) (fun K hK => ?_) AllReadyH.nil
  clear hHeld
  go_simp
  (go_at_call 161; refine (HLl.out w2.drew).mono ?_; rintro e w3 ⟨rfl, B3⟩; have hk3 : Hid (Below w2.heap.size w2 w3) := ((Below.refl _ w2).drew).trans B3; clear B3)
  go_wp2_with fail
  refine hK.out _ _ (HK.out _ hk3.out) (fun hHeld => ?_)
  clear hK K
  try simp only [Act.put, List.setIfInBounds_toArray, List.set_cons_zero, List.set_cons_succ]
  (refine held_val (i := 11) rfl (by kernel_rfl) (by kernel_rfl) (by kernel_rfl) (fun _ _ _ _ h => h) hHeld (by rfl) ?_; apply Exists.intro; refine ⟨fun wq hSw => ?_, ?_⟩; ((try dsimp only at hSw); obtain ⟨k1, k2, k3, k4, k5, k6, k7, k8, k9, k10, k11, k12, k13⟩ := hSw; go_simp; try rfl); try simp only [Act.put, List.setIfInBounds_toArray, List.set_cons_zero, List.set_cons_succ])
  (refine held_val (i := 12) rfl (by kernel_rfl) (by kernel_rfl) (by kernel_rfl) (fun _ _ _ _ h => h) hHeld (by rfl) ?_; apply Exists.intro; refine ⟨fun wq hSw => ?_, ?_⟩; ((try dsimp only at hSw); obtain ⟨k1, k2, k3, k4, k5, k6, k7, k8, k9, k10, k11, k12, k13⟩ := hSw; go_simp; try rfl); try simp only [Act.put, List.setIfInBounds_toArray, List.set_cons_zero, List.set_cons_succ])
  (refine held_val (i := 13) rfl (by kernel_rfl) (by kernel_rfl) (by kernel_rfl) (fun _ _ _ _ h => h) hHeld (by rfl) ?_; apply Exists.intro; refine ⟨fun wq hSw => ?_, ?_⟩; ((try dsimp only at hSw); obtain ⟨k1, k2, k3, k4, k5, k6, k7, k8, k9, k10, k11, k12, k13⟩ := hSw; go_simp; try rfl); try simp only [Act.put, List.setIfInBounds_toArray, List.set_cons_zero, List.set_cons_succ])
  (refine held_val (i := 14) rfl (by kernel_rfl) (by kernel_rfl) (by kernel_rfl) (fun _ _ _ _ h => h) hHeld (by rfl) ?_; apply Exists.intro; refine ⟨fun wq hSw => ?_, ?_⟩; ((try dsimp only at hSw); obtain ⟨k1, k2, k3, k4, k5, k6, k7, k8, k9, k10, k11, k12, k13⟩ := hSw; go_simp; try rfl); try simp only [Act.put, List.setIfInBounds_toArray, List.set_cons_zero, List.set_cons_succ])
  (refine held_val (i := 15) rfl (by kernel_rfl) (by kernel_rfl) (by kernel_rfl) (fun _ _ _ _ h => h) hHeld (by rfl) ?_; apply Exists.intro; refine ⟨fun wq hSw => ?_, ?_⟩; ((try dsimp only at hSw); obtain ⟨k1, k2, k3, k4, k5, k6, k7, k8, k9, k10, k11, k12, k13⟩ := hSw; go_simp; try rfl); try simp only [Act.put, List.setIfInBounds_toArray, List.set_cons_zero, List.set_cons_succ])
  (refine held_val (i := 16) rfl (by kernel_rfl) (by kernel_rfl) (by kernel_rfl) (fun _ _ _ _ h => h) hHeld (by rfl) ?_; apply Exists.intro; refine ⟨fun wq hSw => ?_, ?_⟩; ((try dsimp only at hSw); obtain ⟨k1, k2, k3, k4, k5, k6, k7, k8, k9, k10, k11, k12, k13⟩ := hSw; go_simp; try rfl); try simp only [Act.put, List.setIfInBounds_toArray, List.set_cons_zero, List.set_cons_succ])
  (refine held_val (i := 17) rfl (by kernel_rfl) (by kernel_rfl) (by kernel_rfl) (fun _ _ _ _ h => h) hHeld (by rfl) ?_; apply Exists.intro; refine ⟨fun wq hSw => ?_, ?_⟩; ((try dsimp only at hSw); obtain ⟨k1, k2, k3, k4, k5, k6, k7, k8, k9, k10, k11, k12, k13⟩ := hSw; go_simp; try rfl); try simp only [Act.put, List.setIfInBounds_toArray, List.set_cons_zero, List.set_cons_succ])
  refine wpAnyH_ready (rs := [18]) (by kernel_rfl) (by simp) ?_
  refine AllReadyH.cons (of_drop rfl) (fun K hK => ?_) AllReadyH.nil
  clear hHeld
  go_simp
  (go_at_call 162; refine (HHl.out w3).mono ?_; rintro e w4 ⟨rfl, B4⟩; have hk4 : Hid (Below w2.heap.size w2 w4) := hk3.out.trans (B4.mono hk3.out.size); clear B4)
  go_wp2_with fail
  refine hK.out _ _ (HK.out _ hk4.out) (fun hHeld => ?_)
  clear hK K
  try simp only [Act.put, List.setIfInBounds_toArray, List.set_cons_zero, List.set_cons_succ]
  (refine held_val (i := 19) rfl (by kernel_rfl) (by kernel_rfl) (by kernel_rfl) (fun _ _ _ _ h => h) hHeld (by rfl) ?_; apply Exists.intro; refine ⟨fun wq hSw => ?_, ?_⟩; ((try dsimp only at hSw); obtain ⟨k1, k2, k3, k4, k5, k6, k7, k8, k9, k10, k11, k12, k13⟩ := hSw; go_simp; try rfl); try simp only [Act.put, List.setIfInBounds_toArray, List.set_cons_zero, List.set_cons_succ])
  (refine held_val (i := 20) rfl (by kernel_rfl) (by kernel_rfl) (by kernel_rfl) (fun _ _ _ _ h => h) hHeld (by rfl) ?_; apply Exists.intro; refine ⟨fun wq hSw => ?_, ?_⟩; ((try dsimp only at hSw); obtain ⟨k1, k2, k3, k4, k5, k6, k7, k8, k9, k10, k11, k12, k13⟩ := hSw; go_simp; try rfl); try simp only [Act.put, List.setIfInBounds_toArray, List.set_cons_zero, List.set_cons_succ])
  refine wpAnyH_done (by kernel_rfl) ?_ _
  obtain ⟨k1, k2, k3, k4, k5, k6, -⟩ := HK.out _ hk4.out
  have HB4 : Hid (Below w.heap.size w w4) := H2.out.1.trans (hk4.out.mono H2.out.1.size)
  have HK4 : Hid (∀ w' : World, Below w4.heap.size w4 w' → w'.cell? ⟨w.heap.size, 0, none⟩ = some (.int .i64 (n : Int)) ∧ w'.cell? ⟨w.heap.size, 3, none⟩ = some (.int .i64 (q : Int)) ∧ w'.cell? ⟨w.heap.size, 4, none⟩ = some (.slice A1 n1 c1)) := fun w' h => by
    obtain ⟨g1, g2, g3, g4, -⟩ := HK.out w' (hk4.out.trans (h.mono hk4.out.size))
    exact ⟨g1, g3, g4⟩
  clear HK hk4 hk3 hHeld
  go_wp2_with fail
  refine (HRk.out w4 HB4.out).mono ?_
  rintro e w5 ⟨rfl, B5⟩
  have HB5 : Hid (Below w.heap.size w w5) := HB4.out.trans (B5.mono HB4.out.size)
  clear k1 k2 k3 k4 k5 k6
  obtain ⟨k1, k2, k3⟩ := HK4.out _ B5
  clear B5
  have to2 : ((ones : Int) == (n : Int)) = true := by simpa using to
  clear to
  go_wp2_with fail
  refine (HCk.out w5 HB5.out).mono ?_
  rintro e w6 ⟨rfl, B6⟩
  have HB6 : Hid (Below w.heap.size w w6) := HB5.out.trans (B6.mono HB5.out.size)
  clear B6
  cases r
  · go_wp2
    go_ret
    exact ⟨rfl, HB6.out⟩
  · go_wp2
    go_ret
    exact ⟨rfl, HB6.out⟩
end
section
set_option linter.unusedVariables false
open Go.RowKit Go.Shelf
theorem op_round {n l : Nat} {P : Program} {o : Oper} {a : Act} {w : World} {K : Act → World → Prop} {Q : Exit → Act → World → Prop} (hnd : ∀ c, o.op ≠ .defer c) (h : Oper.wpIn Fence.wide n P o a w K Q) : Oper.wpIn (Fence.wide.inRound l) n P o a w K Q := by
  unfold Oper.wpIn at *
  refine ⟨h.1, ?_⟩
  have h2 := h.2
  rw [Oper.semAt_plain _ _ _ hnd] at h2 ⊢
  generalize (execOp a.eval o).run P w = r at *
  cases r with
  | ok x w' => cases x <;> exact h2
  | halt x w' => cases x <;> exact h2
theorem any_round {n l : Nat} {P : Program} {md : Region.Mode} {ops : Array Oper} {Q : Exit → Act → World → Prop} (hnd : ∀ (j : Nat) (o : Oper), ops[j]? = some o → ∀ c, o.op ≠ .defer c) :
    ∀ (fuel : Nat) (listed : Array Bool) (a : Act) (w : World), wpAnyIn Fence.wide n P md ops Q fuel listed a w → wpAnyIn (Fence.wide.inRound l) n P md ops Q fuel listed a w
  | 0, _, _, _, h => h
  | fuel + 1, listed, a, w, h => by
    refine ⟨h.1, fun i hi => ?_⟩
    have h3 := wpOpIn_mono (fun a w h => any_round (l := l) hnd fuel _ a w h) (h.2 i hi)
    unfold wpOpIn at h3 ⊢
    cases ho : ops[i]? with
    | none => simpa [ho] using h3
    | some o =>
      simp only [ho] at h3 ⊢
      split
      · rename_i hw
        simp only [hw, if_true] at h3
        exact op_round (hnd i o ho) h3
      · rename_i hw
        simp only [hw] at h3
        exact h3
def noDef (ops : Array Oper) : Bool := ops.all fun o => match o.op with | .defer _ => false | _ => true
theorem noDef_spec {ops : Array Oper} (h : noDef ops = true) : ∀ (j : Nat) (o : Oper), ops[j]? = some o → ∀ c, o.op ≠ .defer c := by
  intro j o ho c e
  unfold noDef at h
  rw [Array.all_eq_true] at h
  obtain ⟨hj, hjo⟩ := Array.getElem?_eq_some_iff.1 ho
  have := h j hj
  rw [hjo, e] at this
  cases this
theorem in_val {F : Fence} {n : Nat} {P : Program} {md : Region.Mode} {l : List Oper} {Q : Exit → Act → World → Prop} {i : Nat} {oi : Oper} {rest : List Oper} {fuel : Nat} {listed : Array Bool} {a : Act} {w : World} (hro : F.round = none) (hi : l.drop i = oi :: rest)
    (hs : Region.noSelect l.toArray = true) (hf : Region.free md l.toArray listed i = true) (hr : (Region.ready md l.toArray listed).contains i = true)
    (hQ : ∀ v c a w, Q (.panic c) (a.put oi.dst v) w → Q (.panic c) a w) (hw : Region.wanted oi (yielded l.toArray a.tmps) = true) (hab : ∀ w, oi.about P w a.eval = none)
    (h : ∃ v, (∀ w, (execOp a.eval oi).run P w = .ok (.value v) w) ∧ wpAnyIn F n P md l.toArray Q fuel (listed.setIfInBounds i true) (a.put oi.dst v) w) : wpAnyIn F n P md l.toArray Q (fuel + 1) listed a w :=
  let ⟨v, h1, h2⟩ := h
  wpAnyIn_take hro (of_drop hi) hs hf hr (hQ v) ⟨.inl ⟨hw, h1⟩, hab⟩ h2
end
section
set_option maxRecDepth 100000
set_option linter.unusedVariables false
open Go.RowKit Go.Shelf
attribute [local go_sem] Oper.semAt_some
def elI (ll : Int) (bs : List Nat) (k i x : Nat) : Int := bits .or .i64 (wrap64 ((((clamp 0 x : Nat) : Int) - (i : Int)) * 2 ^ k)) (IntKind.i64.wrap ((getN ll bs ((i : Int) * (k : Int)) (k : Int) : Nat) : Int))
def elL (ll : Int) (bs : List Nat) (k : Nat) (pre : List Nat) : List Int := pre.mapIdx (elI ll bs k)
theorem elL_snoc (ll : Int) (bs : List Nat) (k : Nat) (pre : List Nat) (x : Nat) : elL ll bs k (pre ++ [x]) = elL ll bs k pre ++ [elI ll bs k pre.length x] := by
  unfold elL; rw [List.mapIdx_append]; simp
theorem elL_len (ll : Int) (bs : List Nat) (k : Nat) (pre : List Nat) : (elL ll bs k pre).length = pre.length := by unfold elL; rw [List.length_mapIdx]
def DRow (X : World) (N : Nat) (ll : Int) (bs : List Nat) (k : Nat) (pre : List Nat) : Prop :=
  ∃ v, Boxed X N 22 v ∧ X.ownsRow (N + 5) 3 1 v pre.length (zc (elL ll bs k pre))
theorem dRow_own (N : Nat) (ll : Int) (bs : List Nat) (k : Nat) : Own (fun (pre : List Nat) X => DRow X N ll bs k pre) := by
  rintro pre X Y row ⟨v, hb, ho⟩ hg hr
  refine ⟨v, box_own N 22 (fun _ : Unit => v) () X Y row hb hg hr, ho.kept hg ?_⟩
  rcases ho.2 with ⟨rfl, _⟩ | ⟨g, cap, cur, rfl, _, hgb, _⟩
  · exact .inl rfl
  · refine .inr fun e' => ?_
    obtain ⟨o, h1, h2⟩ := hr g (by simpa [Value.ownBlock] using e'.symm)
    rw [hgb] at h1; cases h1; cases h2
def dkept (N : Nat) (k : Nat) : Prop := k < N ∨ k = N + 1 ∨ k = N + 2 ∨ k = N + 4
theorem app3i {F : Fence} {fu : Nat} {w : World} {ops : Array Oper} {o : Oper} {a : Act} {K : Act → World → Prop} {Q : Exit → Act → World → Prop} {E : Prop} (hgd : o.guard = none) (s x : Operand)
    (ho : o.op = .call { callee := .builtin .append, args := #[s, x], argTypes := #[22, 22] }) (base : Nat)
    (v : Value) (n : Nat) (xs : List Value) (hs : a.eval s = v) (hown : w.ownsRow base 3 1 v n xs)
    (ad : Addr) (m c : Nat) (news : List Value) (hx : a.eval x = .slice (some ad) m c) (hlen : news.length = m * 1) (hc : ∀ j u, news[j]? = some u → w.cell? (ad.add j) = some u) (h1 : ∀ u ∈ news, u.oneCell' = true)
    (hb : (n + m) * 8 ≤ 140737488355328) (hbase : base ≤ w.heap.size)
    (h : ∀ v' w', w'.ownsRow base 3 1 v' (n + m) (xs ++ news) → w.grownBy w' v.ownBlock → K (a.put o.dst v') w') : if Region.wanted o (yielded ops a.tmps) = true then Oper.wpIn F fu Tryz.prog o a w K Q else E := by
  have hw : Region.wanted o (yielded ops a.tmps) = true := by simp [Region.wanted, hgd]
  rw [if_pos hw]
  obtain ⟨i0, hi, hz0, hz1, hz2⟩ := info_parts info3
  obtain ⟨v', w', hrun, h2, h3, _⟩ := run_append_own (P := Tryz.prog) w base 22 o.type 3 i0 (.int .i64 0) 1 8 Tryz.underlying22 hi hz0 hz1 hz2 rfl (by decide) v n xs hown ad m c news hlen hc h1 (by unfold maxLen; omega) hb hbase
  unfold Oper.wpIn
  refine ⟨?_, ?_⟩
  · simp [Oper.about, ho, resolve, Target.leads, Sem.run_pure]
  · rw [Oper.semAt_plain F _ _ (by rw [ho]; intro c hc'; cases hc')]
    simp [execOp, ho, resolve, invoke, builtin, hs, hx, hrun, Result.andThen]
    exact h v' w' h2 h3
theorem d_step {X w3 : World} {N base k g' cap' : Nat} {Av : Option Addr} {cv : Nat} {xs ys : List Value} {tmp : Obj} (Q : Nat → Prop)
    (hbv : Boxed X N 22 (.slice Av k cv)) (hrow : X.ownsRow base 3 1 (.slice Av k cv) k xs) (hgrow : (X.alloc tmp).grownBy w3 (Value.slice Av k cv).ownBlock) (hown' : w3.ownsRow base 3 1 (.slice (some ⟨g', 0, none⟩) (k + 1) cap') (k + 1) ys)
    (hQ1 : ∀ j, Q j → j < X.heap.size) (hQ2 : ∀ j, Q j → j < base) (hQ3 : ¬ Q N) :
    w3.cell? ⟨N, 0, none⟩ = some (.slice Av k cv) ∧ w3.frozen? ⟨N, 0, none⟩ = false ∧
    Hid (Boxed (w3.setCell ⟨N, 0, none⟩ (.slice (some ⟨g', 0, none⟩) (k + 1) cap')) N 22 (.slice (some ⟨g', 0, none⟩) (k + 1) cap') ∧
      (w3.setCell ⟨N, 0, none⟩ (.slice (some ⟨g', 0, none⟩) (k + 1) cap')).ownsRow base 3 1 (.slice (some ⟨g', 0, none⟩) (k + 1) cap') (k + 1) ys ∧
      Fr Q X (w3.setCell ⟨N, 0, none⟩ (.slice (some ⟨g', 0, none⟩) (k + 1) cap'))) := by
  have hv1 : Boxed w3 N 22 (.slice Av k cv) := (hbv.alloc tmp).kept hgrow (hbv.not_row (by decide) hrow)
  have hne : some N ≠ (Value.slice (some ⟨g', 0, none⟩) (k + 1) cap').ownBlock := hv1.not_row (by decide) hown'
  refine ⟨hv1.cell, hv1.frozen, hv1.set _, hown'.kept (grownBy_setCell' w3 N _) (.inr hne.symm), ?_⟩
  refine (((Fr.refl Q X).alloc hQ1 tmp).grown hgrow (fun j hj => by have := hQ1 j hj; simp; omega) ?_ ?_).setCell (p := ⟨N, 0, none⟩) hQ3 _
  · intro j hj hk
    have := (hrow.lt j hj).1
    have := hQ2 j hk
    omega
  · intro j o hj ho
    exact own_cells (hrow.alloc tmp) j o hj ho
set_option maxHeartbeats 4000000 in
theorem decode_any (N0 T0 : Int) (k : Nat) (hk : k ≤ 20) (ll : Int) (A1 : Option Addr) (c1 : Nat) (bs1 : List Nat) (hb1 : ∀ b ∈ bs1, b < 256) (H : List Bool) (hH : H.length ≤ 8192) (A2 : Option Addr) (c2 : Nat) (w : World) (h1 : Rd w w.heap.size A1 bs1) (h2 : Rd w w.heap.size A2 (pack H)) (rs : List Int) (hrs : elL ll bs1 k (vis true H 0 H.length) = rs) (m : Nat) (hm : rs.length = m) :
    Calls Tryz.prog 204 #[.agg #[.int .i64 N0, .int .i64 T0, .int .i64 (k : Int), .int .i64 ll, .slice A1 (bs1).length c1, .int .i64 (H.length : Int), .slice A2 (pack H).length c2]] w fun e w' => ∃ A c, e = .returned (.slice A m c) ∧ RdV w' w'.heap.size A (zc rs) ∧ Below w.heap.size w w' := by
  have HG : Hid (∀ i V, Below w.heap.size w V → Calls Tryz.prog 66 #[.agg #[.int .i64 ll, .slice A1 bs1.length c1], .int .i64 ((i : Int) * (k : Int)), .int .i64 (k : Int)] V (Got V (getN ll bs1 ((i : Int) * (k : Int)) (k : Int)) (getE ll bs1 ((i : Int) * (k : Int)) (k : Int)))) := fun i V hV => get_any ll A1 c1 bs1 _ _ V hb1 (h1.on hV)
  have HR := Lib.hid h2; clear h2 h1
  have HRS := Lib.hid hrs; clear hrs
  have HM := Lib.hid hm; clear hm
  obtain ⟨i0, hi, hz0, hz1, hz2⟩ := info_parts info3
  refine (callsIn_wide (n := 4)).1 ?_
  refine callsIn_of_wp_marks Tryz.func204 rfl trivial ?_ rfl
  simp only [Tryz.ntmps204, List.size_toArray, List.length_cons, List.length_nil, Nat.reduceAdd, Nat.reduceSub, Array.replicate_succ, Array.replicate_zero, List.push_toArray, List.append_toArray, List.nil_append, List.cons_append]
  gi_wp2_with (refine ⟨trivial, ?_⟩; gi_at_call 237; refine (of_in 3 _ _ _ _ _ _ _ _).mono ?_; rintro e w' ⟨rfl, rfl⟩)
  simp only [Nat.add_assoc, Nat.reduceAdd]
  obtain ⟨hz, a0, a1, a2, a3, a4, a5⟩ := six w (.cells #[.int .i64 N0, .int .i64 T0, .int .i64 (k : Int), .int .i64 ll, .slice A1 (bs1).length c1, .int .i64 (H.length : Int), .slice A2 (pack H).length c2] 65) (.cells #[.slice none 0 0] 22) (.cells #[.int .i64 (H.length : Int), .slice A2 (pack H).length c2] 27) (.cells #[.int .u64 1] 58) (.cells #[.int .i64 0] 3) (.cells #[.int .i64 (H.length : Int)] 3)
  have hlow : Below w.heap.size w ((((((w.alloc (.cells #[.int .i64 N0, .int .i64 T0, .int .i64 (k : Int), .int .i64 ll, .slice A1 (bs1).length c1, .int .i64 (H.length : Int), .slice A2 (pack H).length c2] 65)).alloc (.cells #[.slice none 0 0] 22)).alloc (.cells #[.int .i64 (H.length : Int), .slice A2 (pack H).length c2] 27)).alloc (.cells #[.int .u64 1] 58)).alloc (.cells #[.int .i64 0] 3)).alloc (.cells #[.int .i64 (H.length : Int)] 3)) := ((((up2 w _ _).alloc (by simp only [World.size_alloc]; omega) _).alloc (by simp only [World.size_alloc]; omega) _).alloc (by simp only [World.size_alloc]; omega) _).alloc (by simp only [World.size_alloc]; omega) _
  generalize ((((((w.alloc (.cells #[.int .i64 N0, .int .i64 T0, .int .i64 (k : Int), .int .i64 ll, .slice A1 (bs1).length c1, .int .i64 (H.length : Int), .slice A2 (pack H).length c2] 65)).alloc (.cells #[.slice none 0 0] 22)).alloc (.cells #[.int .i64 (H.length : Int), .slice A2 (pack H).length c2] 27)).alloc (.cells #[.int .u64 1] 58)).alloc (.cells #[.int .i64 0] 3)).alloc (.cells #[.int .i64 (H.length : Int)] 3)) = w5 at *
  have hvis : ∀ j, dkept (w.heap.size + 1) j → j < w5.heap.size := by rintro j (h | h | h | h) <;> omega
  refine wpIn_rangeFunc_ownG rfl (by decide) (gf := 257) (lb := #[.pointer (some ⟨w.heap.size + 4, 0, none⟩), .pointer (some ⟨w.heap.size + 5, 0, none⟩), .pointer (some ⟨w.heap.size + 2, 0, none⟩), .pointer (some ⟨w.heap.size + 3, 0, none⟩)]) rfl trivial (enters_of Tryz.func257 (by kernel_rfl) rfl)
    (of_stops 3 (by decide) (w.heap.size + 4) (w.heap.size + 5) (w.heap.size + 2) (w.heap.size + 3) w.heap.size c2 A2 (dkept (w.heap.size + 1)) H hH true 0 H.length (Nat.zero_le _) (Nat.le_refl _) (.inr (.inr (.inr rfl))) (.inr (.inl rfl)) (.inr (.inr (.inl rfl))) (fun j hj => .inl (by omega)) w5 hvis (by omega) (by omega)
      (box_cell a4) (box_cell a5) (box_cell a3) (blk_cells a2).1 (blk_cells a2).2.1 (HR.out.below hlow (Nat.le_refl _)))
    (fun h k => keepS_t h k) (keepS_b hvis) (Below.refl _ _) (fun _ => rfl)
    (fun pre X => DRow X (w.heap.size + 1) ll bs1 k pre ∧ (Fr (dkept (w.heap.size + 1)) w5 X ∧ w5.heap.size ≤ X.heap.size))
    (fun _ _ _ => False)
    (OwnFrom.and (Own.from (dRow_own _ _ _ _) _) (fr_own _ w5 w5.heap.size (Nat.le_refl _) hvis))
    (fun _ _ _ _ _ hs _ _ => hs)
    ⟨⟨.slice none 0 0, a1, ⟨rfl, .inl ⟨rfl, rfl⟩⟩⟩, Fr.refl _ _, Nat.le_refl _⟩
    ?a1 ?assign ?body ?done ?stop
  case assign =>
    intro lp x X K hK
    gi_wp2
    exact hK
  case body =>
    rintro lp pre x X ⟨hrow0, hfr, hzz⟩ hlt
    obtain ⟨v, hbv, hrow⟩ := hrow0
    obtain ⟨Av, cv, rfl⟩ := own_slice3 hrow
    obtain ⟨q0, q1, q2, q3, q4, q5, q6⟩ := (cells7 ((hfr.block w.heap.size (.inl (by omega))).trans a0)).1
    have cv1 := hbv.cell
    have hlX : Below w.heap.size w X := hlow.trans (hfr.below (fun j hj => .inl (by omega)))
    have hp8 : pre.length ≤ 8192 := by omega
    have HGi := Lib.hid (HG.out pre.length X hlX)
    have hmw : wrap64 ((pre.length : Int) * (k : Int)) = (pre.length : Int) * (k : Int) := by
      have h1 : pre.length * k ≤ 8192 * 20 := Nat.mul_le_mul hp8 hk
      have h2 : ((pre.length : Int) * (k : Int)) = ((pre.length * k : Nat) : Int) := by simp
      rw [h2]; unfold wrap64; omega
    have hmw2 : IntKind.i64.wrap ((pre.length : Int) * (k : Int)) = (pre.length : Int) * (k : Int) := by
      have h1 : pre.length * k ≤ 8192 * 20 := Nat.mul_le_mul hp8 hk
      have h2 : ((pre.length : Int) * (k : Int)) = ((pre.length * k : Nat) : Int) := by simp
      rw [h2, IntKind.wrap_i64]; omega
    have HW1 := Lib.hid hmw; have HW2 := Lib.hid hmw2
    gi_wp2_with fail
    refine ⟨trivial, ?_⟩
    refine (CallsIn.inRound _ (callsIn_wide.2 HGi.out)).mono ?_
    rintro e X1 ⟨rfl, hb1⟩
    clear hmw hmw2
    have hX1 : (Boxed X1 (w.heap.size + 1) 22 (.slice Av pre.length cv) ∧ X1.ownsRow (w.heap.size + 1 + 5) 3 1 (.slice Av pre.length cv) pre.length (zc (elL ll bs1 k pre))) := by
      refine ⟨(hb1.block _ (by omega)).trans hbv, hrow.kept (row := none) (grown_of_below hb1 none) ?_⟩
      rcases Av with _ | g
      · exact .inl rfl
      · exact .inr (by simp [Value.ownBlock])
    have hfr1 : Fr (dkept (w.heap.size + 1)) w5 X1 := ⟨hb1.os.trans hfr.os, hb1.tape.trans hfr.tape, hb1.output.trans hfr.output, Nat.le_trans hfr.size hb1.size, fun j hj => (hb1.block j (by have := hvis j hj; omega)).trans (hfr.block j hj), fun j o hj ho => by
      have := hfr.same j o hj ho
      rw [hb1.block j (Array.getElem?_eq_some_iff.1 this).1]; exact this⟩
    have hz1 : X.heap.size ≤ X1.heap.size := hb1.size
    obtain ⟨hbv1, hrow1⟩ := hX1
    obtain ⟨q0, q1, q2, q3, q4, q5, q6⟩ := (cells7 ((hfr1.block w.heap.size (.inl (by omega))).trans a0)).1
    have cv2 := hbv1.cell
    have fv2 := hbv1.frozen
    have hfrX : Fr (dkept (w.heap.size + 1)) X X1 := ⟨hb1.os, hb1.tape, hb1.output, hb1.size, fun j hj => hb1.block j (by have := hvis j hj; omega), fun j o hj ho => by
      rw [hb1.block j (Array.getElem?_eq_some_iff.1 hj).1]; exact hj⟩
    have HFR := Lib.hid hfr
    have HFX := Lib.hid hfrX
    clear hb1 hbv hrow cv1 hfr hlX hfrX
    have HSN := Lib.hid (elL_snoc ll bs1 k pre x)
    have HLn := Lib.hid (elL_len ll bs1 k pre)
    unfold elI at HSN
    generalize getN ll bs1 ((pre.length : Int) * (k : Int)) (k : Int) = lw at *
    generalize hcx : clamp 0 x = cx at *
    have hcx1 : cx ≤ 8191 := by rw [← hcx]; exact clamp0_le x
    have k0 : (0 : Int) ≤ (k : Int) := by omega
    have k1 : ¬ (k : Int) < 0 := by omega
    gi_wp2_with fail
    have hQ1 : ∀ j, dkept (w.heap.size + 1) j → j < X1.heap.size := fun j hj => by have := hvis j hj; omega
    have hQ2 : ∀ j, dkept (w.heap.size + 1) j → j < w.heap.size + 1 + 5 := by rintro j (h | h | h | h) <;> omega
    have hQ3 : ¬ dkept (w.heap.size + 1) (w.heap.size + 1) := by rintro (h | h | h | h) <;> omega
    have hrowd : X1.drew.ownsRow (w.heap.size + 1 + 5) 3 1 (.slice Av pre.length cv) pre.length (zc (elL ll bs1 k pre)) := hrow1
    have hbvd : Boxed X1.drew (w.heap.size + 1) 22 (.slice Av pre.length cv) := hbv1
    obtain ⟨pl, hpl⟩ : ∃ pl, pre.length = pl := ⟨_, rfl⟩
    rw [hpl] at hrowd hbvd hrow1 hbv1 cv2 HSN HLn hp8 ⊢
    have HPL := Lib.hid hpl; clear hpl
    have hdw : IntKind.i64.wrap ((cx : Int) - (pl : Int)) = (cx : Int) - (pl : Int) := by rw [IntKind.wrap_i64]; omega
    have hlt1 : w.heap.size + 1 < X1.heap.size := by omega
    obtain ⟨sh, hsh⟩ : ∃ sh, wrap64 (((cx : Int) - (pl : Int)) * 2 ^ k) = sh := ⟨_, rfl⟩
    have hsh2 : IntKind.i64.wrap (((cx : Int) - (pl : Int)) * 2 ^ k) = sh := by rw [← hsh, IntKind.wrap_i64]; unfold wrap64; omega
    obtain ⟨lz, hlz⟩ : ∃ lz, IntKind.i64.wrap (lw : Int) = lz := ⟨_, rfl⟩
    have hlz2 : wrap64 (lw : Int) = lz := by rw [← hlz, IntKind.wrap_i64]; unfold wrap64; omega
    obtain ⟨el, hel⟩ : ∃ el, bits .or .i64 sh lz = el := ⟨_, rfl⟩
    rw [hsh, hlz, hel] at HSN
    have hsz6 : w.heap.size + 1 + 5 ≤ X1.heap.size := by omega
    refine wpIn_region_any (by kernel_rfl) ?_
    refine any_round (noDef_spec (by kernel_rfl)) _ _ _ _ ?_
    change wpAnyIn _ _ _ _ _ _ _ _ _ (World.drew _)
    (refine in_val (i := 1) rfl rfl (by kernel_rfl) (by kernel_rfl) (by kernel_rfl) (fun _ _ _ _ h => h) (by rfl) (fun _ => rfl) ?_; apply Exists.intro; refine ⟨fun wq => ?_, ?_⟩; (go_simp; try rfl); try simp only [Act.put, List.setIfInBounds_toArray, List.set_cons_zero, List.set_cons_succ])
    (refine in_val (i := 2) rfl rfl (by kernel_rfl) (by kernel_rfl) (by kernel_rfl) (fun _ _ _ _ h => h) (by rfl) (fun _ => rfl) ?_; apply Exists.intro; refine ⟨fun wq => ?_, ?_⟩; (go_simp; try rfl); try simp only [Act.put, List.setIfInBounds_toArray, List.set_cons_zero, List.set_cons_succ])
    (refine in_val (i := 3) rfl rfl (by kernel_rfl) (by kernel_rfl) (by kernel_rfl) (fun _ _ _ _ h => h) (by rfl) (fun _ => rfl) ?_; apply Exists.intro; refine ⟨fun wq => ?_, ?_⟩; (go_simp; try rfl); try simp only [Act.put, List.setIfInBounds_toArray, List.set_cons_zero, List.set_cons_succ])
    (refine in_val (i := 4) rfl rfl (by kernel_rfl) (by kernel_rfl) (by kernel_rfl) (fun _ _ _ _ h => h) (by rfl) (fun _ => rfl) ?_; apply Exists.intro; refine ⟨fun wq => ?_, ?_⟩; (go_simp; try rfl); try simp only [Act.put, List.setIfInBounds_toArray, List.set_cons_zero, List.set_cons_succ])
    (refine in_val (i := 7) rfl rfl (by kernel_rfl) (by kernel_rfl) (by kernel_rfl) (fun _ _ _ _ h => h) (by rfl) (fun _ => rfl) ?_; apply Exists.intro; refine ⟨fun wq => ?_, ?_⟩; (go_simp; try rfl); try simp only [Act.put, List.setIfInBounds_toArray, List.set_cons_zero, List.set_cons_succ])
    (refine in_val (i := 8) rfl rfl (by kernel_rfl) (by kernel_rfl) (by kernel_rfl) (fun _ _ _ _ h => h) (by rfl) (fun _ => rfl) ?_; apply Exists.intro; refine ⟨fun wq => ?_, ?_⟩; (go_simp; try rfl); try simp only [Act.put, List.setIfInBounds_toArray, List.set_cons_zero, List.set_cons_succ])
    refine wpAnyIn_ready (rs := [0, 5]) (by kernel_rfl) (by simp) ?_
    refine AllReadyIn.cons (of_drop rfl) (fun K hK => ?_) (AllReadyIn.cons (of_drop rfl) (fun K hK => ?_) AllReadyIn.nil)
    · go_simp
      refine hK _ _ ?_
      clear hK K
      try simp only [Act.put, List.setIfInBounds_toArray, List.set_cons_zero, List.set_cons_succ]
      refine wpAnyIn_ready (rs := [5]) (by kernel_rfl) (by simp) ?_
      refine AllReadyIn.cons (of_drop rfl) (fun K hK => ?_) AllReadyIn.nil
      go_simp
      refine hK _ _ ?_
      clear hK K
      try simp only [Act.put, List.setIfInBounds_toArray, List.set_cons_zero, List.set_cons_succ]
      (refine in_val (i := 6) rfl rfl (by kernel_rfl) (by kernel_rfl) (by kernel_rfl) (fun _ _ _ _ h => h) (by rfl) (fun _ => rfl) ?_; apply Exists.intro; refine ⟨fun wq => ?_, ?_⟩; (go_simp; try rfl); try simp only [Act.put, List.setIfInBounds_toArray, List.set_cons_zero, List.set_cons_succ])
      (refine in_val (i := 9) rfl rfl (by kernel_rfl) (by kernel_rfl) (by kernel_rfl) (fun _ _ _ _ h => h) (by rfl) (fun _ => rfl) ?_; apply Exists.intro; refine ⟨fun wq => ?_, ?_⟩; (go_simp; try rfl); try simp only [Act.put, List.setIfInBounds_toArray, List.set_cons_zero, List.set_cons_succ])
      refine wpAnyIn_ready (rs := [10]) (by kernel_rfl) (by simp) ?_
      refine AllReadyIn.cons (of_drop rfl) (fun K hK => ?_) AllReadyIn.nil
      go_simp
      refine hK _ _ ?_
      clear hK K
      try simp only [Act.put, List.setIfInBounds_toArray, List.set_cons_zero, List.set_cons_succ]
      refine wpAnyIn_ready (rs := [11]) (by kernel_rfl) (by simp) ?_
      refine AllReadyIn.cons (of_drop rfl) (fun K hK => ?_) AllReadyIn.nil
      refine app3i (by rfl) _ _ (by rfl) (w.heap.size + 1 + 5) (.slice Av pl cv) pl (zc (elL ll bs1 k pre)) (by rfl) (hrowd.alloc _) ⟨X1.drew.heap.size, 0, none⟩ 1 1 [.int .i64 el] (by rfl) rfl (cell_one_new X1.drew (.int .i64 el) 3) (by simp [Value.oneCell']) (by omega) (by show _ ≤ (X1.alloc _).heap.size; simp; omega) ?_
      intro v' w3 hown' hgrow
      obtain ⟨g', cap', rfl⟩ := ownsRow_succ hown'
      obtain ⟨e1, e2, HE⟩ := d_step (dkept (w.heap.size + 1)) hbvd hrowd hgrow hown' hQ1 hQ2 hQ3
      clear hgrow hown'
      refine hK _ _ ?_
      clear hK K
      try simp only [Act.put, List.setIfInBounds_toArray, List.set_cons_zero, List.set_cons_succ]
      refine wpAnyIn_ready (rs := [12]) (by kernel_rfl) (by simp) ?_
      refine AllReadyIn.cons (of_drop rfl) (fun K hK => ?_) AllReadyIn.nil
      go_simp
      refine hK _ _ ?_
      clear hK K
      try simp only [Act.put, List.setIfInBounds_toArray, List.set_cons_zero, List.set_cons_succ]
      refine wpAnyIn_done (by kernel_rfl) ?_ _
      gi_wp2
      obtain ⟨E1, E2, E3⟩ := HE.out
      have E4 := HFX.out.trans (⟨E3.os, E3.tape, E3.output, E3.size, E3.block, E3.same⟩ : Fr (dkept (w.heap.size + 1)) X1 _)
      refine ⟨E4.others.from _, ⟨E4.block, E4.size⟩, ⟨_, E1, ?_⟩, HFR.out.trans E4, Nat.le_trans hzz E4.size⟩
      rw [HSN.out, zc_append, List.length_append, HPL.out]
      exact E2
    · go_simp
      refine hK _ _ ?_
      clear hK K
      try simp only [Act.put, List.setIfInBounds_toArray, List.set_cons_zero, List.set_cons_succ]
      (refine in_val (i := 6) rfl rfl (by kernel_rfl) (by kernel_rfl) (by kernel_rfl) (fun _ _ _ _ h => h) (by rfl) (fun _ => rfl) ?_; apply Exists.intro; refine ⟨fun wq => ?_, ?_⟩; (go_simp; try rfl); try simp only [Act.put, List.setIfInBounds_toArray, List.set_cons_zero, List.set_cons_succ])
      (refine in_val (i := 9) rfl rfl (by kernel_rfl) (by kernel_rfl) (by kernel_rfl) (fun _ _ _ _ h => h) (by rfl) (fun _ => rfl) ?_; apply Exists.intro; refine ⟨fun wq => ?_, ?_⟩; (go_simp; try rfl); try simp only [Act.put, List.setIfInBounds_toArray, List.set_cons_zero, List.set_cons_succ])
      refine wpAnyIn_ready (rs := [0, 10]) (by kernel_rfl) (by simp) ?_
      refine AllReadyIn.cons (of_drop rfl) (fun K hK => ?_) (AllReadyIn.cons (of_drop rfl) (fun K hK => ?_) AllReadyIn.nil)
      · go_simp
        refine hK _ _ ?_
        clear hK K
        try simp only [Act.put, List.setIfInBounds_toArray, List.set_cons_zero, List.set_cons_succ]
        refine wpAnyIn_ready (rs := [10]) (by kernel_rfl) (by simp) ?_
        refine AllReadyIn.cons (of_drop rfl) (fun K hK => ?_) AllReadyIn.nil
        go_simp
        refine hK _ _ ?_
        clear hK K
        try simp only [Act.put, List.setIfInBounds_toArray, List.set_cons_zero, List.set_cons_succ]
        refine wpAnyIn_ready (rs := [11]) (by kernel_rfl) (by simp) ?_
        refine AllReadyIn.cons (of_drop rfl) (fun K hK => ?_) AllReadyIn.nil
        refine app3i (by rfl) _ _ (by rfl) (w.heap.size + 1 + 5) (.slice Av pl cv) pl (zc (elL ll bs1 k pre)) (by rfl) (hrowd.alloc _) ⟨X1.drew.heap.size, 0, none⟩ 1 1 [.int .i64 el] (by rfl) rfl (cell_one_new X1.drew (.int .i64 el) 3) (by simp [Value.oneCell']) (by omega) (by show _ ≤ (X1.alloc _).heap.size; simp; omega) ?_
        intro v' w3 hown' hgrow
        obtain ⟨g', cap', rfl⟩ := ownsRow_succ hown'
        obtain ⟨e1, e2, HE⟩ := d_step (dkept (w.heap.size + 1)) hbvd hrowd hgrow hown' hQ1 hQ2 hQ3
        clear hgrow hown'
        refine hK _ _ ?_
        clear hK K
        try simp only [Act.put, List.setIfInBounds_toArray, List.set_cons_zero, List.set_cons_succ]
        refine wpAnyIn_ready (rs := [12]) (by kernel_rfl) (by simp) ?_
        refine AllReadyIn.cons (of_drop rfl) (fun K hK => ?_) AllReadyIn.nil
        go_simp
        refine hK _ _ ?_
        clear hK K
        try simp only [Act.put, List.setIfInBounds_toArray, List.set_cons_zero, List.set_cons_succ]
        refine wpAnyIn_done (by kernel_rfl) ?_ _
        gi_wp2
        obtain ⟨E1, E2, E3⟩ := HE.out
        have E4 := HFX.out.trans (⟨E3.os, E3.tape, E3.output, E3.size, E3.block, E3.same⟩ : Fr (dkept (w.heap.size + 1)) X1 _)
        refine ⟨E4.others.from _, ⟨E4.block, E4.size⟩, ⟨_, E1, ?_⟩, HFR.out.trans E4, Nat.le_trans hzz E4.size⟩
        rw [HSN.out, zc_append, List.length_append, HPL.out]
        exact E2
      · go_simp
        refine hK _ _ ?_
        clear hK K
        try simp only [Act.put, List.setIfInBounds_toArray, List.set_cons_zero, List.set_cons_succ]
        refine wpAnyIn_ready (rs := [0]) (by kernel_rfl) (by simp) ?_
        refine AllReadyIn.cons (of_drop rfl) (fun K hK => ?_) AllReadyIn.nil
        go_simp
        refine hK _ _ ?_
        clear hK K
        try simp only [Act.put, List.setIfInBounds_toArray, List.set_cons_zero, List.set_cons_succ]
        refine wpAnyIn_ready (rs := [11]) (by kernel_rfl) (by simp) ?_
        refine AllReadyIn.cons (of_drop rfl) (fun K hK => ?_) AllReadyIn.nil
        refine app3i (by rfl) _ _ (by rfl) (w.heap.size + 1 + 5) (.slice Av pl cv) pl (zc (elL ll bs1 k pre)) (by rfl) (hrowd.alloc _) ⟨X1.drew.heap.size, 0, none⟩ 1 1 [.int .i64 el] (by rfl) rfl (cell_one_new X1.drew (.int .i64 el) 3) (by simp [Value.oneCell']) (by omega) (by show _ ≤ (X1.alloc _).heap.size; simp; omega) ?_
        intro v' w3 hown' hgrow
        obtain ⟨g', cap', rfl⟩ := ownsRow_succ hown'
        obtain ⟨e1, e2, HE⟩ := d_step (dkept (w.heap.size + 1)) hbvd hrowd hgrow hown' hQ1 hQ2 hQ3
        clear hgrow hown'
        refine hK _ _ ?_
        clear hK K
        try simp only [Act.put, List.setIfInBounds_toArray, List.set_cons_zero, List.set_cons_succ]
        refine wpAnyIn_ready (rs := [12]) (by kernel_rfl) (by simp) ?_
        refine AllReadyIn.cons (of_drop rfl) (fun K hK => ?_) AllReadyIn.nil
        go_simp
        refine hK _ _ ?_
        clear hK K
        try simp only [Act.put, List.setIfInBounds_toArray, List.set_cons_zero, List.set_cons_succ]
        refine wpAnyIn_done (by kernel_rfl) ?_ _
        gi_wp2
        obtain ⟨E1, E2, E3⟩ := HE.out
        have E4 := HFX.out.trans (⟨E3.os, E3.tape, E3.output, E3.size, E3.block, E3.same⟩ : Fr (dkept (w.heap.size + 1)) X1 _)
        refine ⟨E4.others.from _, ⟨E4.block, E4.size⟩, ⟨_, E1, ?_⟩, HFR.out.trans E4, Nat.le_trans hzz E4.size⟩
        rw [HSN.out, zc_append, List.length_append, HPL.out]
        exact E2
  case done =>
    rintro D ys X hD rfl ⟨⟨v, hbv, hrow⟩, hfr, hzz⟩ hK
    obtain ⟨Av, cv, rfl⟩ := own_slice3 hrow
    have hl : (vis true H 0 H.length).length = m := by rw [← HM.out, ← HRS.out, elL_len]
    rw [hl] at hrow hbv
    rw [HRS.out] at hrow
    have HR3 : Hid (RdV (X.putObj D (.deferred none)) (X.putObj D (.deferred none)).heap.size Av (zc rs)) := own_rdv (ownsRow_putObj hrow _ hK rfl)
    have HL : Hid (Below w.heap.size w (X.putObj D (.deferred none))) := (hlow.trans (hfr.below (fun j hj => .inl (by omega)))).trans (belowK_b (w := w) (Nat.le_refl _) _ D _ _ (by omega) hK rfl rfl)
    have cv1 := hbv.cell
    clear hrow hl
    gi_wp2
    refine ⟨by simp, .inl ⟨_, _, rfl, run_takeDeferred hK, ?_⟩⟩
    refine ⟨.slice Av m cv, ?_, Av, cv, rfl, HR3.out, HL.out⟩
    simp [results, Tryz.results204, go_sem]
  case stop =>
    rintro D c pre W _ _ h _
    exact h.elim
end
section
set_option maxRecDepth 100000
set_option linter.unusedVariables false
open Go.RowKit Go.Shelf
def hsB (n t : Nat) (kw ll : Int) (bs1 : List Nat) (lh : Int) (bs2 : List Nat) : Prop :=
  kw = (fnw n t : Int) ∧ ll = ((n * fnw n t : Nat) : Int) ∧ lh = ((n + t / 2 ^ fnw n t + 1 : Nat) : Int) ∧ chk lh bs2 = 0 ∧ cnt (unpack lh.toNat bs2) = n ∧ chk ll bs1 = 0
instance (n t : Nat) (kw ll : Int) (bs1 : List Nat) (lh : Int) (bs2 : List Nat) : Decidable (hsB n t kw ll bs1 lh bs2) := by unfold hsB; infer_instance
def RdPf (w : World) (m : Nat) (xs : List Int) (err : Int) (e : Ending) (w' : World) : Prop :=
  ∃ A c, e = .returned (.tuple #[.slice A m c, .int .i64 err]) ∧ RdV w' w'.heap.size A (zc xs) ∧ Below w.heap.size w w'
set_option maxHeartbeats 4000000 in
theorem fread_c (N T kw ll lh : Int) (A1 A2 : Option Addr) (n1 c1 n2 c2 : Nat) (w : World) (HNd : Hid (∀ V, Calls Tryz.prog 49 #[.int .i64 T] V fun e w' => e = .returned (.bool true) ∧ V = w'))
    (t1 : decide (0 ≤ N) = true) (t2 : decide (N ≤ 300) = true) (m : Nat) (xs : List Int) (bad : Bool) (ec : Int) (hbd : (ec != 0) = bad) (rm : Nat) (rxs : List Int) (re : Int) (hres : (bad = true ∧ rm = 0 ∧ rxs = [] ∧ re = 1) ∨ (bad = false ∧ rm = m ∧ rxs = xs ∧ re = 0))
    (HHs : Hid (∀ V, Below w.heap.size w V → Calls Tryz.prog 203 #[.agg #[.int .i64 N, .int .i64 T, .int .i64 kw, .int .i64 ll, .slice A1 n1 c1, .int .i64 lh, .slice A2 n2 c2]] V fun e w' => e = .returned (.bool true) ∧ Below V.heap.size V w'))
    (HDc : Hid (∀ V, Below w.heap.size w V → Calls Tryz.prog 204 #[.agg #[.int .i64 N, .int .i64 T, .int .i64 kw, .int .i64 ll, .slice A1 n1 c1, .int .i64 lh, .slice A2 n2 c2]] V fun e w' => ∃ A c, e = .returned (.slice A m c) ∧ RdV w' w'.heap.size A (zc xs) ∧ Below V.heap.size V w'))
    (HCk : Hid (∀ A c V, RdV V V.heap.size A (zc xs) → Calls Tryz.prog 159 #[.slice A m c, .int .i64 T] V fun e w' => e = .returned (.int .i64 ec) ∧ Below V.heap.size V w')) :
    Calls Tryz.prog 165 #[.agg #[.int .i64 N, .int .i64 T, .int .i64 kw, .int .i64 ll, .slice A1 n1 c1, .int .i64 lh, .slice A2 n2 c2]] w (RdPf w rm rxs re) := by
  have HRES := Lib.hid hres; clear hres
  have HR := Lib.hid (range3 0 true true true 0 (by decide))
  go_enter Tryz.func165, Tryz.ntmps165
  go_wp2_with fail
  obtain ⟨V0, hV0⟩ : ∃ V0, V0 = w.alloc (.cells #[.int .i64 N, .int .i64 T, .int .i64 kw, .int .i64 ll, .slice A1 n1 c1, .int .i64 lh, .slice A2 n2 c2] 65) := ⟨_, rfl⟩
  have H0 : Hid (Below w.heap.size w V0 ∧ V0.heap[w.heap.size]? = some (.cells #[.int .i64 N, .int .i64 T, .int .i64 kw, .int .i64 ll, .slice A1 n1 c1, .int .i64 lh, .slice A2 n2 c2] 65 (0, 0)) ∧ w.heap.size < V0.heap.size) := by rw [hV0]; exact ⟨one_below _ _, World.alloc_heap_new _ _, by rw [World.size_alloc]; omega⟩
  rw [← hV0]
  clear hV0
  have HK : Hid (∀ w' : World, Below V0.heap.size V0 w' → w'.cell? ⟨w.heap.size, 0, none⟩ = some (.int .i64 N) ∧ w'.cell? ⟨w.heap.size, 1, none⟩ = some (.int .i64 T)) := fun w' h => by
    obtain ⟨⟨g0, g1, -⟩, -⟩ := cells7 ((h.block _ H0.out.2.2).trans H0.out.2.1)
    exact ⟨g0, g1⟩
  go_region_held3 (fun w' => w'.cell? ⟨w.heap.size, 0, none⟩ = some (.int .i64 N) ∧ w'.cell? ⟨w.heap.size, 1, none⟩ = some (.int .i64 T))
    ((refine HK.out _ ?_; first | exact hk2.out | exact hk1.out | exact (one_below _ _).drew | exact (Below.refl _ _).drew))
    (first
      | (go_at_call 48; have hx := hk1.out; refine (HR.out V0.drew _ rfl).mono ?_; rintro e w2 ⟨rfl, B2⟩; have hk2 : Hid (Below V0.heap.size V0 w2) := hx.trans (B2.mono hx.size); clear B2 hx)
      | (go_at_call 49; refine (HNd.out V0.drew).mono ?_; rintro e wq ⟨rfl, rfl⟩; have hk1 : Hid (Below V0.heap.size V0 V0.drew) := (Below.refl _ V0).drew))
  all_goals (
    have HB2 : Hid (Below w.heap.size w w2) := H0.out.1.trans (hk2.out.mono H0.out.1.size)
    obtain ⟨⟨g0, g1, g2, g3, g4, g5, g6⟩, -⟩ := cells7 ((hk2.out.block _ H0.out.2.2).trans H0.out.2.1)
    go_wp2_with fail
    refine (HHs.out w2 HB2.out).mono ?_
    rintro e w3 ⟨rfl, B3⟩
    have HB3 : Hid (Below w.heap.size w w3) := HB2.out.trans (B3.mono HB2.out.size)
    have HK3 : Hid (Below V0.heap.size V0 w3) := hk2.out.trans (B3.mono hk2.out.size)
    clear B3 g0 g1 g2 g3 g4 g5 g6
    obtain ⟨⟨g0, g1, g2, g3, g4, g5, g6⟩, -⟩ := cells7 ((HK3.out.block _ H0.out.2.2).trans H0.out.2.1)
    clear HK hk2 hk1
    go_wp2_with fail
    refine (HDc.out w3 HB3.out).mono ?_
    rintro e w4 ⟨A, c, rfl, R4, B4⟩
    have HB4 : Hid (Below w.heap.size w w4) := HB3.out.trans (B4.mono HB3.out.size)
    have HK4 : Hid (Below V0.heap.size V0 w4) := HK3.out.trans (B4.mono HK3.out.size)
    have HR4 := Lib.hid R4
    clear B4 R4 g0 g1 g2 g3 g4 g5 g6
    obtain ⟨⟨g0, g1, -⟩, -⟩ := cells7 ((HK4.out.block _ H0.out.2.2).trans H0.out.2.1)
    go_wp2_with fail
    refine (HCk.out A c w4 HR4.out).mono ?_
    rintro e w5 ⟨rfl, B5⟩
    have HB5 : Hid (Below w.heap.size w w5) := HB4.out.trans (B5.mono HB4.out.size)
    have HR5 := Lib.hid (HR4.out.on B5)
    clear B5 g0 g1
    have hres := HRES.out
    clear HRES
    rcases hres with ⟨rfl, rfl, rfl, rfl⟩ | ⟨rfl, rfl, rfl, rfl⟩
    · skip
      go_wp2
      go_ret2
      exact ⟨none, 0, rfl, .inl rfl, HB5.out⟩
    · skip
      go_wp2
      go_ret2
      exact ⟨A, c, rfl, HR5.out, HB5.out⟩)
theorem i64_or_nat (a b : Nat) (ha : a < 4611686018427387904) (hb : b < 4611686018427387904) : bits .or .i64 (a : Int) (b : Int) = ((a ||| b : Nat) : Int) := by
  have hx : a ||| b < 2 ^ 62 := Nat.or_lt_two_pow ha hb
  show IntKind.i64.wrap ((BitVec.ofInt 64 (a : Int) ||| BitVec.ofInt 64 (b : Int)).toNat : Int) = _
  rw [BitVec.toNat_or, ofInt_u64 a (by omega), ofInt_u64 b (by omega), IntKind.wrap_i64]
  omega
theorem elL_dec (k n : Nat) (hk : k ≤ 20) (L H : List Bool) (hL : L.length = n * k) (hL2 : L.length ≤ 8192) (hH : cnt H = n) (hH2 : H.length ≤ 8192) : elL (L.length : Int) (pack L) k (vis true H 0 H.length) = ns (fdec k L H) := by
  have hv : vis true H 0 H.length = pos 0 H := by rw [vis_all H 0 _ rfl, List.drop_zero]
  rw [hv]
  apply List.ext_getElem?
  intro i
  unfold elL
  rw [List.getElem?_mapIdx]
  unfold ns
  rw [List.getElem?_map, fdec_pos]
  cases e : (pos 0 H)[i]? with
  | none => rfl
  | some q =>
    obtain ⟨p, rfl, hp, hc⟩ := pos_inv H 0 i q e
    rw [Nat.zero_add] at *
    have hpl : p < H.length := by
      rcases Nat.lt_or_ge p H.length with h | h
      · exact h
      · rw [List.getElem?_eq_none h] at hp; cases hp
    have hip : i ≤ p := by have := cnt_take_le H p; omega
    have hin : i < n := by
      have := (List.getElem?_eq_some_iff.1 e).1
      rw [pos_len] at this; omega
    have hik : i * k + k ≤ L.length := by
      rw [hL, ← Nat.succ_mul]; exact Nat.mul_le_mul_right _ hin
    simp only [Option.map_some, Option.some.injEq]
    unfold elI
    have hge : getN (L.length : Int) (pack L) ((i : Int) * (k : Int)) (k : Int) = lo k L i := by
      have e1 : ((i : Int) * (k : Int)) = ((i * k : Nat) : Int) := by simp
      have e2 : getE (L.length : Int) (pack L) ((i : Int) * (k : Int)) (k : Int) = 0 := by
        unfold getE
        rw [chk_pack L hL2, e1, if_neg (by decide), if_neg (by omega), if_neg (by omega)]
      unfold getN lo
      rw [if_pos e2, e1, Int.toNat_natCast, Int.toNat_natCast, Int.toNat_natCast, unpack_pack]
    have hlo := lo_lt k L i
    have hp20 : 2 ^ k ≤ 2 ^ 20 := Nat.pow_le_pow_right (by omega) hk
    rw [clamp_of 0 p (Nat.zero_le _) (by omega), hge]
    have e3 : (((p : Int) - (i : Int)) * 2 ^ k) = (((p - i) * 2 ^ k : Nat) : Int) := by
      rw [Int.natCast_mul, Int.natCast_sub hip]; simp
    have hmul : (p - i) * 2 ^ k ≤ 8192 * 2 ^ 20 := Nat.mul_le_mul (by omega) hp20
    have e4 : wrap64 (((p : Int) - (i : Int)) * 2 ^ k) = (((p - i) * 2 ^ k : Nat) : Int) := by rw [e3]; unfold wrap64; omega
    have e5 : IntKind.i64.wrap ((lo k L i : Nat) : Int) = ((lo k L i : Nat) : Int) := by rw [IntKind.wrap_i64]; omega
    rw [e4, e5, i64_or_nat _ _ (by omega) (by omega), Nat.mul_comm (p - i), ← Nat.two_pow_add_eq_or_of_lt hlo]
end
section
set_option maxRecDepth 100000
set_option linter.unusedVariables false
open Go.RowKit Go.Shelf
set_option maxHeartbeats 1000000 in
theorem fget_ok (l : List Nat) (N T kw ll lh : Int) (A1 A2 : Option Addr) (n1 c1 n2 c2 : Nat) (m : Nat) (hm : l.length = m) (hN : N = (m : Int)) (i : Nat) (hi : i < m) (x : Nat) (hx : l[i]?.getD 0 = x) (w : World)
    (HRd : Hid (∀ V, Below w.heap.size w V → Calls Tryz.prog 165 #[.agg #[.int .i64 N, .int .i64 T, .int .i64 kw, .int .i64 ll, .slice A1 n1 c1, .int .i64 lh, .slice A2 n2 c2]] V (RdPf V m (ns l) 0))) :
    Calls Tryz.prog 122 #[.agg #[.int .i64 N, .int .i64 T, .int .i64 kw, .int .i64 ll, .slice A1 n1 c1, .int .i64 lh, .slice A2 n2 c2], .int .i64 (i : Int)] w (RkP w x 0) := by
  have HR := Lib.hid (range2 0 true true 0 (by decide))
  have HM := Lib.hid hm; clear hm
  have t1 : decide ((0 : Int) ≤ (i : Int)) = true := by simp
  have t2 : decide ((i : Int) < N) = true := by simp; omega
  have HN := Lib.hid hN; clear hN
  go_enter Tryz.func122, Tryz.ntmps122
  go_wp2_with fail
  obtain ⟨V0, hV0⟩ : ∃ V0, V0 = w.alloc (.cells #[.int .i64 N, .int .i64 T, .int .i64 kw, .int .i64 ll, .slice A1 n1 c1, .int .i64 lh, .slice A2 n2 c2] 65) := ⟨_, rfl⟩
  have H0 : Hid (Below w.heap.size w V0 ∧ V0.heap[w.heap.size]? = some (.cells #[.int .i64 N, .int .i64 T, .int .i64 kw, .int .i64 ll, .slice A1 n1 c1, .int .i64 lh, .slice A2 n2 c2] 65 (0, 0)) ∧ w.heap.size < V0.heap.size) := by rw [hV0]; exact ⟨one_below _ _, World.alloc_heap_new _ _, by rw [World.size_alloc]; omega⟩
  rw [← hV0]
  clear hV0
  refine (HRd.out V0 H0.out.1).mono ?_
  rintro e w1 ⟨A, c, rfl, R1, B1⟩
  have HB1 : Hid (Below w.heap.size w w1) := H0.out.1.trans (B1.mono (by have := H0.out; omega))
  obtain ⟨⟨g0, g1, g2, g3, g4, g5, g6⟩, -⟩ := cells7 ((B1.block _ H0.out.2.2).trans H0.out.2.1)
  have HR1 := Lib.hid R1
  have HZ1 : Hid (w.heap.size < w1.heap.size) := Nat.lt_of_lt_of_le H0.out.2.2 B1.size
  clear R1 B1
  go_wp2_with fail
  refine (HR.out w1 _ rfl).mono ?_
  rintro e w2 ⟨rfl, B2⟩
  have HB2 : Hid (Below w.heap.size w w2) := HB1.out.trans (B2.mono HB1.out.size)
  have hR2 := HR1.out.on ((one_below w1 (.cells #[.bool true, .bool true] 4)).mono (Nat.le_refl _))
  obtain ⟨b, off, hA, hb, hc⟩ := HR1.out.at_ (ns_get l i (by rw [HM.out]; exact hi))
  rw [hx] at hc
  have hc2 := (B2.cell (p := ⟨b, off + i, none⟩) hb).trans hc
  subst hA
  clear B2 hR2 hc g0 g1 g2 g3 g4 g5 g6 hx
  have i0 : (0 : Int) ≤ (i : Int) := by omega
  have i1 : (i : Int) < (m : Int) := by omega
  go_wp2
  go_ret2
  exact ⟨rfl, HB2.out⟩
end
section
set_option maxRecDepth 100000
set_option linter.unusedVariables false
open Go.RowKit Go.Shelf
def WrP (w : World) (n t k ll lh : Int) (n1 n2 : Nat) (b1 b2 : List Nat) (err : Int) (e : Ending) (w' : World) : Prop :=
  ∃ A1 c1 A2 c2, e = .returned (.tuple #[.agg #[.int .i64 n, .int .i64 t, .int .i64 k, .int .i64 ll, .slice A1 n1 c1, .int .i64 lh, .slice A2 n2 c2], .int .i64 err]) ∧ Rd w' w'.heap.size A1 b1 ∧ Rd w' w'.heap.size A2 b2 ∧ Below w.heap.size w w'
theorem has_yes (n t : Nat) (hn : n ≤ 300) (ht : t ≤ 1048576) (kw ll : Int) (A1 : Option Addr) (c1 : Nat) (bs1 : List Nat) (hb1 : ∀ b ∈ bs1, b < 256) (lh : Int) (A2 : Option Addr) (c2 : Nat) (bs2 : List Nat) (hb2 : ∀ b ∈ bs2, b < 256) (w : World) (hs : hsB n t kw ll bs1 lh bs2) (h1 : Rd w w.heap.size A1 bs1) (h2 : Rd w w.heap.size A2 bs2) :
    Calls Tryz.prog 203 #[.agg #[.int .i64 (n : Int), .int .i64 (t : Int), .int .i64 kw, .int .i64 ll, .slice A1 bs1.length c1, .int .i64 lh, .slice A2 bs2.length c2]] w fun e w' => e = .returned (.bool true) ∧ Below w.heap.size w w' := by
  have hk := fw_bound n t ht
  have HS := fun V => shape_ok n t _ rfl hn ht V
  have HL := fun V => lowLen_ok n t (fnw n t) _ rfl hn hk V
  have HH := fun V => highLen_ok n t (fnw n t) _ rfl hn ht hk V
  have HR := fun V (hV : Below w.heap.size w V) => rank_any lh A2 c2 bs2 hb2 lh V (h2.on hV)
  have HC := fun V (hV : Below w.heap.size w V) => check_any ll A1 c1 bs1 V hb1 (h1.on hV)
  obtain ⟨e1, e2, e3, e4, e5, e6⟩ := hs
  have hlh : (0 : Int) ≤ lh := by rw [e3]; exact Int.natCast_nonneg _
  have hrk : rkE lh bs2 lh = chk lh bs2 := by
    unfold rkE rgE
    rw [show decide (0 ≤ lh) = true by simpa using hlh, show decide (lh ≤ lh) = true by simp]
    simp
  have hrn : rkN lh bs2 lh = cnt (unpack lh.toNat bs2) := by
    unfold rkN
    rw [if_pos (by rw [hrk, e4]), List.take_of_length_le (by rw [unpack_length]; omega)]
  rw [hrk, hrn, e4] at HR
  have hd : (chk ll bs1 == 0) = true := by rw [e6]; rfl
  exact has_F n t _ _ _ _ kw ll lh 0 (chk ll bs1) _ A1 A2 _ c1 _ c2 w HS HL HH HR HC e1 e2 e3 rfl (by rw [e5]) hd
theorem fread_w (l : List Nat) (n t k : Nat) (hn : l.length = n) (hn3 : n ≤ 300) (ht : t ≤ 1048576) (hle : ∀ x ∈ l, x ≤ t) (hu : Up 0 l) (hk : fnw n t = k) (hz : n + t / 2 ^ k + 1 ≤ 8192) (A1 : Option Addr) (c1 : Nat) (A2 : Option Addr) (c2 : Nat) (w : World) (h1 : Rd w w.heap.size A1 (pack (loP k l))) (h2 : Rd w w.heap.size A2 (pack (fhi k l t))) :
    Calls Tryz.prog 165 #[.agg #[.int .i64 (n : Int), .int .i64 (t : Int), .int .i64 (k : Int), .int .i64 ((loP k l).length : Int), .slice A1 (pack (loP k l)).length c1, .int .i64 ((fhi k l t).length : Int), .slice A2 (pack (fhi k l t)).length c2]] w (RdPf w n (ns l) 0) := by
  have hk20 : k ≤ 20 := by rw [← hk]; exact fw_bound n t ht
  have hll : n * k ≤ 300 * 20 := Nat.mul_le_mul hn3 hk20
  have q1 : (loP k l).length ≤ 8192 := by rw [loP_len, hn]; omega
  have q2 : (fhi k l t).length ≤ 8192 := by rw [fhi_len k l t hu hle, hn]; omega
  have hs : hsB n t (k : Int) ((loP k l).length : Int) (pack (loP k l)) ((fhi k l t).length : Int) (pack (fhi k l t)) :=
    ⟨by rw [hk], by rw [hk, loP_len, hn], by rw [hk, fhi_len k l t hu hle, hn]; rfl, chk_pack _ q2, by rw [Int.toNat_natCast, unpack_pack, fhi_cnt, hn], chk_pack _ q1⟩
  have hf : fE (ns l) (t : Int) = 0 := fE_ok ht (by omega) hle hu
  have hfd : fdec k (loP k l) (fhi k l t) = l := fdec_write k l t hu
  have HNd : Hid (∀ V, Calls Tryz.prog 49 #[.int .i64 (t : Int)] V fun e w' => e = .returned (.bool true) ∧ V = w') := fun V => by
    have := node_any (t : Int) V
    rwa [okN_nat t ht] at this
  have HHs := fun V (hV : Below w.heap.size w V) => has_yes n t hn3 ht (k : Int) ((loP k l).length : Int) A1 c1 (pack (loP k l)) (pack_lt _) ((fhi k l t).length : Int) A2 c2 (pack (fhi k l t)) (pack_lt _) V hs (h1.on hV) (h2.on hV)
  have hcn : cnt (fhi k l t) = n := by rw [fhi_cnt, hn]
  have hdec := elL_dec k n hk20 (loP k l) (fhi k l t) (by rw [loP_len, hn]) q1 hcn q2
  rw [hfd] at hdec
  have HDc := fun V (hV : Below w.heap.size w V) => decode_any (n : Int) (t : Int) k hk20 ((loP k l).length : Int) A1 c1 (pack (loP k l)) (pack_lt _) (fhi k l t) q2 A2 c2 V (h1.on hV) (h2.on hV) _ hdec _ rfl
  have HCk := fun A c V (hV : RdV V V.heap.size A (zc (ns l))) => fcheck_any (ns l) _ rfl (by rw [ns_length]; omega) (t : Int) A c V hV
  exact fread_c (n : Int) (t : Int) _ _ _ A1 A2 _ c1 _ c2 w HNd (by simp) (by simp; omega) _ _ false _ (by rw [hf]; rfl) _ _ _ (.inr ⟨rfl, by rw [ns_length, hn], rfl, rfl⟩) HHs HDc HCk
theorem fget_w (l : List Nat) (n t k : Nat) (hn : l.length = n) (hn3 : n ≤ 300) (ht : t ≤ 1048576) (hle : ∀ x ∈ l, x ≤ t) (hu : Up 0 l) (hk : fnw n t = k) (hz : n + t / 2 ^ k + 1 ≤ 8192) (i : Nat) (hi : i < n) (x : Nat) (hx : l[i]?.getD 0 = x) (A1 : Option Addr) (c1 : Nat) (A2 : Option Addr) (c2 : Nat) (w : World) (h1 : Rd w w.heap.size A1 (pack (loP k l))) (h2 : Rd w w.heap.size A2 (pack (fhi k l t))) :
    Calls Tryz.prog 122 #[.agg #[.int .i64 (n : Int), .int .i64 (t : Int), .int .i64 (k : Int), .int .i64 ((loP k l).length : Int), .slice A1 (pack (loP k l)).length c1, .int .i64 ((fhi k l t).length : Int), .slice A2 (pack (fhi k l t)).length c2], .int .i64 (i : Int)] w (RkP w x 0) :=
  fget_ok l _ _ _ _ _ A1 A2 _ c1 _ c2 n hn rfl i hi x hx w (fun U hU => fread_w l n t k hn hn3 ht hle hu hk hz A1 c1 A2 c2 U (h1.on hU) (h2.on hU))
end
end Go.Proofs.YtbddcokjkdoaaaaGreat
