/- What graph.Of answers, for whatever it is handed. -/
import Derived.Test.YtnbjhldpadjgfaaWWa
import Derived.Test.YtnbjhldpadjgfaaWVal
import Derived.Test.YtnbjhldpadjgfaaWCkB
namespace Go.Proofs.Ytnbjhldpadjgfaa
set_option maxRecDepth 100000
set_option linter.unusedVariables false
open Go.RowKit Go.Shelf

/-- A graph and an error come back. -/
def GrP (w : World) (g : List (List Nat)) (err : Int) (e : Ending) (w' : World) : Prop :=
  ∃ A R c, e = .returned (.tuple #[.agg #[.slice A g.length c], .int .i64 err]) ∧ gs R = g.map ns ∧ RdG w' w'.heap.size A R ∧ Below w.heap.size w w'
theorem rdg_nil (w : World) : RdG w w.heap.size none [] := ⟨.inl rfl, fun r hr => by simp at hr⟩
/-- The error that graph.Of finds. -/
def ofE (n : Int) (l : List Ri) : Int := if ¬ (0 ≤ n ∧ n ≤ 100) then 3 else if 600 < l.length then 2 else caE n [] l
theorem res_box {w V : World} (h : Below (w.heap.size + 1) (w.alloc (.cells #[.slice none 0 0] 24)) V) : V.cell? ⟨w.heap.size, 0, none⟩ = some (.slice none 0 0) ∧ V.frozen? ⟨w.heap.size, 0, none⟩ = false ∧ w.heap.size < V.heap.size := by
  have e := (h.block w.heap.size (by omega)).trans (World.alloc_heap_new w (.cells #[.slice none 0 0] 24))
  exact ⟨(cell_at e 0).trans rfl, frz_at e 0, (Array.getElem?_eq_some_iff.1 e).1⟩
/-- The result, stored in its cell. -/
theorem res_set {w V : World} (h : Below (w.heap.size + 1) (w.alloc (.cells #[.slice none 0 0] 24)) V) (x : Value) : (V.setCell ⟨w.heap.size, 0, none⟩ x).cell? ⟨w.heap.size, 0, none⟩ = some x ∧ Below w.heap.size w (V.setCell ⟨w.heap.size, 0, none⟩ x) := by
  have e := (h.block w.heap.size (by omega)).trans (World.alloc_heap_new w (.cells #[.slice none 0 0] 24))
  refine ⟨?_, ?_⟩
  · rw [cell_at (heap_set_same _ _ _ _ _ _ e)]; simp
  · exact ((one_below w _).trans (h.mono (by omega))).setCell (p := ⟨w.heap.size, 0, none⟩) (Nat.le_refl _) x
theorem rdg_set {V : World} {B : Nat} {A : Option Addr} {R : List Rw} {W : World} (h : RdG V B A R) (hb : ∀ k, k < B → W.heap[k]? = V.heap[k]?) (hB : B ≤ W.heap.size) : RdG W W.heap.size A R := h.keep hB hb
set_option maxHeartbeats 1000000 in
theorem gof_range (n : Int) (hn : ¬ (0 ≤ n ∧ n ≤ 100)) (A : Option Addr) (m c : Nat) (w : World) :
    Calls Try.prog 17 #[.int .i64 n, .slice A m c] w (GrP w [] 3) := by
  obtain ⟨b1, hb1⟩ : ∃ b, decide (0 ≤ n) = b := ⟨_, rfl⟩
  obtain ⟨b2, hb2⟩ : ∃ b, decide (n ≤ 100) = b := ⟨_, rfl⟩
  have hr : rgE 0 [b1, b2] = 3 := by
    have : b1 = false ∨ b2 = false := by
      by_cases h : 0 ≤ n
      · right; rw [← hb2]; simp; omega
      · left; rw [← hb1]; simp; omega
    rcases this with rfl | rfl
    · cases b2 <;> rfl
    · cases b1 <;> rfl
  have HR := Lib.hid (range2 0 b1 b2 3 hr (w.alloc (.cells #[.slice none 0 0] 24)) (w.heap.size + 1) (World.size_alloc _ _))
  clear hn hr
  go_enter Try.func17, Try.ntmps17
  go_wp2_with fail
  refine HR.out.mono ?_
  rintro e w1 ⟨rfl, b1⟩
  rw [World.size_alloc] at b1
  obtain ⟨kr, kf, kz⟩ := res_box b1
  have HS := Lib.hid (res_set b1 (.slice none 0 0))
  have kr2 := HS.out.1
  clear b1
  go_wp2
  refine bodyPost_ret (v := .tuple #[.agg #[.slice none 0 0], .int .i64 3]) (by simp [results, Try.results17, go_sem, kr2]) rfl ?_
  exact ⟨none, [], 0, rfl, rfl, rdg_nil _, HS.out.2⟩
theorem rg_yes (n : Nat) (h : n ≤ 100) (w : World) : Calls Try.prog 41 #[.int .i64 0, .slice (some ⟨w.heap.size + 1, 0, none⟩) 2 2] ((w.alloc (.cells #[.slice none 0 0] 24)).alloc (.cells #[.bool true, .bool true] 4)) fun x w' => x = .returned (.int .i64 0) ∧ Below (w.heap.size + 1) (w.alloc (.cells #[.slice none 0 0] 24)) w' := by
  have := range2 0 true true 0 rfl (w.alloc (.cells #[.slice none 0 0] 24)) (w.heap.size + 1) (World.size_alloc _ _)
  rwa [World.size_alloc] at this
set_option maxHeartbeats 1000000 in
theorem gof_many (n : Nat) (hn : n ≤ 100) (A : Option Addr) (m c : Nat) (hm : 600 < m) (w : World) :
    Calls Try.prog 17 #[.int .i64 (n : Int), .slice A m c] w (GrP w [] 2) := by
  have HR := Lib.hid (rg_yes n hn w)
  have t1 : decide ((0 : Int) ≤ (n : Int)) = true := by simp
  have t2 : decide ((n : Int) ≤ 100) = true := by simp; omega
  have t3 : decide ((600 : Int) < (m : Int)) = true := by simp; omega
  go_enter Try.func17, Try.ntmps17
  go_wp2_with fail
  refine HR.out.mono ?_
  rintro e w1 ⟨rfl, b1⟩
  obtain ⟨kr, kf, kz⟩ := res_box b1
  have HS := Lib.hid (res_set b1 (.slice none 0 0))
  have kr2 := HS.out.1
  clear b1
  go_wp2
  refine bodyPost_ret (v := .tuple #[.agg #[.slice none 0 0], .int .i64 2]) (by simp [results, Try.results17, go_sem, kr2]) rfl ?_
  exact ⟨none, [], 0, rfl, rfl, rdg_nil _, HS.out.2⟩
set_option maxHeartbeats 1000000 in
theorem gof_arcs (n : Nat) (hn : n ≤ 100) (l : List Ri) (m : Nat) (hl : l.length = m) (hm : m ≤ 600) (e0 : Int) (he : caE (n : Int) [] l = e0) (h0 : e0 ≠ 0) (A : Option Addr) (c : Nat) (w : World) (h : RdV w w.heap.size A (rcs l)) :
    Calls Try.prog 17 #[.int .i64 (n : Int), .slice A m c] w (GrP w [] e0) := by
  have HR := Lib.hid (rg_yes n hn w)
  have t1 : decide ((0 : Int) ≤ (n : Int)) = true := by simp
  have t2 : decide ((n : Int) ≤ 100) = true := by simp; omega
  have t3 : decide ((600 : Int) < (m : Int)) = false := by simp; omega
  have t4 : (e0 == 0) = false := by simpa using h0
  have HC : Hid (∀ V, Below w.heap.size w V → Calls Try.prog 42 #[.slice A m c, .func (.func 80) #[] #[.pointer (some ⟨V.heap.size, 0, none⟩)]] (V.alloc (.cells #[.int .i64 (n : Int)] 3)) fun e w' => e = .returned (.int .i64 e0) ∧ Below V.heap.size V w') := fun V hV => by
    have := ckarcs_any (n : Int) (by omega) V.heap.size l m hl hm A c (V.alloc (.cells #[.int .i64 (n : Int)] 3)) ((h.on hV).on (one_below V _)) (World.alloc_heap_new V _)
    rw [he] at this
    exact this.mono fun e w' q => ⟨q.1, (one_below V _).trans (q.2.mono (by simp))⟩
  clear hl he h0 h
  go_enter Try.func17, Try.ntmps17
  go_wp2_with fail
  refine HR.out.mono ?_
  rintro e w1 ⟨rfl, b1⟩
  have hz1 := b1.size
  rw [World.size_alloc] at hz1
  have HB := Lib.hid b1
  clear b1
  go_wp2_with fail
  refine (isnodeof_any (n : Int) w1).mono ?_
  rintro e w2 ⟨rfl, rfl⟩
  go_wp2_with fail
  refine (HC.out w1 ((one_below w _).trans (HB.out.mono (by omega)))).mono ?_
  rintro e w3 ⟨rfl, b3⟩
  have b3' := HB.out.trans (b3.mono hz1)
  obtain ⟨kr, kf, kz⟩ := res_box b3'
  have HS := Lib.hid (res_set b3' (.slice none 0 0))
  have kr2 := HS.out.1
  clear b3 b3'
  go_wp2
  refine bodyPost_ret (v := .tuple #[.agg #[.slice none 0 0], .int .i64 e0]) (by simp [results, Try.results17, go_sem, kr2]) rfl ?_
  exact ⟨none, [], 0, rfl, rfl, rdg_nil _, HS.out.2⟩
set_option maxHeartbeats 1000000 in
theorem gof_ok (n : Nat) (hn : n ≤ 100) (L : List Ar) (hnd : L.Nodup) (hbd : ∀ a ∈ L, a.1 < n ∧ a.2 < n) (m : Nat) (hl : L.length = m) (hm : m ≤ 600) (A : Option Addr) (c : Nat) (w : World) (h : RdV w w.heap.size A (acs L)) :
    Calls Try.prog 17 #[.int .i64 (n : Int), .slice A m c] w (GrP w (wa n L) 0) := by
  have HR := Lib.hid (rg_yes n hn w)
  have t1 : decide ((0 : Int) ≤ (n : Int)) = true := by simp
  have t2 : decide ((n : Int) ≤ 100) = true := by simp; omega
  have t3 : decide ((600 : Int) < (m : Int)) = false := by simp; omega
  have HC : Hid (∀ V, Below w.heap.size w V → Calls Try.prog 42 #[.slice A m c, .func (.func 80) #[] #[.pointer (some ⟨V.heap.size, 0, none⟩)]] (V.alloc (.cells #[.int .i64 (n : Int)] 3)) fun e w' => e = .returned (.int .i64 0) ∧ Below V.heap.size V w') := fun V hV => by
    have := ckarcs_any (n : Int) (by omega) V.heap.size (rz L) m (by rw [rz_length]; exact hl) hm A c (V.alloc (.cells #[.int .i64 (n : Int)] 3)) ((h.on hV).on (one_below V _)) (World.alloc_heap_new V _)
    rw [caE_ok (n : Int) L [] (by simpa using hnd) (fun a ha => by have := hbd a ha; omega)] at this
    exact this.mono fun e w' q => ⟨q.1, (one_below V _).trans (q.2.mono (by simp))⟩
  have HW : Hid (∀ V, Below w.heap.size w V → Calls Try.prog 44 #[.int .i64 (n : Int), .func (.func 82) #[] #[.pointer (some ⟨V.heap.size, 0, none⟩)]] (V.alloc (.cells #[.slice A m c] 30)) fun e w' => ∃ A2 R c2, e = .returned (.agg #[.slice A2 n c2]) ∧ gs R = (wa n L).map ns ∧ RdH (V.heap.size + 1) w' A2 R ∧ Below V.heap.size V w') := fun V hV => by
    refine (witharcs_in 82 #[.pointer (some ⟨V.heap.size, 0, none⟩)] L (by omega) (fun ys => ys = L) (fun M hM => by rw [hM]) n hn (fun a ha => (hbd a ha).1) hnd (V.alloc (.cells #[.slice A m c] 30)) entersVals1 (fun pre => pre <+: L) (fun X hX => ?_)).mono ?_
    · refine SeqStrong.of_K (Kp := Below (V.alloc (.cells #[.slice A m c] 30)).heap.size) (fun _ _ q => q.1) (vals_stops 4 (by omega) V.heap.size (V.alloc (.cells #[.slice A m c] 30)).heap.size m c A L hl (by omega) X hX.size ((hX.block _ (by simp)).trans (World.alloc_heap_new V _)) (((h.on hV).on (one_below V _)).below hX (Nat.le_refl _)))
    · rintro e w' ⟨A2, R, c2, rfl, q1, q2, q3⟩
      rw [wa_length]
      rw [World.size_alloc] at q2
      exact ⟨A2, R, c2, rfl, q1, q2, (one_below V _).trans (q3.mono (by simp))⟩
  have HL := Lib.hid (wa_length n L)
  clear hl h hnd hbd
  go_enter Try.func17, Try.ntmps17
  go_wp2_with fail
  refine HR.out.mono ?_
  rintro e w1 ⟨rfl, b1⟩
  have hz1 := b1.size
  rw [World.size_alloc] at hz1
  have HB := Lib.hid b1
  clear b1
  go_wp2_with fail
  refine (isnodeof_any (n : Int) w1).mono ?_
  rintro e w2 ⟨rfl, rfl⟩
  go_wp2_with fail
  refine (HC.out w1 ((one_below w _).trans (HB.out.mono (by omega)))).mono ?_
  rintro e w3 ⟨rfl, b3⟩
  have HB3 : Hid (Below (w.heap.size + 1) (w.alloc (.cells #[.slice none 0 0] 24)) w3 ∧ w.heap.size + 1 ≤ w3.heap.size) := ⟨HB.out.trans (b3.mono hz1), by have := b3.size; omega⟩
  clear b3
  go_wp2_with fail
  refine (vals_in A m c w3).mono ?_
  rintro e w4 ⟨rfl, rfl⟩
  go_wp2_with fail
  refine (HW.out w3 ((one_below w _).trans (HB3.out.1.mono (by omega)))).mono ?_
  rintro e w5 ⟨A2, R, c2, rfl, q1, q2, b5⟩
  have b5' := HB3.out.1.trans (b5.mono HB3.out.2)
  obtain ⟨kr, kf, kz⟩ := res_box b5'
  have HS := Lib.hid (res_set b5' (.slice A2 n c2))
  have HQ : Hid (gs R = (wa n L).map ns ∧ RdG (w5.setCell ⟨w.heap.size, 0, none⟩ (.slice A2 n c2)) (w5.setCell ⟨w.heap.size, 0, none⟩ (.slice A2 n c2)).heap.size A2 R) := ⟨q1, q2 _ (fun k hk _ => Below.heap_setCell _ _ _ _ (by have := HB3.out.2; show k ≠ w.heap.size; omega)) (by simp [World.setCell])⟩
  have kr2 := HS.out.1
  clear b5 b5' q1 q2
  go_wp2
  refine bodyPost_ret (v := .tuple #[.agg #[.slice A2 n c2], .int .i64 0]) (by simp [results, Try.results17, go_sem, kr2]) rfl ?_
  exact ⟨A2, R, c2, by rw [HL.out], HQ.out.1, HQ.out.2, HS.out.2⟩
end Go.Proofs.Ytnbjhldpadjgfaa
