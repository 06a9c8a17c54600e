/- What must be in any case of parts, and its calls in letters. -/
import Derived.Test.YtfcmjjmlijidcaaJQQBlk
import Derived.Test.YtfcmjjmlijidcaaJQNSame
import Derived.Deep.RegionHeld3
namespace Go.Proofs.Ytfcmjjmlijidcaa
set_option maxRecDepth 100000
set_option linter.unusedVariables false
open Go.RowKit Go.Shelf

theorem rsL5 : Rising [1, 2, 5, 7, 9] := ⟨by decide, by decide, by decide, by decide, by decide, by decide, by decide, by decide, by decide, by decide, by decide, trivial⟩
theorem rsL4 : Rising [1, 2, 3, 9] := ⟨by decide, by decide, by decide, by decide, by decide, by decide, by decide, by decide, by decide, trivial⟩
theorem rsL1 : Rising [4] := ⟨by decide, by decide, by decide, trivial⟩
theorem bok22 : BOk [2, 2] 5 := ⟨by decide, by decide, by decide⟩
theorem up2z (w : World) (o p : Obj) : ((w.alloc o).alloc p).heap.size = w.heap.size + 2 := by simp
theorem up2b (w : World) (o p : Obj) : Below w.heap.size w ((w.alloc o).alloc p) := ((Below.refl _ w).alloc (Nat.le_refl _) _).alloc (by simp) _
theorem rdz_new1 (w : World) (l m : List Nat) : RdV ((w.alloc (.cells (zc (ns l)).toArray 3)).alloc (.cells (zc (ns m)).toArray 3)) ((w.alloc (.cells (zc (ns l)).toArray 3)).alloc (.cells (zc (ns m)).toArray 3)).heap.size (some ⟨w.heap.size, 0, none⟩) (zc (ns l)) := (rdz_new w l).on (one_below _ _)
theorem rdz_new2 (w : World) (l m : List Nat) : RdV ((w.alloc (.cells (zc (ns l)).toArray 3)).alloc (.cells (zc (ns m)).toArray 3)) ((w.alloc (.cells (zc (ns l)).toArray 3)).alloc (.cells (zc (ns m)).toArray 3)).heap.size (some ⟨w.heap.size + 1, 0, none⟩) (zc (ns m)) := by
  have := rdz_new (w.alloc (.cells (zc (ns l)).toArray 3)) m
  rwa [World.size_alloc w] at this
theorem pb1 (w : World) : Calls Try.prog 12 #[.slice (some ⟨w.heap.size, 0, none⟩) 5 5, .slice (some ⟨w.heap.size + 1, 0, none⟩) 4 4] ((w.alloc (.cells #[.int .i64 1, .int .i64 2, .int .i64 5, .int .i64 7, .int .i64 9] 3)).alloc (.cells #[.int .i64 1, .int .i64 2, .int .i64 3, .int .i64 9] 3)) (TwoI ((w.alloc (.cells #[.int .i64 1, .int .i64 2, .int .i64 5, .int .i64 7, .int .i64 9] 3)).alloc (.cells #[.int .i64 1, .int .i64 2, .int .i64 3, .int .i64 9] 3)) [2, 2] [3] 0) :=
  blocks_in [1, 2, 5, 7, 9] [1, 2, 3, 9] rsL5 rsL4 5 4 rfl rfl [2, 2] [3] (by decide +kernel) (by decide +kernel) _ _ 5 4 _ (rdz_new1 w [1, 2, 5, 7, 9] [1, 2, 3, 9]) (rdz_new2 w [1, 2, 5, 7, 9] [1, 2, 3, 9])
theorem pb2 (A : Option Addr) (c : Nat) (w : World) (h : RdV w w.heap.size A (zc (ns [2, 2]))) : Calls Try.prog 13 #[.slice (some ⟨w.heap.size, 0, none⟩) 5 5, .slice A 2 c] (w.alloc (.cells #[.int .i64 1, .int .i64 2, .int .i64 5, .int .i64 7, .int .i64 9] 3)) (IntsP (w.alloc (.cells #[.int .i64 1, .int .i64 2, .int .i64 5, .int .i64 7, .int .i64 9] 3)) [1, 2, 9] 0) :=
  copy_in [1, 2, 5, 7, 9] rsL5 5 rfl [2, 2] 2 rfl bok22 [1, 2, 9] (by decide +kernel) _ A 5 c (fun h => by cases h) (by decide) _ (rdz_new w [1, 2, 5, 7, 9]) (h.on (one_below w _))
theorem pb3 (A B : Option Addr) (c d : Nat) (hB : B = none → d = 0) (w : World) (h : RdV w w.heap.size A (zc (ns [2, 2]))) (h2 : RdV w w.heap.size B (zc (ns [3]))) : Calls Try.prog 14 #[.slice (some ⟨w.heap.size, 0, none⟩) 5 5, .slice A 2 c, .slice B 1 d] (w.alloc (.cells #[.int .i64 1, .int .i64 2, .int .i64 5, .int .i64 7, .int .i64 9] 3)) (IntsP (w.alloc (.cells #[.int .i64 1, .int .i64 2, .int .i64 5, .int .i64 7, .int .i64 9] 3)) [1, 2, 3, 9] 0) := by
  have h := pjoin_any (ns [1, 2, 5, 7, 9]) 5 rfl (by decide) (ns [2, 2]) 2 rfl (by decide) (ns [3]) 1 rfl (by decide) _ A B 5 c d (fun h => by cases h) (by decide) hB _ (rdz_new w [1, 2, 5, 7, 9]) (h.on (one_below w _)) (h2.on (one_below w _))
  have e : jnA (ns [1, 2, 5, 7, 9]) (ns [2, 2]) (ns [3]) = ([1, 2, 3, 9], 0) := by decide +kernel
  rw [e] at h
  exact h
theorem pb4 (w : World) : Calls Try.prog 12 #[.slice (some ⟨w.heap.size, 0, none⟩) 1 1, .slice none 0 0] (w.alloc (.cells #[.int .i64 4] 3)) (TwoI (w.alloc (.cells #[.int .i64 4] 3)) [0] [] 0) :=
  blocks_in [4] [] rsL1 ⟨by decide, trivial⟩ 1 0 rfl rfl [0] [] (by decide +kernel) (by decide +kernel) _ _ 1 0 _ (rdz_new w [4]) (.inl rfl)
theorem pb5 (w : World) : Calls Try.prog 13 #[.slice (some ⟨w.heap.size, 0, none⟩) 1 1, .slice (some ⟨w.heap.size + 1, 0, none⟩) 1 1] ((w.alloc (.cells #[.int .i64 4] 3)).alloc (.cells #[.int .i64 2] 3)) (IntsP ((w.alloc (.cells #[.int .i64 4] 3)).alloc (.cells #[.int .i64 2] 3)) [] 8) :=
  copy_e (ns [4]) 1 rfl (by decide) (ns [2]) 1 rfl (by decide) 8 (by decide +kernel) (by decide) _ _ 1 1 _ (rdz_new1 w [4] [2]) (rdz_new2 w [4] [2])
theorem ps1 (A : Option Addr) (c : Nat) (w : World) (h : RdV w w.heap.size A (zc (ns [2, 2]))) : Calls Try.prog 20 #[.slice A 2 c, .slice (some ⟨w.heap.size, 0, none⟩) 2 2] (w.alloc (.cells #[.int .i64 2, .int .i64 2] 3)) fun e w' => e = .returned (.bool true) ∧ Below (w.alloc (.cells #[.int .i64 2, .int .i64 2] 3)).heap.size (w.alloc (.cells #[.int .i64 2, .int .i64 2] 3)) w' := by
  have h := sameI_l [2, 2] [2, 2] 2 2 rfl rfl (by decide) A _ c 2 _ (h.on (one_below w _)) (rdz_new w [2, 2])
  rw [show decide (([2, 2] : List Nat) = [2, 2]) = true from by decide] at h
  exact h
theorem ps2 (A : Option Addr) (c : Nat) (w : World) (h : RdV w w.heap.size A (zc (ns [3]))) : Calls Try.prog 20 #[.slice A 1 c, .slice (some ⟨w.heap.size, 0, none⟩) 1 1] (w.alloc (.cells #[.int .i64 3] 3)) fun e w' => e = .returned (.bool true) ∧ Below (w.alloc (.cells #[.int .i64 3] 3)).heap.size (w.alloc (.cells #[.int .i64 3] 3)) w' := by
  have h := sameI_l [3] [3] 1 1 rfl rfl (by decide) A _ c 1 _ (h.on (one_below w _)) (rdz_new w [3])
  rw [show decide (([3] : List Nat) = [3]) = true from by decide] at h
  exact h
theorem ps3 (A : Option Addr) (c : Nat) (w : World) (h : RdV w w.heap.size A (zc (ns [1, 2, 9]))) : Calls Try.prog 20 #[.slice A 3 c, .slice (some ⟨w.heap.size, 0, none⟩) 3 3] (w.alloc (.cells #[.int .i64 1, .int .i64 2, .int .i64 9] 3)) fun e w' => e = .returned (.bool true) ∧ Below (w.alloc (.cells #[.int .i64 1, .int .i64 2, .int .i64 9] 3)).heap.size (w.alloc (.cells #[.int .i64 1, .int .i64 2, .int .i64 9] 3)) w' := by
  have h := sameI_l [1, 2, 9] [1, 2, 9] 3 3 rfl rfl (by decide) A _ c 3 _ (h.on (one_below w _)) (rdz_new w [1, 2, 9])
  rw [show decide (([1, 2, 9] : List Nat) = [1, 2, 9]) = true from by decide] at h
  exact h
theorem ps4 (A : Option Addr) (c : Nat) (w : World) (h : RdV w w.heap.size A (zc (ns [1, 2, 3, 9]))) : Calls Try.prog 20 #[.slice A 4 c, .slice (some ⟨w.heap.size, 0, none⟩) 4 4] (w.alloc (.cells #[.int .i64 1, .int .i64 2, .int .i64 3, .int .i64 9] 3)) fun e w' => e = .returned (.bool true) ∧ Below (w.alloc (.cells #[.int .i64 1, .int .i64 2, .int .i64 3, .int .i64 9] 3)).heap.size (w.alloc (.cells #[.int .i64 1, .int .i64 2, .int .i64 3, .int .i64 9] 3)) w' := by
  have h := sameI_l [1, 2, 3, 9] [1, 2, 3, 9] 4 4 rfl rfl (by decide) A _ c 4 _ (h.on (one_below w _)) (rdz_new w [1, 2, 3, 9])
  rw [show decide (([1, 2, 3, 9] : List Nat) = [1, 2, 3, 9]) = true from by decide] at h
  exact h
theorem ps5 (A : Option Addr) (c : Nat) (w : World) (h : RdV w w.heap.size A (zc (ns [0]))) : Calls Try.prog 20 #[.slice A 1 c, .slice (some ⟨w.heap.size, 0, none⟩) 1 1] (w.alloc (.cells #[.int .i64 0] 3)) fun e w' => e = .returned (.bool true) ∧ Below (w.alloc (.cells #[.int .i64 0] 3)).heap.size (w.alloc (.cells #[.int .i64 0] 3)) w' := by
  have h := sameI_l [0] [0] 1 1 rfl rfl (by decide) A _ c 1 _ (h.on (one_below w _)) (rdz_new w [0])
  rw [show decide (([0] : List Nat) = [0]) = true from by decide] at h
  exact h
set_option maxHeartbeats 4000000 in
theorem partsbegun_true (w : World) : Calls Try.prog 19 #[] w fun e w' => e = .returned (.bool true) ∧ Below w.heap.size w w' := by
  go_enter Try.func19, Try.ntmps19
  go_wp2_with fail
  refine (pb1 w).mono ?_
  rintro e w1_ ⟨A1, c1, A2, c2, rfl, -, ⟨-, hA2⟩, Rq, Rq2, Bq⟩
  have Sq : Below w.heap.size w w1_ := (up2b w _ _).trans (Bq.mono (by rw [up2z]; omega))
  have HB : Hid (Below w.heap.size w w1_) := Sq
  clear Bq Sq
  have HR1 := Lib.hid Rq; clear Rq
  have HR2 := Lib.hid Rq2; clear Rq2
  go_wp2_with fail
  refine (pb2 A1 c1 w1_ HR1.out).mono ?_
  rintro e w2_ ⟨A3, c3, rfl, -, -, Rq, Bq⟩
  rw [World.size_alloc] at Bq
  have Sq : Below w1_.heap.size w1_ w2_ := (one_below w1_ _).trans (Bq.mono (by omega))
  replace HR1 : Hid (RdV w2_ w2_.heap.size A1 (zc (ns [2, 2]))) := HR1.out.on Sq
  replace HR2 : Hid (RdV w2_ w2_.heap.size A2 (zc (ns [3]))) := HR2.out.on Sq
  replace HB : Hid (Below w.heap.size w w2_) := HB.out.trans (Sq.mono HB.out.size)
  clear Bq Sq
  have HR3 := Lib.hid Rq; clear Rq
  go_wp2_with fail
  refine (pb3 A1 A2 c1 c2 hA2 w2_ HR1.out HR2.out).mono ?_
  rintro e w3_ ⟨A4, c4, rfl, -, -, Rq, Bq⟩
  rw [World.size_alloc] at Bq
  have Sq : Below w2_.heap.size w2_ w3_ := (one_below w2_ _).trans (Bq.mono (by omega))
  replace HR1 : Hid (RdV w3_ w3_.heap.size A1 (zc (ns [2, 2]))) := HR1.out.on Sq
  replace HR2 : Hid (RdV w3_ w3_.heap.size A2 (zc (ns [3]))) := HR2.out.on Sq
  replace HR3 : Hid (RdV w3_ w3_.heap.size A3 (zc (ns [1, 2, 9]))) := HR3.out.on Sq
  replace HB : Hid (Below w.heap.size w w3_) := HB.out.trans (Sq.mono HB.out.size)
  clear Bq Sq
  have HR4 := Lib.hid Rq; clear Rq
  go_wp2_with fail
  refine (pb4 w3_).mono ?_
  rintro e w4_ ⟨A5, c5, A6, c6, rfl, -, -, Rq, -, Bq⟩
  rw [World.size_alloc] at Bq
  have Sq : Below w3_.heap.size w3_ w4_ := (one_below w3_ _).trans (Bq.mono (by omega))
  replace HR1 : Hid (RdV w4_ w4_.heap.size A1 (zc (ns [2, 2]))) := HR1.out.on Sq
  replace HR2 : Hid (RdV w4_ w4_.heap.size A2 (zc (ns [3]))) := HR2.out.on Sq
  replace HR3 : Hid (RdV w4_ w4_.heap.size A3 (zc (ns [1, 2, 9]))) := HR3.out.on Sq
  replace HR4 : Hid (RdV w4_ w4_.heap.size A4 (zc (ns [1, 2, 3, 9]))) := HR4.out.on Sq
  replace HB : Hid (Below w.heap.size w w4_) := HB.out.trans (Sq.mono HB.out.size)
  clear Bq Sq
  have HR5 := Lib.hid Rq; clear Rq
  go_wp2_with fail
  refine (pb5 w4_).mono ?_
  rintro e w5_ ⟨A7, c7, rfl, -, -, -, Bq⟩
  have Sq : Below w4_.heap.size w4_ w5_ := (up2b w4_ _ _).trans (Bq.mono (by rw [up2z]; omega))
  replace HR1 : Hid (RdV w5_ w5_.heap.size A1 (zc (ns [2, 2]))) := HR1.out.on Sq
  replace HR2 : Hid (RdV w5_ w5_.heap.size A2 (zc (ns [3]))) := HR2.out.on Sq
  replace HR3 : Hid (RdV w5_ w5_.heap.size A3 (zc (ns [1, 2, 9]))) := HR3.out.on Sq
  replace HR4 : Hid (RdV w5_ w5_.heap.size A4 (zc (ns [1, 2, 3, 9]))) := HR4.out.on Sq
  replace HR5 : Hid (RdV w5_ w5_.heap.size A5 (zc (ns [0]))) := HR5.out.on Sq
  replace HB : Hid (Below w.heap.size w w5_) := HB.out.trans (Sq.mono HB.out.size)
  clear Bq Sq
  go_wp2_with fail
  refine (ps1 A1 c1 w5_ HR1.out).mono ?_
  rintro e w6_ ⟨rfl, Bq⟩
  rw [World.size_alloc] at Bq
  have Sq : Below w5_.heap.size w5_ w6_ := (one_below w5_ _).trans (Bq.mono (by omega))
  replace HR1 : Hid (RdV w6_ w6_.heap.size A1 (zc (ns [2, 2]))) := HR1.out.on Sq
  replace HR2 : Hid (RdV w6_ w6_.heap.size A2 (zc (ns [3]))) := HR2.out.on Sq
  replace HR3 : Hid (RdV w6_ w6_.heap.size A3 (zc (ns [1, 2, 9]))) := HR3.out.on Sq
  replace HR4 : Hid (RdV w6_ w6_.heap.size A4 (zc (ns [1, 2, 3, 9]))) := HR4.out.on Sq
  replace HR5 : Hid (RdV w6_ w6_.heap.size A5 (zc (ns [0]))) := HR5.out.on Sq
  replace HB : Hid (Below w.heap.size w w6_) := HB.out.trans (Sq.mono HB.out.size)
  clear Bq Sq
  go_wp2_with fail
  refine (ps2 A2 c2 w6_ HR2.out).mono ?_
  rintro e w7_ ⟨rfl, Bq⟩
  rw [World.size_alloc] at Bq
  have Sq : Below w6_.heap.size w6_ w7_ := (one_below w6_ _).trans (Bq.mono (by omega))
  replace HR1 : Hid (RdV w7_ w7_.heap.size A1 (zc (ns [2, 2]))) := HR1.out.on Sq
  replace HR2 : Hid (RdV w7_ w7_.heap.size A2 (zc (ns [3]))) := HR2.out.on Sq
  replace HR3 : Hid (RdV w7_ w7_.heap.size A3 (zc (ns [1, 2, 9]))) := HR3.out.on Sq
  replace HR4 : Hid (RdV w7_ w7_.heap.size A4 (zc (ns [1, 2, 3, 9]))) := HR4.out.on Sq
  replace HR5 : Hid (RdV w7_ w7_.heap.size A5 (zc (ns [0]))) := HR5.out.on Sq
  replace HB : Hid (Below w.heap.size w w7_) := HB.out.trans (Sq.mono HB.out.size)
  clear Bq Sq
  go_wp2_with fail
  refine (ps3 A3 c3 w7_ HR3.out).mono ?_
  rintro e w8_ ⟨rfl, Bq⟩
  rw [World.size_alloc] at Bq
  have Sq : Below w7_.heap.size w7_ w8_ := (one_below w7_ _).trans (Bq.mono (by omega))
  replace HR1 : Hid (RdV w8_ w8_.heap.size A1 (zc (ns [2, 2]))) := HR1.out.on Sq
  replace HR2 : Hid (RdV w8_ w8_.heap.size A2 (zc (ns [3]))) := HR2.out.on Sq
  replace HR3 : Hid (RdV w8_ w8_.heap.size A3 (zc (ns [1, 2, 9]))) := HR3.out.on Sq
  replace HR4 : Hid (RdV w8_ w8_.heap.size A4 (zc (ns [1, 2, 3, 9]))) := HR4.out.on Sq
  replace HR5 : Hid (RdV w8_ w8_.heap.size A5 (zc (ns [0]))) := HR5.out.on Sq
  replace HB : Hid (Below w.heap.size w w8_) := HB.out.trans (Sq.mono HB.out.size)
  clear Bq Sq
  go_wp2_with fail
  refine (ps4 A4 c4 w8_ HR4.out).mono ?_
  rintro e w9_ ⟨rfl, Bq⟩
  rw [World.size_alloc] at Bq
  have Sq : Below w8_.heap.size w8_ w9_ := (one_below w8_ _).trans (Bq.mono (by omega))
  replace HR1 : Hid (RdV w9_ w9_.heap.size A1 (zc (ns [2, 2]))) := HR1.out.on Sq
  replace HR2 : Hid (RdV w9_ w9_.heap.size A2 (zc (ns [3]))) := HR2.out.on Sq
  replace HR3 : Hid (RdV w9_ w9_.heap.size A3 (zc (ns [1, 2, 9]))) := HR3.out.on Sq
  replace HR4 : Hid (RdV w9_ w9_.heap.size A4 (zc (ns [1, 2, 3, 9]))) := HR4.out.on Sq
  replace HR5 : Hid (RdV w9_ w9_.heap.size A5 (zc (ns [0]))) := HR5.out.on Sq
  replace HB : Hid (Below w.heap.size w w9_) := HB.out.trans (Sq.mono HB.out.size)
  clear Bq Sq
  go_wp2_with fail
  refine (ps5 A5 c5 w9_ HR5.out).mono ?_
  rintro e w10_ ⟨rfl, Bq⟩
  rw [World.size_alloc] at Bq
  have Sq : Below w9_.heap.size w9_ w10_ := (one_below w9_ _).trans (Bq.mono (by omega))
  replace HR1 : Hid (RdV w10_ w10_.heap.size A1 (zc (ns [2, 2]))) := HR1.out.on Sq
  replace HR2 : Hid (RdV w10_ w10_.heap.size A2 (zc (ns [3]))) := HR2.out.on Sq
  replace HR3 : Hid (RdV w10_ w10_.heap.size A3 (zc (ns [1, 2, 9]))) := HR3.out.on Sq
  replace HR4 : Hid (RdV w10_ w10_.heap.size A4 (zc (ns [1, 2, 3, 9]))) := HR4.out.on Sq
  replace HR5 : Hid (RdV w10_ w10_.heap.size A5 (zc (ns [0]))) := HR5.out.on Sq
  replace HB : Hid (Below w.heap.size w w10_) := HB.out.trans (Sq.mono HB.out.size)
  clear Bq Sq
  go_wp2
  go_ret
  exact ⟨rfl, HB.out⟩

/-! the calls in letters -/
def BkN (w : World) (n1 n2 : Nat) (l1 l2 : List Nat) (err : Int) (e : Ending) (w' : World) : Prop :=
  ∃ A1 c1 A2 c2, e = .returned (.tuple #[.slice A1 n1 c1, .slice A2 n2 c2, .int .i64 err]) ∧ (n1 ≤ c1 ∧ (A1 = none → c1 = 0)) ∧ (n2 ≤ c2 ∧ (A2 = none → c2 = 0)) ∧ RdV w' w'.heap.size A1 (zc (ns l1)) ∧ RdV w' w'.heap.size A2 (zc (ns l2)) ∧ Below w.heap.size w w'
def IntK (w : World) (n : Nat) (l : List Nat) (err : Int) (e : Ending) (w' : World) : Prop :=
  ∃ A c, e = .returned (.tuple #[.slice A n c, .int .i64 err]) ∧ n ≤ c ∧ (A = none → c = 0) ∧ RdV w' w'.heap.size A (zc (ns l)) ∧ Below w.heap.size w w'
theorem intK {w : World} {l : List Nat} {err : Int} {e : Ending} {w' : World} {n : Nat} (h : IntsP w l err e w') (h1 : l.length = n) : IntK w n l err e w' := by subst h1; exact h
theorem bkN {w : World} {l1 l2 : List Nat} {err : Int} {e : Ending} {w' : World} {n1 n2 : Nat} (h : TwoI w l1 l2 err e w') (h1 : l1.length = n1) (h2 : l2.length = n2) : BkN w n1 n2 l1 l2 err e w' := by subst h1; subst h2; exact h
theorem blocks_n (xs : List Int) (n : Nat) (hn : xs.length = n) (hn2 : n ≤ 9223372036854775807) (ys : List Int) (m : Nat) (hm : ys.length = m) (hm2 : m ≤ 9223372036854775807) (B R : List Nat) (e0 : Int) (hB : pbB xs ys = B) (hR : pbR xs ys = R) (he : pbE xs ys = e0) (n1 n2 : Nat) (h1 : B.length = n1) (h2 : R.length = n2) (A1 A2 : Option Addr) (c1 c2 : Nat) (w : World) (r1 : RdV w w.heap.size A1 (zc xs)) (r2 : RdV w w.heap.size A2 (zc ys)) :
    Calls Try.prog 12 #[.slice A1 n c1, .slice A2 m c2] w (BkN w n1 n2 B R e0) := by
  subst hB; subst hR; subst he
  exact (pblocks_any xs n hn hn2 ys m hm hm2 A1 A2 c1 c2 w r1 r2).mono fun _ _ h => bkN h h1 h2
theorem copy_n (xs : List Int) (n : Nat) (hn : xs.length = n) (hn2 : n ≤ 9223372036854775807) (bs : List Int) (m : Nat) (hm : bs.length = m) (hm2 : m ≤ 9223372036854775807) (M : List Nat) (e0 : Int) (hM : cpA xs bs = M) (he : cpE xs bs = e0) (k : Nat) (hk : M.length = k) (A1 A2 : Option Addr) (c1 c2 : Nat) (hA1 : A1 = none → c1 = 0) (hc1 : n ≤ c1) (w : World) (h1 : RdV w w.heap.size A1 (zc xs)) (h2 : RdV w w.heap.size A2 (zc bs)) :
    Calls Try.prog 13 #[.slice A1 n c1, .slice A2 m c2] w (IntK w k M e0) := by
  subst hM; subst he
  exact (pcopy_any xs n hn hn2 bs m hm hm2 A1 A2 c1 c2 hA1 hc1 w h1 h2).mono fun _ _ h => intK h hk
theorem pjoin_n (xs : List Int) (n : Nat) (hn : xs.length = n) (hn2 : n ≤ 9223372036854775807) (bs : List Int) (m : Nat) (hm : bs.length = m) (hm2 : m ≤ 9223372036854775807) (ys : List Int) (k : Nat) (hk : ys.length = k) (hk2 : k ≤ 9223372036854775807) (M : List Nat) (e0 : Int) (hM : jnA xs bs ys = (M, e0)) (k0 : Nat) (hk0 : M.length = k0) (A1 A2 A3 : Option Addr) (c1 c2 c3 : Nat) (hA1 : A1 = none → c1 = 0) (hc1 : n ≤ c1) (hA3 : A3 = none → c3 = 0) (w : World) (h1 : RdV w w.heap.size A1 (zc xs)) (h2 : RdV w w.heap.size A2 (zc bs)) (h3 : RdV w w.heap.size A3 (zc ys)) :
    Calls Try.prog 14 #[.slice A1 n c1, .slice A2 m c2, .slice A3 k c3] w (IntK w k0 M e0) := by
  have h := pjoin_any xs n hn hn2 bs m hm hm2 ys k hk hk2 A1 A2 A3 c1 c2 c3 hA1 hc1 hA3 w h1 h2 h3
  rw [hM] at h
  exact h.mono fun _ _ h => intK h hk0
theorem same_n (l : List Nat) (n : Nat) (hn : l.length = n) (h2 : n ≤ 9223372036854775807) (A B : Option Addr) (c d : Nat) (w : World) (hA : RdV w w.heap.size A (zc (ns l))) (hB : RdV w w.heap.size B (zc (ns l))) :
    Calls Try.prog 20 #[.slice A n c, .slice B n d] w fun e w' => e = .returned (.bool true) ∧ Below w.heap.size w w' := by
  have h := sameI_l l l n n hn hn h2 A B c d w hA hB
  rwa [decide_eq_true rfl] at h
theorem jnA_back (F l : List Nat) (hF : Rising F) (hl : Rising l) : jnA (ns F) (ns (bks F l)) (ns (notin F l)) = (l, 0) := by
  have e1 : cpE (ns F) (ns (bks F l)) = 0 := by unfold cpE; rw [rchk_ok F hF, if_neg (by simp), ns_length, bchk_ok _ _ (bks_ok F l)]
  have e2 : jnE (ns F) (ns (bks F l)) (ns (notin F l)) = 0 := by unfold jnE; rw [if_neg (by simpa using e1), rchk_ok _ (notin_rising F l hl)]
  unfold jnA
  rw [if_neg (by simpa using e2), tn_ns, tn_ns, tn_ns, cp_bks]
  exact un_back F l hF hl
theorem cpA_bks (F l : List Nat) (hF : Rising F) : cpA (ns F) (ns (bks F l)) = both F l ∧ cpE (ns F) (ns (bks F l)) = 0 := by
  have e1 : cpE (ns F) (ns (bks F l)) = 0 := by unfold cpE; rw [rchk_ok F hF, if_neg (by simp), ns_length, bchk_ok _ _ (bks_ok F l)]
  refine ⟨?_, e1⟩
  unfold cpA
  rw [if_neg (by simpa using e1), tn_ns, tn_ns, cp_bks]
theorem pb_zero (xs ys : List Int) (h : pbE xs ys = 0) : ∃ F l, xs = ns F ∧ ys = ns l ∧ Rising F ∧ Rising l ∧ pbB xs ys = bks F l ∧ pbR xs ys = notin F l := by
  have h0 := h
  unfold pbE at h0
  by_cases hr : rchk xs = 0
  · rw [if_neg (by simpa using hr)] at h0
    obtain ⟨F, rfl, hF⟩ := rchk_zero xs hr
    obtain ⟨l, rfl, hl⟩ := rchk_zero ys h0
    refine ⟨F, l, rfl, rfl, hF, hl, ?_, ?_⟩
    · unfold pbB; rw [if_neg (by simpa using h), tn_ns, tn_ns]
    · unfold pbR; rw [if_neg (by simpa using h), tn_ns, tn_ns]
  · rw [if_pos (by simpa using hr)] at h0; exact absurd h0 hr
theorem pb_no (xs ys : List Int) (h : pbE xs ys ≠ 0) : pbB xs ys = [] ∧ pbR xs ys = [] := by
  unfold pbB pbR; rw [if_pos h, if_pos h]; exact ⟨rfl, rfl⟩
end Go.Proofs.Ytfcmjjmlijidcaa
