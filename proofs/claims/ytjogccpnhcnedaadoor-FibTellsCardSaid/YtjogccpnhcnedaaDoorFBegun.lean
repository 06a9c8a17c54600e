/- What is asked in any case of Fibonacci codes: it answers true, in whatever world that holds the table. -/
import Derived.Test.YtjogccpnhcnedaaDoorFSame
namespace Go.Proofs.YtjogccpnhcnedaaDoor
set_option maxRecDepth 100000
set_option linter.unusedVariables false
open Go.RowKit Go.Shelf

theorem rdz_new (w : World) (l : List Int) : RdV (w.alloc (.cells (zc l).toArray 3)) (w.alloc (.cells (zc l).toArray 3)).heap.size (some ⟨w.heap.size, 0, none⟩) (zc l) := by
  refine .inr ⟨w.heap.size, 0, rfl, by simp, fun i v hi => ?_⟩
  rw [cell_of_row _ _ _ _ _ _ (World.alloc_heap_new w (.cells (zc l).toArray 3))]
  simpa using hi
theorem f1 (w : World) (h : Nm w) : Calls Tryd.prog 9 #[.int .i64 4] w fun e w' => e = .returned (.tuple #[.int .u64 8, .int .i64 0]) ∧ Below w.heap.size w w' := number_any 4 w h
theorem f2 (w : World) (h : Nm w) : Calls Tryd.prog 10 #[.int .u64 12] w fun e w' => ∃ A c, e = .returned (.tuple #[.slice A 3 c, .int .i64 0]) ∧ RdV w' w'.heap.size A (zc [0, 2, 4]) ∧ Below w.heap.size w w' := by
  have e : ints (pts 12) = [0, 2, 4] := by decide +kernel
  have := parts_ok 12 (by decide) w h
  rw [e] at this
  exact this
theorem f3 (w : World) (h : Nm w) : Calls Tryd.prog 11 #[.slice (some ⟨w.heap.size, 0, none⟩) 3 3] (w.alloc (.cells #[.int .i64 0, .int .i64 2, .int .i64 4] 3)) fun e w' => e = .returned (.tuple #[.int .u64 12, .int .i64 0]) ∧ Below (w.alloc (.cells #[.int .i64 0, .int .i64 2, .int .i64 4] 3)).heap.size (w.alloc (.cells #[.int .i64 0, .int .i64 2, .int .i64 4] 3)) w' :=
  sum_any [0, 2, 4] 3 rfl (by decide) _ 3 _ (rdz_new w [0, 2, 4]) (h.on (one_below _ _)) 12 0 (by decide +kernel)
theorem f4 (w : World) (h : Nm w) : Calls Tryd.prog 12 #[.int .u64 11] w (Gv w 6 1 [172] 0) := by
  have h2 := code_ok 11 (by decide) w h
  have e : fco 11 = [true, false, true, false, true, true] := by decide +kernel
  rw [e] at h2
  exact h2
theorem f5 (A : Option Addr) (c : Nat) (w : World) (hA : Rd w w.heap.size A [172]) (h : Nm w) : Calls Tryd.prog 13 #[.agg #[.int .i64 6, .slice A 1 c], .int .i64 0] w (FP w 11 6 0) :=
  fread_l [true, false, true, false, true, true] (by decide) A c 0 (by decide) w hA h 11 6 0 (by decide +kernel)
theorem f6 (w : World) (h : Nm w) : Calls Tryd.prog 11 #[.slice (some ⟨w.heap.size, 0, none⟩) 2 2] (w.alloc (.cells #[.int .i64 2, .int .i64 3] 3)) fun e w' => e = .returned (.tuple #[.int .u64 0, .int .i64 4]) ∧ Below (w.alloc (.cells #[.int .i64 2, .int .i64 3] 3)).heap.size (w.alloc (.cells #[.int .i64 2, .int .i64 3] 3)) w' :=
  sum_any [2, 3] 2 rfl (by decide) _ 2 _ (rdz_new w [2, 3]) (h.on (one_below _ _)) 0 4 (by decide +kernel)
theorem f7 (A : Option Addr) (c : Nat) (w : World) (hA : Rd w w.heap.size A [172]) (h : Nm w) : Calls Tryd.prog 13 #[.agg #[.int .i64 6, .slice A 1 c], .int .i64 4] w (FP w 0 6 0) :=
  fread_l [true, false, true, false, true, true] (by decide) A c 4 (by decide) w hA h 0 6 0 (by decide +kernel)
theorem f8 (A : Option Addr) (c : Nat) (w : World) (hA : RdV w w.heap.size A (zc [0, 2, 4])) : Calls Tryd.prog 23 #[.slice A 3 c, .slice (some ⟨w.heap.size, 0, none⟩) 3 3] (w.alloc (.cells #[.int .i64 0, .int .i64 2, .int .i64 4] 3)) fun e w' => e = .returned (.bool true) ∧ Below (w.alloc (.cells #[.int .i64 0, .int .i64 2, .int .i64 4] 3)).heap.size (w.alloc (.cells #[.int .i64 0, .int .i64 2, .int .i64 4] 3)) w' :=
  sameI_any _ A _ c 3 [0, 2, 4] [0, 2, 4] (by decide) (hA.on (one_below w _)) (rdz_new w [0, 2, 4])
theorem f9 (A : Option Addr) (c : Nat) (w : World) (hA : Rd w w.heap.size A [172]) : Calls Tryd.prog 24 #[.agg #[.int .i64 6, .slice A 1 c], .agg #[.int .i64 6, .slice (some ⟨w.heap.size, 0, none⟩) 1 1]] (w.alloc (.cells #[.int .u8 172] 5)) fun e w' => e = .returned (.bool true) ∧ Below (w.alloc (.cells #[.int .u8 172] 5)).heap.size (w.alloc (.cells #[.int .u8 172] 5)) w' :=
  bsame 6 [172] 1 rfl (by decide) A _ c 1 _ (hA.on (one_below w _)) (rd_lit1 w 172)

set_option maxHeartbeats 4000000 in
theorem fbegun_true (w : World) (hN : Nm w) : Calls Tryd.prog 22 #[] w fun e w' => e = .returned (.bool true) ∧ Below w.heap.size w w' := by
  have HN := Lib.hid hN; clear hN
  go_enter Tryd.func22, Tryd.ntmps22
  go_wp2_with fail
  refine (f1 _ HN.out).mono ?_
  rintro e w1_ ⟨rfl, Bq⟩
  have Sq : Below w.heap.size w w1_ := Bq
  have HB : Hid (Below w.heap.size w w1_) := Sq
  replace HN := Lib.hid (HN.out.on Sq)
  clear Bq Sq
  go_wp2_with fail
  refine (f2 _ HN.out).mono ?_
  rintro e w2_ ⟨A1, c1, rfl, Rq, Bq⟩
  have Sq : Below w1_.heap.size w1_ w2_ := Bq
  replace HB : Hid (Below w.heap.size w w2_) := HB.out.trans (Sq.mono HB.out.size)
  replace HN := Lib.hid (HN.out.on Sq)
  clear Bq Sq
  have HR1 := Lib.hid Rq; clear Rq
  go_wp2_with fail
  refine (f3 _ HN.out).mono ?_
  rintro e w3_ ⟨rfl, Bq⟩
  rw [World.size_alloc] at Bq
  have Sq : Below w2_.heap.size w2_ w3_ := (one_below w2_ _).trans (Bq.mono (by omega))
  replace HB : Hid (Below w.heap.size w w3_) := HB.out.trans (Sq.mono HB.out.size)
  replace HN := Lib.hid (HN.out.on Sq)
  replace HR1 := Lib.hid (HR1.out.on Sq)
  clear Bq Sq
  go_wp2_with fail
  refine (f4 _ HN.out).mono ?_
  rintro e w4_ ⟨A2, c2, rfl, Rq, Bq⟩
  have Sq : Below w3_.heap.size w3_ w4_ := Bq
  replace HB : Hid (Below w.heap.size w w4_) := HB.out.trans (Sq.mono HB.out.size)
  replace HN := Lib.hid (HN.out.on Sq)
  replace HR1 := Lib.hid (HR1.out.on Sq)
  clear Bq Sq
  have HR2 := Lib.hid Rq; clear Rq
  go_wp2_with fail
  refine (f5 A2 c2 _ (HR2.out.on (one_below _ _)) (HN.out.on (one_below _ _))).mono ?_
  rintro e w5_ ⟨rfl, Bq⟩
  rw [World.size_alloc] at Bq
  have Sq : Below w4_.heap.size w4_ w5_ := (one_below w4_ _).trans (Bq.mono (by omega))
  have za : w4_.heap.size < w5_.heap.size := by have := Bq.size; rw [World.size_alloc] at this; omega
  obtain ⟨pa, qa⟩ := box_at Bq
  replace HB : Hid (Below w.heap.size w w5_) := HB.out.trans (Sq.mono HB.out.size)
  replace HN := Lib.hid (HN.out.on Sq)
  replace HR1 := Lib.hid (HR1.out.on Sq)
  replace HR2 := Lib.hid (HR2.out.on Sq)
  clear Bq Sq
  go_wp2_with fail
  refine (f6 _ HN.out).mono ?_
  rintro e w6_ ⟨rfl, Bq⟩
  rw [World.size_alloc] at Bq
  have Sq : Below w5_.heap.size w5_ w6_ := (one_below w5_ _).trans (Bq.mono (by omega))
  replace pa := (Sq.cell (p := ⟨w4_.heap.size, 0, none⟩) za).trans pa
  replace qa := (Sq.cell (p := ⟨w4_.heap.size, 1, none⟩) za).trans qa
  replace za : w4_.heap.size < w6_.heap.size := Nat.lt_of_lt_of_le za Sq.size
  replace HB : Hid (Below w.heap.size w w6_) := HB.out.trans (Sq.mono HB.out.size)
  replace HN := Lib.hid (HN.out.on Sq)
  replace HR1 := Lib.hid (HR1.out.on Sq)
  replace HR2 := Lib.hid (HR2.out.on Sq)
  clear Bq Sq
  go_wp2_with fail
  refine (f7 A2 c2 _ HR2.out HN.out).mono ?_
  rintro e w7_ ⟨rfl, Bq⟩
  have Sq : Below w6_.heap.size w6_ w7_ := Bq
  replace pa := (Sq.cell (p := ⟨w4_.heap.size, 0, none⟩) za).trans pa
  replace qa := (Sq.cell (p := ⟨w4_.heap.size, 1, none⟩) za).trans qa
  replace za : w4_.heap.size < w7_.heap.size := Nat.lt_of_lt_of_le za Sq.size
  replace HB : Hid (Below w.heap.size w w7_) := HB.out.trans (Sq.mono HB.out.size)
  replace HN := Lib.hid (HN.out.on Sq)
  replace HR1 := Lib.hid (HR1.out.on Sq)
  replace HR2 := Lib.hid (HR2.out.on Sq)
  clear Bq Sq
  go_wp2_with fail
  refine (f8 A1 c1 _ HR1.out).mono ?_
  rintro e w8_ ⟨rfl, Bq⟩
  rw [World.size_alloc] at Bq
  have Sq : Below w7_.heap.size w7_ w8_ := (one_below w7_ _).trans (Bq.mono (by omega))
  replace pa := (Sq.cell (p := ⟨w4_.heap.size, 0, none⟩) za).trans pa
  replace qa := (Sq.cell (p := ⟨w4_.heap.size, 1, none⟩) za).trans qa
  replace za : w4_.heap.size < w8_.heap.size := Nat.lt_of_lt_of_le za Sq.size
  replace HB : Hid (Below w.heap.size w w8_) := HB.out.trans (Sq.mono HB.out.size)
  replace HN := Lib.hid (HN.out.on Sq)
  replace HR1 := Lib.hid (HR1.out.on Sq)
  replace HR2 := Lib.hid (HR2.out.on Sq)
  clear Bq Sq
  go_wp2_with fail
  refine (f9 A2 c2 _ HR2.out).mono ?_
  rintro e w9_ ⟨rfl, Bq⟩
  rw [World.size_alloc] at Bq
  have Sq : Below w8_.heap.size w8_ w9_ := (one_below w8_ _).trans (Bq.mono (by omega))
  replace pa := (Sq.cell (p := ⟨w4_.heap.size, 0, none⟩) za).trans pa
  replace qa := (Sq.cell (p := ⟨w4_.heap.size, 1, none⟩) za).trans qa
  replace za : w4_.heap.size < w9_.heap.size := Nat.lt_of_lt_of_le za Sq.size
  replace HB : Hid (Below w.heap.size w w9_) := HB.out.trans (Sq.mono HB.out.size)
  replace HN := Lib.hid (HN.out.on Sq)
  replace HR1 := Lib.hid (HR1.out.on Sq)
  replace HR2 := Lib.hid (HR2.out.on Sq)
  clear Bq Sq
  go_wp2
  go_ret
  exact ⟨rfl, HB.out⟩
end Go.Proofs.YtjogccpnhcnedaaDoor
