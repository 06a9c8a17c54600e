/- What is asked in any case of quotients and remainders: it answers true, in whatever world. -/
import Derived.Test.YtcacbekdghlncaaGRead2
import Derived.Test.YtcacbekdghlncaaEBegun
namespace Go.Proofs.Ytcacbekdghlncaa
set_option maxRecDepth 100000
set_option linter.unusedVariables false
open Go.RowKit

theorem g1 (w : World) : Calls Try.prog 35 #[.int .u64 3, .int .u64 5] w (Gv w 3 1 [192] 0) := least_ok 3 5 (by decide) (by decide) (by decide) [true, true, false] (by decide +kernel) w
theorem g2 (w : World) : Calls Try.prog 36 #[.int .u64 9, .int .u64 4] w (Gv w 5 1 [40] 0) := code_ok 9 4 (by decide) (by decide) (by decide) (by decide) [false, false, true, false, true] (by decide +kernel) w
theorem g3 (w : World) : Calls Try.prog 44 #[.int .u64 2, .int .i64 2] w (Gv w 3 1 [224] 0) := zeta_ok 2 2 (by decide) (by decide) (by decide) [true, true, true] (by decide +kernel) w
theorem g4 (A : Option Addr) (c : Nat) (w : World) (h : Rd w w.heap.size A [40]) : Calls Try.prog 38 #[.agg #[.int .i64 5, .slice A 1 c], .int .i64 0, .int .u64 4] w (ReadP w 9 5 0) :=
  read_to (s := (9, 5, 0)) (rcode_l [false, false, true, false, true] (by decide) 4 (by decide) (by decide) A c 0 (by decide) w h) (by decide +kernel)
theorem g5 (A : Option Addr) (c : Nat) (w : World) (h : Rd w w.heap.size A [224]) : Calls Try.prog 45 #[.agg #[.int .i64 3, .slice A 1 c], .int .i64 0, .int .i64 2] w (ReadP w 2 3 0) :=
  read_to (s := (2, 3, 0)) (rzeta_l [true, true, true] (by decide) 2 (by decide) (by decide) A c 0 (by decide) w h) (by decide +kernel)
theorem g6 (A : Option Addr) (c : Nat) (w : World) (h : Rd w w.heap.size A [192]) : Calls Try.prog 37 #[.agg #[.int .i64 3, .slice A 1 c], .int .i64 0, .int .u64 5] w (ReadP w 3 3 0) :=
  read_to (s := (3, 3, 0)) (rleast_l [true, true, false] (by decide) 5 (by decide) (by decide) A c 0 (by decide) w h) (by decide +kernel)
theorem g7 (w : World) : Calls Try.prog 35 #[.int .u64 5, .int .u64 5] w (Gv w 0 0 [] 3) := least_no 5 5 (by decide) w

set_option maxHeartbeats 2000000 in
theorem gbegun_true (w : World) : Calls Try.prog 43 #[] w fun e w' => e = .returned (.bool true) ∧ Below w.heap.size w w' := by
  go_enter Try.func43, Try.ntmps43
  go_wp2_with fail
  refine (g1 _).mono ?_
  rintro e w1_ ⟨A1, c1, rfl, Rq, Bq⟩
  have Sq : Below w.heap.size w w1_ := Bq
  have HB : Hid (Below w.heap.size w w1_) := Sq
  clear Bq Sq
  have HR1 := Lib.hid Rq; clear Rq
  go_wp2_with fail
  refine (g2 _).mono ?_
  rintro e w2_ ⟨A2, c2, rfl, Rq, Bq⟩
  rw [World.size_alloc] at Bq
  have Sq : Below w1_.heap.size w1_ w2_ := (one_below w1_ _).trans (Bq.mono (by omega))
  have za : w1_.heap.size < w2_.heap.size := by have := Bq.size; rw [World.size_alloc] at this; omega
  obtain ⟨pa, qa⟩ := box_at Bq
  replace HR1 : Hid (Rd w2_ w2_.heap.size A1 [192]) := HR1.out.on Sq
  replace HB : Hid (Below w.heap.size w w2_) := HB.out.trans (Sq.mono HB.out.size)
  clear Bq Sq
  have HR2 := Lib.hid Rq; clear Rq
  go_wp2_with fail
  refine (g3 _).mono ?_
  rintro e w3_ ⟨A3, c3, rfl, Rq, Bq⟩
  rw [World.size_alloc] at Bq
  have Sq : Below w2_.heap.size w2_ w3_ := (one_below w2_ _).trans (Bq.mono (by omega))
  have zb : w2_.heap.size < w3_.heap.size := by have := Bq.size; rw [World.size_alloc] at this; omega
  obtain ⟨pb, qb⟩ := box_at Bq
  replace pa := (Sq.cell (p := ⟨w1_.heap.size, 0, none⟩) za).trans pa
  replace qa := (Sq.cell (p := ⟨w1_.heap.size, 1, none⟩) za).trans qa
  replace za : w1_.heap.size < w3_.heap.size := Nat.lt_of_lt_of_le za Sq.size
  replace HR1 : Hid (Rd w3_ w3_.heap.size A1 [192]) := HR1.out.on Sq
  replace HR2 : Hid (Rd w3_ w3_.heap.size A2 [40]) := HR2.out.on Sq
  replace HB : Hid (Below w.heap.size w w3_) := HB.out.trans (Sq.mono HB.out.size)
  clear Bq Sq
  have HR3 := Lib.hid Rq; clear Rq
  go_wp2_with fail
  refine (g4 A2 c2 _ (HR2.out.on (one_below w3_ _))).mono ?_
  rintro e w4_ ⟨rfl, Bq⟩
  rw [World.size_alloc] at Bq
  have Sq : Below w3_.heap.size w3_ w4_ := (one_below w3_ _).trans (Bq.mono (by omega))
  have zc : w3_.heap.size < w4_.heap.size := by have := Bq.size; rw [World.size_alloc] at this; omega
  obtain ⟨pc, qc⟩ := box_at Bq
  replace pa := (Sq.cell (p := ⟨w1_.heap.size, 0, none⟩) za).trans pa
  replace qa := (Sq.cell (p := ⟨w1_.heap.size, 1, none⟩) za).trans qa
  replace za : w1_.heap.size < w4_.heap.size := Nat.lt_of_lt_of_le za Sq.size
  replace pb := (Sq.cell (p := ⟨w2_.heap.size, 0, none⟩) zb).trans pb
  replace qb := (Sq.cell (p := ⟨w2_.heap.size, 1, none⟩) zb).trans qb
  replace zb : w2_.heap.size < w4_.heap.size := Nat.lt_of_lt_of_le zb Sq.size
  replace HR1 : Hid (Rd w4_ w4_.heap.size A1 [192]) := HR1.out.on Sq
  replace HR2 : Hid (Rd w4_ w4_.heap.size A2 [40]) := HR2.out.on Sq
  replace HR3 : Hid (Rd w4_ w4_.heap.size A3 [224]) := HR3.out.on Sq
  replace HB : Hid (Below w.heap.size w w4_) := HB.out.trans (Sq.mono HB.out.size)
  clear Bq Sq
  go_wp2_with fail
  refine (g5 A3 c3 _ HR3.out).mono ?_
  rintro e w5_ ⟨rfl, Bq⟩
  have Sq : Below w4_.heap.size w4_ w5_ := Bq
  replace pa := (Sq.cell (p := ⟨w1_.heap.size, 0, none⟩) za).trans pa
  replace qa := (Sq.cell (p := ⟨w1_.heap.size, 1, none⟩) za).trans qa
  replace za : w1_.heap.size < w5_.heap.size := Nat.lt_of_lt_of_le za Sq.size
  replace pb := (Sq.cell (p := ⟨w2_.heap.size, 0, none⟩) zb).trans pb
  replace qb := (Sq.cell (p := ⟨w2_.heap.size, 1, none⟩) zb).trans qb
  replace zb : w2_.heap.size < w5_.heap.size := Nat.lt_of_lt_of_le zb Sq.size
  replace pc := (Sq.cell (p := ⟨w3_.heap.size, 0, none⟩) zc).trans pc
  replace qc := (Sq.cell (p := ⟨w3_.heap.size, 1, none⟩) zc).trans qc
  replace zc : w3_.heap.size < w5_.heap.size := Nat.lt_of_lt_of_le zc Sq.size
  replace HR1 : Hid (Rd w5_ w5_.heap.size A1 [192]) := HR1.out.on Sq
  replace HR2 : Hid (Rd w5_ w5_.heap.size A2 [40]) := HR2.out.on Sq
  replace HR3 : Hid (Rd w5_ w5_.heap.size A3 [224]) := HR3.out.on Sq
  replace HB : Hid (Below w.heap.size w w5_) := HB.out.trans (Sq.mono HB.out.size)
  clear Bq Sq
  go_wp2_with fail
  refine (g6 A1 c1 _ HR1.out).mono ?_
  rintro e w6_ ⟨rfl, Bq⟩
  have Sq : Below w5_.heap.size w5_ w6_ := Bq
  replace pa := (Sq.cell (p := ⟨w1_.heap.size, 0, none⟩) za).trans pa
  replace qa := (Sq.cell (p := ⟨w1_.heap.size, 1, none⟩) za).trans qa
  replace za : w1_.heap.size < w6_.heap.size := Nat.lt_of_lt_of_le za Sq.size
  replace pb := (Sq.cell (p := ⟨w2_.heap.size, 0, none⟩) zb).trans pb
  replace qb := (Sq.cell (p := ⟨w2_.heap.size, 1, none⟩) zb).trans qb
  replace zb : w2_.heap.size < w6_.heap.size := Nat.lt_of_lt_of_le zb Sq.size
  replace pc := (Sq.cell (p := ⟨w3_.heap.size, 0, none⟩) zc).trans pc
  replace qc := (Sq.cell (p := ⟨w3_.heap.size, 1, none⟩) zc).trans qc
  replace zc : w3_.heap.size < w6_.heap.size := Nat.lt_of_lt_of_le zc Sq.size
  replace HR1 : Hid (Rd w6_ w6_.heap.size A1 [192]) := HR1.out.on Sq
  replace HR2 : Hid (Rd w6_ w6_.heap.size A2 [40]) := HR2.out.on Sq
  replace HR3 : Hid (Rd w6_ w6_.heap.size A3 [224]) := HR3.out.on Sq
  replace HB : Hid (Below w.heap.size w w6_) := HB.out.trans (Sq.mono HB.out.size)
  clear Bq Sq
  go_wp2_with fail
  refine (g7 _).mono ?_
  rintro e w7_ ⟨A4, c4, rfl, Rq, Bq⟩
  have Sq : Below w6_.heap.size w6_ w7_ := Bq
  replace pa := (Sq.cell (p := ⟨w1_.heap.size, 0, none⟩) za).trans pa
  replace qa := (Sq.cell (p := ⟨w1_.heap.size, 1, none⟩) za).trans qa
  replace za : w1_.heap.size < w7_.heap.size := Nat.lt_of_lt_of_le za Sq.size
  replace pb := (Sq.cell (p := ⟨w2_.heap.size, 0, none⟩) zb).trans pb
  replace qb := (Sq.cell (p := ⟨w2_.heap.size, 1, none⟩) zb).trans qb
  replace zb : w2_.heap.size < w7_.heap.size := Nat.lt_of_lt_of_le zb Sq.size
  replace pc := (Sq.cell (p := ⟨w3_.heap.size, 0, none⟩) zc).trans pc
  replace qc := (Sq.cell (p := ⟨w3_.heap.size, 1, none⟩) zc).trans qc
  replace zc : w3_.heap.size < w7_.heap.size := Nat.lt_of_lt_of_le zc Sq.size
  replace HR1 : Hid (Rd w7_ w7_.heap.size A1 [192]) := HR1.out.on Sq
  replace HR2 : Hid (Rd w7_ w7_.heap.size A2 [40]) := HR2.out.on Sq
  replace HR3 : Hid (Rd w7_ w7_.heap.size A3 [224]) := HR3.out.on Sq
  replace HB : Hid (Below w.heap.size w w7_) := HB.out.trans (Sq.mono HB.out.size)
  clear Bq Sq
  have HR4 := Lib.hid Rq; clear Rq
  go_wp2_with fail
  refine (bsame_lit2 w7_ _ 3 192 A1 c1 HR1.out).mono ?_
  rintro e w8_ ⟨rfl, Bq⟩
  have Sq : Below w7_.heap.size w7_ w8_ := Bq
  replace pa := (Sq.cell (p := ⟨w1_.heap.size, 0, none⟩) za).trans pa
  replace qa := (Sq.cell (p := ⟨w1_.heap.size, 1, none⟩) za).trans qa
  replace za : w1_.heap.size < w8_.heap.size := Nat.lt_of_lt_of_le za Sq.size
  replace pb := (Sq.cell (p := ⟨w2_.heap.size, 0, none⟩) zb).trans pb
  replace qb := (Sq.cell (p := ⟨w2_.heap.size, 1, none⟩) zb).trans qb
  replace zb : w2_.heap.size < w8_.heap.size := Nat.lt_of_lt_of_le zb Sq.size
  replace pc := (Sq.cell (p := ⟨w3_.heap.size, 0, none⟩) zc).trans pc
  replace qc := (Sq.cell (p := ⟨w3_.heap.size, 1, none⟩) zc).trans qc
  replace zc : w3_.heap.size < w8_.heap.size := Nat.lt_of_lt_of_le zc Sq.size
  replace HR1 : Hid (Rd w8_ w8_.heap.size A1 [192]) := HR1.out.on Sq
  replace HR2 : Hid (Rd w8_ w8_.heap.size A2 [40]) := HR2.out.on Sq
  replace HR3 : Hid (Rd w8_ w8_.heap.size A3 [224]) := HR3.out.on Sq
  replace HR4 : Hid (Rd w8_ w8_.heap.size A4 []) := HR4.out.on Sq
  replace HB : Hid (Below w.heap.size w w8_) := HB.out.trans (Sq.mono HB.out.size)
  clear Bq Sq
  go_wp2_with fail
  refine (bsame_lit1 w8_ 5 40 A2 c2 HR2.out).mono ?_
  rintro e w9_ ⟨rfl, Bq⟩
  have Sq : Below w8_.heap.size w8_ w9_ := Bq
  replace pa := (Sq.cell (p := ⟨w1_.heap.size, 0, none⟩) za).trans pa
  replace qa := (Sq.cell (p := ⟨w1_.heap.size, 1, none⟩) za).trans qa
  replace za : w1_.heap.size < w9_.heap.size := Nat.lt_of_lt_of_le za Sq.size
  replace pb := (Sq.cell (p := ⟨w2_.heap.size, 0, none⟩) zb).trans pb
  replace qb := (Sq.cell (p := ⟨w2_.heap.size, 1, none⟩) zb).trans qb
  replace zb : w2_.heap.size < w9_.heap.size := Nat.lt_of_lt_of_le zb Sq.size
  replace pc := (Sq.cell (p := ⟨w3_.heap.size, 0, none⟩) zc).trans pc
  replace qc := (Sq.cell (p := ⟨w3_.heap.size, 1, none⟩) zc).trans qc
  replace zc : w3_.heap.size < w9_.heap.size := Nat.lt_of_lt_of_le zc Sq.size
  replace HR1 : Hid (Rd w9_ w9_.heap.size A1 [192]) := HR1.out.on Sq
  replace HR2 : Hid (Rd w9_ w9_.heap.size A2 [40]) := HR2.out.on Sq
  replace HR3 : Hid (Rd w9_ w9_.heap.size A3 [224]) := HR3.out.on Sq
  replace HR4 : Hid (Rd w9_ w9_.heap.size A4 []) := HR4.out.on Sq
  replace HB : Hid (Below w.heap.size w w9_) := HB.out.trans (Sq.mono HB.out.size)
  clear Bq Sq
  go_wp2_with fail
  refine (bsame_lit1 w9_ 3 224 A3 c3 HR3.out).mono ?_
  rintro e w10_ ⟨rfl, Bq⟩
  have Sq : Below w9_.heap.size w9_ w10_ := Bq
  replace pa := (Sq.cell (p := ⟨w1_.heap.size, 0, none⟩) za).trans pa
  replace qa := (Sq.cell (p := ⟨w1_.heap.size, 1, none⟩) za).trans qa
  replace za : w1_.heap.size < w10_.heap.size := Nat.lt_of_lt_of_le za Sq.size
  replace pb := (Sq.cell (p := ⟨w2_.heap.size, 0, none⟩) zb).trans pb
  replace qb := (Sq.cell (p := ⟨w2_.heap.size, 1, none⟩) zb).trans qb
  replace zb : w2_.heap.size < w10_.heap.size := Nat.lt_of_lt_of_le zb Sq.size
  replace pc := (Sq.cell (p := ⟨w3_.heap.size, 0, none⟩) zc).trans pc
  replace qc := (Sq.cell (p := ⟨w3_.heap.size, 1, none⟩) zc).trans qc
  replace zc : w3_.heap.size < w10_.heap.size := Nat.lt_of_lt_of_le zc Sq.size
  replace HR1 : Hid (Rd w10_ w10_.heap.size A1 [192]) := HR1.out.on Sq
  replace HR2 : Hid (Rd w10_ w10_.heap.size A2 [40]) := HR2.out.on Sq
  replace HR3 : Hid (Rd w10_ w10_.heap.size A3 [224]) := HR3.out.on Sq
  replace HR4 : Hid (Rd w10_ w10_.heap.size A4 []) := HR4.out.on Sq
  replace HB : Hid (Below w.heap.size w w10_) := HB.out.trans (Sq.mono HB.out.size)
  clear Bq Sq
  go_wp2
  go_ret
  exact ⟨rfl, HB.out⟩
end Go.Proofs.Ytcacbekdghlncaa
