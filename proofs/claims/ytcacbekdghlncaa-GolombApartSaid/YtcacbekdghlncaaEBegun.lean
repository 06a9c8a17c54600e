/- What is asked in any case of gamma and delta codes: it answers true, in whatever world. -/
import Derived.Test.YtcacbekdghlncaaERead
import Derived.Test.YtcacbekdghlncaaBegun
namespace Go.Proofs.Ytcacbekdghlncaa
set_option maxRecDepth 100000
set_option linter.unusedVariables false
open Go.RowKit

theorem e1 (w : World) : Calls Try.prog 15 #[.int .u64 4] w (Gv w 5 1 [40] 0) := gamma_ok 4 (by decide) [false, false, true, false, true] (by decide +kernel) w
theorem e2 (w : World) : Calls Try.prog 16 #[.int .u64 9] w (Gv w 8 1 [34] 0) := delta_ok 9 (by decide) [false, false, true, false, false, false, true, false] (by decide +kernel) w
theorem read_to {f : FuncId} {args : Array Value} {w : World} {r s : Nat × Nat × Int} (h : Calls Try.prog f args w (ReadP w r.1 r.2.1 r.2.2)) (e : r = s) : Calls Try.prog f args w (ReadP w s.1 s.2.1 s.2.2) := e ▸ h
/-- Bits against a literal of one byte. -/
theorem bsame_lit1 (V : World) (len : Int) (x : Nat) (A : Option Addr) (c : Nat) (hA : Rd V V.heap.size A [x]) :
    Calls Try.prog 28 #[.agg #[.int .i64 len, .slice A 1 c], .agg #[.int .i64 len, .slice (some ⟨V.heap.size, 0, none⟩) 1 1]] (V.alloc (.cells #[.int .u8 (x : Int)] 5)) fun e w' => e = .returned (.bool true) ∧ Below V.heap.size V w' :=
  (bsame len [x] 1 rfl (by decide) A (some ⟨V.heap.size, 0, none⟩) c 1 _ (hA.on (one_below V _)) (rd_lit1 V x)).mono fun _ _ ⟨h1, h2⟩ => ⟨h1, (one_below V _).trans (h2.mono (by rw [World.size_alloc]; omega))⟩
theorem bsame_lit2 (V : World) (o : Obj) (len : Int) (x : Nat) (A : Option Addr) (c : Nat) (hA : Rd V V.heap.size A [x]) :
    Calls Try.prog 28 #[.agg #[.int .i64 len, .slice A 1 c], .agg #[.int .i64 len, .slice (some ⟨V.heap.size + 1, 0, none⟩) 1 1]] ((V.alloc o).alloc (.cells #[.int .u8 (x : Int)] 5)) fun e w' => e = .returned (.bool true) ∧ Below V.heap.size V w' := by
  have h := bsame_lit1 (V.alloc o) len x A c (hA.on (one_below V _))
  rw [World.size_alloc] at h
  exact h.mono fun _ _ ⟨h1, h2⟩ => ⟨h1, (one_below V _).trans (h2.mono (by omega))⟩

theorem e3 (A : Option Addr) (c : Nat) (w : World) (h : Rd w w.heap.size A [40]) : Calls Try.prog 17 #[.agg #[.int .i64 5, .slice A 1 c], .int .i64 0] w (ReadP w 4 5 0) :=
  read_to (s := (4, 5, 0)) (rgamma_l [false, false, true, false, true] (by decide) A c 0 (by decide) w h) (by decide +kernel)
theorem e4 (A : Option Addr) (c : Nat) (w : World) (h : Rd w w.heap.size A [34]) : Calls Try.prog 18 #[.agg #[.int .i64 8, .slice A 1 c], .int .i64 0] w (ReadP w 9 8 0) :=
  read_to (s := (9, 8, 0)) (rdelta_l [false, false, true, false, false, false, true, false] (by decide) A c 0 (by decide) w h) (by decide +kernel)
theorem e5 (w : World) : Calls Try.prog 19 #[.int .u64 9] w fun e w' => e = .returned (.tuple #[.int .i64 7, .int .i64 8, .int .i64 0]) ∧ Below w.heap.size w w' := long_ok 9 (by decide) 7 8 (by decide +kernel) (by decide +kernel) w
theorem e6 (A : Option Addr) (c : Nat) (w : World) (h : Rd w w.heap.size A [40]) : Calls Try.prog 17 #[.agg #[.int .i64 5, .slice A 1 c], .int .i64 5] w (ReadP w 0 0 7) :=
  read_to (s := (0, 0, 7)) (rgamma_l [false, false, true, false, true] (by decide) A c 5 (by decide) w h) (by decide +kernel)
theorem e7 (w : World) : Calls Try.prog 15 #[.int .u64 1099511627777] w (Gv w 0 0 [] 3) := gamma_e 1099511627777 (by decide) w

set_option maxHeartbeats 2000000 in
theorem ebegun_true (w : World) : Calls Try.prog 27 #[] w fun e w' => e = .returned (.bool true) ∧ Below w.heap.size w w' := by
  go_enter Try.func27, Try.ntmps27
  go_wp2_with fail
  refine (e1 _).mono ?_
  rintro e w1_ ⟨A1, c1, rfl, Rq, Bq⟩
  have Sq : Below w.heap.size w w1_ := Bq
  have HB : Hid (Below w.heap.size w w1_) := Sq
  clear Bq Sq
  have HR1 := Lib.hid Rq; clear Rq
  go_wp2_with fail
  refine (e2 _).mono ?_
  rintro e w2_ ⟨A2, c2, rfl, Rq, Bq⟩
  rw [World.size_alloc] at Bq
  have Sq : Below w1_.heap.size w1_ w2_ := (one_below w1_ _).trans (Bq.mono (by omega))
  have za : w1_.heap.size < w2_.heap.size := by have := Bq.size; rw [World.size_alloc] at this; omega
  obtain ⟨pa, qa⟩ := box_at Bq
  replace HR1 : Hid (Rd w2_ w2_.heap.size A1 [40]) := HR1.out.on Sq
  replace HB : Hid (Below w.heap.size w w2_) := HB.out.trans (Sq.mono HB.out.size)
  clear Bq Sq
  have HR2 := Lib.hid Rq; clear Rq
  go_wp2_with fail
  refine (e3 A1 c1 _ (HR1.out.on (one_below w2_ _))).mono ?_
  rintro e w3_ ⟨rfl, Bq⟩
  rw [World.size_alloc] at Bq
  have Sq : Below w2_.heap.size w2_ w3_ := (one_below w2_ _).trans (Bq.mono (by omega))
  have zb : w2_.heap.size < w3_.heap.size := by have := Bq.size; rw [World.size_alloc] at this; omega
  obtain ⟨pb, qb⟩ := box_at Bq
  replace pa := (Sq.cell (p := ⟨w1_.heap.size, 0, none⟩) za).trans pa
  replace qa := (Sq.cell (p := ⟨w1_.heap.size, 1, none⟩) za).trans qa
  replace za : w1_.heap.size < w3_.heap.size := Nat.lt_of_lt_of_le za Sq.size
  replace HR1 : Hid (Rd w3_ w3_.heap.size A1 [40]) := HR1.out.on Sq
  replace HR2 : Hid (Rd w3_ w3_.heap.size A2 [34]) := HR2.out.on Sq
  replace HB : Hid (Below w.heap.size w w3_) := HB.out.trans (Sq.mono HB.out.size)
  clear Bq Sq
  go_wp2_with fail
  refine (e4 A2 c2 _ HR2.out).mono ?_
  rintro e w4_ ⟨rfl, Bq⟩
  have Sq : Below w3_.heap.size w3_ w4_ := Bq
  replace pa := (Sq.cell (p := ⟨w1_.heap.size, 0, none⟩) za).trans pa
  replace qa := (Sq.cell (p := ⟨w1_.heap.size, 1, none⟩) za).trans qa
  replace za : w1_.heap.size < w4_.heap.size := Nat.lt_of_lt_of_le za Sq.size
  replace pb := (Sq.cell (p := ⟨w2_.heap.size, 0, none⟩) zb).trans pb
  replace qb := (Sq.cell (p := ⟨w2_.heap.size, 1, none⟩) zb).trans qb
  replace zb : w2_.heap.size < w4_.heap.size := Nat.lt_of_lt_of_le zb Sq.size
  replace HR1 : Hid (Rd w4_ w4_.heap.size A1 [40]) := HR1.out.on Sq
  replace HR2 : Hid (Rd w4_ w4_.heap.size A2 [34]) := HR2.out.on Sq
  replace HB : Hid (Below w.heap.size w w4_) := HB.out.trans (Sq.mono HB.out.size)
  clear Bq Sq
  go_wp2_with fail
  refine (e5 _).mono ?_
  rintro e w5_ ⟨rfl, Bq⟩
  have Sq : Below w4_.heap.size w4_ w5_ := Bq
  replace pa := (Sq.cell (p := ⟨w1_.heap.size, 0, none⟩) za).trans pa
  replace qa := (Sq.cell (p := ⟨w1_.heap.size, 1, none⟩) za).trans qa
  replace za : w1_.heap.size < w5_.heap.size := Nat.lt_of_lt_of_le za Sq.size
  replace pb := (Sq.cell (p := ⟨w2_.heap.size, 0, none⟩) zb).trans pb
  replace qb := (Sq.cell (p := ⟨w2_.heap.size, 1, none⟩) zb).trans qb
  replace zb : w2_.heap.size < w5_.heap.size := Nat.lt_of_lt_of_le zb Sq.size
  replace HR1 : Hid (Rd w5_ w5_.heap.size A1 [40]) := HR1.out.on Sq
  replace HR2 : Hid (Rd w5_ w5_.heap.size A2 [34]) := HR2.out.on Sq
  replace HB : Hid (Below w.heap.size w w5_) := HB.out.trans (Sq.mono HB.out.size)
  clear Bq Sq
  go_wp2_with fail
  refine (e6 A1 c1 _ HR1.out).mono ?_
  rintro e w6_ ⟨rfl, Bq⟩
  have Sq : Below w5_.heap.size w5_ w6_ := Bq
  replace pa := (Sq.cell (p := ⟨w1_.heap.size, 0, none⟩) za).trans pa
  replace qa := (Sq.cell (p := ⟨w1_.heap.size, 1, none⟩) za).trans qa
  replace za : w1_.heap.size < w6_.heap.size := Nat.lt_of_lt_of_le za Sq.size
  replace pb := (Sq.cell (p := ⟨w2_.heap.size, 0, none⟩) zb).trans pb
  replace qb := (Sq.cell (p := ⟨w2_.heap.size, 1, none⟩) zb).trans qb
  replace zb : w2_.heap.size < w6_.heap.size := Nat.lt_of_lt_of_le zb Sq.size
  replace HR1 : Hid (Rd w6_ w6_.heap.size A1 [40]) := HR1.out.on Sq
  replace HR2 : Hid (Rd w6_ w6_.heap.size A2 [34]) := HR2.out.on Sq
  replace HB : Hid (Below w.heap.size w w6_) := HB.out.trans (Sq.mono HB.out.size)
  clear Bq Sq
  go_wp2_with fail
  refine (e7 _).mono ?_
  rintro e w7_ ⟨A3, c3, rfl, Rq, Bq⟩
  have Sq : Below w6_.heap.size w6_ w7_ := Bq
  replace pa := (Sq.cell (p := ⟨w1_.heap.size, 0, none⟩) za).trans pa
  replace qa := (Sq.cell (p := ⟨w1_.heap.size, 1, none⟩) za).trans qa
  replace za : w1_.heap.size < w7_.heap.size := Nat.lt_of_lt_of_le za Sq.size
  replace pb := (Sq.cell (p := ⟨w2_.heap.size, 0, none⟩) zb).trans pb
  replace qb := (Sq.cell (p := ⟨w2_.heap.size, 1, none⟩) zb).trans qb
  replace zb : w2_.heap.size < w7_.heap.size := Nat.lt_of_lt_of_le zb Sq.size
  replace HR1 : Hid (Rd w7_ w7_.heap.size A1 [40]) := HR1.out.on Sq
  replace HR2 : Hid (Rd w7_ w7_.heap.size A2 [34]) := HR2.out.on Sq
  replace HB : Hid (Below w.heap.size w w7_) := HB.out.trans (Sq.mono HB.out.size)
  clear Bq Sq
  have HR3 := Lib.hid Rq; clear Rq
  go_wp2_with fail
  refine (bsame_lit2 w7_ _ 5 40 A1 c1 HR1.out).mono ?_
  rintro e w8_ ⟨rfl, Bq⟩
  have Sq : Below w7_.heap.size w7_ w8_ := Bq
  replace pa := (Sq.cell (p := ⟨w1_.heap.size, 0, none⟩) za).trans pa
  replace qa := (Sq.cell (p := ⟨w1_.heap.size, 1, none⟩) za).trans qa
  replace za : w1_.heap.size < w8_.heap.size := Nat.lt_of_lt_of_le za Sq.size
  replace pb := (Sq.cell (p := ⟨w2_.heap.size, 0, none⟩) zb).trans pb
  replace qb := (Sq.cell (p := ⟨w2_.heap.size, 1, none⟩) zb).trans qb
  replace zb : w2_.heap.size < w8_.heap.size := Nat.lt_of_lt_of_le zb Sq.size
  replace HR1 : Hid (Rd w8_ w8_.heap.size A1 [40]) := HR1.out.on Sq
  replace HR2 : Hid (Rd w8_ w8_.heap.size A2 [34]) := HR2.out.on Sq
  replace HR3 : Hid (Rd w8_ w8_.heap.size A3 []) := HR3.out.on Sq
  replace HB : Hid (Below w.heap.size w w8_) := HB.out.trans (Sq.mono HB.out.size)
  clear Bq Sq
  go_wp2_with fail
  refine (bsame_lit1 w8_ 8 34 A2 c2 HR2.out).mono ?_
  rintro e w9_ ⟨rfl, Bq⟩
  have Sq : Below w8_.heap.size w8_ w9_ := Bq
  replace pa := (Sq.cell (p := ⟨w1_.heap.size, 0, none⟩) za).trans pa
  replace qa := (Sq.cell (p := ⟨w1_.heap.size, 1, none⟩) za).trans qa
  replace za : w1_.heap.size < w9_.heap.size := Nat.lt_of_lt_of_le za Sq.size
  replace pb := (Sq.cell (p := ⟨w2_.heap.size, 0, none⟩) zb).trans pb
  replace qb := (Sq.cell (p := ⟨w2_.heap.size, 1, none⟩) zb).trans qb
  replace zb : w2_.heap.size < w9_.heap.size := Nat.lt_of_lt_of_le zb Sq.size
  replace HR1 : Hid (Rd w9_ w9_.heap.size A1 [40]) := HR1.out.on Sq
  replace HR2 : Hid (Rd w9_ w9_.heap.size A2 [34]) := HR2.out.on Sq
  replace HR3 : Hid (Rd w9_ w9_.heap.size A3 []) := HR3.out.on Sq
  replace HB : Hid (Below w.heap.size w w9_) := HB.out.trans (Sq.mono HB.out.size)
  clear Bq Sq
  go_wp2
  go_ret
  exact ⟨rfl, HB.out⟩
end Go.Proofs.Ytcacbekdghlncaa
