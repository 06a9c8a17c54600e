/- The law GapsBits: what is written is read, behind and ahead of whatever bits; the law's walk, its calls in letters. -/
import Derived.Test.YthldcdcpflamaaaJGNBegun
namespace Go.Proofs.Ythldcdcpflamaaa
set_option maxRecDepth 100000
set_option linter.unusedVariables false
open Go.RowKit Go.Shelf

theorem up2_size (w : World) (o p : Obj) : ((w.alloc o).alloc p).heap.size = w.heap.size + 2 := by simp only [World.size_alloc]
theorem box2_at {w V : World} {a b c d : Value} (h : Below ((w.alloc (.cells #[a, b] 31)).alloc (.cells #[c, d] 31)).heap.size ((w.alloc (.cells #[a, b] 31)).alloc (.cells #[c, d] 31)) V) :
    (V.cell? ⟨w.heap.size, 0, none⟩ = some a ∧ V.cell? ⟨w.heap.size, 1, none⟩ = some b) ∧ (V.cell? ⟨w.heap.size + 1, 0, none⟩ = some c ∧ V.cell? ⟨w.heap.size + 1, 1, none⟩ = some d) ∧ w.heap.size + 1 < V.heap.size := by
  have hs := h.size
  rw [up2_size] at h hs
  have e0 := (h.block w.heap.size (by omega)).trans ((Below.heap_alloc (w.alloc (.cells #[a, b] 31)) (.cells #[c, d] 31) w.heap.size (by simp)).trans (World.alloc_heap_new w (.cells #[a, b] 31)))
  have n1 := World.alloc_heap_new (w.alloc (.cells #[a, b] 31)) (.cells #[c, d] 31)
  rw [World.size_alloc] at n1
  have e1 := (h.block (w.heap.size + 1) (by omega)).trans n1
  exact ⟨⟨(blk_cells e0).1, (blk_cells e0).2.1⟩, ⟨(blk_cells e1).1, (blk_cells e1).2.1⟩, by omega⟩
set_option maxHeartbeats 4000000 in
theorem gbits_w (A : Option Addr) (c : Nat) (xs : List Int) (n : Nat) (a k len1 len2 : Int) (A1 A2 : Option Addr) (c1 c2 n1 n2 : Nat) (bs1 bs2 : List Nat) (w : World) (hA : RdV w w.heap.size A (zc xs)) (hR1 : Rd w w.heap.size A1 bs1) (hR2 : Rd w w.heap.size A2 bs2) (eW : Int) (hW : eW ≠ 0) (l1 l2 e1 e2 : Int) (m1 m2 : Nat) (b1 b2 : List Nat)
    (HW : Hid (∀ w, RdV w w.heap.size A (zc xs) → Calls Try.prog 17 #[.slice A n c, .int .i64 a, .int .i64 k] w (Gv w 0 0 (pack []) eW)))
    (HJ1 : Hid (∀ A3 c3 w, Rd w w.heap.size A1 bs1 → Rd w w.heap.size A3 (pack []) → Calls Try.prog 30 #[.agg #[.int .i64 len1, .slice A1 n1 c1], .agg #[.int .i64 0, .slice A3 0 c3]] w (Gv w l1 m1 b1 e1)))
    (HJ2 : Hid (∀ A4 c4 w, Rd w w.heap.size A4 b1 → Rd w w.heap.size A2 bs2 → Calls Try.prog 30 #[.agg #[.int .i64 l1, .slice A4 m1 c4], .agg #[.int .i64 len2, .slice A2 n2 c2]] w (Gv w l2 m2 b2 e2))) :
    Calls Try.prog 6 #[.slice A n c, .int .i64 a, .int .i64 k, .agg #[.int .i64 len1, .slice A1 n1 c1], .agg #[.int .i64 len2, .slice A2 n2 c2]] w fun e w' => e = .returned (.bool true) ∧ Below w.heap.size w w' := by
  have t0 : (eW != 0) = true := by simpa using hW
  have t1 : (eW == 0) = false := by simpa using hW
  clear hW
  have HA := Lib.hid hA; have HR1 := Lib.hid hR1; have HR2 := Lib.hid hR2
  clear hA hR1 hR2
  go_enter Try.func6, Try.ntmps6
  go_wp2_with fail
  refine (HW.out _ (HA.out.on (up2 w _ _))).mono ?_
  rintro e w1_ ⟨A3, c3, rfl, Rq, Bq⟩
  have Sq : Below w.heap.size w w1_ := (up2 w _ _).trans (Bq.mono (by rw [up2_size]; omega))
  obtain ⟨⟨pa, qa⟩, ⟨pb, qb⟩, zb⟩ := box2_at Bq
  have za : w.heap.size < w1_.heap.size := by omega
  replace HA : Hid (RdV w1_ w1_.heap.size A (zc xs)) := HA.out.on Sq
  replace HR1 : Hid (Rd w1_ w1_.heap.size A1 bs1) := HR1.out.on Sq
  replace HR2 : Hid (Rd w1_ w1_.heap.size A2 bs2) := HR2.out.on Sq
  have HB : Hid (Below w.heap.size w w1_) := Sq
  clear Bq Sq
  have HR3 := Lib.hid Rq; clear Rq
  go_wp2_with fail
  refine (gapsbegun_true _).mono ?_
  rintro e w2_ ⟨rfl, Bq⟩
  rw [World.size_alloc] at Bq
  have Sq : Below w1_.heap.size w1_ w2_ := (one_below w1_ _).trans (Bq.mono (by omega))
  have zw : w1_.heap.size < w2_.heap.size := by have := Bq.size; rw [World.size_alloc] at this; omega
  obtain ⟨pw, qw⟩ := box_at Bq
  replace pa := (Sq.cell (p := ⟨w.heap.size, 0, none⟩) za).trans pa
  replace qa := (Sq.cell (p := ⟨w.heap.size, 1, none⟩) za).trans qa
  replace za : w.heap.size < w2_.heap.size := Nat.lt_of_lt_of_le za Sq.size
  replace pb := (Sq.cell (p := ⟨(w.heap.size + 1), 0, none⟩) zb).trans pb
  replace qb := (Sq.cell (p := ⟨(w.heap.size + 1), 1, none⟩) zb).trans qb
  replace zb : (w.heap.size + 1) < w2_.heap.size := Nat.lt_of_lt_of_le zb Sq.size
  replace HA : Hid (RdV w2_ w2_.heap.size A (zc xs)) := HA.out.on Sq
  replace HR1 : Hid (Rd w2_ w2_.heap.size A1 bs1) := HR1.out.on Sq
  replace HR2 : Hid (Rd w2_ w2_.heap.size A2 bs2) := HR2.out.on Sq
  replace HR3 : Hid (Rd w2_ w2_.heap.size A3 (pack [])) := HR3.out.on Sq
  replace HB : Hid (Below w.heap.size w w2_) := HB.out.trans (Sq.mono HB.out.size)
  clear Bq Sq
  go_wp2_with fail
  refine (begun_true _).mono ?_
  rintro e w3_ ⟨rfl, Bq⟩
  have Sq : Below w2_.heap.size w2_ w3_ := Bq
  replace pa := (Sq.cell (p := ⟨w.heap.size, 0, none⟩) za).trans pa
  replace qa := (Sq.cell (p := ⟨w.heap.size, 1, none⟩) za).trans qa
  replace za : w.heap.size < w3_.heap.size := Nat.lt_of_lt_of_le za Sq.size
  replace pb := (Sq.cell (p := ⟨(w.heap.size + 1), 0, none⟩) zb).trans pb
  replace qb := (Sq.cell (p := ⟨(w.heap.size + 1), 1, none⟩) zb).trans qb
  replace zb : (w.heap.size + 1) < w3_.heap.size := Nat.lt_of_lt_of_le zb Sq.size
  replace pw := (Sq.cell (p := ⟨w1_.heap.size, 0, none⟩) zw).trans pw
  replace qw := (Sq.cell (p := ⟨w1_.heap.size, 1, none⟩) zw).trans qw
  replace zw : w1_.heap.size < w3_.heap.size := Nat.lt_of_lt_of_le zw Sq.size
  replace HA : Hid (RdV w3_ w3_.heap.size A (zc xs)) := HA.out.on Sq
  replace HR1 : Hid (Rd w3_ w3_.heap.size A1 bs1) := HR1.out.on Sq
  replace HR2 : Hid (Rd w3_ w3_.heap.size A2 bs2) := HR2.out.on Sq
  replace HR3 : Hid (Rd w3_ w3_.heap.size A3 (pack [])) := HR3.out.on Sq
  replace HB : Hid (Below w.heap.size w w3_) := HB.out.trans (Sq.mono HB.out.size)
  clear Bq Sq
  go_wp2_with fail
  refine (HJ1.out A3 c3 _ HR1.out HR3.out).mono ?_
  rintro e w4_ ⟨A4, c4, rfl, Rq, Bq⟩
  have Sq : Below w3_.heap.size w3_ w4_ := Bq
  replace pa := (Sq.cell (p := ⟨w.heap.size, 0, none⟩) za).trans pa
  replace qa := (Sq.cell (p := ⟨w.heap.size, 1, none⟩) za).trans qa
  replace za : w.heap.size < w4_.heap.size := Nat.lt_of_lt_of_le za Sq.size
  replace pb := (Sq.cell (p := ⟨(w.heap.size + 1), 0, none⟩) zb).trans pb
  replace qb := (Sq.cell (p := ⟨(w.heap.size + 1), 1, none⟩) zb).trans qb
  replace zb : (w.heap.size + 1) < w4_.heap.size := Nat.lt_of_lt_of_le zb Sq.size
  replace pw := (Sq.cell (p := ⟨w1_.heap.size, 0, none⟩) zw).trans pw
  replace qw := (Sq.cell (p := ⟨w1_.heap.size, 1, none⟩) zw).trans qw
  replace zw : w1_.heap.size < w4_.heap.size := Nat.lt_of_lt_of_le zw Sq.size
  replace HA : Hid (RdV w4_ w4_.heap.size A (zc xs)) := HA.out.on Sq
  replace HR1 : Hid (Rd w4_ w4_.heap.size A1 bs1) := HR1.out.on Sq
  replace HR2 : Hid (Rd w4_ w4_.heap.size A2 bs2) := HR2.out.on Sq
  replace HR3 : Hid (Rd w4_ w4_.heap.size A3 (pack [])) := HR3.out.on Sq
  replace HB : Hid (Below w.heap.size w w4_) := HB.out.trans (Sq.mono HB.out.size)
  clear Bq Sq
  have HR4 := Lib.hid Rq; clear Rq
  go_wp2_with fail
  refine (HJ2.out A4 c4 _ (HR4.out.on (one_below w4_ _)) (HR2.out.on (one_below w4_ _))).mono ?_
  rintro e w5_ ⟨A5, c5, rfl, Rq, Bq⟩
  rw [World.size_alloc] at Bq
  have Sq : Below w4_.heap.size w4_ w5_ := (one_below w4_ _).trans (Bq.mono (by omega))
  have zx : w4_.heap.size < w5_.heap.size := by have := Bq.size; rw [World.size_alloc] at this; omega
  obtain ⟨px, qx⟩ := box_at Bq
  replace pa := (Sq.cell (p := ⟨w.heap.size, 0, none⟩) za).trans pa
  replace qa := (Sq.cell (p := ⟨w.heap.size, 1, none⟩) za).trans qa
  replace za : w.heap.size < w5_.heap.size := Nat.lt_of_lt_of_le za Sq.size
  replace pb := (Sq.cell (p := ⟨(w.heap.size + 1), 0, none⟩) zb).trans pb
  replace qb := (Sq.cell (p := ⟨(w.heap.size + 1), 1, none⟩) zb).trans qb
  replace zb : (w.heap.size + 1) < w5_.heap.size := Nat.lt_of_lt_of_le zb Sq.size
  replace pw := (Sq.cell (p := ⟨w1_.heap.size, 0, none⟩) zw).trans pw
  replace qw := (Sq.cell (p := ⟨w1_.heap.size, 1, none⟩) zw).trans qw
  replace zw : w1_.heap.size < w5_.heap.size := Nat.lt_of_lt_of_le zw Sq.size
  replace HA : Hid (RdV w5_ w5_.heap.size A (zc xs)) := HA.out.on Sq
  replace HR1 : Hid (Rd w5_ w5_.heap.size A1 bs1) := HR1.out.on Sq
  replace HR2 : Hid (Rd w5_ w5_.heap.size A2 bs2) := HR2.out.on Sq
  replace HR3 : Hid (Rd w5_ w5_.heap.size A3 (pack [])) := HR3.out.on Sq
  replace HR4 : Hid (Rd w5_ w5_.heap.size A4 b1) := HR4.out.on Sq
  replace HB : Hid (Below w.heap.size w w5_) := HB.out.trans (Sq.mono HB.out.size)
  clear Bq Sq
  have HR5 := Lib.hid Rq; clear Rq
  go_wp2_with fail
  refine (same_0 A3 none c3 0 _ (HR3.out.on (one_below w5_ _))).mono ?_
  rintro e w6_ ⟨rfl, Bq⟩
  rw [World.size_alloc] at Bq
  have Sq : Below w5_.heap.size w5_ w6_ := (one_below w5_ _).trans (Bq.mono (by omega))
  have zy : w5_.heap.size < w6_.heap.size := by have := Bq.size; rw [World.size_alloc] at this; omega
  obtain ⟨py, qy⟩ := box_at Bq
  replace pa := (Sq.cell (p := ⟨w.heap.size, 0, none⟩) za).trans pa
  replace qa := (Sq.cell (p := ⟨w.heap.size, 1, none⟩) za).trans qa
  replace za : w.heap.size < w6_.heap.size := Nat.lt_of_lt_of_le za Sq.size
  replace pb := (Sq.cell (p := ⟨(w.heap.size + 1), 0, none⟩) zb).trans pb
  replace qb := (Sq.cell (p := ⟨(w.heap.size + 1), 1, none⟩) zb).trans qb
  replace zb : (w.heap.size + 1) < w6_.heap.size := Nat.lt_of_lt_of_le zb Sq.size
  replace pw := (Sq.cell (p := ⟨w1_.heap.size, 0, none⟩) zw).trans pw
  replace qw := (Sq.cell (p := ⟨w1_.heap.size, 1, none⟩) zw).trans qw
  replace zw : w1_.heap.size < w6_.heap.size := Nat.lt_of_lt_of_le zw Sq.size
  replace px := (Sq.cell (p := ⟨w4_.heap.size, 0, none⟩) zx).trans px
  replace qx := (Sq.cell (p := ⟨w4_.heap.size, 1, none⟩) zx).trans qx
  replace zx : w4_.heap.size < w6_.heap.size := Nat.lt_of_lt_of_le zx Sq.size
  replace HA : Hid (RdV w6_ w6_.heap.size A (zc xs)) := HA.out.on Sq
  replace HR1 : Hid (Rd w6_ w6_.heap.size A1 bs1) := HR1.out.on Sq
  replace HR2 : Hid (Rd w6_ w6_.heap.size A2 bs2) := HR2.out.on Sq
  replace HR3 : Hid (Rd w6_ w6_.heap.size A3 (pack [])) := HR3.out.on Sq
  replace HR4 : Hid (Rd w6_ w6_.heap.size A4 b1) := HR4.out.on Sq
  replace HR5 : Hid (Rd w6_ w6_.heap.size A5 b2) := HR5.out.on Sq
  replace HB : Hid (Below w.heap.size w w6_) := HB.out.trans (Sq.mono HB.out.size)
  clear Bq Sq
  go_wp2
  go_ret
  exact ⟨rfl, HB.out⟩
set_option maxHeartbeats 4000000 in
theorem gbits_1 (A : Option Addr) (c : Nat) (xs : List Int) (n : Nat) (a k len1 len2 : Int) (A1 A2 : Option Addr) (c1 c2 n1 n2 : Nat) (bs1 bs2 : List Nat) (w : World) (hA : RdV w w.heap.size A (zc xs)) (hR1 : Rd w w.heap.size A1 bs1) (hR2 : Rd w w.heap.size A2 bs2) (lW : Int) (nW : Nat) (bW : List Nat) (e1 : Int) (h1 : e1 ≠ 0) (l2 e2 : Int) (m2 : Nat) (b2 : List Nat)
    (HW : Hid (∀ w, RdV w w.heap.size A (zc xs) → Calls Try.prog 17 #[.slice A n c, .int .i64 a, .int .i64 k] w (Gv w lW nW bW 0)))
    (HJ1 : Hid (∀ A3 c3 w, Rd w w.heap.size A1 bs1 → Rd w w.heap.size A3 bW → Calls Try.prog 30 #[.agg #[.int .i64 len1, .slice A1 n1 c1], .agg #[.int .i64 lW, .slice A3 nW c3]] w (Gv w 0 0 (pack []) e1)))
    (HJ2 : Hid (∀ A4 c4 w, Rd w w.heap.size A4 (pack []) → Rd w w.heap.size A2 bs2 → Calls Try.prog 30 #[.agg #[.int .i64 0, .slice A4 0 c4], .agg #[.int .i64 len2, .slice A2 n2 c2]] w (Gv w l2 m2 b2 e2))) :
    Calls Try.prog 6 #[.slice A n c, .int .i64 a, .int .i64 k, .agg #[.int .i64 len1, .slice A1 n1 c1], .agg #[.int .i64 len2, .slice A2 n2 c2]] w fun e w' => e = .returned (.bool true) ∧ Below w.heap.size w w' := by
  have t0 : (e1 != 0) = true := by simpa using h1
  clear h1
  have HA := Lib.hid hA; have HR1 := Lib.hid hR1; have HR2 := Lib.hid hR2
  clear hA hR1 hR2
  go_enter Try.func6, Try.ntmps6
  go_wp2_with fail
  refine (HW.out _ (HA.out.on (up2 w _ _))).mono ?_
  rintro e w1_ ⟨A3, c3, rfl, Rq, Bq⟩
  have Sq : Below w.heap.size w w1_ := (up2 w _ _).trans (Bq.mono (by rw [up2_size]; omega))
  obtain ⟨⟨pa, qa⟩, ⟨pb, qb⟩, zb⟩ := box2_at Bq
  have za : w.heap.size < w1_.heap.size := by omega
  replace HA : Hid (RdV w1_ w1_.heap.size A (zc xs)) := HA.out.on Sq
  replace HR1 : Hid (Rd w1_ w1_.heap.size A1 bs1) := HR1.out.on Sq
  replace HR2 : Hid (Rd w1_ w1_.heap.size A2 bs2) := HR2.out.on Sq
  have HB : Hid (Below w.heap.size w w1_) := Sq
  clear Bq Sq
  have HR3 := Lib.hid Rq; clear Rq
  go_wp2_with fail
  refine (gapsbegun_true _).mono ?_
  rintro e w2_ ⟨rfl, Bq⟩
  rw [World.size_alloc] at Bq
  have Sq : Below w1_.heap.size w1_ w2_ := (one_below w1_ _).trans (Bq.mono (by omega))
  have zw : w1_.heap.size < w2_.heap.size := by have := Bq.size; rw [World.size_alloc] at this; omega
  obtain ⟨pw, qw⟩ := box_at Bq
  replace pa := (Sq.cell (p := ⟨w.heap.size, 0, none⟩) za).trans pa
  replace qa := (Sq.cell (p := ⟨w.heap.size, 1, none⟩) za).trans qa
  replace za : w.heap.size < w2_.heap.size := Nat.lt_of_lt_of_le za Sq.size
  replace pb := (Sq.cell (p := ⟨(w.heap.size + 1), 0, none⟩) zb).trans pb
  replace qb := (Sq.cell (p := ⟨(w.heap.size + 1), 1, none⟩) zb).trans qb
  replace zb : (w.heap.size + 1) < w2_.heap.size := Nat.lt_of_lt_of_le zb Sq.size
  replace HA : Hid (RdV w2_ w2_.heap.size A (zc xs)) := HA.out.on Sq
  replace HR1 : Hid (Rd w2_ w2_.heap.size A1 bs1) := HR1.out.on Sq
  replace HR2 : Hid (Rd w2_ w2_.heap.size A2 bs2) := HR2.out.on Sq
  replace HR3 : Hid (Rd w2_ w2_.heap.size A3 bW) := HR3.out.on Sq
  replace HB : Hid (Below w.heap.size w w2_) := HB.out.trans (Sq.mono HB.out.size)
  clear Bq Sq
  go_wp2_with fail
  refine (begun_true _).mono ?_
  rintro e w3_ ⟨rfl, Bq⟩
  have Sq : Below w2_.heap.size w2_ w3_ := Bq
  replace pa := (Sq.cell (p := ⟨w.heap.size, 0, none⟩) za).trans pa
  replace qa := (Sq.cell (p := ⟨w.heap.size, 1, none⟩) za).trans qa
  replace za : w.heap.size < w3_.heap.size := Nat.lt_of_lt_of_le za Sq.size
  replace pb := (Sq.cell (p := ⟨(w.heap.size + 1), 0, none⟩) zb).trans pb
  replace qb := (Sq.cell (p := ⟨(w.heap.size + 1), 1, none⟩) zb).trans qb
  replace zb : (w.heap.size + 1) < w3_.heap.size := Nat.lt_of_lt_of_le zb Sq.size
  replace pw := (Sq.cell (p := ⟨w1_.heap.size, 0, none⟩) zw).trans pw
  replace qw := (Sq.cell (p := ⟨w1_.heap.size, 1, none⟩) zw).trans qw
  replace zw : w1_.heap.size < w3_.heap.size := Nat.lt_of_lt_of_le zw Sq.size
  replace HA : Hid (RdV w3_ w3_.heap.size A (zc xs)) := HA.out.on Sq
  replace HR1 : Hid (Rd w3_ w3_.heap.size A1 bs1) := HR1.out.on Sq
  replace HR2 : Hid (Rd w3_ w3_.heap.size A2 bs2) := HR2.out.on Sq
  replace HR3 : Hid (Rd w3_ w3_.heap.size A3 bW) := HR3.out.on Sq
  replace HB : Hid (Below w.heap.size w w3_) := HB.out.trans (Sq.mono HB.out.size)
  clear Bq Sq
  go_wp2_with fail
  refine (HJ1.out A3 c3 _ HR1.out HR3.out).mono ?_
  rintro e w4_ ⟨A4, c4, rfl, Rq, Bq⟩
  have Sq : Below w3_.heap.size w3_ w4_ := Bq
  replace pa := (Sq.cell (p := ⟨w.heap.size, 0, none⟩) za).trans pa
  replace qa := (Sq.cell (p := ⟨w.heap.size, 1, none⟩) za).trans qa
  replace za : w.heap.size < w4_.heap.size := Nat.lt_of_lt_of_le za Sq.size
  replace pb := (Sq.cell (p := ⟨(w.heap.size + 1), 0, none⟩) zb).trans pb
  replace qb := (Sq.cell (p := ⟨(w.heap.size + 1), 1, none⟩) zb).trans qb
  replace zb : (w.heap.size + 1) < w4_.heap.size := Nat.lt_of_lt_of_le zb Sq.size
  replace pw := (Sq.cell (p := ⟨w1_.heap.size, 0, none⟩) zw).trans pw
  replace qw := (Sq.cell (p := ⟨w1_.heap.size, 1, none⟩) zw).trans qw
  replace zw : w1_.heap.size < w4_.heap.size := Nat.lt_of_lt_of_le zw Sq.size
  replace HA : Hid (RdV w4_ w4_.heap.size A (zc xs)) := HA.out.on Sq
  replace HR1 : Hid (Rd w4_ w4_.heap.size A1 bs1) := HR1.out.on Sq
  replace HR2 : Hid (Rd w4_ w4_.heap.size A2 bs2) := HR2.out.on Sq
  replace HR3 : Hid (Rd w4_ w4_.heap.size A3 bW) := HR3.out.on Sq
  replace HB : Hid (Below w.heap.size w w4_) := HB.out.trans (Sq.mono HB.out.size)
  clear Bq Sq
  have HR4 := Lib.hid Rq; clear Rq
  go_wp2_with fail
  refine (HJ2.out A4 c4 _ (HR4.out.on (one_below w4_ _)) (HR2.out.on (one_below w4_ _))).mono ?_
  rintro e w5_ ⟨A5, c5, rfl, Rq, Bq⟩
  rw [World.size_alloc] at Bq
  have Sq : Below w4_.heap.size w4_ w5_ := (one_below w4_ _).trans (Bq.mono (by omega))
  have zx : w4_.heap.size < w5_.heap.size := by have := Bq.size; rw [World.size_alloc] at this; omega
  obtain ⟨px, qx⟩ := box_at Bq
  replace pa := (Sq.cell (p := ⟨w.heap.size, 0, none⟩) za).trans pa
  replace qa := (Sq.cell (p := ⟨w.heap.size, 1, none⟩) za).trans qa
  replace za : w.heap.size < w5_.heap.size := Nat.lt_of_lt_of_le za Sq.size
  replace pb := (Sq.cell (p := ⟨(w.heap.size + 1), 0, none⟩) zb).trans pb
  replace qb := (Sq.cell (p := ⟨(w.heap.size + 1), 1, none⟩) zb).trans qb
  replace zb : (w.heap.size + 1) < w5_.heap.size := Nat.lt_of_lt_of_le zb Sq.size
  replace pw := (Sq.cell (p := ⟨w1_.heap.size, 0, none⟩) zw).trans pw
  replace qw := (Sq.cell (p := ⟨w1_.heap.size, 1, none⟩) zw).trans qw
  replace zw : w1_.heap.size < w5_.heap.size := Nat.lt_of_lt_of_le zw Sq.size
  replace HA : Hid (RdV w5_ w5_.heap.size A (zc xs)) := HA.out.on Sq
  replace HR1 : Hid (Rd w5_ w5_.heap.size A1 bs1) := HR1.out.on Sq
  replace HR2 : Hid (Rd w5_ w5_.heap.size A2 bs2) := HR2.out.on Sq
  replace HR3 : Hid (Rd w5_ w5_.heap.size A3 bW) := HR3.out.on Sq
  replace HR4 : Hid (Rd w5_ w5_.heap.size A4 (pack [])) := HR4.out.on Sq
  replace HB : Hid (Below w.heap.size w w5_) := HB.out.trans (Sq.mono HB.out.size)
  clear Bq Sq
  have HR5 := Lib.hid Rq; clear Rq
  go_wp2
  go_ret
  exact ⟨rfl, HB.out.trans ((one_below _ _).mono HB.out.size)⟩
set_option maxHeartbeats 4000000 in
theorem gbits_2 (A : Option Addr) (c : Nat) (xs : List Int) (n : Nat) (a k len1 len2 : Int) (A1 A2 : Option Addr) (c1 c2 n1 n2 : Nat) (bs1 bs2 : List Nat) (w : World) (hA : RdV w w.heap.size A (zc xs)) (hR1 : Rd w w.heap.size A1 bs1) (hR2 : Rd w w.heap.size A2 bs2) (lW l1 : Int) (nW m1 : Nat) (bW b1 : List Nat) (e2 : Int) (h2 : e2 ≠ 0)
    (HW : Hid (∀ w, RdV w w.heap.size A (zc xs) → Calls Try.prog 17 #[.slice A n c, .int .i64 a, .int .i64 k] w (Gv w lW nW bW 0)))
    (HJ1 : Hid (∀ A3 c3 w, Rd w w.heap.size A1 bs1 → Rd w w.heap.size A3 bW → Calls Try.prog 30 #[.agg #[.int .i64 len1, .slice A1 n1 c1], .agg #[.int .i64 lW, .slice A3 nW c3]] w (Gv w l1 m1 b1 0)))
    (HJ2 : Hid (∀ A4 c4 w, Rd w w.heap.size A4 b1 → Rd w w.heap.size A2 bs2 → Calls Try.prog 30 #[.agg #[.int .i64 l1, .slice A4 m1 c4], .agg #[.int .i64 len2, .slice A2 n2 c2]] w (Gv w 0 0 (pack []) e2))) :
    Calls Try.prog 6 #[.slice A n c, .int .i64 a, .int .i64 k, .agg #[.int .i64 len1, .slice A1 n1 c1], .agg #[.int .i64 len2, .slice A2 n2 c2]] w fun e w' => e = .returned (.bool true) ∧ Below w.heap.size w w' := by
  have t0 : (e2 != 0) = true := by simpa using h2
  clear h2
  have HA := Lib.hid hA; have HR1 := Lib.hid hR1; have HR2 := Lib.hid hR2
  clear hA hR1 hR2
  go_enter Try.func6, Try.ntmps6
  go_wp2_with fail
  refine (HW.out _ (HA.out.on (up2 w _ _))).mono ?_
  rintro e w1_ ⟨A3, c3, rfl, Rq, Bq⟩
  have Sq : Below w.heap.size w w1_ := (up2 w _ _).trans (Bq.mono (by rw [up2_size]; omega))
  obtain ⟨⟨pa, qa⟩, ⟨pb, qb⟩, zb⟩ := box2_at Bq
  have za : w.heap.size < w1_.heap.size := by omega
  replace HA : Hid (RdV w1_ w1_.heap.size A (zc xs)) := HA.out.on Sq
  replace HR1 : Hid (Rd w1_ w1_.heap.size A1 bs1) := HR1.out.on Sq
  replace HR2 : Hid (Rd w1_ w1_.heap.size A2 bs2) := HR2.out.on Sq
  have HB : Hid (Below w.heap.size w w1_) := Sq
  clear Bq Sq
  have HR3 := Lib.hid Rq; clear Rq
  go_wp2_with fail
  refine (gapsbegun_true _).mono ?_
  rintro e w2_ ⟨rfl, Bq⟩
  rw [World.size_alloc] at Bq
  have Sq : Below w1_.heap.size w1_ w2_ := (one_below w1_ _).trans (Bq.mono (by omega))
  have zw : w1_.heap.size < w2_.heap.size := by have := Bq.size; rw [World.size_alloc] at this; omega
  obtain ⟨pw, qw⟩ := box_at Bq
  replace pa := (Sq.cell (p := ⟨w.heap.size, 0, none⟩) za).trans pa
  replace qa := (Sq.cell (p := ⟨w.heap.size, 1, none⟩) za).trans qa
  replace za : w.heap.size < w2_.heap.size := Nat.lt_of_lt_of_le za Sq.size
  replace pb := (Sq.cell (p := ⟨(w.heap.size + 1), 0, none⟩) zb).trans pb
  replace qb := (Sq.cell (p := ⟨(w.heap.size + 1), 1, none⟩) zb).trans qb
  replace zb : (w.heap.size + 1) < w2_.heap.size := Nat.lt_of_lt_of_le zb Sq.size
  replace HA : Hid (RdV w2_ w2_.heap.size A (zc xs)) := HA.out.on Sq
  replace HR1 : Hid (Rd w2_ w2_.heap.size A1 bs1) := HR1.out.on Sq
  replace HR2 : Hid (Rd w2_ w2_.heap.size A2 bs2) := HR2.out.on Sq
  replace HR3 : Hid (Rd w2_ w2_.heap.size A3 bW) := HR3.out.on Sq
  replace HB : Hid (Below w.heap.size w w2_) := HB.out.trans (Sq.mono HB.out.size)
  clear Bq Sq
  go_wp2_with fail
  refine (begun_true _).mono ?_
  rintro e w3_ ⟨rfl, Bq⟩
  have Sq : Below w2_.heap.size w2_ w3_ := Bq
  replace pa := (Sq.cell (p := ⟨w.heap.size, 0, none⟩) za).trans pa
  replace qa := (Sq.cell (p := ⟨w.heap.size, 1, none⟩) za).trans qa
  replace za : w.heap.size < w3_.heap.size := Nat.lt_of_lt_of_le za Sq.size
  replace pb := (Sq.cell (p := ⟨(w.heap.size + 1), 0, none⟩) zb).trans pb
  replace qb := (Sq.cell (p := ⟨(w.heap.size + 1), 1, none⟩) zb).trans qb
  replace zb : (w.heap.size + 1) < w3_.heap.size := Nat.lt_of_lt_of_le zb Sq.size
  replace pw := (Sq.cell (p := ⟨w1_.heap.size, 0, none⟩) zw).trans pw
  replace qw := (Sq.cell (p := ⟨w1_.heap.size, 1, none⟩) zw).trans qw
  replace zw : w1_.heap.size < w3_.heap.size := Nat.lt_of_lt_of_le zw Sq.size
  replace HA : Hid (RdV w3_ w3_.heap.size A (zc xs)) := HA.out.on Sq
  replace HR1 : Hid (Rd w3_ w3_.heap.size A1 bs1) := HR1.out.on Sq
  replace HR2 : Hid (Rd w3_ w3_.heap.size A2 bs2) := HR2.out.on Sq
  replace HR3 : Hid (Rd w3_ w3_.heap.size A3 bW) := HR3.out.on Sq
  replace HB : Hid (Below w.heap.size w w3_) := HB.out.trans (Sq.mono HB.out.size)
  clear Bq Sq
  go_wp2_with fail
  refine (HJ1.out A3 c3 _ HR1.out HR3.out).mono ?_
  rintro e w4_ ⟨A4, c4, rfl, Rq, Bq⟩
  have Sq : Below w3_.heap.size w3_ w4_ := Bq
  replace pa := (Sq.cell (p := ⟨w.heap.size, 0, none⟩) za).trans pa
  replace qa := (Sq.cell (p := ⟨w.heap.size, 1, none⟩) za).trans qa
  replace za : w.heap.size < w4_.heap.size := Nat.lt_of_lt_of_le za Sq.size
  replace pb := (Sq.cell (p := ⟨(w.heap.size + 1), 0, none⟩) zb).trans pb
  replace qb := (Sq.cell (p := ⟨(w.heap.size + 1), 1, none⟩) zb).trans qb
  replace zb : (w.heap.size + 1) < w4_.heap.size := Nat.lt_of_lt_of_le zb Sq.size
  replace pw := (Sq.cell (p := ⟨w1_.heap.size, 0, none⟩) zw).trans pw
  replace qw := (Sq.cell (p := ⟨w1_.heap.size, 1, none⟩) zw).trans qw
  replace zw : w1_.heap.size < w4_.heap.size := Nat.lt_of_lt_of_le zw Sq.size
  replace HA : Hid (RdV w4_ w4_.heap.size A (zc xs)) := HA.out.on Sq
  replace HR1 : Hid (Rd w4_ w4_.heap.size A1 bs1) := HR1.out.on Sq
  replace HR2 : Hid (Rd w4_ w4_.heap.size A2 bs2) := HR2.out.on Sq
  replace HR3 : Hid (Rd w4_ w4_.heap.size A3 bW) := HR3.out.on Sq
  replace HB : Hid (Below w.heap.size w w4_) := HB.out.trans (Sq.mono HB.out.size)
  clear Bq Sq
  have HR4 := Lib.hid Rq; clear Rq
  go_wp2_with fail
  refine (HJ2.out A4 c4 _ (HR4.out.on (one_below w4_ _)) (HR2.out.on (one_below w4_ _))).mono ?_
  rintro e w5_ ⟨A5, c5, rfl, Rq, Bq⟩
  rw [World.size_alloc] at Bq
  have Sq : Below w4_.heap.size w4_ w5_ := (one_below w4_ _).trans (Bq.mono (by omega))
  have zx : w4_.heap.size < w5_.heap.size := by have := Bq.size; rw [World.size_alloc] at this; omega
  obtain ⟨px, qx⟩ := box_at Bq
  replace pa := (Sq.cell (p := ⟨w.heap.size, 0, none⟩) za).trans pa
  replace qa := (Sq.cell (p := ⟨w.heap.size, 1, none⟩) za).trans qa
  replace za : w.heap.size < w5_.heap.size := Nat.lt_of_lt_of_le za Sq.size
  replace pb := (Sq.cell (p := ⟨(w.heap.size + 1), 0, none⟩) zb).trans pb
  replace qb := (Sq.cell (p := ⟨(w.heap.size + 1), 1, none⟩) zb).trans qb
  replace zb : (w.heap.size + 1) < w5_.heap.size := Nat.lt_of_lt_of_le zb Sq.size
  replace pw := (Sq.cell (p := ⟨w1_.heap.size, 0, none⟩) zw).trans pw
  replace qw := (Sq.cell (p := ⟨w1_.heap.size, 1, none⟩) zw).trans qw
  replace zw : w1_.heap.size < w5_.heap.size := Nat.lt_of_lt_of_le zw Sq.size
  replace HA : Hid (RdV w5_ w5_.heap.size A (zc xs)) := HA.out.on Sq
  replace HR1 : Hid (Rd w5_ w5_.heap.size A1 bs1) := HR1.out.on Sq
  replace HR2 : Hid (Rd w5_ w5_.heap.size A2 bs2) := HR2.out.on Sq
  replace HR3 : Hid (Rd w5_ w5_.heap.size A3 bW) := HR3.out.on Sq
  replace HR4 : Hid (Rd w5_ w5_.heap.size A4 b1) := HR4.out.on Sq
  replace HB : Hid (Below w.heap.size w w5_) := HB.out.trans (Sq.mono HB.out.size)
  clear Bq Sq
  have HR5 := Lib.hid Rq; clear Rq
  go_wp2
  go_ret
  exact ⟨rfl, HB.out.trans ((one_below _ _).mono HB.out.size)⟩
set_option maxHeartbeats 4000000 in
theorem gbits_3 (A : Option Addr) (c : Nat) (xs : List Int) (n : Nat) (a k len1 len2 : Int) (A1 A2 : Option Addr) (c1 c2 n1 n2 : Nat) (bs1 bs2 : List Nat) (w : World) (hA : RdV w w.heap.size A (zc xs)) (hR1 : Rd w w.heap.size A1 bs1) (hR2 : Rd w w.heap.size A2 bs2) (hn : xs.length = n) (hn2 : n ≤ 9223372036854775807) (lW l1 l2 : Int) (nW m1 m2 : Nat) (bW b1 b2 : List Nat) (q0 : 0 ≤ len1) (q1 : len1 ≤ 8192) (q2 : 0 ≤ lW) (q3 : lW ≤ 8192)
    (HW : Hid (∀ w, RdV w w.heap.size A (zc xs) → Calls Try.prog 17 #[.slice A n c, .int .i64 a, .int .i64 k] w (Gv w lW nW bW 0)))
    (HJ1 : Hid (∀ A3 c3 w, Rd w w.heap.size A1 bs1 → Rd w w.heap.size A3 bW → Calls Try.prog 30 #[.agg #[.int .i64 len1, .slice A1 n1 c1], .agg #[.int .i64 lW, .slice A3 nW c3]] w (Gv w l1 m1 b1 0)))
    (HJ2 : Hid (∀ A4 c4 w, Rd w w.heap.size A4 b1 → Rd w w.heap.size A2 bs2 → Calls Try.prog 30 #[.agg #[.int .i64 l1, .slice A4 m1 c4], .agg #[.int .i64 len2, .slice A2 n2 c2]] w (Gv w l2 m2 b2 0)))
    (HRd : Hid (∀ A5 c5 w, Rd w w.heap.size A5 b2 → Calls Try.prog 27 #[.agg #[.int .i64 l2, .slice A5 m2 c5], .int .i64 len1, .int .i64 a, .int .i64 k, .int .i64 (n : Int)] w fun e w' => ∃ A6 c6, e = .returned (.tuple #[.slice A6 n c6, .int .i64 (len1 + lW), .int .i64 0]) ∧ RdV w' w'.heap.size A6 (zc xs) ∧ Below w.heap.size w w')) :
    Calls Try.prog 6 #[.slice A n c, .int .i64 a, .int .i64 k, .agg #[.int .i64 len1, .slice A1 n1 c1], .agg #[.int .i64 len2, .slice A2 n2 c2]] w fun e w' => e = .returned (.bool true) ∧ Below w.heap.size w w' := by
  have t0 : (len1 + lW == len1 + lW) = true := by simp
  have HA := Lib.hid hA; have HR1 := Lib.hid hR1; have HR2 := Lib.hid hR2
  clear hA hR1 hR2
  go_enter Try.func6, Try.ntmps6
  go_wp2_with fail
  refine (HW.out _ (HA.out.on (up2 w _ _))).mono ?_
  rintro e w1_ ⟨A3, c3, rfl, Rq, Bq⟩
  have Sq : Below w.heap.size w w1_ := (up2 w _ _).trans (Bq.mono (by rw [up2_size]; omega))
  obtain ⟨⟨pa, qa⟩, ⟨pb, qb⟩, zb⟩ := box2_at Bq
  have za : w.heap.size < w1_.heap.size := by omega
  replace HA : Hid (RdV w1_ w1_.heap.size A (zc xs)) := HA.out.on Sq
  replace HR1 : Hid (Rd w1_ w1_.heap.size A1 bs1) := HR1.out.on Sq
  replace HR2 : Hid (Rd w1_ w1_.heap.size A2 bs2) := HR2.out.on Sq
  have HB : Hid (Below w.heap.size w w1_) := Sq
  clear Bq Sq
  have HR3 := Lib.hid Rq; clear Rq
  go_wp2_with fail
  refine (gapsbegun_true _).mono ?_
  rintro e w2_ ⟨rfl, Bq⟩
  rw [World.size_alloc] at Bq
  have Sq : Below w1_.heap.size w1_ w2_ := (one_below w1_ _).trans (Bq.mono (by omega))
  have zw : w1_.heap.size < w2_.heap.size := by have := Bq.size; rw [World.size_alloc] at this; omega
  obtain ⟨pw, qw⟩ := box_at Bq
  replace pa := (Sq.cell (p := ⟨w.heap.size, 0, none⟩) za).trans pa
  replace qa := (Sq.cell (p := ⟨w.heap.size, 1, none⟩) za).trans qa
  replace za : w.heap.size < w2_.heap.size := Nat.lt_of_lt_of_le za Sq.size
  replace pb := (Sq.cell (p := ⟨(w.heap.size + 1), 0, none⟩) zb).trans pb
  replace qb := (Sq.cell (p := ⟨(w.heap.size + 1), 1, none⟩) zb).trans qb
  replace zb : (w.heap.size + 1) < w2_.heap.size := Nat.lt_of_lt_of_le zb Sq.size
  replace HA : Hid (RdV w2_ w2_.heap.size A (zc xs)) := HA.out.on Sq
  replace HR1 : Hid (Rd w2_ w2_.heap.size A1 bs1) := HR1.out.on Sq
  replace HR2 : Hid (Rd w2_ w2_.heap.size A2 bs2) := HR2.out.on Sq
  replace HR3 : Hid (Rd w2_ w2_.heap.size A3 bW) := HR3.out.on Sq
  replace HB : Hid (Below w.heap.size w w2_) := HB.out.trans (Sq.mono HB.out.size)
  clear Bq Sq
  go_wp2_with fail
  refine (begun_true _).mono ?_
  rintro e w3_ ⟨rfl, Bq⟩
  have Sq : Below w2_.heap.size w2_ w3_ := Bq
  replace pa := (Sq.cell (p := ⟨w.heap.size, 0, none⟩) za).trans pa
  replace qa := (Sq.cell (p := ⟨w.heap.size, 1, none⟩) za).trans qa
  replace za : w.heap.size < w3_.heap.size := Nat.lt_of_lt_of_le za Sq.size
  replace pb := (Sq.cell (p := ⟨(w.heap.size + 1), 0, none⟩) zb).trans pb
  replace qb := (Sq.cell (p := ⟨(w.heap.size + 1), 1, none⟩) zb).trans qb
  replace zb : (w.heap.size + 1) < w3_.heap.size := Nat.lt_of_lt_of_le zb Sq.size
  replace pw := (Sq.cell (p := ⟨w1_.heap.size, 0, none⟩) zw).trans pw
  replace qw := (Sq.cell (p := ⟨w1_.heap.size, 1, none⟩) zw).trans qw
  replace zw : w1_.heap.size < w3_.heap.size := Nat.lt_of_lt_of_le zw Sq.size
  replace HA : Hid (RdV w3_ w3_.heap.size A (zc xs)) := HA.out.on Sq
  replace HR1 : Hid (Rd w3_ w3_.heap.size A1 bs1) := HR1.out.on Sq
  replace HR2 : Hid (Rd w3_ w3_.heap.size A2 bs2) := HR2.out.on Sq
  replace HR3 : Hid (Rd w3_ w3_.heap.size A3 bW) := HR3.out.on Sq
  replace HB : Hid (Below w.heap.size w w3_) := HB.out.trans (Sq.mono HB.out.size)
  clear Bq Sq
  go_wp2_with fail
  refine (HJ1.out A3 c3 _ HR1.out HR3.out).mono ?_
  rintro e w4_ ⟨A4, c4, rfl, Rq, Bq⟩
  have Sq : Below w3_.heap.size w3_ w4_ := Bq
  replace pa := (Sq.cell (p := ⟨w.heap.size, 0, none⟩) za).trans pa
  replace qa := (Sq.cell (p := ⟨w.heap.size, 1, none⟩) za).trans qa
  replace za : w.heap.size < w4_.heap.size := Nat.lt_of_lt_of_le za Sq.size
  replace pb := (Sq.cell (p := ⟨(w.heap.size + 1), 0, none⟩) zb).trans pb
  replace qb := (Sq.cell (p := ⟨(w.heap.size + 1), 1, none⟩) zb).trans qb
  replace zb : (w.heap.size + 1) < w4_.heap.size := Nat.lt_of_lt_of_le zb Sq.size
  replace pw := (Sq.cell (p := ⟨w1_.heap.size, 0, none⟩) zw).trans pw
  replace qw := (Sq.cell (p := ⟨w1_.heap.size, 1, none⟩) zw).trans qw
  replace zw : w1_.heap.size < w4_.heap.size := Nat.lt_of_lt_of_le zw Sq.size
  replace HA : Hid (RdV w4_ w4_.heap.size A (zc xs)) := HA.out.on Sq
  replace HR1 : Hid (Rd w4_ w4_.heap.size A1 bs1) := HR1.out.on Sq
  replace HR2 : Hid (Rd w4_ w4_.heap.size A2 bs2) := HR2.out.on Sq
  replace HR3 : Hid (Rd w4_ w4_.heap.size A3 bW) := HR3.out.on Sq
  replace HB : Hid (Below w.heap.size w w4_) := HB.out.trans (Sq.mono HB.out.size)
  clear Bq Sq
  have HR4 := Lib.hid Rq; clear Rq
  go_wp2_with fail
  refine (HJ2.out A4 c4 _ (HR4.out.on (one_below w4_ _)) (HR2.out.on (one_below w4_ _))).mono ?_
  rintro e w5_ ⟨A5, c5, rfl, Rq, Bq⟩
  rw [World.size_alloc] at Bq
  have Sq : Below w4_.heap.size w4_ w5_ := (one_below w4_ _).trans (Bq.mono (by omega))
  have zx : w4_.heap.size < w5_.heap.size := by have := Bq.size; rw [World.size_alloc] at this; omega
  obtain ⟨px, qx⟩ := box_at Bq
  replace pa := (Sq.cell (p := ⟨w.heap.size, 0, none⟩) za).trans pa
  replace qa := (Sq.cell (p := ⟨w.heap.size, 1, none⟩) za).trans qa
  replace za : w.heap.size < w5_.heap.size := Nat.lt_of_lt_of_le za Sq.size
  replace pb := (Sq.cell (p := ⟨(w.heap.size + 1), 0, none⟩) zb).trans pb
  replace qb := (Sq.cell (p := ⟨(w.heap.size + 1), 1, none⟩) zb).trans qb
  replace zb : (w.heap.size + 1) < w5_.heap.size := Nat.lt_of_lt_of_le zb Sq.size
  replace pw := (Sq.cell (p := ⟨w1_.heap.size, 0, none⟩) zw).trans pw
  replace qw := (Sq.cell (p := ⟨w1_.heap.size, 1, none⟩) zw).trans qw
  replace zw : w1_.heap.size < w5_.heap.size := Nat.lt_of_lt_of_le zw Sq.size
  replace HA : Hid (RdV w5_ w5_.heap.size A (zc xs)) := HA.out.on Sq
  replace HR1 : Hid (Rd w5_ w5_.heap.size A1 bs1) := HR1.out.on Sq
  replace HR2 : Hid (Rd w5_ w5_.heap.size A2 bs2) := HR2.out.on Sq
  replace HR3 : Hid (Rd w5_ w5_.heap.size A3 bW) := HR3.out.on Sq
  replace HR4 : Hid (Rd w5_ w5_.heap.size A4 b1) := HR4.out.on Sq
  replace HB : Hid (Below w.heap.size w w5_) := HB.out.trans (Sq.mono HB.out.size)
  clear Bq Sq
  have HR5 := Lib.hid Rq; clear Rq
  go_wp2_with fail
  refine (HRd.out A5 c5 _ (HR5.out.on (one_below w5_ _))).mono ?_
  rintro e w6_ ⟨A6, c6, rfl, Rq, Bq⟩
  rw [World.size_alloc] at Bq
  have Sq : Below w5_.heap.size w5_ w6_ := (one_below w5_ _).trans (Bq.mono (by omega))
  have zy : w5_.heap.size < w6_.heap.size := by have := Bq.size; rw [World.size_alloc] at this; omega
  obtain ⟨py, qy⟩ := box_at Bq
  replace pa := (Sq.cell (p := ⟨w.heap.size, 0, none⟩) za).trans pa
  replace qa := (Sq.cell (p := ⟨w.heap.size, 1, none⟩) za).trans qa
  replace za : w.heap.size < w6_.heap.size := Nat.lt_of_lt_of_le za Sq.size
  replace pb := (Sq.cell (p := ⟨(w.heap.size + 1), 0, none⟩) zb).trans pb
  replace qb := (Sq.cell (p := ⟨(w.heap.size + 1), 1, none⟩) zb).trans qb
  replace zb : (w.heap.size + 1) < w6_.heap.size := Nat.lt_of_lt_of_le zb Sq.size
  replace pw := (Sq.cell (p := ⟨w1_.heap.size, 0, none⟩) zw).trans pw
  replace qw := (Sq.cell (p := ⟨w1_.heap.size, 1, none⟩) zw).trans qw
  replace zw : w1_.heap.size < w6_.heap.size := Nat.lt_of_lt_of_le zw Sq.size
  replace px := (Sq.cell (p := ⟨w4_.heap.size, 0, none⟩) zx).trans px
  replace qx := (Sq.cell (p := ⟨w4_.heap.size, 1, none⟩) zx).trans qx
  replace zx : w4_.heap.size < w6_.heap.size := Nat.lt_of_lt_of_le zx Sq.size
  replace HA : Hid (RdV w6_ w6_.heap.size A (zc xs)) := HA.out.on Sq
  replace HR1 : Hid (Rd w6_ w6_.heap.size A1 bs1) := HR1.out.on Sq
  replace HR2 : Hid (Rd w6_ w6_.heap.size A2 bs2) := HR2.out.on Sq
  replace HR3 : Hid (Rd w6_ w6_.heap.size A3 bW) := HR3.out.on Sq
  replace HR4 : Hid (Rd w6_ w6_.heap.size A4 b1) := HR4.out.on Sq
  replace HR5 : Hid (Rd w6_ w6_.heap.size A5 b2) := HR5.out.on Sq
  replace HB : Hid (Below w.heap.size w w6_) := HB.out.trans (Sq.mono HB.out.size)
  clear Bq Sq
  have HR6 := Lib.hid Rq; clear Rq
  go_wp2_with fail
  refine (sameI_x xs n hn hn2 A6 A c6 c _ HR6.out HA.out).mono ?_
  rintro e w7_ ⟨rfl, Bq⟩
  have Sq : Below w6_.heap.size w6_ w7_ := Bq
  replace pa := (Sq.cell (p := ⟨w.heap.size, 0, none⟩) za).trans pa
  replace qa := (Sq.cell (p := ⟨w.heap.size, 1, none⟩) za).trans qa
  replace za : w.heap.size < w7_.heap.size := Nat.lt_of_lt_of_le za Sq.size
  replace pb := (Sq.cell (p := ⟨(w.heap.size + 1), 0, none⟩) zb).trans pb
  replace qb := (Sq.cell (p := ⟨(w.heap.size + 1), 1, none⟩) zb).trans qb
  replace zb : (w.heap.size + 1) < w7_.heap.size := Nat.lt_of_lt_of_le zb Sq.size
  replace pw := (Sq.cell (p := ⟨w1_.heap.size, 0, none⟩) zw).trans pw
  replace qw := (Sq.cell (p := ⟨w1_.heap.size, 1, none⟩) zw).trans qw
  replace zw : w1_.heap.size < w7_.heap.size := Nat.lt_of_lt_of_le zw Sq.size
  replace px := (Sq.cell (p := ⟨w4_.heap.size, 0, none⟩) zx).trans px
  replace qx := (Sq.cell (p := ⟨w4_.heap.size, 1, none⟩) zx).trans qx
  replace zx : w4_.heap.size < w7_.heap.size := Nat.lt_of_lt_of_le zx Sq.size
  replace py := (Sq.cell (p := ⟨w5_.heap.size, 0, none⟩) zy).trans py
  replace qy := (Sq.cell (p := ⟨w5_.heap.size, 1, none⟩) zy).trans qy
  replace zy : w5_.heap.size < w7_.heap.size := Nat.lt_of_lt_of_le zy Sq.size
  replace HA : Hid (RdV w7_ w7_.heap.size A (zc xs)) := HA.out.on Sq
  replace HR1 : Hid (Rd w7_ w7_.heap.size A1 bs1) := HR1.out.on Sq
  replace HR2 : Hid (Rd w7_ w7_.heap.size A2 bs2) := HR2.out.on Sq
  replace HR3 : Hid (Rd w7_ w7_.heap.size A3 bW) := HR3.out.on Sq
  replace HR4 : Hid (Rd w7_ w7_.heap.size A4 b1) := HR4.out.on Sq
  replace HR5 : Hid (Rd w7_ w7_.heap.size A5 b2) := HR5.out.on Sq
  replace HR6 : Hid (RdV w7_ w7_.heap.size A6 (zc xs)) := HR6.out.on Sq
  replace HB : Hid (Below w.heap.size w w7_) := HB.out.trans (Sq.mono HB.out.size)
  clear Bq Sq
  go_wp2
  go_ret
  exact ⟨rfl, HB.out⟩
end Go.Proofs.Ythldcdcpflamaaa
