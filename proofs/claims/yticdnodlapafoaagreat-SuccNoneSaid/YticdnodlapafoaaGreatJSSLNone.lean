/- The law SuccNone: a list of no numbers is one bit, whichever way it is told; for whatever is handed in. -/
import Derived.Test.YticdnodlapafoaaGreatJSSBegun
import Derived.Test.YticdnodlapafoaaGreatJS2
namespace Go.Proofs.YticdnodlapafoaaGreat
set_option maxRecDepth 100000
set_option linter.unusedVariables false
open Go.RowKit Go.Shelf

set_option maxHeartbeats 4000000 in
theorem snone_0 (a : Int) (A1 A2 : Option Addr) (c1 c2 n m : Nat) (b s k : Int) (w : World) (eZ : Int) (h0 : eZ ≠ 0) (lW : Int) (nW : Nat) (bW : List Nat) (eW : Int) (HZ : Hid (∀ V, Below w.heap.size w V → Calls Tryz.prog 15 #[.int .i64 a, .slice none 0 0, .slice A2 m c2, .agg #[.int .i64 b, .int .i64 s, .int .i64 k]] V (Gv V 0 0 (pack []) eZ))) (HX : Hid (∀ V, Below w.heap.size w V → Calls Tryz.prog 15 #[.int .i64 a, .slice A1 n c1, .slice A2 m c2, .agg #[.int .i64 b, .int .i64 s, .int .i64 k]] V (Gv V lW nW bW eW))) :
    Calls Tryz.prog 8 #[.int .i64 a, .slice A1 n c1, .slice A2 m c2, .agg #[.int .i64 b, .int .i64 s, .int .i64 k]] w fun e w' => e = .returned (.bool true) ∧ Below w.heap.size w w' := by
  have t0 : (eZ != 0) = true := by simpa using h0
  clear h0
  go_enter Tryz.func8, Tryz.ntmps8
  go_wp2_with fail
  refine (HZ.out _ (one_below w _)).mono ?_
  rintro e w1_ ⟨A3, c3, rfl, Rq, Bq⟩
  obtain ⟨Sq, Zq, X1_0⟩ := al1 Bq
  have Hh : Hid (w1_.heap[w.heap.size]? = some (.cells #[.int .i64 b, .int .i64 s, .int .i64 k] 24 (0, 0))) := X1_0
  have zh : w.heap.size < w1_.heap.size := by omega
  have ph0 : w1_.cell? ⟨w.heap.size, 0, none⟩ = some (.int .i64 b) := (cell_at Hh.out _).trans rfl
  have ph1 : w1_.cell? ⟨w.heap.size, 1, none⟩ = some (.int .i64 s) := (cell_at Hh.out _).trans rfl
  have ph2 : w1_.cell? ⟨w.heap.size, 2, none⟩ = some (.int .i64 k) := (cell_at Hh.out _).trans rfl
  clear Zq X1_0
  have HB : Hid (Below w.heap.size w w1_) := Sq
  clear Bq Sq
  have HR3 := Lib.hid Rq; clear Rq
  go_wp2_with fail
  refine (HX.out _ (HB.out.trans ((one_below w1_ _).mono HB.out.size))).mono ?_
  rintro e w2_ ⟨A4, c4, rfl, Rq, Bq⟩
  obtain ⟨Sq, Zq, X2_0⟩ := al1 Bq
  have Hz : Hid (w2_.heap[w1_.heap.size]? = some (.cells #[.int .i64 0, .slice A3 0 c3] 27 (0, 0))) := X2_0
  have zz : w1_.heap.size < w2_.heap.size := by omega
  have pz0 : w2_.cell? ⟨w1_.heap.size, 0, none⟩ = some (.int .i64 0) := (cell_at Hz.out _).trans rfl
  have pz1 : w2_.cell? ⟨w1_.heap.size, 1, none⟩ = some (.slice A3 0 c3) := (cell_at Hz.out _).trans rfl
  clear Zq X2_0
  replace Hh : Hid (w2_.heap[w.heap.size]? = some (.cells #[.int .i64 b, .int .i64 s, .int .i64 k] 24 (0, 0))) := (Sq.block _ zh).trans Hh.out
  replace ph0 : w2_.cell? ⟨w.heap.size, 0, none⟩ = some (.int .i64 b) := (cell_at Hh.out _).trans rfl
  replace ph1 : w2_.cell? ⟨w.heap.size, 1, none⟩ = some (.int .i64 s) := (cell_at Hh.out _).trans rfl
  replace ph2 : w2_.cell? ⟨w.heap.size, 2, none⟩ = some (.int .i64 k) := (cell_at Hh.out _).trans rfl
  replace zh : w.heap.size < w2_.heap.size := Nat.lt_of_lt_of_le zh Sq.size
  replace HR3 : Hid (Rd w2_ w2_.heap.size A3 (pack [])) := HR3.out.on Sq
  replace HB : Hid (Below w.heap.size w w2_) := HB.out.trans (Sq.mono HB.out.size)
  clear Bq Sq
  have HR4 := Lib.hid Rq; clear Rq
  go_wp2_with fail
  refine (succbegun_true _).mono ?_
  rintro e w3_ ⟨rfl, Bq⟩
  obtain ⟨Sq, Zq, X3_0⟩ := al1 Bq
  have Hx : Hid (w3_.heap[w2_.heap.size]? = some (.cells #[.int .i64 lW, .slice A4 nW c4] 27 (0, 0))) := X3_0
  have zx : w2_.heap.size < w3_.heap.size := by omega
  have px0 : w3_.cell? ⟨w2_.heap.size, 0, none⟩ = some (.int .i64 lW) := (cell_at Hx.out _).trans rfl
  have px1 : w3_.cell? ⟨w2_.heap.size, 1, none⟩ = some (.slice A4 nW c4) := (cell_at Hx.out _).trans rfl
  clear Zq X3_0
  replace Hh : Hid (w3_.heap[w.heap.size]? = some (.cells #[.int .i64 b, .int .i64 s, .int .i64 k] 24 (0, 0))) := (Sq.block _ zh).trans Hh.out
  replace ph0 : w3_.cell? ⟨w.heap.size, 0, none⟩ = some (.int .i64 b) := (cell_at Hh.out _).trans rfl
  replace ph1 : w3_.cell? ⟨w.heap.size, 1, none⟩ = some (.int .i64 s) := (cell_at Hh.out _).trans rfl
  replace ph2 : w3_.cell? ⟨w.heap.size, 2, none⟩ = some (.int .i64 k) := (cell_at Hh.out _).trans rfl
  replace zh : w.heap.size < w3_.heap.size := Nat.lt_of_lt_of_le zh Sq.size
  replace Hz : Hid (w3_.heap[w1_.heap.size]? = some (.cells #[.int .i64 0, .slice A3 0 c3] 27 (0, 0))) := (Sq.block _ zz).trans Hz.out
  replace pz0 : w3_.cell? ⟨w1_.heap.size, 0, none⟩ = some (.int .i64 0) := (cell_at Hz.out _).trans rfl
  replace pz1 : w3_.cell? ⟨w1_.heap.size, 1, none⟩ = some (.slice A3 0 c3) := (cell_at Hz.out _).trans rfl
  replace zz : w1_.heap.size < w3_.heap.size := Nat.lt_of_lt_of_le zz Sq.size
  replace HR3 : Hid (Rd w3_ w3_.heap.size A3 (pack [])) := HR3.out.on Sq
  replace HR4 : Hid (Rd w3_ w3_.heap.size A4 bW) := HR4.out.on Sq
  replace HB : Hid (Below w.heap.size w w3_) := HB.out.trans (Sq.mono HB.out.size)
  clear Bq Sq
  go_wp2_with fail
  refine (begun_true _).mono ?_
  rintro e w4_ ⟨rfl, Bq⟩
  have Sq : Below w3_.heap.size w3_ w4_ := Bq
  replace Hh : Hid (w4_.heap[w.heap.size]? = some (.cells #[.int .i64 b, .int .i64 s, .int .i64 k] 24 (0, 0))) := (Sq.block _ zh).trans Hh.out
  replace ph0 : w4_.cell? ⟨w.heap.size, 0, none⟩ = some (.int .i64 b) := (cell_at Hh.out _).trans rfl
  replace ph1 : w4_.cell? ⟨w.heap.size, 1, none⟩ = some (.int .i64 s) := (cell_at Hh.out _).trans rfl
  replace ph2 : w4_.cell? ⟨w.heap.size, 2, none⟩ = some (.int .i64 k) := (cell_at Hh.out _).trans rfl
  replace zh : w.heap.size < w4_.heap.size := Nat.lt_of_lt_of_le zh Sq.size
  replace Hz : Hid (w4_.heap[w1_.heap.size]? = some (.cells #[.int .i64 0, .slice A3 0 c3] 27 (0, 0))) := (Sq.block _ zz).trans Hz.out
  replace pz0 : w4_.cell? ⟨w1_.heap.size, 0, none⟩ = some (.int .i64 0) := (cell_at Hz.out _).trans rfl
  replace pz1 : w4_.cell? ⟨w1_.heap.size, 1, none⟩ = some (.slice A3 0 c3) := (cell_at Hz.out _).trans rfl
  replace zz : w1_.heap.size < w4_.heap.size := Nat.lt_of_lt_of_le zz Sq.size
  replace Hx : Hid (w4_.heap[w2_.heap.size]? = some (.cells #[.int .i64 lW, .slice A4 nW c4] 27 (0, 0))) := (Sq.block _ zx).trans Hx.out
  replace px0 : w4_.cell? ⟨w2_.heap.size, 0, none⟩ = some (.int .i64 lW) := (cell_at Hx.out _).trans rfl
  replace px1 : w4_.cell? ⟨w2_.heap.size, 1, none⟩ = some (.slice A4 nW c4) := (cell_at Hx.out _).trans rfl
  replace zx : w2_.heap.size < w4_.heap.size := Nat.lt_of_lt_of_le zx Sq.size
  replace HR3 : Hid (Rd w4_ w4_.heap.size A3 (pack [])) := HR3.out.on Sq
  replace HR4 : Hid (Rd w4_ w4_.heap.size A4 bW) := HR4.out.on Sq
  replace HB : Hid (Below w.heap.size w w4_) := HB.out.trans (Sq.mono HB.out.size)
  clear Bq Sq
  go_wp2_with fail
  refine (same_0 A3 none c3 0 _ HR3.out).mono ?_
  rintro e w5_ ⟨rfl, Bq⟩
  have Sq : Below w4_.heap.size w4_ w5_ := Bq
  replace Hh : Hid (w5_.heap[w.heap.size]? = some (.cells #[.int .i64 b, .int .i64 s, .int .i64 k] 24 (0, 0))) := (Sq.block _ zh).trans Hh.out
  replace ph0 : w5_.cell? ⟨w.heap.size, 0, none⟩ = some (.int .i64 b) := (cell_at Hh.out _).trans rfl
  replace ph1 : w5_.cell? ⟨w.heap.size, 1, none⟩ = some (.int .i64 s) := (cell_at Hh.out _).trans rfl
  replace ph2 : w5_.cell? ⟨w.heap.size, 2, none⟩ = some (.int .i64 k) := (cell_at Hh.out _).trans rfl
  replace zh : w.heap.size < w5_.heap.size := Nat.lt_of_lt_of_le zh Sq.size
  replace Hz : Hid (w5_.heap[w1_.heap.size]? = some (.cells #[.int .i64 0, .slice A3 0 c3] 27 (0, 0))) := (Sq.block _ zz).trans Hz.out
  replace pz0 : w5_.cell? ⟨w1_.heap.size, 0, none⟩ = some (.int .i64 0) := (cell_at Hz.out _).trans rfl
  replace pz1 : w5_.cell? ⟨w1_.heap.size, 1, none⟩ = some (.slice A3 0 c3) := (cell_at Hz.out _).trans rfl
  replace zz : w1_.heap.size < w5_.heap.size := Nat.lt_of_lt_of_le zz Sq.size
  replace Hx : Hid (w5_.heap[w2_.heap.size]? = some (.cells #[.int .i64 lW, .slice A4 nW c4] 27 (0, 0))) := (Sq.block _ zx).trans Hx.out
  replace px0 : w5_.cell? ⟨w2_.heap.size, 0, none⟩ = some (.int .i64 lW) := (cell_at Hx.out _).trans rfl
  replace px1 : w5_.cell? ⟨w2_.heap.size, 1, none⟩ = some (.slice A4 nW c4) := (cell_at Hx.out _).trans rfl
  replace zx : w2_.heap.size < w5_.heap.size := Nat.lt_of_lt_of_le zx Sq.size
  replace HR3 : Hid (Rd w5_ w5_.heap.size A3 (pack [])) := HR3.out.on Sq
  replace HR4 : Hid (Rd w5_ w5_.heap.size A4 bW) := HR4.out.on Sq
  replace HB : Hid (Below w.heap.size w w5_) := HB.out.trans (Sq.mono HB.out.size)
  clear Bq Sq
  go_wp2
  go_ret
  exact ⟨rfl, HB.out⟩
set_option maxHeartbeats 4000000 in
theorem snone_1 (a : Int) (A1 A2 : Option Addr) (c1 c2 n m : Nat) (b s k : Int) (w : World) (eW : Int) (h0 : eW ≠ 0) (lW : Int) (nW : Nat) (bW : List Nat) (HZ : Hid (∀ V, Below w.heap.size w V → Calls Tryz.prog 15 #[.int .i64 a, .slice none 0 0, .slice A2 m c2, .agg #[.int .i64 b, .int .i64 s, .int .i64 k]] V (Gv V 1 1 (pack [true]) 0))) (HX : Hid (∀ V, Below w.heap.size w V → Calls Tryz.prog 15 #[.int .i64 a, .slice A1 n c1, .slice A2 m c2, .agg #[.int .i64 b, .int .i64 s, .int .i64 k]] V (Gv V lW nW bW eW))) :
    Calls Tryz.prog 8 #[.int .i64 a, .slice A1 n c1, .slice A2 m c2, .agg #[.int .i64 b, .int .i64 s, .int .i64 k]] w fun e w' => e = .returned (.bool true) ∧ Below w.heap.size w w' := by
  have t0 : (eW != 0) = true := by simpa using h0
  clear h0
  go_enter Tryz.func8, Tryz.ntmps8
  go_wp2_with fail
  refine (HZ.out _ (one_below w _)).mono ?_
  rintro e w1_ ⟨A3, c3, rfl, Rq, Bq⟩
  obtain ⟨Sq, Zq, X1_0⟩ := al1 Bq
  have Hh : Hid (w1_.heap[w.heap.size]? = some (.cells #[.int .i64 b, .int .i64 s, .int .i64 k] 24 (0, 0))) := X1_0
  have zh : w.heap.size < w1_.heap.size := by omega
  have ph0 : w1_.cell? ⟨w.heap.size, 0, none⟩ = some (.int .i64 b) := (cell_at Hh.out _).trans rfl
  have ph1 : w1_.cell? ⟨w.heap.size, 1, none⟩ = some (.int .i64 s) := (cell_at Hh.out _).trans rfl
  have ph2 : w1_.cell? ⟨w.heap.size, 2, none⟩ = some (.int .i64 k) := (cell_at Hh.out _).trans rfl
  clear Zq X1_0
  have HB : Hid (Below w.heap.size w w1_) := Sq
  clear Bq Sq
  have HR3 := Lib.hid Rq; clear Rq
  go_wp2_with fail
  refine (HX.out _ (HB.out.trans ((one_below w1_ _).mono HB.out.size))).mono ?_
  rintro e w2_ ⟨A4, c4, rfl, Rq, Bq⟩
  obtain ⟨Sq, Zq, X2_0⟩ := al1 Bq
  have Hz : Hid (w2_.heap[w1_.heap.size]? = some (.cells #[.int .i64 1, .slice A3 1 c3] 27 (0, 0))) := X2_0
  have zz : w1_.heap.size < w2_.heap.size := by omega
  have pz0 : w2_.cell? ⟨w1_.heap.size, 0, none⟩ = some (.int .i64 1) := (cell_at Hz.out _).trans rfl
  have pz1 : w2_.cell? ⟨w1_.heap.size, 1, none⟩ = some (.slice A3 1 c3) := (cell_at Hz.out _).trans rfl
  clear Zq X2_0
  replace Hh : Hid (w2_.heap[w.heap.size]? = some (.cells #[.int .i64 b, .int .i64 s, .int .i64 k] 24 (0, 0))) := (Sq.block _ zh).trans Hh.out
  replace ph0 : w2_.cell? ⟨w.heap.size, 0, none⟩ = some (.int .i64 b) := (cell_at Hh.out _).trans rfl
  replace ph1 : w2_.cell? ⟨w.heap.size, 1, none⟩ = some (.int .i64 s) := (cell_at Hh.out _).trans rfl
  replace ph2 : w2_.cell? ⟨w.heap.size, 2, none⟩ = some (.int .i64 k) := (cell_at Hh.out _).trans rfl
  replace zh : w.heap.size < w2_.heap.size := Nat.lt_of_lt_of_le zh Sq.size
  replace HR3 : Hid (Rd w2_ w2_.heap.size A3 (pack [true])) := HR3.out.on Sq
  replace HB : Hid (Below w.heap.size w w2_) := HB.out.trans (Sq.mono HB.out.size)
  clear Bq Sq
  have HR4 := Lib.hid Rq; clear Rq
  go_wp2_with fail
  refine (succbegun_true _).mono ?_
  rintro e w3_ ⟨rfl, Bq⟩
  obtain ⟨Sq, Zq, X3_0⟩ := al1 Bq
  have Hx : Hid (w3_.heap[w2_.heap.size]? = some (.cells #[.int .i64 lW, .slice A4 nW c4] 27 (0, 0))) := X3_0
  have zx : w2_.heap.size < w3_.heap.size := by omega
  have px0 : w3_.cell? ⟨w2_.heap.size, 0, none⟩ = some (.int .i64 lW) := (cell_at Hx.out _).trans rfl
  have px1 : w3_.cell? ⟨w2_.heap.size, 1, none⟩ = some (.slice A4 nW c4) := (cell_at Hx.out _).trans rfl
  clear Zq X3_0
  replace Hh : Hid (w3_.heap[w.heap.size]? = some (.cells #[.int .i64 b, .int .i64 s, .int .i64 k] 24 (0, 0))) := (Sq.block _ zh).trans Hh.out
  replace ph0 : w3_.cell? ⟨w.heap.size, 0, none⟩ = some (.int .i64 b) := (cell_at Hh.out _).trans rfl
  replace ph1 : w3_.cell? ⟨w.heap.size, 1, none⟩ = some (.int .i64 s) := (cell_at Hh.out _).trans rfl
  replace ph2 : w3_.cell? ⟨w.heap.size, 2, none⟩ = some (.int .i64 k) := (cell_at Hh.out _).trans rfl
  replace zh : w.heap.size < w3_.heap.size := Nat.lt_of_lt_of_le zh Sq.size
  replace Hz : Hid (w3_.heap[w1_.heap.size]? = some (.cells #[.int .i64 1, .slice A3 1 c3] 27 (0, 0))) := (Sq.block _ zz).trans Hz.out
  replace pz0 : w3_.cell? ⟨w1_.heap.size, 0, none⟩ = some (.int .i64 1) := (cell_at Hz.out _).trans rfl
  replace pz1 : w3_.cell? ⟨w1_.heap.size, 1, none⟩ = some (.slice A3 1 c3) := (cell_at Hz.out _).trans rfl
  replace zz : w1_.heap.size < w3_.heap.size := Nat.lt_of_lt_of_le zz Sq.size
  replace HR3 : Hid (Rd w3_ w3_.heap.size A3 (pack [true])) := HR3.out.on Sq
  replace HR4 : Hid (Rd w3_ w3_.heap.size A4 bW) := HR4.out.on Sq
  replace HB : Hid (Below w.heap.size w w3_) := HB.out.trans (Sq.mono HB.out.size)
  clear Bq Sq
  go_wp2_with fail
  refine (begun_true _).mono ?_
  rintro e w4_ ⟨rfl, Bq⟩
  have Sq : Below w3_.heap.size w3_ w4_ := Bq
  replace Hh : Hid (w4_.heap[w.heap.size]? = some (.cells #[.int .i64 b, .int .i64 s, .int .i64 k] 24 (0, 0))) := (Sq.block _ zh).trans Hh.out
  replace ph0 : w4_.cell? ⟨w.heap.size, 0, none⟩ = some (.int .i64 b) := (cell_at Hh.out _).trans rfl
  replace ph1 : w4_.cell? ⟨w.heap.size, 1, none⟩ = some (.int .i64 s) := (cell_at Hh.out _).trans rfl
  replace ph2 : w4_.cell? ⟨w.heap.size, 2, none⟩ = some (.int .i64 k) := (cell_at Hh.out _).trans rfl
  replace zh : w.heap.size < w4_.heap.size := Nat.lt_of_lt_of_le zh Sq.size
  replace Hz : Hid (w4_.heap[w1_.heap.size]? = some (.cells #[.int .i64 1, .slice A3 1 c3] 27 (0, 0))) := (Sq.block _ zz).trans Hz.out
  replace pz0 : w4_.cell? ⟨w1_.heap.size, 0, none⟩ = some (.int .i64 1) := (cell_at Hz.out _).trans rfl
  replace pz1 : w4_.cell? ⟨w1_.heap.size, 1, none⟩ = some (.slice A3 1 c3) := (cell_at Hz.out _).trans rfl
  replace zz : w1_.heap.size < w4_.heap.size := Nat.lt_of_lt_of_le zz Sq.size
  replace Hx : Hid (w4_.heap[w2_.heap.size]? = some (.cells #[.int .i64 lW, .slice A4 nW c4] 27 (0, 0))) := (Sq.block _ zx).trans Hx.out
  replace px0 : w4_.cell? ⟨w2_.heap.size, 0, none⟩ = some (.int .i64 lW) := (cell_at Hx.out _).trans rfl
  replace px1 : w4_.cell? ⟨w2_.heap.size, 1, none⟩ = some (.slice A4 nW c4) := (cell_at Hx.out _).trans rfl
  replace zx : w2_.heap.size < w4_.heap.size := Nat.lt_of_lt_of_le zx Sq.size
  replace HR3 : Hid (Rd w4_ w4_.heap.size A3 (pack [true])) := HR3.out.on Sq
  replace HR4 : Hid (Rd w4_ w4_.heap.size A4 bW) := HR4.out.on Sq
  replace HB : Hid (Below w.heap.size w w4_) := HB.out.trans (Sq.mono HB.out.size)
  clear Bq Sq
  go_wp2
  go_ret
  exact ⟨rfl, HB.out⟩
set_option maxHeartbeats 4000000 in
theorem snone_2 (a : Int) (A1 A2 : Option Addr) (c1 c2 n m : Nat) (b s k : Int) (w : World) (hn : ((n : Int) == 0) = true) (lW : Int) (nW : Nat) (bW : List Nat) (eW : Int) (he : eW = 0) (HZ : Hid (∀ V, Below w.heap.size w V → Calls Tryz.prog 15 #[.int .i64 a, .slice none 0 0, .slice A2 m c2, .agg #[.int .i64 b, .int .i64 s, .int .i64 k]] V (Gv V 1 1 (pack [true]) 0))) (HX : Hid (∀ V, Below w.heap.size w V → Calls Tryz.prog 15 #[.int .i64 a, .slice A1 n c1, .slice A2 m c2, .agg #[.int .i64 b, .int .i64 s, .int .i64 k]] V (Gv V lW nW bW eW)))
    (HG : Hid (∀ A c V, Rd V V.heap.size A bW → Calls Tryz.prog 29 #[.agg #[.int .i64 lW, .slice A nW c], .int .i64 0, .int .i64 1] V fun e w' => e = .returned (.tuple #[.int .u64 1, .int .i64 0]) ∧ Below V.heap.size V w')) :
    Calls Tryz.prog 8 #[.int .i64 a, .slice A1 n c1, .slice A2 m c2, .agg #[.int .i64 b, .int .i64 s, .int .i64 k]] w fun e w' => e = .returned (.bool true) ∧ Below w.heap.size w w' := by
  subst he
  go_enter Tryz.func8, Tryz.ntmps8
  go_wp2_with fail
  refine (HZ.out _ (one_below w _)).mono ?_
  rintro e w1_ ⟨A3, c3, rfl, Rq, Bq⟩
  obtain ⟨Sq, Zq, X1_0⟩ := al1 Bq
  have Hh : Hid (w1_.heap[w.heap.size]? = some (.cells #[.int .i64 b, .int .i64 s, .int .i64 k] 24 (0, 0))) := X1_0
  have zh : w.heap.size < w1_.heap.size := by omega
  have ph0 : w1_.cell? ⟨w.heap.size, 0, none⟩ = some (.int .i64 b) := (cell_at Hh.out _).trans rfl
  have ph1 : w1_.cell? ⟨w.heap.size, 1, none⟩ = some (.int .i64 s) := (cell_at Hh.out _).trans rfl
  have ph2 : w1_.cell? ⟨w.heap.size, 2, none⟩ = some (.int .i64 k) := (cell_at Hh.out _).trans rfl
  clear Zq X1_0
  have HB : Hid (Below w.heap.size w w1_) := Sq
  clear Bq Sq
  have HR3 := Lib.hid Rq; clear Rq
  go_wp2_with fail
  refine (HX.out _ (HB.out.trans ((one_below w1_ _).mono HB.out.size))).mono ?_
  rintro e w2_ ⟨A4, c4, rfl, Rq, Bq⟩
  obtain ⟨Sq, Zq, X2_0⟩ := al1 Bq
  have Hz : Hid (w2_.heap[w1_.heap.size]? = some (.cells #[.int .i64 1, .slice A3 1 c3] 27 (0, 0))) := X2_0
  have zz : w1_.heap.size < w2_.heap.size := by omega
  have pz0 : w2_.cell? ⟨w1_.heap.size, 0, none⟩ = some (.int .i64 1) := (cell_at Hz.out _).trans rfl
  have pz1 : w2_.cell? ⟨w1_.heap.size, 1, none⟩ = some (.slice A3 1 c3) := (cell_at Hz.out _).trans rfl
  clear Zq X2_0
  replace Hh : Hid (w2_.heap[w.heap.size]? = some (.cells #[.int .i64 b, .int .i64 s, .int .i64 k] 24 (0, 0))) := (Sq.block _ zh).trans Hh.out
  replace ph0 : w2_.cell? ⟨w.heap.size, 0, none⟩ = some (.int .i64 b) := (cell_at Hh.out _).trans rfl
  replace ph1 : w2_.cell? ⟨w.heap.size, 1, none⟩ = some (.int .i64 s) := (cell_at Hh.out _).trans rfl
  replace ph2 : w2_.cell? ⟨w.heap.size, 2, none⟩ = some (.int .i64 k) := (cell_at Hh.out _).trans rfl
  replace zh : w.heap.size < w2_.heap.size := Nat.lt_of_lt_of_le zh Sq.size
  replace HR3 : Hid (Rd w2_ w2_.heap.size A3 (pack [true])) := HR3.out.on Sq
  replace HB : Hid (Below w.heap.size w w2_) := HB.out.trans (Sq.mono HB.out.size)
  clear Bq Sq
  have HR4 := Lib.hid Rq; clear Rq
  go_wp2_with fail
  refine (succbegun_true _).mono ?_
  rintro e w3_ ⟨rfl, Bq⟩
  obtain ⟨Sq, Zq, X3_0⟩ := al1 Bq
  have Hx : Hid (w3_.heap[w2_.heap.size]? = some (.cells #[.int .i64 lW, .slice A4 nW c4] 27 (0, 0))) := X3_0
  have zx : w2_.heap.size < w3_.heap.size := by omega
  have px0 : w3_.cell? ⟨w2_.heap.size, 0, none⟩ = some (.int .i64 lW) := (cell_at Hx.out _).trans rfl
  have px1 : w3_.cell? ⟨w2_.heap.size, 1, none⟩ = some (.slice A4 nW c4) := (cell_at Hx.out _).trans rfl
  clear Zq X3_0
  replace Hh : Hid (w3_.heap[w.heap.size]? = some (.cells #[.int .i64 b, .int .i64 s, .int .i64 k] 24 (0, 0))) := (Sq.block _ zh).trans Hh.out
  replace ph0 : w3_.cell? ⟨w.heap.size, 0, none⟩ = some (.int .i64 b) := (cell_at Hh.out _).trans rfl
  replace ph1 : w3_.cell? ⟨w.heap.size, 1, none⟩ = some (.int .i64 s) := (cell_at Hh.out _).trans rfl
  replace ph2 : w3_.cell? ⟨w.heap.size, 2, none⟩ = some (.int .i64 k) := (cell_at Hh.out _).trans rfl
  replace zh : w.heap.size < w3_.heap.size := Nat.lt_of_lt_of_le zh Sq.size
  replace Hz : Hid (w3_.heap[w1_.heap.size]? = some (.cells #[.int .i64 1, .slice A3 1 c3] 27 (0, 0))) := (Sq.block _ zz).trans Hz.out
  replace pz0 : w3_.cell? ⟨w1_.heap.size, 0, none⟩ = some (.int .i64 1) := (cell_at Hz.out _).trans rfl
  replace pz1 : w3_.cell? ⟨w1_.heap.size, 1, none⟩ = some (.slice A3 1 c3) := (cell_at Hz.out _).trans rfl
  replace zz : w1_.heap.size < w3_.heap.size := Nat.lt_of_lt_of_le zz Sq.size
  replace HR3 : Hid (Rd w3_ w3_.heap.size A3 (pack [true])) := HR3.out.on Sq
  replace HR4 : Hid (Rd w3_ w3_.heap.size A4 bW) := HR4.out.on Sq
  replace HB : Hid (Below w.heap.size w w3_) := HB.out.trans (Sq.mono HB.out.size)
  clear Bq Sq
  go_wp2_with fail
  refine (begun_true _).mono ?_
  rintro e w4_ ⟨rfl, Bq⟩
  have Sq : Below w3_.heap.size w3_ w4_ := Bq
  replace Hh : Hid (w4_.heap[w.heap.size]? = some (.cells #[.int .i64 b, .int .i64 s, .int .i64 k] 24 (0, 0))) := (Sq.block _ zh).trans Hh.out
  replace ph0 : w4_.cell? ⟨w.heap.size, 0, none⟩ = some (.int .i64 b) := (cell_at Hh.out _).trans rfl
  replace ph1 : w4_.cell? ⟨w.heap.size, 1, none⟩ = some (.int .i64 s) := (cell_at Hh.out _).trans rfl
  replace ph2 : w4_.cell? ⟨w.heap.size, 2, none⟩ = some (.int .i64 k) := (cell_at Hh.out _).trans rfl
  replace zh : w.heap.size < w4_.heap.size := Nat.lt_of_lt_of_le zh Sq.size
  replace Hz : Hid (w4_.heap[w1_.heap.size]? = some (.cells #[.int .i64 1, .slice A3 1 c3] 27 (0, 0))) := (Sq.block _ zz).trans Hz.out
  replace pz0 : w4_.cell? ⟨w1_.heap.size, 0, none⟩ = some (.int .i64 1) := (cell_at Hz.out _).trans rfl
  replace pz1 : w4_.cell? ⟨w1_.heap.size, 1, none⟩ = some (.slice A3 1 c3) := (cell_at Hz.out _).trans rfl
  replace zz : w1_.heap.size < w4_.heap.size := Nat.lt_of_lt_of_le zz Sq.size
  replace Hx : Hid (w4_.heap[w2_.heap.size]? = some (.cells #[.int .i64 lW, .slice A4 nW c4] 27 (0, 0))) := (Sq.block _ zx).trans Hx.out
  replace px0 : w4_.cell? ⟨w2_.heap.size, 0, none⟩ = some (.int .i64 lW) := (cell_at Hx.out _).trans rfl
  replace px1 : w4_.cell? ⟨w2_.heap.size, 1, none⟩ = some (.slice A4 nW c4) := (cell_at Hx.out _).trans rfl
  replace zx : w2_.heap.size < w4_.heap.size := Nat.lt_of_lt_of_le zx Sq.size
  replace HR3 : Hid (Rd w4_ w4_.heap.size A3 (pack [true])) := HR3.out.on Sq
  replace HR4 : Hid (Rd w4_ w4_.heap.size A4 bW) := HR4.out.on Sq
  replace HB : Hid (Below w.heap.size w w4_) := HB.out.trans (Sq.mono HB.out.size)
  clear Bq Sq
  go_wp2_with fail
  refine (HG.out A4 c4 _ HR4.out).mono ?_
  rintro e w5_ ⟨rfl, Bq⟩
  have Sq : Below w4_.heap.size w4_ w5_ := Bq
  replace Hh : Hid (w5_.heap[w.heap.size]? = some (.cells #[.int .i64 b, .int .i64 s, .int .i64 k] 24 (0, 0))) := (Sq.block _ zh).trans Hh.out
  replace ph0 : w5_.cell? ⟨w.heap.size, 0, none⟩ = some (.int .i64 b) := (cell_at Hh.out _).trans rfl
  replace ph1 : w5_.cell? ⟨w.heap.size, 1, none⟩ = some (.int .i64 s) := (cell_at Hh.out _).trans rfl
  replace ph2 : w5_.cell? ⟨w.heap.size, 2, none⟩ = some (.int .i64 k) := (cell_at Hh.out _).trans rfl
  replace zh : w.heap.size < w5_.heap.size := Nat.lt_of_lt_of_le zh Sq.size
  replace Hz : Hid (w5_.heap[w1_.heap.size]? = some (.cells #[.int .i64 1, .slice A3 1 c3] 27 (0, 0))) := (Sq.block _ zz).trans Hz.out
  replace pz0 : w5_.cell? ⟨w1_.heap.size, 0, none⟩ = some (.int .i64 1) := (cell_at Hz.out _).trans rfl
  replace pz1 : w5_.cell? ⟨w1_.heap.size, 1, none⟩ = some (.slice A3 1 c3) := (cell_at Hz.out _).trans rfl
  replace zz : w1_.heap.size < w5_.heap.size := Nat.lt_of_lt_of_le zz Sq.size
  replace Hx : Hid (w5_.heap[w2_.heap.size]? = some (.cells #[.int .i64 lW, .slice A4 nW c4] 27 (0, 0))) := (Sq.block _ zx).trans Hx.out
  replace px0 : w5_.cell? ⟨w2_.heap.size, 0, none⟩ = some (.int .i64 lW) := (cell_at Hx.out _).trans rfl
  replace px1 : w5_.cell? ⟨w2_.heap.size, 1, none⟩ = some (.slice A4 nW c4) := (cell_at Hx.out _).trans rfl
  replace zx : w2_.heap.size < w5_.heap.size := Nat.lt_of_lt_of_le zx Sq.size
  replace HR3 : Hid (Rd w5_ w5_.heap.size A3 (pack [true])) := HR3.out.on Sq
  replace HR4 : Hid (Rd w5_ w5_.heap.size A4 bW) := HR4.out.on Sq
  replace HB : Hid (Below w.heap.size w w5_) := HB.out.trans (Sq.mono HB.out.size)
  clear Bq Sq
  go_wp2
  go_ret
  exact ⟨rfl, HB.out⟩
set_option maxHeartbeats 4000000 in
theorem snone_3 (a : Int) (A1 A2 : Option Addr) (c1 c2 n m : Nat) (b s k : Int) (w : World) (hn : ((n : Int) == 0) = false) (lW : Int) (nW : Nat) (bW : List Nat) (eW : Int) (he : eW = 0) (HZ : Hid (∀ V, Below w.heap.size w V → Calls Tryz.prog 15 #[.int .i64 a, .slice none 0 0, .slice A2 m c2, .agg #[.int .i64 b, .int .i64 s, .int .i64 k]] V (Gv V 1 1 (pack [true]) 0))) (HX : Hid (∀ V, Below w.heap.size w V → Calls Tryz.prog 15 #[.int .i64 a, .slice A1 n c1, .slice A2 m c2, .agg #[.int .i64 b, .int .i64 s, .int .i64 k]] V (Gv V lW nW bW eW)))
    (HG : Hid (∀ A c V, Rd V V.heap.size A bW → Calls Tryz.prog 29 #[.agg #[.int .i64 lW, .slice A nW c], .int .i64 0, .int .i64 1] V fun e w' => e = .returned (.tuple #[.int .u64 0, .int .i64 0]) ∧ Below V.heap.size V w')) :
    Calls Tryz.prog 8 #[.int .i64 a, .slice A1 n c1, .slice A2 m c2, .agg #[.int .i64 b, .int .i64 s, .int .i64 k]] w fun e w' => e = .returned (.bool true) ∧ Below w.heap.size w w' := by
  subst he
  go_enter Tryz.func8, Tryz.ntmps8
  go_wp2_with fail
  refine (HZ.out _ (one_below w _)).mono ?_
  rintro e w1_ ⟨A3, c3, rfl, Rq, Bq⟩
  obtain ⟨Sq, Zq, X1_0⟩ := al1 Bq
  have Hh : Hid (w1_.heap[w.heap.size]? = some (.cells #[.int .i64 b, .int .i64 s, .int .i64 k] 24 (0, 0))) := X1_0
  have zh : w.heap.size < w1_.heap.size := by omega
  have ph0 : w1_.cell? ⟨w.heap.size, 0, none⟩ = some (.int .i64 b) := (cell_at Hh.out _).trans rfl
  have ph1 : w1_.cell? ⟨w.heap.size, 1, none⟩ = some (.int .i64 s) := (cell_at Hh.out _).trans rfl
  have ph2 : w1_.cell? ⟨w.heap.size, 2, none⟩ = some (.int .i64 k) := (cell_at Hh.out _).trans rfl
  clear Zq X1_0
  have HB : Hid (Below w.heap.size w w1_) := Sq
  clear Bq Sq
  have HR3 := Lib.hid Rq; clear Rq
  go_wp2_with fail
  refine (HX.out _ (HB.out.trans ((one_below w1_ _).mono HB.out.size))).mono ?_
  rintro e w2_ ⟨A4, c4, rfl, Rq, Bq⟩
  obtain ⟨Sq, Zq, X2_0⟩ := al1 Bq
  have Hz : Hid (w2_.heap[w1_.heap.size]? = some (.cells #[.int .i64 1, .slice A3 1 c3] 27 (0, 0))) := X2_0
  have zz : w1_.heap.size < w2_.heap.size := by omega
  have pz0 : w2_.cell? ⟨w1_.heap.size, 0, none⟩ = some (.int .i64 1) := (cell_at Hz.out _).trans rfl
  have pz1 : w2_.cell? ⟨w1_.heap.size, 1, none⟩ = some (.slice A3 1 c3) := (cell_at Hz.out _).trans rfl
  clear Zq X2_0
  replace Hh : Hid (w2_.heap[w.heap.size]? = some (.cells #[.int .i64 b, .int .i64 s, .int .i64 k] 24 (0, 0))) := (Sq.block _ zh).trans Hh.out
  replace ph0 : w2_.cell? ⟨w.heap.size, 0, none⟩ = some (.int .i64 b) := (cell_at Hh.out _).trans rfl
  replace ph1 : w2_.cell? ⟨w.heap.size, 1, none⟩ = some (.int .i64 s) := (cell_at Hh.out _).trans rfl
  replace ph2 : w2_.cell? ⟨w.heap.size, 2, none⟩ = some (.int .i64 k) := (cell_at Hh.out _).trans rfl
  replace zh : w.heap.size < w2_.heap.size := Nat.lt_of_lt_of_le zh Sq.size
  replace HR3 : Hid (Rd w2_ w2_.heap.size A3 (pack [true])) := HR3.out.on Sq
  replace HB : Hid (Below w.heap.size w w2_) := HB.out.trans (Sq.mono HB.out.size)
  clear Bq Sq
  have HR4 := Lib.hid Rq; clear Rq
  go_wp2_with fail
  refine (succbegun_true _).mono ?_
  rintro e w3_ ⟨rfl, Bq⟩
  obtain ⟨Sq, Zq, X3_0⟩ := al1 Bq
  have Hx : Hid (w3_.heap[w2_.heap.size]? = some (.cells #[.int .i64 lW, .slice A4 nW c4] 27 (0, 0))) := X3_0
  have zx : w2_.heap.size < w3_.heap.size := by omega
  have px0 : w3_.cell? ⟨w2_.heap.size, 0, none⟩ = some (.int .i64 lW) := (cell_at Hx.out _).trans rfl
  have px1 : w3_.cell? ⟨w2_.heap.size, 1, none⟩ = some (.slice A4 nW c4) := (cell_at Hx.out _).trans rfl
  clear Zq X3_0
  replace Hh : Hid (w3_.heap[w.heap.size]? = some (.cells #[.int .i64 b, .int .i64 s, .int .i64 k] 24 (0, 0))) := (Sq.block _ zh).trans Hh.out
  replace ph0 : w3_.cell? ⟨w.heap.size, 0, none⟩ = some (.int .i64 b) := (cell_at Hh.out _).trans rfl
  replace ph1 : w3_.cell? ⟨w.heap.size, 1, none⟩ = some (.int .i64 s) := (cell_at Hh.out _).trans rfl
  replace ph2 : w3_.cell? ⟨w.heap.size, 2, none⟩ = some (.int .i64 k) := (cell_at Hh.out _).trans rfl
  replace zh : w.heap.size < w3_.heap.size := Nat.lt_of_lt_of_le zh Sq.size
  replace Hz : Hid (w3_.heap[w1_.heap.size]? = some (.cells #[.int .i64 1, .slice A3 1 c3] 27 (0, 0))) := (Sq.block _ zz).trans Hz.out
  replace pz0 : w3_.cell? ⟨w1_.heap.size, 0, none⟩ = some (.int .i64 1) := (cell_at Hz.out _).trans rfl
  replace pz1 : w3_.cell? ⟨w1_.heap.size, 1, none⟩ = some (.slice A3 1 c3) := (cell_at Hz.out _).trans rfl
  replace zz : w1_.heap.size < w3_.heap.size := Nat.lt_of_lt_of_le zz Sq.size
  replace HR3 : Hid (Rd w3_ w3_.heap.size A3 (pack [true])) := HR3.out.on Sq
  replace HR4 : Hid (Rd w3_ w3_.heap.size A4 bW) := HR4.out.on Sq
  replace HB : Hid (Below w.heap.size w w3_) := HB.out.trans (Sq.mono HB.out.size)
  clear Bq Sq
  go_wp2_with fail
  refine (begun_true _).mono ?_
  rintro e w4_ ⟨rfl, Bq⟩
  have Sq : Below w3_.heap.size w3_ w4_ := Bq
  replace Hh : Hid (w4_.heap[w.heap.size]? = some (.cells #[.int .i64 b, .int .i64 s, .int .i64 k] 24 (0, 0))) := (Sq.block _ zh).trans Hh.out
  replace ph0 : w4_.cell? ⟨w.heap.size, 0, none⟩ = some (.int .i64 b) := (cell_at Hh.out _).trans rfl
  replace ph1 : w4_.cell? ⟨w.heap.size, 1, none⟩ = some (.int .i64 s) := (cell_at Hh.out _).trans rfl
  replace ph2 : w4_.cell? ⟨w.heap.size, 2, none⟩ = some (.int .i64 k) := (cell_at Hh.out _).trans rfl
  replace zh : w.heap.size < w4_.heap.size := Nat.lt_of_lt_of_le zh Sq.size
  replace Hz : Hid (w4_.heap[w1_.heap.size]? = some (.cells #[.int .i64 1, .slice A3 1 c3] 27 (0, 0))) := (Sq.block _ zz).trans Hz.out
  replace pz0 : w4_.cell? ⟨w1_.heap.size, 0, none⟩ = some (.int .i64 1) := (cell_at Hz.out _).trans rfl
  replace pz1 : w4_.cell? ⟨w1_.heap.size, 1, none⟩ = some (.slice A3 1 c3) := (cell_at Hz.out _).trans rfl
  replace zz : w1_.heap.size < w4_.heap.size := Nat.lt_of_lt_of_le zz Sq.size
  replace Hx : Hid (w4_.heap[w2_.heap.size]? = some (.cells #[.int .i64 lW, .slice A4 nW c4] 27 (0, 0))) := (Sq.block _ zx).trans Hx.out
  replace px0 : w4_.cell? ⟨w2_.heap.size, 0, none⟩ = some (.int .i64 lW) := (cell_at Hx.out _).trans rfl
  replace px1 : w4_.cell? ⟨w2_.heap.size, 1, none⟩ = some (.slice A4 nW c4) := (cell_at Hx.out _).trans rfl
  replace zx : w2_.heap.size < w4_.heap.size := Nat.lt_of_lt_of_le zx Sq.size
  replace HR3 : Hid (Rd w4_ w4_.heap.size A3 (pack [true])) := HR3.out.on Sq
  replace HR4 : Hid (Rd w4_ w4_.heap.size A4 bW) := HR4.out.on Sq
  replace HB : Hid (Below w.heap.size w w4_) := HB.out.trans (Sq.mono HB.out.size)
  clear Bq Sq
  go_wp2_with fail
  refine (HG.out A4 c4 _ HR4.out).mono ?_
  rintro e w5_ ⟨rfl, Bq⟩
  have Sq : Below w4_.heap.size w4_ w5_ := Bq
  replace Hh : Hid (w5_.heap[w.heap.size]? = some (.cells #[.int .i64 b, .int .i64 s, .int .i64 k] 24 (0, 0))) := (Sq.block _ zh).trans Hh.out
  replace ph0 : w5_.cell? ⟨w.heap.size, 0, none⟩ = some (.int .i64 b) := (cell_at Hh.out _).trans rfl
  replace ph1 : w5_.cell? ⟨w.heap.size, 1, none⟩ = some (.int .i64 s) := (cell_at Hh.out _).trans rfl
  replace ph2 : w5_.cell? ⟨w.heap.size, 2, none⟩ = some (.int .i64 k) := (cell_at Hh.out _).trans rfl
  replace zh : w.heap.size < w5_.heap.size := Nat.lt_of_lt_of_le zh Sq.size
  replace Hz : Hid (w5_.heap[w1_.heap.size]? = some (.cells #[.int .i64 1, .slice A3 1 c3] 27 (0, 0))) := (Sq.block _ zz).trans Hz.out
  replace pz0 : w5_.cell? ⟨w1_.heap.size, 0, none⟩ = some (.int .i64 1) := (cell_at Hz.out _).trans rfl
  replace pz1 : w5_.cell? ⟨w1_.heap.size, 1, none⟩ = some (.slice A3 1 c3) := (cell_at Hz.out _).trans rfl
  replace zz : w1_.heap.size < w5_.heap.size := Nat.lt_of_lt_of_le zz Sq.size
  replace Hx : Hid (w5_.heap[w2_.heap.size]? = some (.cells #[.int .i64 lW, .slice A4 nW c4] 27 (0, 0))) := (Sq.block _ zx).trans Hx.out
  replace px0 : w5_.cell? ⟨w2_.heap.size, 0, none⟩ = some (.int .i64 lW) := (cell_at Hx.out _).trans rfl
  replace px1 : w5_.cell? ⟨w2_.heap.size, 1, none⟩ = some (.slice A4 nW c4) := (cell_at Hx.out _).trans rfl
  replace zx : w2_.heap.size < w5_.heap.size := Nat.lt_of_lt_of_le zx Sq.size
  replace HR3 : Hid (Rd w5_ w5_.heap.size A3 (pack [true])) := HR3.out.on Sq
  replace HR4 : Hid (Rd w5_ w5_.heap.size A4 bW) := HR4.out.on Sq
  replace HB : Hid (Below w.heap.size w w5_) := HB.out.trans (Sq.mono HB.out.size)
  clear Bq Sq
  go_wp2
  go_ret
  exact ⟨rfl, HB.out⟩
theorem gam_first (n : Nat) (t : List Bool) : 0 + 1 ≤ (gam n ++ t).length ∧ ((gam n ++ t).drop 0).take 1 = [decide (n = 0)] := by
  by_cases h : n = 0
  · subst h
    have e : gam 0 = [true] := by decide
    rw [e]; simp
  · have hl : lg n ≠ 0 := fun e => by have := lg_lt n; rw [e] at this; omega
    obtain ⟨k, hk⟩ : ∃ k, lg n = k + 1 := ⟨lg n - 1, by omega⟩
    have e : ∃ r, gam n = false :: r := ⟨uc k ++ nb (n + 1) (k + 1), by unfold gam; rw [hk]; simp [uc, List.replicate_succ]⟩
    obtain ⟨r, e⟩ := e
    rw [e, decide_eq_false h]; simp
theorem succNone_law (a : Int) (A1 : Option Addr) (c1 : Nat) (xs : List Int) (A2 : Option Addr) (c2 : Nat) (ys : List Int) (b s k : Int) (w : World) (ha : -9223372036854775808 ≤ a ∧ a ≤ 9223372036854775807) (cp1 : xs.length ≤ c1) (nl1 : A1 = none → c1 = 0) (by1 : ∀ x ∈ xs, -9223372036854775808 ≤ x ∧ x ≤ 9223372036854775807) (rd1 : RdV w w.heap.size A1 (zc xs)) (sz1 : xs.length ≤ 9223372036854775807) (cp2 : ys.length ≤ c2) (nl2 : A2 = none → c2 = 0) (by2 : ∀ x ∈ ys, -9223372036854775808 ≤ x ∧ x ≤ 9223372036854775807) (rd2 : RdV w w.heap.size A2 (zc ys)) (sz2 : ys.length ≤ 9223372036854775807) (hb : -9223372036854775808 ≤ b ∧ b ≤ 9223372036854775807) (hs : -9223372036854775808 ≤ s ∧ s ≤ 9223372036854775807) (hk : -9223372036854775808 ≤ k ∧ k ≤ 9223372036854775807) :
    Calls Tryz.prog 8 #[.int .i64 a, .slice A1 xs.length c1, .slice A2 ys.length c2, .agg #[.int .i64 b, .int .i64 s, .int .i64 k]] w fun e w' => e = .returned (.bool true) ∧ Below w.heap.size w w' := by
  have HZ0 : ∀ V, Below w.heap.size w V → Calls Tryz.prog 15 #[.int .i64 a, .slice none 0 0, .slice A2 ys.length c2, .agg #[.int .i64 b, .int .i64 s, .int .i64 k]] V (Gave V (swL a [] ys b s k) (swF a [] ys b s k)) := fun V hV => swrite_any a [] 0 rfl (by decide) ys _ rfl sz2 b s k none A2 0 c2 (Nat.le_refl _) V (.inl rfl) (rd2.on hV)
  have HX0 : ∀ V, Below w.heap.size w V → Calls Tryz.prog 15 #[.int .i64 a, .slice A1 xs.length c1, .slice A2 ys.length c2, .agg #[.int .i64 b, .int .i64 s, .int .i64 k]] V (Gave V (swL a xs ys b s k) (swF a xs ys b s k)) := fun V hV => swrite_any a xs _ rfl sz1 ys _ rfl sz2 b s k A1 A2 c1 c2 cp1 V (rd1.on hV) (rd2.on hV)
  by_cases h0 : swF a [] ys b s k = 0
  · obtain ⟨a', l0, b', s', k', rfl, ha', e0, hl0, rfl, rfl, rfl, hb', hs', hk', hF, hlen, hL⟩ := swF_some _ _ _ _ _ _ h0
    have e1 : l0 = [] := by cases l0 with | nil => rfl | cons _ _ => cases e0
    subst e1
    have hz : sbits a' b' s' k' [] (tn ys) = [true] := by unfold sbits; rw [if_pos rfl]; decide
    rw [hz] at hL
    rw [h0, hL] at HZ0
    by_cases h1 : swF (a' : Int) xs ys (b' : Int) (s' : Int) (k' : Int) = 0
    · obtain ⟨a2, l, b2, s2, k2, _, _, rfl, hl, _, _, _, _, _, _, _, hlen2, hL2⟩ := swF_some _ _ _ _ _ _ h1
      have hG : ∀ A c V, Rd V V.heap.size A (pack (swL (a' : Int) (ns l) ys (b' : Int) (s' : Int) (k' : Int))) → Calls Tryz.prog 29 #[.agg #[.int .i64 ((swL (a' : Int) (ns l) ys (b' : Int) (s' : Int) (k' : Int)).length : Int), .slice A (pack (swL (a' : Int) (ns l) ys (b' : Int) (s' : Int) (k' : Int))).length c], .int .i64 0, .int .i64 1] V fun e w' => e = .returned (.tuple #[.int .u64 ((if l = [] then 1 else 0 : Nat) : Int), .int .i64 0]) ∧ Below V.heap.size V w' := fun A c V h => by
        rw [hL2] at h ⊢
        have hg := gam_first l.length (if l = [] then [] else bksB b2 (tn ys) l ++ restB a2 s2 k2 (bksR b2 (tn ys) l))
        refine get_l _ hlen2 A c 0 1 _ (by decide) hg.1 ?_ V h
        show _ = num (((gam l.length ++ _).drop 0).take 1)
        rw [hg.2]
        cases l <;> simp <;> rfl
      by_cases hl0 : l = []
      · rw [if_pos hl0] at hG
        exact snone_2 _ A1 A2 c1 c2 _ _ _ _ _ w (by subst hl0; rfl) _ _ _ _ h1 (Lib.hid HZ0) (Lib.hid HX0) (Lib.hid hG)
      · rw [if_neg hl0] at hG
        exact snone_3 _ A1 A2 c1 c2 _ _ _ _ _ w (by rw [ns_length]; simp; exact hl0) _ _ _ _ h1 (Lib.hid HZ0) (Lib.hid HX0) (Lib.hid hG)
    · exact snone_1 _ A1 A2 c1 c2 _ _ _ _ _ w _ h1 _ _ _ (Lib.hid HZ0) (Lib.hid HX0)
  · rw [swL_no _ _ _ _ _ _ h0] at HZ0
    exact snone_0 a A1 A2 c1 c2 _ _ b s k w _ h0 _ _ _ _ (Lib.hid HZ0) (Lib.hid HX0)
end Go.Proofs.YticdnodlapafoaaGreat
