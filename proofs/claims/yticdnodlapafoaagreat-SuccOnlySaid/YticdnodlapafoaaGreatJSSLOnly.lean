/- The law SuccOnly: what is read is written again, bit by bit; for whatever is handed in. -/
import Derived.Test.YticdnodlapafoaaGreatJSSBegun
import Derived.Test.YticdnodlapafoaaGreatJS2
namespace Go.Proofs.YticdnodlapafoaaGreat
set_option maxRecDepth 100000
set_option linter.unusedVariables false
open Go.RowKit Go.Shelf

set_option maxHeartbeats 4000000 in
theorem sonly_0 (len : Int) (A0 : Option Addr) (nb c0 : Nat) (p a : Int) (A2 : Option Addr) (c2 m : Nat) (b s k : Int) (w : World) (e0 : Int) (h0 : e0 ≠ 0) (HRd : Hid (∀ V, Below w.heap.size w V → Calls Tryz.prog 16 #[.agg #[.int .i64 len, .slice A0 nb c0], .int .i64 p, .int .i64 a, .slice A2 m c2, .agg #[.int .i64 b, .int .i64 s, .int .i64 k]] V (RdM V 0 [] 0 e0))) :
    Calls Tryz.prog 5 #[.agg #[.int .i64 len, .slice A0 nb c0], .int .i64 p, .int .i64 a, .slice A2 m c2, .agg #[.int .i64 b, .int .i64 s, .int .i64 k]] w fun e w' => e = .returned (.bool true) ∧ Below w.heap.size w w' := by
  have t0 : (e0 != 0) = true := by simpa using h0
  clear h0
  go_enter Tryz.func5, Tryz.ntmps5
  go_wp2_with fail
  refine (HRd.out _ (low2 w _ _)).mono ?_
  rintro e w1_ ⟨A3, c3, rfl, hcp, Rq, Bq⟩
  obtain ⟨Sq, Zq, X1_0, X1_1⟩ := al2 Bq
  have Hb : Hid (w1_.heap[w.heap.size]? = some (.cells #[.int .i64 len, .slice A0 nb c0] 27 (0, 0))) := X1_0
  have zb : w.heap.size < w1_.heap.size := by omega
  have pb0 : w1_.cell? ⟨w.heap.size, 0, none⟩ = some (.int .i64 len) := (cell_at Hb.out _).trans rfl
  have pb1 : w1_.cell? ⟨w.heap.size, 1, none⟩ = some (.slice A0 nb c0) := (cell_at Hb.out _).trans rfl
  have Hh : Hid (w1_.heap[(w.heap.size + 1)]? = some (.cells #[.int .i64 b, .int .i64 s, .int .i64 k] 24 (0, 0))) := X1_1
  have zh : (w.heap.size + 1) < w1_.heap.size := by omega
  have ph0 : w1_.cell? ⟨(w.heap.size + 1), 0, none⟩ = some (.int .i64 b) := (cell_at Hh.out _).trans rfl
  have ph1 : w1_.cell? ⟨(w.heap.size + 1), 1, none⟩ = some (.int .i64 s) := (cell_at Hh.out _).trans rfl
  have ph2 : w1_.cell? ⟨(w.heap.size + 1), 2, none⟩ = some (.int .i64 k) := (cell_at Hh.out _).trans rfl
  clear Zq X1_0 X1_1
  have HB : Hid (Below w.heap.size w w1_) := Sq
  clear Bq Sq
  have HR3 := Lib.hid Rq; clear Rq
  go_wp2_with fail
  refine (succbegun_true _).mono ?_
  rintro e w2_ ⟨rfl, Bq⟩
  have Sq : Below w1_.heap.size w1_ w2_ := Bq
  replace Hb : Hid (w2_.heap[w.heap.size]? = some (.cells #[.int .i64 len, .slice A0 nb c0] 27 (0, 0))) := (Sq.block _ zb).trans Hb.out
  replace pb0 : w2_.cell? ⟨w.heap.size, 0, none⟩ = some (.int .i64 len) := (cell_at Hb.out _).trans rfl
  replace pb1 : w2_.cell? ⟨w.heap.size, 1, none⟩ = some (.slice A0 nb c0) := (cell_at Hb.out _).trans rfl
  replace zb : w.heap.size < w2_.heap.size := Nat.lt_of_lt_of_le zb Sq.size
  replace Hh : Hid (w2_.heap[(w.heap.size + 1)]? = some (.cells #[.int .i64 b, .int .i64 s, .int .i64 k] 24 (0, 0))) := (Sq.block _ zh).trans Hh.out
  replace ph0 : w2_.cell? ⟨(w.heap.size + 1), 0, none⟩ = some (.int .i64 b) := (cell_at Hh.out _).trans rfl
  replace ph1 : w2_.cell? ⟨(w.heap.size + 1), 1, none⟩ = some (.int .i64 s) := (cell_at Hh.out _).trans rfl
  replace ph2 : w2_.cell? ⟨(w.heap.size + 1), 2, none⟩ = some (.int .i64 k) := (cell_at Hh.out _).trans rfl
  replace zh : (w.heap.size + 1) < w2_.heap.size := Nat.lt_of_lt_of_le zh Sq.size
  replace HR3 : Hid (RdV w2_ w2_.heap.size A3 (zc (ns []))) := HR3.out.on Sq
  replace HB : Hid (Below w.heap.size w w2_) := HB.out.trans (Sq.mono HB.out.size)
  clear Bq Sq
  go_wp2_with fail
  refine (begun_true _).mono ?_
  rintro e w3_ ⟨rfl, Bq⟩
  have Sq : Below w2_.heap.size w2_ w3_ := Bq
  replace Hb : Hid (w3_.heap[w.heap.size]? = some (.cells #[.int .i64 len, .slice A0 nb c0] 27 (0, 0))) := (Sq.block _ zb).trans Hb.out
  replace pb0 : w3_.cell? ⟨w.heap.size, 0, none⟩ = some (.int .i64 len) := (cell_at Hb.out _).trans rfl
  replace pb1 : w3_.cell? ⟨w.heap.size, 1, none⟩ = some (.slice A0 nb c0) := (cell_at Hb.out _).trans rfl
  replace zb : w.heap.size < w3_.heap.size := Nat.lt_of_lt_of_le zb Sq.size
  replace Hh : Hid (w3_.heap[(w.heap.size + 1)]? = some (.cells #[.int .i64 b, .int .i64 s, .int .i64 k] 24 (0, 0))) := (Sq.block _ zh).trans Hh.out
  replace ph0 : w3_.cell? ⟨(w.heap.size + 1), 0, none⟩ = some (.int .i64 b) := (cell_at Hh.out _).trans rfl
  replace ph1 : w3_.cell? ⟨(w.heap.size + 1), 1, none⟩ = some (.int .i64 s) := (cell_at Hh.out _).trans rfl
  replace ph2 : w3_.cell? ⟨(w.heap.size + 1), 2, none⟩ = some (.int .i64 k) := (cell_at Hh.out _).trans rfl
  replace zh : (w.heap.size + 1) < w3_.heap.size := Nat.lt_of_lt_of_le zh Sq.size
  replace HR3 : Hid (RdV w3_ w3_.heap.size A3 (zc (ns []))) := HR3.out.on Sq
  replace HB : Hid (Below w.heap.size w w3_) := HB.out.trans (Sq.mono HB.out.size)
  clear Bq Sq
  go_wp2
  go_ret
  exact ⟨rfl, HB.out⟩
set_option maxHeartbeats 4000000 in
theorem sonly_1 (len : Int) (A0 : Option Addr) (nb c0 : Nat) (p a : Int) (A2 : Option Addr) (c2 m : Nat) (b s k : Int) (w : World) (lW : Int) (nW : Nat) (bW : List Nat) (nl : Nat) (l : List Nat) (to : Nat) (HRd : Hid (∀ V, Below w.heap.size w V → Calls Tryz.prog 16 #[.agg #[.int .i64 len, .slice A0 nb c0], .int .i64 p, .int .i64 a, .slice A2 m c2, .agg #[.int .i64 b, .int .i64 s, .int .i64 k]] V (RdM V nl l to 0)))
    (HX : Hid (∀ A c V, nl ≤ c → Below w.heap.size w V → RdV V V.heap.size A (zc (ns l)) → Calls Tryz.prog 15 #[.int .i64 a, .slice A nl c, .slice A2 m c2, .agg #[.int .i64 b, .int .i64 s, .int .i64 k]] V (Gv V lW nW bW 0)))
    (HC : Hid (∀ V, Below w.heap.size w V → Calls Tryz.prog 26 #[.agg #[.int .i64 len, .slice A0 nb c0], .int .i64 p, .int .i64 (to : Int)] V (Gv V lW nW bW 0)))
    (HS : Hid (∀ A B c d V, Rd V V.heap.size A bW → Rd V V.heap.size B bW → Calls Tryz.prog 22 #[.agg #[.int .i64 lW, .slice A nW c], .agg #[.int .i64 lW, .slice B nW d]] V fun e w' => e = .returned (.bool true) ∧ Below V.heap.size V w')) :
    Calls Tryz.prog 5 #[.agg #[.int .i64 len, .slice A0 nb c0], .int .i64 p, .int .i64 a, .slice A2 m c2, .agg #[.int .i64 b, .int .i64 s, .int .i64 k]] w fun e w' => e = .returned (.bool true) ∧ Below w.heap.size w w' := by
  go_enter Tryz.func5, Tryz.ntmps5
  go_wp2_with fail
  refine (HRd.out _ (low2 w _ _)).mono ?_
  rintro e w1_ ⟨A3, c3, rfl, hcp, Rq, Bq⟩
  obtain ⟨Sq, Zq, X1_0, X1_1⟩ := al2 Bq
  have Hb : Hid (w1_.heap[w.heap.size]? = some (.cells #[.int .i64 len, .slice A0 nb c0] 27 (0, 0))) := X1_0
  have zb : w.heap.size < w1_.heap.size := by omega
  have pb0 : w1_.cell? ⟨w.heap.size, 0, none⟩ = some (.int .i64 len) := (cell_at Hb.out _).trans rfl
  have pb1 : w1_.cell? ⟨w.heap.size, 1, none⟩ = some (.slice A0 nb c0) := (cell_at Hb.out _).trans rfl
  have Hh : Hid (w1_.heap[(w.heap.size + 1)]? = some (.cells #[.int .i64 b, .int .i64 s, .int .i64 k] 24 (0, 0))) := X1_1
  have zh : (w.heap.size + 1) < w1_.heap.size := by omega
  have ph0 : w1_.cell? ⟨(w.heap.size + 1), 0, none⟩ = some (.int .i64 b) := (cell_at Hh.out _).trans rfl
  have ph1 : w1_.cell? ⟨(w.heap.size + 1), 1, none⟩ = some (.int .i64 s) := (cell_at Hh.out _).trans rfl
  have ph2 : w1_.cell? ⟨(w.heap.size + 1), 2, none⟩ = some (.int .i64 k) := (cell_at Hh.out _).trans rfl
  clear Zq X1_0 X1_1
  have HB : Hid (Below w.heap.size w w1_) := Sq
  clear Bq Sq
  have HR3 := Lib.hid Rq; clear Rq
  go_wp2_with fail
  refine (succbegun_true _).mono ?_
  rintro e w2_ ⟨rfl, Bq⟩
  have Sq : Below w1_.heap.size w1_ w2_ := Bq
  replace Hb : Hid (w2_.heap[w.heap.size]? = some (.cells #[.int .i64 len, .slice A0 nb c0] 27 (0, 0))) := (Sq.block _ zb).trans Hb.out
  replace pb0 : w2_.cell? ⟨w.heap.size, 0, none⟩ = some (.int .i64 len) := (cell_at Hb.out _).trans rfl
  replace pb1 : w2_.cell? ⟨w.heap.size, 1, none⟩ = some (.slice A0 nb c0) := (cell_at Hb.out _).trans rfl
  replace zb : w.heap.size < w2_.heap.size := Nat.lt_of_lt_of_le zb Sq.size
  replace Hh : Hid (w2_.heap[(w.heap.size + 1)]? = some (.cells #[.int .i64 b, .int .i64 s, .int .i64 k] 24 (0, 0))) := (Sq.block _ zh).trans Hh.out
  replace ph0 : w2_.cell? ⟨(w.heap.size + 1), 0, none⟩ = some (.int .i64 b) := (cell_at Hh.out _).trans rfl
  replace ph1 : w2_.cell? ⟨(w.heap.size + 1), 1, none⟩ = some (.int .i64 s) := (cell_at Hh.out _).trans rfl
  replace ph2 : w2_.cell? ⟨(w.heap.size + 1), 2, none⟩ = some (.int .i64 k) := (cell_at Hh.out _).trans rfl
  replace zh : (w.heap.size + 1) < w2_.heap.size := Nat.lt_of_lt_of_le zh Sq.size
  replace HR3 : Hid (RdV w2_ w2_.heap.size A3 (zc (ns l))) := HR3.out.on Sq
  replace HB : Hid (Below w.heap.size w w2_) := HB.out.trans (Sq.mono HB.out.size)
  clear Bq Sq
  go_wp2_with fail
  refine (begun_true _).mono ?_
  rintro e w3_ ⟨rfl, Bq⟩
  have Sq : Below w2_.heap.size w2_ w3_ := Bq
  replace Hb : Hid (w3_.heap[w.heap.size]? = some (.cells #[.int .i64 len, .slice A0 nb c0] 27 (0, 0))) := (Sq.block _ zb).trans Hb.out
  replace pb0 : w3_.cell? ⟨w.heap.size, 0, none⟩ = some (.int .i64 len) := (cell_at Hb.out _).trans rfl
  replace pb1 : w3_.cell? ⟨w.heap.size, 1, none⟩ = some (.slice A0 nb c0) := (cell_at Hb.out _).trans rfl
  replace zb : w.heap.size < w3_.heap.size := Nat.lt_of_lt_of_le zb Sq.size
  replace Hh : Hid (w3_.heap[(w.heap.size + 1)]? = some (.cells #[.int .i64 b, .int .i64 s, .int .i64 k] 24 (0, 0))) := (Sq.block _ zh).trans Hh.out
  replace ph0 : w3_.cell? ⟨(w.heap.size + 1), 0, none⟩ = some (.int .i64 b) := (cell_at Hh.out _).trans rfl
  replace ph1 : w3_.cell? ⟨(w.heap.size + 1), 1, none⟩ = some (.int .i64 s) := (cell_at Hh.out _).trans rfl
  replace ph2 : w3_.cell? ⟨(w.heap.size + 1), 2, none⟩ = some (.int .i64 k) := (cell_at Hh.out _).trans rfl
  replace zh : (w.heap.size + 1) < w3_.heap.size := Nat.lt_of_lt_of_le zh Sq.size
  replace HR3 : Hid (RdV w3_ w3_.heap.size A3 (zc (ns l))) := HR3.out.on Sq
  replace HB : Hid (Below w.heap.size w w3_) := HB.out.trans (Sq.mono HB.out.size)
  clear Bq Sq
  go_wp2_with fail
  refine (HX.out A3 c3 _ hcp HB.out HR3.out).mono ?_
  rintro e w4_ ⟨A4, c4, rfl, Rq, Bq⟩
  have Sq : Below w3_.heap.size w3_ w4_ := Bq
  replace Hb : Hid (w4_.heap[w.heap.size]? = some (.cells #[.int .i64 len, .slice A0 nb c0] 27 (0, 0))) := (Sq.block _ zb).trans Hb.out
  replace pb0 : w4_.cell? ⟨w.heap.size, 0, none⟩ = some (.int .i64 len) := (cell_at Hb.out _).trans rfl
  replace pb1 : w4_.cell? ⟨w.heap.size, 1, none⟩ = some (.slice A0 nb c0) := (cell_at Hb.out _).trans rfl
  replace zb : w.heap.size < w4_.heap.size := Nat.lt_of_lt_of_le zb Sq.size
  replace Hh : Hid (w4_.heap[(w.heap.size + 1)]? = some (.cells #[.int .i64 b, .int .i64 s, .int .i64 k] 24 (0, 0))) := (Sq.block _ zh).trans Hh.out
  replace ph0 : w4_.cell? ⟨(w.heap.size + 1), 0, none⟩ = some (.int .i64 b) := (cell_at Hh.out _).trans rfl
  replace ph1 : w4_.cell? ⟨(w.heap.size + 1), 1, none⟩ = some (.int .i64 s) := (cell_at Hh.out _).trans rfl
  replace ph2 : w4_.cell? ⟨(w.heap.size + 1), 2, none⟩ = some (.int .i64 k) := (cell_at Hh.out _).trans rfl
  replace zh : (w.heap.size + 1) < w4_.heap.size := Nat.lt_of_lt_of_le zh Sq.size
  replace HR3 : Hid (RdV w4_ w4_.heap.size A3 (zc (ns l))) := HR3.out.on Sq
  replace HB : Hid (Below w.heap.size w w4_) := HB.out.trans (Sq.mono HB.out.size)
  clear Bq Sq
  have HR4 := Lib.hid Rq; clear Rq
  go_wp2_with fail
  refine (HC.out _ (HB.out.trans ((one_below w4_ _).mono HB.out.size))).mono ?_
  rintro e w5_ ⟨A5, c5, rfl, Rq, Bq⟩
  obtain ⟨Sq, Zq, X5_0⟩ := al1 Bq
  have Hx : Hid (w5_.heap[w4_.heap.size]? = some (.cells #[.int .i64 lW, .slice A4 nW c4] 27 (0, 0))) := X5_0
  have zx : w4_.heap.size < w5_.heap.size := by omega
  have px0 : w5_.cell? ⟨w4_.heap.size, 0, none⟩ = some (.int .i64 lW) := (cell_at Hx.out _).trans rfl
  have px1 : w5_.cell? ⟨w4_.heap.size, 1, none⟩ = some (.slice A4 nW c4) := (cell_at Hx.out _).trans rfl
  clear Zq X5_0
  replace Hb : Hid (w5_.heap[w.heap.size]? = some (.cells #[.int .i64 len, .slice A0 nb c0] 27 (0, 0))) := (Sq.block _ zb).trans Hb.out
  replace pb0 : w5_.cell? ⟨w.heap.size, 0, none⟩ = some (.int .i64 len) := (cell_at Hb.out _).trans rfl
  replace pb1 : w5_.cell? ⟨w.heap.size, 1, none⟩ = some (.slice A0 nb c0) := (cell_at Hb.out _).trans rfl
  replace zb : w.heap.size < w5_.heap.size := Nat.lt_of_lt_of_le zb Sq.size
  replace Hh : Hid (w5_.heap[(w.heap.size + 1)]? = some (.cells #[.int .i64 b, .int .i64 s, .int .i64 k] 24 (0, 0))) := (Sq.block _ zh).trans Hh.out
  replace ph0 : w5_.cell? ⟨(w.heap.size + 1), 0, none⟩ = some (.int .i64 b) := (cell_at Hh.out _).trans rfl
  replace ph1 : w5_.cell? ⟨(w.heap.size + 1), 1, none⟩ = some (.int .i64 s) := (cell_at Hh.out _).trans rfl
  replace ph2 : w5_.cell? ⟨(w.heap.size + 1), 2, none⟩ = some (.int .i64 k) := (cell_at Hh.out _).trans rfl
  replace zh : (w.heap.size + 1) < w5_.heap.size := Nat.lt_of_lt_of_le zh Sq.size
  replace HR3 : Hid (RdV w5_ w5_.heap.size A3 (zc (ns l))) := HR3.out.on Sq
  replace HR4 : Hid (Rd w5_ w5_.heap.size A4 bW) := HR4.out.on Sq
  replace HB : Hid (Below w.heap.size w w5_) := HB.out.trans (Sq.mono HB.out.size)
  clear Bq Sq
  have HR5 := Lib.hid Rq; clear Rq
  go_wp2_with fail
  refine (HS.out A4 A5 c4 c5 _ (HR4.out.on (one_below w5_ _)) (HR5.out.on (one_below w5_ _))).mono ?_
  rintro e w6_ ⟨rfl, Bq⟩
  obtain ⟨Sq, Zq, X6_0⟩ := al1 Bq
  have Hy : Hid (w6_.heap[w5_.heap.size]? = some (.cells #[.int .i64 lW, .slice A5 nW c5] 27 (0, 0))) := X6_0
  have zy : w5_.heap.size < w6_.heap.size := by omega
  have py0 : w6_.cell? ⟨w5_.heap.size, 0, none⟩ = some (.int .i64 lW) := (cell_at Hy.out _).trans rfl
  have py1 : w6_.cell? ⟨w5_.heap.size, 1, none⟩ = some (.slice A5 nW c5) := (cell_at Hy.out _).trans rfl
  clear Zq X6_0
  replace Hb : Hid (w6_.heap[w.heap.size]? = some (.cells #[.int .i64 len, .slice A0 nb c0] 27 (0, 0))) := (Sq.block _ zb).trans Hb.out
  replace pb0 : w6_.cell? ⟨w.heap.size, 0, none⟩ = some (.int .i64 len) := (cell_at Hb.out _).trans rfl
  replace pb1 : w6_.cell? ⟨w.heap.size, 1, none⟩ = some (.slice A0 nb c0) := (cell_at Hb.out _).trans rfl
  replace zb : w.heap.size < w6_.heap.size := Nat.lt_of_lt_of_le zb Sq.size
  replace Hh : Hid (w6_.heap[(w.heap.size + 1)]? = some (.cells #[.int .i64 b, .int .i64 s, .int .i64 k] 24 (0, 0))) := (Sq.block _ zh).trans Hh.out
  replace ph0 : w6_.cell? ⟨(w.heap.size + 1), 0, none⟩ = some (.int .i64 b) := (cell_at Hh.out _).trans rfl
  replace ph1 : w6_.cell? ⟨(w.heap.size + 1), 1, none⟩ = some (.int .i64 s) := (cell_at Hh.out _).trans rfl
  replace ph2 : w6_.cell? ⟨(w.heap.size + 1), 2, none⟩ = some (.int .i64 k) := (cell_at Hh.out _).trans rfl
  replace zh : (w.heap.size + 1) < w6_.heap.size := Nat.lt_of_lt_of_le zh Sq.size
  replace Hx : Hid (w6_.heap[w4_.heap.size]? = some (.cells #[.int .i64 lW, .slice A4 nW c4] 27 (0, 0))) := (Sq.block _ zx).trans Hx.out
  replace px0 : w6_.cell? ⟨w4_.heap.size, 0, none⟩ = some (.int .i64 lW) := (cell_at Hx.out _).trans rfl
  replace px1 : w6_.cell? ⟨w4_.heap.size, 1, none⟩ = some (.slice A4 nW c4) := (cell_at Hx.out _).trans rfl
  replace zx : w4_.heap.size < w6_.heap.size := Nat.lt_of_lt_of_le zx Sq.size
  replace HR3 : Hid (RdV w6_ w6_.heap.size A3 (zc (ns l))) := HR3.out.on Sq
  replace HR4 : Hid (Rd w6_ w6_.heap.size A4 bW) := HR4.out.on Sq
  replace HR5 : Hid (Rd w6_ w6_.heap.size A5 bW) := HR5.out.on Sq
  replace HB : Hid (Below w.heap.size w w6_) := HB.out.trans (Sq.mono HB.out.size)
  clear Bq Sq
  go_wp2
  go_ret
  exact ⟨rfl, HB.out⟩
theorem succOnly_law (len : Int) (A0 : Option Addr) (c0 : Nat) (bs : List Nat) (p a : Int) (A2 : Option Addr) (c2 : Nat) (ys : List Int) (b s k : Int) (w : World) (hb0 : ∀ b ∈ bs, b < 256) (hR0 : Rd w w.heap.size A0 bs) (hp : -9223372036854775808 ≤ p ∧ p ≤ 9223372036854775807) (ha : -9223372036854775808 ≤ a ∧ a ≤ 9223372036854775807) (cp2 : ys.length ≤ c2) (nl2 : A2 = none → c2 = 0) (by2 : ∀ x ∈ ys, -9223372036854775808 ≤ x ∧ x ≤ 9223372036854775807) (rd2 : RdV w w.heap.size A2 (zc ys)) (sz2 : ys.length ≤ 9223372036854775807) (hb : -9223372036854775808 ≤ b ∧ b ≤ 9223372036854775807) (hs : -9223372036854775808 ≤ s ∧ s ≤ 9223372036854775807) (hk : -9223372036854775808 ≤ k ∧ k ≤ 9223372036854775807) :
    Calls Tryz.prog 5 #[.agg #[.int .i64 len, .slice A0 bs.length c0], .int .i64 p, .int .i64 a, .slice A2 ys.length c2, .agg #[.int .i64 b, .int .i64 s, .int .i64 k]] w fun e w' => e = .returned (.bool true) ∧ Below w.heap.size w w' := by
  have HRd : ∀ V, Below w.heap.size w V → Calls Tryz.prog 16 #[.agg #[.int .i64 len, .slice A0 bs.length c0], .int .i64 p, .int .i64 a, .slice A2 ys.length c2, .agg #[.int .i64 b, .int .i64 s, .int .i64 k]] V (RdP V (srX len bs p a ys b s k).1 (srX len bs p a ys b s k).2.1 (srX len bs p a ys b s k).2.2) := fun V hV => sread_all len A0 c0 bs hb0 p a ys _ rfl sz2 A2 c2 nl2 cp2 b s k V (hR0.on hV) (rd2.on hV)
  by_cases h0 : srE len bs p a ys b s k = 0
  · obtain ⟨L, q, a', b', s', k', rfl, hL, rfl, rfl, hq, rfl, ha', rfl, rfl, rfl, hb', hs', hk', hF⟩ := srE_zero len bs hb0 p a ys b s k h0
    have hFr : b' ≠ 0 → Rising (tn ys) := fun h => by obtain ⟨F, rfl, hF2⟩ := hF h; rw [tn_ns]; exact hF2
    have hyr : b' ≠ 0 → rchk ys = 0 := fun h => by obtain ⟨F, rfl, hF2⟩ := hF h; exact rchk_ok F hF2
    rw [srX_ok L q a' b' s' k' ys h0] at HRd
    rcases sread_cases L a' b' s' k' (tn ys) q with h1 | h1
    · obtain ⟨l, to, e, hx⟩ : ∃ l to e, sread L a' b' s' k' (tn ys) q = (l, to, e) := ⟨_, _, _, rfl⟩
      rw [hx] at h1 HRd
      simp only at h1
      subst h1
      obtain ⟨hl, rfl, hsb⟩ := sread_only L a' b' s' k' ha' hk'.1 (tn ys) hFr q hq l to hx
      have hle : (sbits a' b' s' k' l (tn ys)).length ≤ L.length - q := by have := congrArg List.length hsb; rw [List.length_take, List.length_drop] at this; omega
      obtain ⟨f1, f2⟩ := swF_in a' ha' l hl b' s' k' hb' hs' hk'.1 hk'.2 ys hyr (by omega)
      refine sonly_1 _ A0 _ c0 _ _ A2 c2 _ _ _ _ w ((sbits a' b' s' k' l (tn ys)).length : Int) (pack (sbits a' b' s' k' l (tn ys))).length (pack (sbits a' b' s' k' l (tn ys))) l.length l (q + (sbits a' b' s' k' l (tn ys)).length) (Lib.hid fun V hV => (HRd V hV).mono fun _ _ q => rdM q rfl) (Lib.hid fun A c V hc hV hR => ?_) (Lib.hid fun V hV => ?_) (Lib.hid fun A B c d V h1 h2 => same_l _ (by omega) A B c d V h1 h2)
      · have h := swrite_any (a' : Int) (ns l) l.length (ns_length l) (by have := hl.1; omega) ys _ rfl sz2 (b' : Int) (s' : Int) (k' : Int) A A2 c c2 hc V hR (rd2.on hV)
        rw [f1, f2] at h
        exact h
      · exact cut_l L _ hL A0 c0 q _ (by omega) (by omega) (by rw [Nat.add_sub_cancel_left]; exact hsb.symm) V (hR0.on hV)
    · rw [h1] at HRd
      exact sonly_0 _ A0 _ c0 _ _ A2 c2 _ _ _ _ w 1 (by decide) (Lib.hid fun V hV => (HRd V hV).mono fun _ _ q => rdM q rfl)
  · rw [srX_no _ _ _ _ _ _ _ _ h0] at HRd
    exact sonly_0 _ A0 _ c0 _ _ A2 c2 _ _ _ _ w _ h0 (Lib.hid fun V hV => (HRd V hV).mono fun _ _ q => rdM q rfl)
end Go.Proofs.YticdnodlapafoaaGreat
