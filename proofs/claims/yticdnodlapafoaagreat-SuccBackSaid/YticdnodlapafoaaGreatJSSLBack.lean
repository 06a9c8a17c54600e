/- The law SuccBack: what is written is read, behind and ahead of whatever bits; for whatever is handed in. -/
import Derived.Test.YticdnodlapafoaaGreatJSSBegun
import Derived.Test.YticdnodlapafoaaGreatJS2
import Derived.Test.YticdnodlapafoaaGreatJSSJn
namespace Go.Proofs.YticdnodlapafoaaGreat
set_option maxRecDepth 100000
set_option linter.unusedVariables false
open Go.RowKit Go.Shelf

set_option maxHeartbeats 4000000 in
theorem sback_w (a : Int) (A1 A2 A3 A4 : Option Addr) (c1 c2 c3 c4 n m na nb : Nat) (b s k la lb : Int) (w : World) (lW l1 l2 : Int) (nW n1 n2 : Nat) (bW b1 b2 : List Nat) (e0 e1 e2 : Int) (h0 : e0 ≠ 0) (hl : lW = 0) (hn : nW = 0) (hb : bW = pack []) (HX : Hid (∀ V, Below w.heap.size w V → Calls Tryz.prog 15 #[.int .i64 a, .slice A1 n c1, .slice A2 m c2, .agg #[.int .i64 b, .int .i64 s, .int .i64 k]] V (Gv V lW nW bW e0))) (HJ1 : Hid (∀ A c V, Below w.heap.size w V → Rd V V.heap.size A bW → Calls Tryz.prog 25 #[.agg #[.int .i64 la, .slice A3 na c3], .agg #[.int .i64 lW, .slice A nW c]] V (Gv V l1 n1 b1 e1))) (HJ2 : Hid (∀ A c V, Below w.heap.size w V → Rd V V.heap.size A b1 → Calls Tryz.prog 25 #[.agg #[.int .i64 l1, .slice A n1 c], .agg #[.int .i64 lb, .slice A4 nb c4]] V (Gv V l2 n2 b2 e2))) :
    Calls Tryz.prog 4 #[.int .i64 a, .slice A1 n c1, .slice A2 m c2, .agg #[.int .i64 b, .int .i64 s, .int .i64 k], .agg #[.int .i64 la, .slice A3 na c3], .agg #[.int .i64 lb, .slice A4 nb c4]] w fun e w' => e = .returned (.bool true) ∧ Below w.heap.size w w' := by
  subst hl; subst hn; subst hb
  have t0 : (e0 != 0) = true := by simpa using h0
  have t1 : (e0 == 0) = false := by simpa using h0
  clear h0
  go_enter Tryz.func4, Tryz.ntmps4
  go_wp2_with fail
  refine (HX.out _ (low3 w _ _ _)).mono ?_
  rintro e w1_ ⟨A5, c5, rfl, Rq, Bq⟩
  obtain ⟨Sq, Zq, X1_0, X1_1, X1_2⟩ := al3 Bq
  have Hh : Hid (w1_.heap[w.heap.size]? = some (.cells #[.int .i64 b, .int .i64 s, .int .i64 k] 24 (0, 0))) := X1_0
  have zh : w.heap.size < w1_.heap.size := by omega
  have ph0 : w1_.cell? ⟨w.heap.size, 0, none⟩ = some (.int .i64 b) := (cell_at Hh.out _).trans rfl
  have ph1 : w1_.cell? ⟨w.heap.size, 1, none⟩ = some (.int .i64 s) := (cell_at Hh.out _).trans rfl
  have ph2 : w1_.cell? ⟨w.heap.size, 2, none⟩ = some (.int .i64 k) := (cell_at Hh.out _).trans rfl
  have Ha : Hid (w1_.heap[(w.heap.size + 1)]? = some (.cells #[.int .i64 la, .slice A3 na c3] 27 (0, 0))) := X1_1
  have za : (w.heap.size + 1) < w1_.heap.size := by omega
  have pa0 : w1_.cell? ⟨(w.heap.size + 1), 0, none⟩ = some (.int .i64 la) := (cell_at Ha.out _).trans rfl
  have pa1 : w1_.cell? ⟨(w.heap.size + 1), 1, none⟩ = some (.slice A3 na c3) := (cell_at Ha.out _).trans rfl
  have Hb : Hid (w1_.heap[(w.heap.size + 1 + 1)]? = some (.cells #[.int .i64 lb, .slice A4 nb c4] 27 (0, 0))) := X1_2
  have zb : (w.heap.size + 1 + 1) < w1_.heap.size := by omega
  have pb0 : w1_.cell? ⟨(w.heap.size + 1 + 1), 0, none⟩ = some (.int .i64 lb) := (cell_at Hb.out _).trans rfl
  have pb1 : w1_.cell? ⟨(w.heap.size + 1 + 1), 1, none⟩ = some (.slice A4 nb c4) := (cell_at Hb.out _).trans rfl
  clear Zq X1_0 X1_1 X1_2
  have HB : Hid (Below w.heap.size w w1_) := Sq
  clear Bq Sq
  have HR5 := Lib.hid Rq; clear Rq
  go_wp2_with fail
  refine (succbegun_true _).mono ?_
  rintro e w2_ ⟨rfl, Bq⟩
  obtain ⟨Sq, Zq, X2_0⟩ := al1 Bq
  have Hx : Hid (w2_.heap[w1_.heap.size]? = some (.cells #[.int .i64 0, .slice A5 0 c5] 27 (0, 0))) := X2_0
  have zx : w1_.heap.size < w2_.heap.size := by omega
  have px0 : w2_.cell? ⟨w1_.heap.size, 0, none⟩ = some (.int .i64 0) := (cell_at Hx.out _).trans rfl
  have px1 : w2_.cell? ⟨w1_.heap.size, 1, none⟩ = some (.slice A5 0 c5) := (cell_at Hx.out _).trans rfl
  clear Zq X2_0
  replace Hh : Hid (w2_.heap[w.heap.size]? = some (.cells #[.int .i64 b, .int .i64 s, .int .i64 k] 24 (0, 0))) := (Sq.block _ zh).trans Hh.out
  replace ph0 : w2_.cell? ⟨w.heap.size, 0, none⟩ = some (.int .i64 b) := (cell_at Hh.out _).trans rfl
  replace ph1 : w2_.cell? ⟨w.heap.size, 1, none⟩ = some (.int .i64 s) := (cell_at Hh.out _).trans rfl
  replace ph2 : w2_.cell? ⟨w.heap.size, 2, none⟩ = some (.int .i64 k) := (cell_at Hh.out _).trans rfl
  replace zh : w.heap.size < w2_.heap.size := Nat.lt_of_lt_of_le zh Sq.size
  replace Ha : Hid (w2_.heap[(w.heap.size + 1)]? = some (.cells #[.int .i64 la, .slice A3 na c3] 27 (0, 0))) := (Sq.block _ za).trans Ha.out
  replace pa0 : w2_.cell? ⟨(w.heap.size + 1), 0, none⟩ = some (.int .i64 la) := (cell_at Ha.out _).trans rfl
  replace pa1 : w2_.cell? ⟨(w.heap.size + 1), 1, none⟩ = some (.slice A3 na c3) := (cell_at Ha.out _).trans rfl
  replace za : (w.heap.size + 1) < w2_.heap.size := Nat.lt_of_lt_of_le za Sq.size
  replace Hb : Hid (w2_.heap[(w.heap.size + 1 + 1)]? = some (.cells #[.int .i64 lb, .slice A4 nb c4] 27 (0, 0))) := (Sq.block _ zb).trans Hb.out
  replace pb0 : w2_.cell? ⟨(w.heap.size + 1 + 1), 0, none⟩ = some (.int .i64 lb) := (cell_at Hb.out _).trans rfl
  replace pb1 : w2_.cell? ⟨(w.heap.size + 1 + 1), 1, none⟩ = some (.slice A4 nb c4) := (cell_at Hb.out _).trans rfl
  replace zb : (w.heap.size + 1 + 1) < w2_.heap.size := Nat.lt_of_lt_of_le zb Sq.size
  replace HR5 : Hid (Rd w2_ w2_.heap.size A5 (pack [])) := HR5.out.on Sq
  replace HB : Hid (Below w.heap.size w w2_) := HB.out.trans (Sq.mono HB.out.size)
  clear Bq Sq
  go_wp2_with fail
  refine (begun_true _).mono ?_
  rintro e w3_ ⟨rfl, Bq⟩
  have Sq : Below w2_.heap.size w2_ w3_ := Bq
  replace Hh : Hid (w3_.heap[w.heap.size]? = some (.cells #[.int .i64 b, .int .i64 s, .int .i64 k] 24 (0, 0))) := (Sq.block _ zh).trans Hh.out
  replace ph0 : w3_.cell? ⟨w.heap.size, 0, none⟩ = some (.int .i64 b) := (cell_at Hh.out _).trans rfl
  replace ph1 : w3_.cell? ⟨w.heap.size, 1, none⟩ = some (.int .i64 s) := (cell_at Hh.out _).trans rfl
  replace ph2 : w3_.cell? ⟨w.heap.size, 2, none⟩ = some (.int .i64 k) := (cell_at Hh.out _).trans rfl
  replace zh : w.heap.size < w3_.heap.size := Nat.lt_of_lt_of_le zh Sq.size
  replace Ha : Hid (w3_.heap[(w.heap.size + 1)]? = some (.cells #[.int .i64 la, .slice A3 na c3] 27 (0, 0))) := (Sq.block _ za).trans Ha.out
  replace pa0 : w3_.cell? ⟨(w.heap.size + 1), 0, none⟩ = some (.int .i64 la) := (cell_at Ha.out _).trans rfl
  replace pa1 : w3_.cell? ⟨(w.heap.size + 1), 1, none⟩ = some (.slice A3 na c3) := (cell_at Ha.out _).trans rfl
  replace za : (w.heap.size + 1) < w3_.heap.size := Nat.lt_of_lt_of_le za Sq.size
  replace Hb : Hid (w3_.heap[(w.heap.size + 1 + 1)]? = some (.cells #[.int .i64 lb, .slice A4 nb c4] 27 (0, 0))) := (Sq.block _ zb).trans Hb.out
  replace pb0 : w3_.cell? ⟨(w.heap.size + 1 + 1), 0, none⟩ = some (.int .i64 lb) := (cell_at Hb.out _).trans rfl
  replace pb1 : w3_.cell? ⟨(w.heap.size + 1 + 1), 1, none⟩ = some (.slice A4 nb c4) := (cell_at Hb.out _).trans rfl
  replace zb : (w.heap.size + 1 + 1) < w3_.heap.size := Nat.lt_of_lt_of_le zb Sq.size
  replace Hx : Hid (w3_.heap[w1_.heap.size]? = some (.cells #[.int .i64 0, .slice A5 0 c5] 27 (0, 0))) := (Sq.block _ zx).trans Hx.out
  replace px0 : w3_.cell? ⟨w1_.heap.size, 0, none⟩ = some (.int .i64 0) := (cell_at Hx.out _).trans rfl
  replace px1 : w3_.cell? ⟨w1_.heap.size, 1, none⟩ = some (.slice A5 0 c5) := (cell_at Hx.out _).trans rfl
  replace zx : w1_.heap.size < w3_.heap.size := Nat.lt_of_lt_of_le zx Sq.size
  replace HR5 : Hid (Rd w3_ w3_.heap.size A5 (pack [])) := HR5.out.on Sq
  replace HB : Hid (Below w.heap.size w w3_) := HB.out.trans (Sq.mono HB.out.size)
  clear Bq Sq
  go_wp2_with fail
  refine (HJ1.out A5 c5 _ HB.out HR5.out).mono ?_
  rintro e w4_ ⟨A6, c6, rfl, Rq, Bq⟩
  have Sq : Below w3_.heap.size w3_ w4_ := Bq
  replace Hh : Hid (w4_.heap[w.heap.size]? = some (.cells #[.int .i64 b, .int .i64 s, .int .i64 k] 24 (0, 0))) := (Sq.block _ zh).trans Hh.out
  replace ph0 : w4_.cell? ⟨w.heap.size, 0, none⟩ = some (.int .i64 b) := (cell_at Hh.out _).trans rfl
  replace ph1 : w4_.cell? ⟨w.heap.size, 1, none⟩ = some (.int .i64 s) := (cell_at Hh.out _).trans rfl
  replace ph2 : w4_.cell? ⟨w.heap.size, 2, none⟩ = some (.int .i64 k) := (cell_at Hh.out _).trans rfl
  replace zh : w.heap.size < w4_.heap.size := Nat.lt_of_lt_of_le zh Sq.size
  replace Ha : Hid (w4_.heap[(w.heap.size + 1)]? = some (.cells #[.int .i64 la, .slice A3 na c3] 27 (0, 0))) := (Sq.block _ za).trans Ha.out
  replace pa0 : w4_.cell? ⟨(w.heap.size + 1), 0, none⟩ = some (.int .i64 la) := (cell_at Ha.out _).trans rfl
  replace pa1 : w4_.cell? ⟨(w.heap.size + 1), 1, none⟩ = some (.slice A3 na c3) := (cell_at Ha.out _).trans rfl
  replace za : (w.heap.size + 1) < w4_.heap.size := Nat.lt_of_lt_of_le za Sq.size
  replace Hb : Hid (w4_.heap[(w.heap.size + 1 + 1)]? = some (.cells #[.int .i64 lb, .slice A4 nb c4] 27 (0, 0))) := (Sq.block _ zb).trans Hb.out
  replace pb0 : w4_.cell? ⟨(w.heap.size + 1 + 1), 0, none⟩ = some (.int .i64 lb) := (cell_at Hb.out _).trans rfl
  replace pb1 : w4_.cell? ⟨(w.heap.size + 1 + 1), 1, none⟩ = some (.slice A4 nb c4) := (cell_at Hb.out _).trans rfl
  replace zb : (w.heap.size + 1 + 1) < w4_.heap.size := Nat.lt_of_lt_of_le zb Sq.size
  replace Hx : Hid (w4_.heap[w1_.heap.size]? = some (.cells #[.int .i64 0, .slice A5 0 c5] 27 (0, 0))) := (Sq.block _ zx).trans Hx.out
  replace px0 : w4_.cell? ⟨w1_.heap.size, 0, none⟩ = some (.int .i64 0) := (cell_at Hx.out _).trans rfl
  replace px1 : w4_.cell? ⟨w1_.heap.size, 1, none⟩ = some (.slice A5 0 c5) := (cell_at Hx.out _).trans rfl
  replace zx : w1_.heap.size < w4_.heap.size := Nat.lt_of_lt_of_le zx Sq.size
  replace HR5 : Hid (Rd w4_ w4_.heap.size A5 (pack [])) := HR5.out.on Sq
  replace HB : Hid (Below w.heap.size w w4_) := HB.out.trans (Sq.mono HB.out.size)
  clear Bq Sq
  have HR6 := Lib.hid Rq; clear Rq
  go_wp2_with fail
  refine (HJ2.out A6 c6 _ (HB.out.trans ((one_below w4_ _).mono HB.out.size)) (HR6.out.on (one_below w4_ _))).mono ?_
  rintro e w5_ ⟨A7, c7, rfl, Rq, Bq⟩
  obtain ⟨Sq, Zq, X5_0⟩ := al1 Bq
  have Hy : Hid (w5_.heap[w4_.heap.size]? = some (.cells #[.int .i64 l1, .slice A6 n1 c6] 27 (0, 0))) := X5_0
  have zy : w4_.heap.size < w5_.heap.size := by omega
  have py0 : w5_.cell? ⟨w4_.heap.size, 0, none⟩ = some (.int .i64 l1) := (cell_at Hy.out _).trans rfl
  have py1 : w5_.cell? ⟨w4_.heap.size, 1, none⟩ = some (.slice A6 n1 c6) := (cell_at Hy.out _).trans rfl
  clear Zq X5_0
  replace Hh : Hid (w5_.heap[w.heap.size]? = some (.cells #[.int .i64 b, .int .i64 s, .int .i64 k] 24 (0, 0))) := (Sq.block _ zh).trans Hh.out
  replace ph0 : w5_.cell? ⟨w.heap.size, 0, none⟩ = some (.int .i64 b) := (cell_at Hh.out _).trans rfl
  replace ph1 : w5_.cell? ⟨w.heap.size, 1, none⟩ = some (.int .i64 s) := (cell_at Hh.out _).trans rfl
  replace ph2 : w5_.cell? ⟨w.heap.size, 2, none⟩ = some (.int .i64 k) := (cell_at Hh.out _).trans rfl
  replace zh : w.heap.size < w5_.heap.size := Nat.lt_of_lt_of_le zh Sq.size
  replace Ha : Hid (w5_.heap[(w.heap.size + 1)]? = some (.cells #[.int .i64 la, .slice A3 na c3] 27 (0, 0))) := (Sq.block _ za).trans Ha.out
  replace pa0 : w5_.cell? ⟨(w.heap.size + 1), 0, none⟩ = some (.int .i64 la) := (cell_at Ha.out _).trans rfl
  replace pa1 : w5_.cell? ⟨(w.heap.size + 1), 1, none⟩ = some (.slice A3 na c3) := (cell_at Ha.out _).trans rfl
  replace za : (w.heap.size + 1) < w5_.heap.size := Nat.lt_of_lt_of_le za Sq.size
  replace Hb : Hid (w5_.heap[(w.heap.size + 1 + 1)]? = some (.cells #[.int .i64 lb, .slice A4 nb c4] 27 (0, 0))) := (Sq.block _ zb).trans Hb.out
  replace pb0 : w5_.cell? ⟨(w.heap.size + 1 + 1), 0, none⟩ = some (.int .i64 lb) := (cell_at Hb.out _).trans rfl
  replace pb1 : w5_.cell? ⟨(w.heap.size + 1 + 1), 1, none⟩ = some (.slice A4 nb c4) := (cell_at Hb.out _).trans rfl
  replace zb : (w.heap.size + 1 + 1) < w5_.heap.size := Nat.lt_of_lt_of_le zb Sq.size
  replace Hx : Hid (w5_.heap[w1_.heap.size]? = some (.cells #[.int .i64 0, .slice A5 0 c5] 27 (0, 0))) := (Sq.block _ zx).trans Hx.out
  replace px0 : w5_.cell? ⟨w1_.heap.size, 0, none⟩ = some (.int .i64 0) := (cell_at Hx.out _).trans rfl
  replace px1 : w5_.cell? ⟨w1_.heap.size, 1, none⟩ = some (.slice A5 0 c5) := (cell_at Hx.out _).trans rfl
  replace zx : w1_.heap.size < w5_.heap.size := Nat.lt_of_lt_of_le zx Sq.size
  replace HR5 : Hid (Rd w5_ w5_.heap.size A5 (pack [])) := HR5.out.on Sq
  replace HR6 : Hid (Rd w5_ w5_.heap.size A6 b1) := HR6.out.on Sq
  replace HB : Hid (Below w.heap.size w w5_) := HB.out.trans (Sq.mono HB.out.size)
  clear Bq Sq
  have HR7 := Lib.hid Rq; clear Rq
  go_wp2_with fail
  refine (same_0 A5 none c5 0 _ (HR5.out.on (one_below w5_ _))).mono ?_
  rintro e w6_ ⟨rfl, Bq⟩
  obtain ⟨Sq, Zq, X6_0⟩ := al1 Bq
  have Hz : Hid (w6_.heap[w5_.heap.size]? = some (.cells #[.int .i64 l2, .slice A7 n2 c7] 27 (0, 0))) := X6_0
  have zz : w5_.heap.size < w6_.heap.size := by omega
  have pz0 : w6_.cell? ⟨w5_.heap.size, 0, none⟩ = some (.int .i64 l2) := (cell_at Hz.out _).trans rfl
  have pz1 : w6_.cell? ⟨w5_.heap.size, 1, none⟩ = some (.slice A7 n2 c7) := (cell_at Hz.out _).trans rfl
  clear Zq X6_0
  replace Hh : Hid (w6_.heap[w.heap.size]? = some (.cells #[.int .i64 b, .int .i64 s, .int .i64 k] 24 (0, 0))) := (Sq.block _ zh).trans Hh.out
  replace ph0 : w6_.cell? ⟨w.heap.size, 0, none⟩ = some (.int .i64 b) := (cell_at Hh.out _).trans rfl
  replace ph1 : w6_.cell? ⟨w.heap.size, 1, none⟩ = some (.int .i64 s) := (cell_at Hh.out _).trans rfl
  replace ph2 : w6_.cell? ⟨w.heap.size, 2, none⟩ = some (.int .i64 k) := (cell_at Hh.out _).trans rfl
  replace zh : w.heap.size < w6_.heap.size := Nat.lt_of_lt_of_le zh Sq.size
  replace Ha : Hid (w6_.heap[(w.heap.size + 1)]? = some (.cells #[.int .i64 la, .slice A3 na c3] 27 (0, 0))) := (Sq.block _ za).trans Ha.out
  replace pa0 : w6_.cell? ⟨(w.heap.size + 1), 0, none⟩ = some (.int .i64 la) := (cell_at Ha.out _).trans rfl
  replace pa1 : w6_.cell? ⟨(w.heap.size + 1), 1, none⟩ = some (.slice A3 na c3) := (cell_at Ha.out _).trans rfl
  replace za : (w.heap.size + 1) < w6_.heap.size := Nat.lt_of_lt_of_le za Sq.size
  replace Hb : Hid (w6_.heap[(w.heap.size + 1 + 1)]? = some (.cells #[.int .i64 lb, .slice A4 nb c4] 27 (0, 0))) := (Sq.block _ zb).trans Hb.out
  replace pb0 : w6_.cell? ⟨(w.heap.size + 1 + 1), 0, none⟩ = some (.int .i64 lb) := (cell_at Hb.out _).trans rfl
  replace pb1 : w6_.cell? ⟨(w.heap.size + 1 + 1), 1, none⟩ = some (.slice A4 nb c4) := (cell_at Hb.out _).trans rfl
  replace zb : (w.heap.size + 1 + 1) < w6_.heap.size := Nat.lt_of_lt_of_le zb Sq.size
  replace Hx : Hid (w6_.heap[w1_.heap.size]? = some (.cells #[.int .i64 0, .slice A5 0 c5] 27 (0, 0))) := (Sq.block _ zx).trans Hx.out
  replace px0 : w6_.cell? ⟨w1_.heap.size, 0, none⟩ = some (.int .i64 0) := (cell_at Hx.out _).trans rfl
  replace px1 : w6_.cell? ⟨w1_.heap.size, 1, none⟩ = some (.slice A5 0 c5) := (cell_at Hx.out _).trans rfl
  replace zx : w1_.heap.size < w6_.heap.size := Nat.lt_of_lt_of_le zx Sq.size
  replace Hy : Hid (w6_.heap[w4_.heap.size]? = some (.cells #[.int .i64 l1, .slice A6 n1 c6] 27 (0, 0))) := (Sq.block _ zy).trans Hy.out
  replace py0 : w6_.cell? ⟨w4_.heap.size, 0, none⟩ = some (.int .i64 l1) := (cell_at Hy.out _).trans rfl
  replace py1 : w6_.cell? ⟨w4_.heap.size, 1, none⟩ = some (.slice A6 n1 c6) := (cell_at Hy.out _).trans rfl
  replace zy : w4_.heap.size < w6_.heap.size := Nat.lt_of_lt_of_le zy Sq.size
  replace HR5 : Hid (Rd w6_ w6_.heap.size A5 (pack [])) := HR5.out.on Sq
  replace HR6 : Hid (Rd w6_ w6_.heap.size A6 b1) := HR6.out.on Sq
  replace HR7 : Hid (Rd w6_ w6_.heap.size A7 b2) := HR7.out.on Sq
  replace HB : Hid (Below w.heap.size w w6_) := HB.out.trans (Sq.mono HB.out.size)
  clear Bq Sq
  go_wp2
  go_ret
  exact ⟨rfl, HB.out⟩
set_option maxHeartbeats 4000000 in
theorem sback_1 (a : Int) (A1 A2 A3 A4 : Option Addr) (c1 c2 c3 c4 n m na nb : Nat) (b s k la lb : Int) (w : World) (lW l1 l2 : Int) (nW n1 n2 : Nat) (bW b1 b2 : List Nat) (e1 e2 : Int) (h0 : e1 ≠ 0) (HX : Hid (∀ V, Below w.heap.size w V → Calls Tryz.prog 15 #[.int .i64 a, .slice A1 n c1, .slice A2 m c2, .agg #[.int .i64 b, .int .i64 s, .int .i64 k]] V (Gv V lW nW bW 0))) (HJ1 : Hid (∀ A c V, Below w.heap.size w V → Rd V V.heap.size A bW → Calls Tryz.prog 25 #[.agg #[.int .i64 la, .slice A3 na c3], .agg #[.int .i64 lW, .slice A nW c]] V (Gv V l1 n1 b1 e1))) (HJ2 : Hid (∀ A c V, Below w.heap.size w V → Rd V V.heap.size A b1 → Calls Tryz.prog 25 #[.agg #[.int .i64 l1, .slice A n1 c], .agg #[.int .i64 lb, .slice A4 nb c4]] V (Gv V l2 n2 b2 e2))) :
    Calls Tryz.prog 4 #[.int .i64 a, .slice A1 n c1, .slice A2 m c2, .agg #[.int .i64 b, .int .i64 s, .int .i64 k], .agg #[.int .i64 la, .slice A3 na c3], .agg #[.int .i64 lb, .slice A4 nb c4]] w fun e w' => e = .returned (.bool true) ∧ Below w.heap.size w w' := by
  have t0 : (e1 != 0) = true := by simpa using h0
  clear h0
  go_enter Tryz.func4, Tryz.ntmps4
  go_wp2_with fail
  refine (HX.out _ (low3 w _ _ _)).mono ?_
  rintro e w1_ ⟨A5, c5, rfl, Rq, Bq⟩
  obtain ⟨Sq, Zq, X1_0, X1_1, X1_2⟩ := al3 Bq
  have Hh : Hid (w1_.heap[w.heap.size]? = some (.cells #[.int .i64 b, .int .i64 s, .int .i64 k] 24 (0, 0))) := X1_0
  have zh : w.heap.size < w1_.heap.size := by omega
  have ph0 : w1_.cell? ⟨w.heap.size, 0, none⟩ = some (.int .i64 b) := (cell_at Hh.out _).trans rfl
  have ph1 : w1_.cell? ⟨w.heap.size, 1, none⟩ = some (.int .i64 s) := (cell_at Hh.out _).trans rfl
  have ph2 : w1_.cell? ⟨w.heap.size, 2, none⟩ = some (.int .i64 k) := (cell_at Hh.out _).trans rfl
  have Ha : Hid (w1_.heap[(w.heap.size + 1)]? = some (.cells #[.int .i64 la, .slice A3 na c3] 27 (0, 0))) := X1_1
  have za : (w.heap.size + 1) < w1_.heap.size := by omega
  have pa0 : w1_.cell? ⟨(w.heap.size + 1), 0, none⟩ = some (.int .i64 la) := (cell_at Ha.out _).trans rfl
  have pa1 : w1_.cell? ⟨(w.heap.size + 1), 1, none⟩ = some (.slice A3 na c3) := (cell_at Ha.out _).trans rfl
  have Hb : Hid (w1_.heap[(w.heap.size + 1 + 1)]? = some (.cells #[.int .i64 lb, .slice A4 nb c4] 27 (0, 0))) := X1_2
  have zb : (w.heap.size + 1 + 1) < w1_.heap.size := by omega
  have pb0 : w1_.cell? ⟨(w.heap.size + 1 + 1), 0, none⟩ = some (.int .i64 lb) := (cell_at Hb.out _).trans rfl
  have pb1 : w1_.cell? ⟨(w.heap.size + 1 + 1), 1, none⟩ = some (.slice A4 nb c4) := (cell_at Hb.out _).trans rfl
  clear Zq X1_0 X1_1 X1_2
  have HB : Hid (Below w.heap.size w w1_) := Sq
  clear Bq Sq
  have HR5 := Lib.hid Rq; clear Rq
  go_wp2_with fail
  refine (succbegun_true _).mono ?_
  rintro e w2_ ⟨rfl, Bq⟩
  obtain ⟨Sq, Zq, X2_0⟩ := al1 Bq
  have Hx : Hid (w2_.heap[w1_.heap.size]? = some (.cells #[.int .i64 lW, .slice A5 nW c5] 27 (0, 0))) := X2_0
  have zx : w1_.heap.size < w2_.heap.size := by omega
  have px0 : w2_.cell? ⟨w1_.heap.size, 0, none⟩ = some (.int .i64 lW) := (cell_at Hx.out _).trans rfl
  have px1 : w2_.cell? ⟨w1_.heap.size, 1, none⟩ = some (.slice A5 nW c5) := (cell_at Hx.out _).trans rfl
  clear Zq X2_0
  replace Hh : Hid (w2_.heap[w.heap.size]? = some (.cells #[.int .i64 b, .int .i64 s, .int .i64 k] 24 (0, 0))) := (Sq.block _ zh).trans Hh.out
  replace ph0 : w2_.cell? ⟨w.heap.size, 0, none⟩ = some (.int .i64 b) := (cell_at Hh.out _).trans rfl
  replace ph1 : w2_.cell? ⟨w.heap.size, 1, none⟩ = some (.int .i64 s) := (cell_at Hh.out _).trans rfl
  replace ph2 : w2_.cell? ⟨w.heap.size, 2, none⟩ = some (.int .i64 k) := (cell_at Hh.out _).trans rfl
  replace zh : w.heap.size < w2_.heap.size := Nat.lt_of_lt_of_le zh Sq.size
  replace Ha : Hid (w2_.heap[(w.heap.size + 1)]? = some (.cells #[.int .i64 la, .slice A3 na c3] 27 (0, 0))) := (Sq.block _ za).trans Ha.out
  replace pa0 : w2_.cell? ⟨(w.heap.size + 1), 0, none⟩ = some (.int .i64 la) := (cell_at Ha.out _).trans rfl
  replace pa1 : w2_.cell? ⟨(w.heap.size + 1), 1, none⟩ = some (.slice A3 na c3) := (cell_at Ha.out _).trans rfl
  replace za : (w.heap.size + 1) < w2_.heap.size := Nat.lt_of_lt_of_le za Sq.size
  replace Hb : Hid (w2_.heap[(w.heap.size + 1 + 1)]? = some (.cells #[.int .i64 lb, .slice A4 nb c4] 27 (0, 0))) := (Sq.block _ zb).trans Hb.out
  replace pb0 : w2_.cell? ⟨(w.heap.size + 1 + 1), 0, none⟩ = some (.int .i64 lb) := (cell_at Hb.out _).trans rfl
  replace pb1 : w2_.cell? ⟨(w.heap.size + 1 + 1), 1, none⟩ = some (.slice A4 nb c4) := (cell_at Hb.out _).trans rfl
  replace zb : (w.heap.size + 1 + 1) < w2_.heap.size := Nat.lt_of_lt_of_le zb Sq.size
  replace HR5 : Hid (Rd w2_ w2_.heap.size A5 bW) := HR5.out.on Sq
  replace HB : Hid (Below w.heap.size w w2_) := HB.out.trans (Sq.mono HB.out.size)
  clear Bq Sq
  go_wp2_with fail
  refine (begun_true _).mono ?_
  rintro e w3_ ⟨rfl, Bq⟩
  have Sq : Below w2_.heap.size w2_ w3_ := Bq
  replace Hh : Hid (w3_.heap[w.heap.size]? = some (.cells #[.int .i64 b, .int .i64 s, .int .i64 k] 24 (0, 0))) := (Sq.block _ zh).trans Hh.out
  replace ph0 : w3_.cell? ⟨w.heap.size, 0, none⟩ = some (.int .i64 b) := (cell_at Hh.out _).trans rfl
  replace ph1 : w3_.cell? ⟨w.heap.size, 1, none⟩ = some (.int .i64 s) := (cell_at Hh.out _).trans rfl
  replace ph2 : w3_.cell? ⟨w.heap.size, 2, none⟩ = some (.int .i64 k) := (cell_at Hh.out _).trans rfl
  replace zh : w.heap.size < w3_.heap.size := Nat.lt_of_lt_of_le zh Sq.size
  replace Ha : Hid (w3_.heap[(w.heap.size + 1)]? = some (.cells #[.int .i64 la, .slice A3 na c3] 27 (0, 0))) := (Sq.block _ za).trans Ha.out
  replace pa0 : w3_.cell? ⟨(w.heap.size + 1), 0, none⟩ = some (.int .i64 la) := (cell_at Ha.out _).trans rfl
  replace pa1 : w3_.cell? ⟨(w.heap.size + 1), 1, none⟩ = some (.slice A3 na c3) := (cell_at Ha.out _).trans rfl
  replace za : (w.heap.size + 1) < w3_.heap.size := Nat.lt_of_lt_of_le za Sq.size
  replace Hb : Hid (w3_.heap[(w.heap.size + 1 + 1)]? = some (.cells #[.int .i64 lb, .slice A4 nb c4] 27 (0, 0))) := (Sq.block _ zb).trans Hb.out
  replace pb0 : w3_.cell? ⟨(w.heap.size + 1 + 1), 0, none⟩ = some (.int .i64 lb) := (cell_at Hb.out _).trans rfl
  replace pb1 : w3_.cell? ⟨(w.heap.size + 1 + 1), 1, none⟩ = some (.slice A4 nb c4) := (cell_at Hb.out _).trans rfl
  replace zb : (w.heap.size + 1 + 1) < w3_.heap.size := Nat.lt_of_lt_of_le zb Sq.size
  replace Hx : Hid (w3_.heap[w1_.heap.size]? = some (.cells #[.int .i64 lW, .slice A5 nW c5] 27 (0, 0))) := (Sq.block _ zx).trans Hx.out
  replace px0 : w3_.cell? ⟨w1_.heap.size, 0, none⟩ = some (.int .i64 lW) := (cell_at Hx.out _).trans rfl
  replace px1 : w3_.cell? ⟨w1_.heap.size, 1, none⟩ = some (.slice A5 nW c5) := (cell_at Hx.out _).trans rfl
  replace zx : w1_.heap.size < w3_.heap.size := Nat.lt_of_lt_of_le zx Sq.size
  replace HR5 : Hid (Rd w3_ w3_.heap.size A5 bW) := HR5.out.on Sq
  replace HB : Hid (Below w.heap.size w w3_) := HB.out.trans (Sq.mono HB.out.size)
  clear Bq Sq
  go_wp2_with fail
  refine (HJ1.out A5 c5 _ HB.out HR5.out).mono ?_
  rintro e w4_ ⟨A6, c6, rfl, Rq, Bq⟩
  have Sq : Below w3_.heap.size w3_ w4_ := Bq
  replace Hh : Hid (w4_.heap[w.heap.size]? = some (.cells #[.int .i64 b, .int .i64 s, .int .i64 k] 24 (0, 0))) := (Sq.block _ zh).trans Hh.out
  replace ph0 : w4_.cell? ⟨w.heap.size, 0, none⟩ = some (.int .i64 b) := (cell_at Hh.out _).trans rfl
  replace ph1 : w4_.cell? ⟨w.heap.size, 1, none⟩ = some (.int .i64 s) := (cell_at Hh.out _).trans rfl
  replace ph2 : w4_.cell? ⟨w.heap.size, 2, none⟩ = some (.int .i64 k) := (cell_at Hh.out _).trans rfl
  replace zh : w.heap.size < w4_.heap.size := Nat.lt_of_lt_of_le zh Sq.size
  replace Ha : Hid (w4_.heap[(w.heap.size + 1)]? = some (.cells #[.int .i64 la, .slice A3 na c3] 27 (0, 0))) := (Sq.block _ za).trans Ha.out
  replace pa0 : w4_.cell? ⟨(w.heap.size + 1), 0, none⟩ = some (.int .i64 la) := (cell_at Ha.out _).trans rfl
  replace pa1 : w4_.cell? ⟨(w.heap.size + 1), 1, none⟩ = some (.slice A3 na c3) := (cell_at Ha.out _).trans rfl
  replace za : (w.heap.size + 1) < w4_.heap.size := Nat.lt_of_lt_of_le za Sq.size
  replace Hb : Hid (w4_.heap[(w.heap.size + 1 + 1)]? = some (.cells #[.int .i64 lb, .slice A4 nb c4] 27 (0, 0))) := (Sq.block _ zb).trans Hb.out
  replace pb0 : w4_.cell? ⟨(w.heap.size + 1 + 1), 0, none⟩ = some (.int .i64 lb) := (cell_at Hb.out _).trans rfl
  replace pb1 : w4_.cell? ⟨(w.heap.size + 1 + 1), 1, none⟩ = some (.slice A4 nb c4) := (cell_at Hb.out _).trans rfl
  replace zb : (w.heap.size + 1 + 1) < w4_.heap.size := Nat.lt_of_lt_of_le zb Sq.size
  replace Hx : Hid (w4_.heap[w1_.heap.size]? = some (.cells #[.int .i64 lW, .slice A5 nW c5] 27 (0, 0))) := (Sq.block _ zx).trans Hx.out
  replace px0 : w4_.cell? ⟨w1_.heap.size, 0, none⟩ = some (.int .i64 lW) := (cell_at Hx.out _).trans rfl
  replace px1 : w4_.cell? ⟨w1_.heap.size, 1, none⟩ = some (.slice A5 nW c5) := (cell_at Hx.out _).trans rfl
  replace zx : w1_.heap.size < w4_.heap.size := Nat.lt_of_lt_of_le zx Sq.size
  replace HR5 : Hid (Rd w4_ w4_.heap.size A5 bW) := HR5.out.on Sq
  replace HB : Hid (Below w.heap.size w w4_) := HB.out.trans (Sq.mono HB.out.size)
  clear Bq Sq
  have HR6 := Lib.hid Rq; clear Rq
  go_wp2_with fail
  refine (HJ2.out A6 c6 _ (HB.out.trans ((one_below w4_ _).mono HB.out.size)) (HR6.out.on (one_below w4_ _))).mono ?_
  rintro e w5_ ⟨A7, c7, rfl, Rq, Bq⟩
  obtain ⟨Sq, Zq, X5_0⟩ := al1 Bq
  have Hy : Hid (w5_.heap[w4_.heap.size]? = some (.cells #[.int .i64 l1, .slice A6 n1 c6] 27 (0, 0))) := X5_0
  have zy : w4_.heap.size < w5_.heap.size := by omega
  have py0 : w5_.cell? ⟨w4_.heap.size, 0, none⟩ = some (.int .i64 l1) := (cell_at Hy.out _).trans rfl
  have py1 : w5_.cell? ⟨w4_.heap.size, 1, none⟩ = some (.slice A6 n1 c6) := (cell_at Hy.out _).trans rfl
  clear Zq X5_0
  replace Hh : Hid (w5_.heap[w.heap.size]? = some (.cells #[.int .i64 b, .int .i64 s, .int .i64 k] 24 (0, 0))) := (Sq.block _ zh).trans Hh.out
  replace ph0 : w5_.cell? ⟨w.heap.size, 0, none⟩ = some (.int .i64 b) := (cell_at Hh.out _).trans rfl
  replace ph1 : w5_.cell? ⟨w.heap.size, 1, none⟩ = some (.int .i64 s) := (cell_at Hh.out _).trans rfl
  replace ph2 : w5_.cell? ⟨w.heap.size, 2, none⟩ = some (.int .i64 k) := (cell_at Hh.out _).trans rfl
  replace zh : w.heap.size < w5_.heap.size := Nat.lt_of_lt_of_le zh Sq.size
  replace Ha : Hid (w5_.heap[(w.heap.size + 1)]? = some (.cells #[.int .i64 la, .slice A3 na c3] 27 (0, 0))) := (Sq.block _ za).trans Ha.out
  replace pa0 : w5_.cell? ⟨(w.heap.size + 1), 0, none⟩ = some (.int .i64 la) := (cell_at Ha.out _).trans rfl
  replace pa1 : w5_.cell? ⟨(w.heap.size + 1), 1, none⟩ = some (.slice A3 na c3) := (cell_at Ha.out _).trans rfl
  replace za : (w.heap.size + 1) < w5_.heap.size := Nat.lt_of_lt_of_le za Sq.size
  replace Hb : Hid (w5_.heap[(w.heap.size + 1 + 1)]? = some (.cells #[.int .i64 lb, .slice A4 nb c4] 27 (0, 0))) := (Sq.block _ zb).trans Hb.out
  replace pb0 : w5_.cell? ⟨(w.heap.size + 1 + 1), 0, none⟩ = some (.int .i64 lb) := (cell_at Hb.out _).trans rfl
  replace pb1 : w5_.cell? ⟨(w.heap.size + 1 + 1), 1, none⟩ = some (.slice A4 nb c4) := (cell_at Hb.out _).trans rfl
  replace zb : (w.heap.size + 1 + 1) < w5_.heap.size := Nat.lt_of_lt_of_le zb Sq.size
  replace Hx : Hid (w5_.heap[w1_.heap.size]? = some (.cells #[.int .i64 lW, .slice A5 nW c5] 27 (0, 0))) := (Sq.block _ zx).trans Hx.out
  replace px0 : w5_.cell? ⟨w1_.heap.size, 0, none⟩ = some (.int .i64 lW) := (cell_at Hx.out _).trans rfl
  replace px1 : w5_.cell? ⟨w1_.heap.size, 1, none⟩ = some (.slice A5 nW c5) := (cell_at Hx.out _).trans rfl
  replace zx : w1_.heap.size < w5_.heap.size := Nat.lt_of_lt_of_le zx Sq.size
  replace HR5 : Hid (Rd w5_ w5_.heap.size A5 bW) := HR5.out.on Sq
  replace HR6 : Hid (Rd w5_ w5_.heap.size A6 b1) := HR6.out.on Sq
  replace HB : Hid (Below w.heap.size w w5_) := HB.out.trans (Sq.mono HB.out.size)
  clear Bq Sq
  have HR7 := Lib.hid Rq; clear Rq
  go_wp2
  go_ret
  exact ⟨rfl, HB.out.trans ((one_below _ _).mono HB.out.size)⟩
set_option maxHeartbeats 4000000 in
theorem sback_2 (a : Int) (A1 A2 A3 A4 : Option Addr) (c1 c2 c3 c4 n m na nb : Nat) (b s k la lb : Int) (w : World) (lW l1 l2 : Int) (nW n1 n2 : Nat) (bW b1 b2 : List Nat) (e1 e2 : Int) (he : e1 = 0) (h0 : e2 ≠ 0) (HX : Hid (∀ V, Below w.heap.size w V → Calls Tryz.prog 15 #[.int .i64 a, .slice A1 n c1, .slice A2 m c2, .agg #[.int .i64 b, .int .i64 s, .int .i64 k]] V (Gv V lW nW bW 0))) (HJ1 : Hid (∀ A c V, Below w.heap.size w V → Rd V V.heap.size A bW → Calls Tryz.prog 25 #[.agg #[.int .i64 la, .slice A3 na c3], .agg #[.int .i64 lW, .slice A nW c]] V (Gv V l1 n1 b1 e1))) (HJ2 : Hid (∀ A c V, Below w.heap.size w V → Rd V V.heap.size A b1 → Calls Tryz.prog 25 #[.agg #[.int .i64 l1, .slice A n1 c], .agg #[.int .i64 lb, .slice A4 nb c4]] V (Gv V l2 n2 b2 e2))) :
    Calls Tryz.prog 4 #[.int .i64 a, .slice A1 n c1, .slice A2 m c2, .agg #[.int .i64 b, .int .i64 s, .int .i64 k], .agg #[.int .i64 la, .slice A3 na c3], .agg #[.int .i64 lb, .slice A4 nb c4]] w fun e w' => e = .returned (.bool true) ∧ Below w.heap.size w w' := by
  subst he
  have t0 : (e2 != 0) = true := by simpa using h0
  clear h0
  go_enter Tryz.func4, Tryz.ntmps4
  go_wp2_with fail
  refine (HX.out _ (low3 w _ _ _)).mono ?_
  rintro e w1_ ⟨A5, c5, rfl, Rq, Bq⟩
  obtain ⟨Sq, Zq, X1_0, X1_1, X1_2⟩ := al3 Bq
  have Hh : Hid (w1_.heap[w.heap.size]? = some (.cells #[.int .i64 b, .int .i64 s, .int .i64 k] 24 (0, 0))) := X1_0
  have zh : w.heap.size < w1_.heap.size := by omega
  have ph0 : w1_.cell? ⟨w.heap.size, 0, none⟩ = some (.int .i64 b) := (cell_at Hh.out _).trans rfl
  have ph1 : w1_.cell? ⟨w.heap.size, 1, none⟩ = some (.int .i64 s) := (cell_at Hh.out _).trans rfl
  have ph2 : w1_.cell? ⟨w.heap.size, 2, none⟩ = some (.int .i64 k) := (cell_at Hh.out _).trans rfl
  have Ha : Hid (w1_.heap[(w.heap.size + 1)]? = some (.cells #[.int .i64 la, .slice A3 na c3] 27 (0, 0))) := X1_1
  have za : (w.heap.size + 1) < w1_.heap.size := by omega
  have pa0 : w1_.cell? ⟨(w.heap.size + 1), 0, none⟩ = some (.int .i64 la) := (cell_at Ha.out _).trans rfl
  have pa1 : w1_.cell? ⟨(w.heap.size + 1), 1, none⟩ = some (.slice A3 na c3) := (cell_at Ha.out _).trans rfl
  have Hb : Hid (w1_.heap[(w.heap.size + 1 + 1)]? = some (.cells #[.int .i64 lb, .slice A4 nb c4] 27 (0, 0))) := X1_2
  have zb : (w.heap.size + 1 + 1) < w1_.heap.size := by omega
  have pb0 : w1_.cell? ⟨(w.heap.size + 1 + 1), 0, none⟩ = some (.int .i64 lb) := (cell_at Hb.out _).trans rfl
  have pb1 : w1_.cell? ⟨(w.heap.size + 1 + 1), 1, none⟩ = some (.slice A4 nb c4) := (cell_at Hb.out _).trans rfl
  clear Zq X1_0 X1_1 X1_2
  have HB : Hid (Below w.heap.size w w1_) := Sq
  clear Bq Sq
  have HR5 := Lib.hid Rq; clear Rq
  go_wp2_with fail
  refine (succbegun_true _).mono ?_
  rintro e w2_ ⟨rfl, Bq⟩
  obtain ⟨Sq, Zq, X2_0⟩ := al1 Bq
  have Hx : Hid (w2_.heap[w1_.heap.size]? = some (.cells #[.int .i64 lW, .slice A5 nW c5] 27 (0, 0))) := X2_0
  have zx : w1_.heap.size < w2_.heap.size := by omega
  have px0 : w2_.cell? ⟨w1_.heap.size, 0, none⟩ = some (.int .i64 lW) := (cell_at Hx.out _).trans rfl
  have px1 : w2_.cell? ⟨w1_.heap.size, 1, none⟩ = some (.slice A5 nW c5) := (cell_at Hx.out _).trans rfl
  clear Zq X2_0
  replace Hh : Hid (w2_.heap[w.heap.size]? = some (.cells #[.int .i64 b, .int .i64 s, .int .i64 k] 24 (0, 0))) := (Sq.block _ zh).trans Hh.out
  replace ph0 : w2_.cell? ⟨w.heap.size, 0, none⟩ = some (.int .i64 b) := (cell_at Hh.out _).trans rfl
  replace ph1 : w2_.cell? ⟨w.heap.size, 1, none⟩ = some (.int .i64 s) := (cell_at Hh.out _).trans rfl
  replace ph2 : w2_.cell? ⟨w.heap.size, 2, none⟩ = some (.int .i64 k) := (cell_at Hh.out _).trans rfl
  replace zh : w.heap.size < w2_.heap.size := Nat.lt_of_lt_of_le zh Sq.size
  replace Ha : Hid (w2_.heap[(w.heap.size + 1)]? = some (.cells #[.int .i64 la, .slice A3 na c3] 27 (0, 0))) := (Sq.block _ za).trans Ha.out
  replace pa0 : w2_.cell? ⟨(w.heap.size + 1), 0, none⟩ = some (.int .i64 la) := (cell_at Ha.out _).trans rfl
  replace pa1 : w2_.cell? ⟨(w.heap.size + 1), 1, none⟩ = some (.slice A3 na c3) := (cell_at Ha.out _).trans rfl
  replace za : (w.heap.size + 1) < w2_.heap.size := Nat.lt_of_lt_of_le za Sq.size
  replace Hb : Hid (w2_.heap[(w.heap.size + 1 + 1)]? = some (.cells #[.int .i64 lb, .slice A4 nb c4] 27 (0, 0))) := (Sq.block _ zb).trans Hb.out
  replace pb0 : w2_.cell? ⟨(w.heap.size + 1 + 1), 0, none⟩ = some (.int .i64 lb) := (cell_at Hb.out _).trans rfl
  replace pb1 : w2_.cell? ⟨(w.heap.size + 1 + 1), 1, none⟩ = some (.slice A4 nb c4) := (cell_at Hb.out _).trans rfl
  replace zb : (w.heap.size + 1 + 1) < w2_.heap.size := Nat.lt_of_lt_of_le zb Sq.size
  replace HR5 : Hid (Rd w2_ w2_.heap.size A5 bW) := HR5.out.on Sq
  replace HB : Hid (Below w.heap.size w w2_) := HB.out.trans (Sq.mono HB.out.size)
  clear Bq Sq
  go_wp2_with fail
  refine (begun_true _).mono ?_
  rintro e w3_ ⟨rfl, Bq⟩
  have Sq : Below w2_.heap.size w2_ w3_ := Bq
  replace Hh : Hid (w3_.heap[w.heap.size]? = some (.cells #[.int .i64 b, .int .i64 s, .int .i64 k] 24 (0, 0))) := (Sq.block _ zh).trans Hh.out
  replace ph0 : w3_.cell? ⟨w.heap.size, 0, none⟩ = some (.int .i64 b) := (cell_at Hh.out _).trans rfl
  replace ph1 : w3_.cell? ⟨w.heap.size, 1, none⟩ = some (.int .i64 s) := (cell_at Hh.out _).trans rfl
  replace ph2 : w3_.cell? ⟨w.heap.size, 2, none⟩ = some (.int .i64 k) := (cell_at Hh.out _).trans rfl
  replace zh : w.heap.size < w3_.heap.size := Nat.lt_of_lt_of_le zh Sq.size
  replace Ha : Hid (w3_.heap[(w.heap.size + 1)]? = some (.cells #[.int .i64 la, .slice A3 na c3] 27 (0, 0))) := (Sq.block _ za).trans Ha.out
  replace pa0 : w3_.cell? ⟨(w.heap.size + 1), 0, none⟩ = some (.int .i64 la) := (cell_at Ha.out _).trans rfl
  replace pa1 : w3_.cell? ⟨(w.heap.size + 1), 1, none⟩ = some (.slice A3 na c3) := (cell_at Ha.out _).trans rfl
  replace za : (w.heap.size + 1) < w3_.heap.size := Nat.lt_of_lt_of_le za Sq.size
  replace Hb : Hid (w3_.heap[(w.heap.size + 1 + 1)]? = some (.cells #[.int .i64 lb, .slice A4 nb c4] 27 (0, 0))) := (Sq.block _ zb).trans Hb.out
  replace pb0 : w3_.cell? ⟨(w.heap.size + 1 + 1), 0, none⟩ = some (.int .i64 lb) := (cell_at Hb.out _).trans rfl
  replace pb1 : w3_.cell? ⟨(w.heap.size + 1 + 1), 1, none⟩ = some (.slice A4 nb c4) := (cell_at Hb.out _).trans rfl
  replace zb : (w.heap.size + 1 + 1) < w3_.heap.size := Nat.lt_of_lt_of_le zb Sq.size
  replace Hx : Hid (w3_.heap[w1_.heap.size]? = some (.cells #[.int .i64 lW, .slice A5 nW c5] 27 (0, 0))) := (Sq.block _ zx).trans Hx.out
  replace px0 : w3_.cell? ⟨w1_.heap.size, 0, none⟩ = some (.int .i64 lW) := (cell_at Hx.out _).trans rfl
  replace px1 : w3_.cell? ⟨w1_.heap.size, 1, none⟩ = some (.slice A5 nW c5) := (cell_at Hx.out _).trans rfl
  replace zx : w1_.heap.size < w3_.heap.size := Nat.lt_of_lt_of_le zx Sq.size
  replace HR5 : Hid (Rd w3_ w3_.heap.size A5 bW) := HR5.out.on Sq
  replace HB : Hid (Below w.heap.size w w3_) := HB.out.trans (Sq.mono HB.out.size)
  clear Bq Sq
  go_wp2_with fail
  refine (HJ1.out A5 c5 _ HB.out HR5.out).mono ?_
  rintro e w4_ ⟨A6, c6, rfl, Rq, Bq⟩
  have Sq : Below w3_.heap.size w3_ w4_ := Bq
  replace Hh : Hid (w4_.heap[w.heap.size]? = some (.cells #[.int .i64 b, .int .i64 s, .int .i64 k] 24 (0, 0))) := (Sq.block _ zh).trans Hh.out
  replace ph0 : w4_.cell? ⟨w.heap.size, 0, none⟩ = some (.int .i64 b) := (cell_at Hh.out _).trans rfl
  replace ph1 : w4_.cell? ⟨w.heap.size, 1, none⟩ = some (.int .i64 s) := (cell_at Hh.out _).trans rfl
  replace ph2 : w4_.cell? ⟨w.heap.size, 2, none⟩ = some (.int .i64 k) := (cell_at Hh.out _).trans rfl
  replace zh : w.heap.size < w4_.heap.size := Nat.lt_of_lt_of_le zh Sq.size
  replace Ha : Hid (w4_.heap[(w.heap.size + 1)]? = some (.cells #[.int .i64 la, .slice A3 na c3] 27 (0, 0))) := (Sq.block _ za).trans Ha.out
  replace pa0 : w4_.cell? ⟨(w.heap.size + 1), 0, none⟩ = some (.int .i64 la) := (cell_at Ha.out _).trans rfl
  replace pa1 : w4_.cell? ⟨(w.heap.size + 1), 1, none⟩ = some (.slice A3 na c3) := (cell_at Ha.out _).trans rfl
  replace za : (w.heap.size + 1) < w4_.heap.size := Nat.lt_of_lt_of_le za Sq.size
  replace Hb : Hid (w4_.heap[(w.heap.size + 1 + 1)]? = some (.cells #[.int .i64 lb, .slice A4 nb c4] 27 (0, 0))) := (Sq.block _ zb).trans Hb.out
  replace pb0 : w4_.cell? ⟨(w.heap.size + 1 + 1), 0, none⟩ = some (.int .i64 lb) := (cell_at Hb.out _).trans rfl
  replace pb1 : w4_.cell? ⟨(w.heap.size + 1 + 1), 1, none⟩ = some (.slice A4 nb c4) := (cell_at Hb.out _).trans rfl
  replace zb : (w.heap.size + 1 + 1) < w4_.heap.size := Nat.lt_of_lt_of_le zb Sq.size
  replace Hx : Hid (w4_.heap[w1_.heap.size]? = some (.cells #[.int .i64 lW, .slice A5 nW c5] 27 (0, 0))) := (Sq.block _ zx).trans Hx.out
  replace px0 : w4_.cell? ⟨w1_.heap.size, 0, none⟩ = some (.int .i64 lW) := (cell_at Hx.out _).trans rfl
  replace px1 : w4_.cell? ⟨w1_.heap.size, 1, none⟩ = some (.slice A5 nW c5) := (cell_at Hx.out _).trans rfl
  replace zx : w1_.heap.size < w4_.heap.size := Nat.lt_of_lt_of_le zx Sq.size
  replace HR5 : Hid (Rd w4_ w4_.heap.size A5 bW) := HR5.out.on Sq
  replace HB : Hid (Below w.heap.size w w4_) := HB.out.trans (Sq.mono HB.out.size)
  clear Bq Sq
  have HR6 := Lib.hid Rq; clear Rq
  go_wp2_with fail
  refine (HJ2.out A6 c6 _ (HB.out.trans ((one_below w4_ _).mono HB.out.size)) (HR6.out.on (one_below w4_ _))).mono ?_
  rintro e w5_ ⟨A7, c7, rfl, Rq, Bq⟩
  obtain ⟨Sq, Zq, X5_0⟩ := al1 Bq
  have Hy : Hid (w5_.heap[w4_.heap.size]? = some (.cells #[.int .i64 l1, .slice A6 n1 c6] 27 (0, 0))) := X5_0
  have zy : w4_.heap.size < w5_.heap.size := by omega
  have py0 : w5_.cell? ⟨w4_.heap.size, 0, none⟩ = some (.int .i64 l1) := (cell_at Hy.out _).trans rfl
  have py1 : w5_.cell? ⟨w4_.heap.size, 1, none⟩ = some (.slice A6 n1 c6) := (cell_at Hy.out _).trans rfl
  clear Zq X5_0
  replace Hh : Hid (w5_.heap[w.heap.size]? = some (.cells #[.int .i64 b, .int .i64 s, .int .i64 k] 24 (0, 0))) := (Sq.block _ zh).trans Hh.out
  replace ph0 : w5_.cell? ⟨w.heap.size, 0, none⟩ = some (.int .i64 b) := (cell_at Hh.out _).trans rfl
  replace ph1 : w5_.cell? ⟨w.heap.size, 1, none⟩ = some (.int .i64 s) := (cell_at Hh.out _).trans rfl
  replace ph2 : w5_.cell? ⟨w.heap.size, 2, none⟩ = some (.int .i64 k) := (cell_at Hh.out _).trans rfl
  replace zh : w.heap.size < w5_.heap.size := Nat.lt_of_lt_of_le zh Sq.size
  replace Ha : Hid (w5_.heap[(w.heap.size + 1)]? = some (.cells #[.int .i64 la, .slice A3 na c3] 27 (0, 0))) := (Sq.block _ za).trans Ha.out
  replace pa0 : w5_.cell? ⟨(w.heap.size + 1), 0, none⟩ = some (.int .i64 la) := (cell_at Ha.out _).trans rfl
  replace pa1 : w5_.cell? ⟨(w.heap.size + 1), 1, none⟩ = some (.slice A3 na c3) := (cell_at Ha.out _).trans rfl
  replace za : (w.heap.size + 1) < w5_.heap.size := Nat.lt_of_lt_of_le za Sq.size
  replace Hb : Hid (w5_.heap[(w.heap.size + 1 + 1)]? = some (.cells #[.int .i64 lb, .slice A4 nb c4] 27 (0, 0))) := (Sq.block _ zb).trans Hb.out
  replace pb0 : w5_.cell? ⟨(w.heap.size + 1 + 1), 0, none⟩ = some (.int .i64 lb) := (cell_at Hb.out _).trans rfl
  replace pb1 : w5_.cell? ⟨(w.heap.size + 1 + 1), 1, none⟩ = some (.slice A4 nb c4) := (cell_at Hb.out _).trans rfl
  replace zb : (w.heap.size + 1 + 1) < w5_.heap.size := Nat.lt_of_lt_of_le zb Sq.size
  replace Hx : Hid (w5_.heap[w1_.heap.size]? = some (.cells #[.int .i64 lW, .slice A5 nW c5] 27 (0, 0))) := (Sq.block _ zx).trans Hx.out
  replace px0 : w5_.cell? ⟨w1_.heap.size, 0, none⟩ = some (.int .i64 lW) := (cell_at Hx.out _).trans rfl
  replace px1 : w5_.cell? ⟨w1_.heap.size, 1, none⟩ = some (.slice A5 nW c5) := (cell_at Hx.out _).trans rfl
  replace zx : w1_.heap.size < w5_.heap.size := Nat.lt_of_lt_of_le zx Sq.size
  replace HR5 : Hid (Rd w5_ w5_.heap.size A5 bW) := HR5.out.on Sq
  replace HR6 : Hid (Rd w5_ w5_.heap.size A6 b1) := HR6.out.on Sq
  replace HB : Hid (Below w.heap.size w w5_) := HB.out.trans (Sq.mono HB.out.size)
  clear Bq Sq
  have HR7 := Lib.hid Rq; clear Rq
  go_wp2
  go_ret
  exact ⟨rfl, HB.out.trans ((one_below _ _).mono HB.out.size)⟩
set_option maxHeartbeats 4000000 in
theorem sback_3 (a : Int) (A1 A2 A3 A4 : Option Addr) (c1 c2 c3 c4 n m na nb : Nat) (b s k la lb : Int) (w : World) (lW l1 l2 : Int) (nW n1 n2 : Nat) (bW b1 b2 : List Nat) (cs : List Value) (q0 : 0 ≤ la) (q1 : la ≤ 8192) (q2 : 0 ≤ lW) (q3 : lW ≤ 8192) (HX : Hid (∀ V, Below w.heap.size w V → Calls Tryz.prog 15 #[.int .i64 a, .slice A1 n c1, .slice A2 m c2, .agg #[.int .i64 b, .int .i64 s, .int .i64 k]] V (Gv V lW nW bW 0))) (HJ1 : Hid (∀ A c V, Below w.heap.size w V → Rd V V.heap.size A bW → Calls Tryz.prog 25 #[.agg #[.int .i64 la, .slice A3 na c3], .agg #[.int .i64 lW, .slice A nW c]] V (Gv V l1 n1 b1 0))) (HJ2 : Hid (∀ A c V, Below w.heap.size w V → Rd V V.heap.size A b1 → Calls Tryz.prog 25 #[.agg #[.int .i64 l1, .slice A n1 c], .agg #[.int .i64 lb, .slice A4 nb c4]] V (Gv V l2 n2 b2 0)))
    (HRd : Hid (∀ A c V, Below w.heap.size w V → Rd V V.heap.size A b2 → Calls Tryz.prog 16 #[.agg #[.int .i64 l2, .slice A n2 c], .int .i64 la, .int .i64 a, .slice A2 m c2, .agg #[.int .i64 b, .int .i64 s, .int .i64 k]] V fun e w' => ∃ A8 c8, e = .returned (.tuple #[.slice A8 n c8, .int .i64 (la + lW), .int .i64 0]) ∧ RdV w' w'.heap.size A8 cs ∧ Below V.heap.size V w'))
    (HS : Hid (∀ A c V, Below w.heap.size w V → RdV V V.heap.size A cs → Calls Tryz.prog 23 #[.slice A n c, .slice A1 n c1] V fun e w' => e = .returned (.bool true) ∧ Below V.heap.size V w')) :
    Calls Tryz.prog 4 #[.int .i64 a, .slice A1 n c1, .slice A2 m c2, .agg #[.int .i64 b, .int .i64 s, .int .i64 k], .agg #[.int .i64 la, .slice A3 na c3], .agg #[.int .i64 lb, .slice A4 nb c4]] w fun e w' => e = .returned (.bool true) ∧ Below w.heap.size w w' := by
  have t0 : (la + lW == la + lW) = true := by simp
  go_enter Tryz.func4, Tryz.ntmps4
  go_wp2_with fail
  refine (HX.out _ (low3 w _ _ _)).mono ?_
  rintro e w1_ ⟨A5, c5, rfl, Rq, Bq⟩
  obtain ⟨Sq, Zq, X1_0, X1_1, X1_2⟩ := al3 Bq
  have Hh : Hid (w1_.heap[w.heap.size]? = some (.cells #[.int .i64 b, .int .i64 s, .int .i64 k] 24 (0, 0))) := X1_0
  have zh : w.heap.size < w1_.heap.size := by omega
  have ph0 : w1_.cell? ⟨w.heap.size, 0, none⟩ = some (.int .i64 b) := (cell_at Hh.out _).trans rfl
  have ph1 : w1_.cell? ⟨w.heap.size, 1, none⟩ = some (.int .i64 s) := (cell_at Hh.out _).trans rfl
  have ph2 : w1_.cell? ⟨w.heap.size, 2, none⟩ = some (.int .i64 k) := (cell_at Hh.out _).trans rfl
  have Ha : Hid (w1_.heap[(w.heap.size + 1)]? = some (.cells #[.int .i64 la, .slice A3 na c3] 27 (0, 0))) := X1_1
  have za : (w.heap.size + 1) < w1_.heap.size := by omega
  have pa0 : w1_.cell? ⟨(w.heap.size + 1), 0, none⟩ = some (.int .i64 la) := (cell_at Ha.out _).trans rfl
  have pa1 : w1_.cell? ⟨(w.heap.size + 1), 1, none⟩ = some (.slice A3 na c3) := (cell_at Ha.out _).trans rfl
  have Hb : Hid (w1_.heap[(w.heap.size + 1 + 1)]? = some (.cells #[.int .i64 lb, .slice A4 nb c4] 27 (0, 0))) := X1_2
  have zb : (w.heap.size + 1 + 1) < w1_.heap.size := by omega
  have pb0 : w1_.cell? ⟨(w.heap.size + 1 + 1), 0, none⟩ = some (.int .i64 lb) := (cell_at Hb.out _).trans rfl
  have pb1 : w1_.cell? ⟨(w.heap.size + 1 + 1), 1, none⟩ = some (.slice A4 nb c4) := (cell_at Hb.out _).trans rfl
  clear Zq X1_0 X1_1 X1_2
  have HB : Hid (Below w.heap.size w w1_) := Sq
  clear Bq Sq
  have HR5 := Lib.hid Rq; clear Rq
  go_wp2_with fail
  refine (succbegun_true _).mono ?_
  rintro e w2_ ⟨rfl, Bq⟩
  obtain ⟨Sq, Zq, X2_0⟩ := al1 Bq
  have Hx : Hid (w2_.heap[w1_.heap.size]? = some (.cells #[.int .i64 lW, .slice A5 nW c5] 27 (0, 0))) := X2_0
  have zx : w1_.heap.size < w2_.heap.size := by omega
  have px0 : w2_.cell? ⟨w1_.heap.size, 0, none⟩ = some (.int .i64 lW) := (cell_at Hx.out _).trans rfl
  have px1 : w2_.cell? ⟨w1_.heap.size, 1, none⟩ = some (.slice A5 nW c5) := (cell_at Hx.out _).trans rfl
  clear Zq X2_0
  replace Hh : Hid (w2_.heap[w.heap.size]? = some (.cells #[.int .i64 b, .int .i64 s, .int .i64 k] 24 (0, 0))) := (Sq.block _ zh).trans Hh.out
  replace ph0 : w2_.cell? ⟨w.heap.size, 0, none⟩ = some (.int .i64 b) := (cell_at Hh.out _).trans rfl
  replace ph1 : w2_.cell? ⟨w.heap.size, 1, none⟩ = some (.int .i64 s) := (cell_at Hh.out _).trans rfl
  replace ph2 : w2_.cell? ⟨w.heap.size, 2, none⟩ = some (.int .i64 k) := (cell_at Hh.out _).trans rfl
  replace zh : w.heap.size < w2_.heap.size := Nat.lt_of_lt_of_le zh Sq.size
  replace Ha : Hid (w2_.heap[(w.heap.size + 1)]? = some (.cells #[.int .i64 la, .slice A3 na c3] 27 (0, 0))) := (Sq.block _ za).trans Ha.out
  replace pa0 : w2_.cell? ⟨(w.heap.size + 1), 0, none⟩ = some (.int .i64 la) := (cell_at Ha.out _).trans rfl
  replace pa1 : w2_.cell? ⟨(w.heap.size + 1), 1, none⟩ = some (.slice A3 na c3) := (cell_at Ha.out _).trans rfl
  replace za : (w.heap.size + 1) < w2_.heap.size := Nat.lt_of_lt_of_le za Sq.size
  replace Hb : Hid (w2_.heap[(w.heap.size + 1 + 1)]? = some (.cells #[.int .i64 lb, .slice A4 nb c4] 27 (0, 0))) := (Sq.block _ zb).trans Hb.out
  replace pb0 : w2_.cell? ⟨(w.heap.size + 1 + 1), 0, none⟩ = some (.int .i64 lb) := (cell_at Hb.out _).trans rfl
  replace pb1 : w2_.cell? ⟨(w.heap.size + 1 + 1), 1, none⟩ = some (.slice A4 nb c4) := (cell_at Hb.out _).trans rfl
  replace zb : (w.heap.size + 1 + 1) < w2_.heap.size := Nat.lt_of_lt_of_le zb Sq.size
  replace HR5 : Hid (Rd w2_ w2_.heap.size A5 bW) := HR5.out.on Sq
  replace HB : Hid (Below w.heap.size w w2_) := HB.out.trans (Sq.mono HB.out.size)
  clear Bq Sq
  go_wp2_with fail
  refine (begun_true _).mono ?_
  rintro e w3_ ⟨rfl, Bq⟩
  have Sq : Below w2_.heap.size w2_ w3_ := Bq
  replace Hh : Hid (w3_.heap[w.heap.size]? = some (.cells #[.int .i64 b, .int .i64 s, .int .i64 k] 24 (0, 0))) := (Sq.block _ zh).trans Hh.out
  replace ph0 : w3_.cell? ⟨w.heap.size, 0, none⟩ = some (.int .i64 b) := (cell_at Hh.out _).trans rfl
  replace ph1 : w3_.cell? ⟨w.heap.size, 1, none⟩ = some (.int .i64 s) := (cell_at Hh.out _).trans rfl
  replace ph2 : w3_.cell? ⟨w.heap.size, 2, none⟩ = some (.int .i64 k) := (cell_at Hh.out _).trans rfl
  replace zh : w.heap.size < w3_.heap.size := Nat.lt_of_lt_of_le zh Sq.size
  replace Ha : Hid (w3_.heap[(w.heap.size + 1)]? = some (.cells #[.int .i64 la, .slice A3 na c3] 27 (0, 0))) := (Sq.block _ za).trans Ha.out
  replace pa0 : w3_.cell? ⟨(w.heap.size + 1), 0, none⟩ = some (.int .i64 la) := (cell_at Ha.out _).trans rfl
  replace pa1 : w3_.cell? ⟨(w.heap.size + 1), 1, none⟩ = some (.slice A3 na c3) := (cell_at Ha.out _).trans rfl
  replace za : (w.heap.size + 1) < w3_.heap.size := Nat.lt_of_lt_of_le za Sq.size
  replace Hb : Hid (w3_.heap[(w.heap.size + 1 + 1)]? = some (.cells #[.int .i64 lb, .slice A4 nb c4] 27 (0, 0))) := (Sq.block _ zb).trans Hb.out
  replace pb0 : w3_.cell? ⟨(w.heap.size + 1 + 1), 0, none⟩ = some (.int .i64 lb) := (cell_at Hb.out _).trans rfl
  replace pb1 : w3_.cell? ⟨(w.heap.size + 1 + 1), 1, none⟩ = some (.slice A4 nb c4) := (cell_at Hb.out _).trans rfl
  replace zb : (w.heap.size + 1 + 1) < w3_.heap.size := Nat.lt_of_lt_of_le zb Sq.size
  replace Hx : Hid (w3_.heap[w1_.heap.size]? = some (.cells #[.int .i64 lW, .slice A5 nW c5] 27 (0, 0))) := (Sq.block _ zx).trans Hx.out
  replace px0 : w3_.cell? ⟨w1_.heap.size, 0, none⟩ = some (.int .i64 lW) := (cell_at Hx.out _).trans rfl
  replace px1 : w3_.cell? ⟨w1_.heap.size, 1, none⟩ = some (.slice A5 nW c5) := (cell_at Hx.out _).trans rfl
  replace zx : w1_.heap.size < w3_.heap.size := Nat.lt_of_lt_of_le zx Sq.size
  replace HR5 : Hid (Rd w3_ w3_.heap.size A5 bW) := HR5.out.on Sq
  replace HB : Hid (Below w.heap.size w w3_) := HB.out.trans (Sq.mono HB.out.size)
  clear Bq Sq
  go_wp2_with fail
  refine (HJ1.out A5 c5 _ HB.out HR5.out).mono ?_
  rintro e w4_ ⟨A6, c6, rfl, Rq, Bq⟩
  have Sq : Below w3_.heap.size w3_ w4_ := Bq
  replace Hh : Hid (w4_.heap[w.heap.size]? = some (.cells #[.int .i64 b, .int .i64 s, .int .i64 k] 24 (0, 0))) := (Sq.block _ zh).trans Hh.out
  replace ph0 : w4_.cell? ⟨w.heap.size, 0, none⟩ = some (.int .i64 b) := (cell_at Hh.out _).trans rfl
  replace ph1 : w4_.cell? ⟨w.heap.size, 1, none⟩ = some (.int .i64 s) := (cell_at Hh.out _).trans rfl
  replace ph2 : w4_.cell? ⟨w.heap.size, 2, none⟩ = some (.int .i64 k) := (cell_at Hh.out _).trans rfl
  replace zh : w.heap.size < w4_.heap.size := Nat.lt_of_lt_of_le zh Sq.size
  replace Ha : Hid (w4_.heap[(w.heap.size + 1)]? = some (.cells #[.int .i64 la, .slice A3 na c3] 27 (0, 0))) := (Sq.block _ za).trans Ha.out
  replace pa0 : w4_.cell? ⟨(w.heap.size + 1), 0, none⟩ = some (.int .i64 la) := (cell_at Ha.out _).trans rfl
  replace pa1 : w4_.cell? ⟨(w.heap.size + 1), 1, none⟩ = some (.slice A3 na c3) := (cell_at Ha.out _).trans rfl
  replace za : (w.heap.size + 1) < w4_.heap.size := Nat.lt_of_lt_of_le za Sq.size
  replace Hb : Hid (w4_.heap[(w.heap.size + 1 + 1)]? = some (.cells #[.int .i64 lb, .slice A4 nb c4] 27 (0, 0))) := (Sq.block _ zb).trans Hb.out
  replace pb0 : w4_.cell? ⟨(w.heap.size + 1 + 1), 0, none⟩ = some (.int .i64 lb) := (cell_at Hb.out _).trans rfl
  replace pb1 : w4_.cell? ⟨(w.heap.size + 1 + 1), 1, none⟩ = some (.slice A4 nb c4) := (cell_at Hb.out _).trans rfl
  replace zb : (w.heap.size + 1 + 1) < w4_.heap.size := Nat.lt_of_lt_of_le zb Sq.size
  replace Hx : Hid (w4_.heap[w1_.heap.size]? = some (.cells #[.int .i64 lW, .slice A5 nW c5] 27 (0, 0))) := (Sq.block _ zx).trans Hx.out
  replace px0 : w4_.cell? ⟨w1_.heap.size, 0, none⟩ = some (.int .i64 lW) := (cell_at Hx.out _).trans rfl
  replace px1 : w4_.cell? ⟨w1_.heap.size, 1, none⟩ = some (.slice A5 nW c5) := (cell_at Hx.out _).trans rfl
  replace zx : w1_.heap.size < w4_.heap.size := Nat.lt_of_lt_of_le zx Sq.size
  replace HR5 : Hid (Rd w4_ w4_.heap.size A5 bW) := HR5.out.on Sq
  replace HB : Hid (Below w.heap.size w w4_) := HB.out.trans (Sq.mono HB.out.size)
  clear Bq Sq
  have HR6 := Lib.hid Rq; clear Rq
  go_wp2_with fail
  refine (HJ2.out A6 c6 _ (HB.out.trans ((one_below w4_ _).mono HB.out.size)) (HR6.out.on (one_below w4_ _))).mono ?_
  rintro e w5_ ⟨A7, c7, rfl, Rq, Bq⟩
  obtain ⟨Sq, Zq, X5_0⟩ := al1 Bq
  have Hy : Hid (w5_.heap[w4_.heap.size]? = some (.cells #[.int .i64 l1, .slice A6 n1 c6] 27 (0, 0))) := X5_0
  have zy : w4_.heap.size < w5_.heap.size := by omega
  have py0 : w5_.cell? ⟨w4_.heap.size, 0, none⟩ = some (.int .i64 l1) := (cell_at Hy.out _).trans rfl
  have py1 : w5_.cell? ⟨w4_.heap.size, 1, none⟩ = some (.slice A6 n1 c6) := (cell_at Hy.out _).trans rfl
  clear Zq X5_0
  replace Hh : Hid (w5_.heap[w.heap.size]? = some (.cells #[.int .i64 b, .int .i64 s, .int .i64 k] 24 (0, 0))) := (Sq.block _ zh).trans Hh.out
  replace ph0 : w5_.cell? ⟨w.heap.size, 0, none⟩ = some (.int .i64 b) := (cell_at Hh.out _).trans rfl
  replace ph1 : w5_.cell? ⟨w.heap.size, 1, none⟩ = some (.int .i64 s) := (cell_at Hh.out _).trans rfl
  replace ph2 : w5_.cell? ⟨w.heap.size, 2, none⟩ = some (.int .i64 k) := (cell_at Hh.out _).trans rfl
  replace zh : w.heap.size < w5_.heap.size := Nat.lt_of_lt_of_le zh Sq.size
  replace Ha : Hid (w5_.heap[(w.heap.size + 1)]? = some (.cells #[.int .i64 la, .slice A3 na c3] 27 (0, 0))) := (Sq.block _ za).trans Ha.out
  replace pa0 : w5_.cell? ⟨(w.heap.size + 1), 0, none⟩ = some (.int .i64 la) := (cell_at Ha.out _).trans rfl
  replace pa1 : w5_.cell? ⟨(w.heap.size + 1), 1, none⟩ = some (.slice A3 na c3) := (cell_at Ha.out _).trans rfl
  replace za : (w.heap.size + 1) < w5_.heap.size := Nat.lt_of_lt_of_le za Sq.size
  replace Hb : Hid (w5_.heap[(w.heap.size + 1 + 1)]? = some (.cells #[.int .i64 lb, .slice A4 nb c4] 27 (0, 0))) := (Sq.block _ zb).trans Hb.out
  replace pb0 : w5_.cell? ⟨(w.heap.size + 1 + 1), 0, none⟩ = some (.int .i64 lb) := (cell_at Hb.out _).trans rfl
  replace pb1 : w5_.cell? ⟨(w.heap.size + 1 + 1), 1, none⟩ = some (.slice A4 nb c4) := (cell_at Hb.out _).trans rfl
  replace zb : (w.heap.size + 1 + 1) < w5_.heap.size := Nat.lt_of_lt_of_le zb Sq.size
  replace Hx : Hid (w5_.heap[w1_.heap.size]? = some (.cells #[.int .i64 lW, .slice A5 nW c5] 27 (0, 0))) := (Sq.block _ zx).trans Hx.out
  replace px0 : w5_.cell? ⟨w1_.heap.size, 0, none⟩ = some (.int .i64 lW) := (cell_at Hx.out _).trans rfl
  replace px1 : w5_.cell? ⟨w1_.heap.size, 1, none⟩ = some (.slice A5 nW c5) := (cell_at Hx.out _).trans rfl
  replace zx : w1_.heap.size < w5_.heap.size := Nat.lt_of_lt_of_le zx Sq.size
  replace HR5 : Hid (Rd w5_ w5_.heap.size A5 bW) := HR5.out.on Sq
  replace HR6 : Hid (Rd w5_ w5_.heap.size A6 b1) := HR6.out.on Sq
  replace HB : Hid (Below w.heap.size w w5_) := HB.out.trans (Sq.mono HB.out.size)
  clear Bq Sq
  have HR7 := Lib.hid Rq; clear Rq
  go_wp2_with fail
  refine (HRd.out A7 c7 _ (HB.out.trans ((one_below w5_ _).mono HB.out.size)) (HR7.out.on (one_below w5_ _))).mono ?_
  rintro e w6_ ⟨A8, c8, rfl, Rq, Bq⟩
  obtain ⟨Sq, Zq, X6_0⟩ := al1 Bq
  have Hz : Hid (w6_.heap[w5_.heap.size]? = some (.cells #[.int .i64 l2, .slice A7 n2 c7] 27 (0, 0))) := X6_0
  have zz : w5_.heap.size < w6_.heap.size := by omega
  have pz0 : w6_.cell? ⟨w5_.heap.size, 0, none⟩ = some (.int .i64 l2) := (cell_at Hz.out _).trans rfl
  have pz1 : w6_.cell? ⟨w5_.heap.size, 1, none⟩ = some (.slice A7 n2 c7) := (cell_at Hz.out _).trans rfl
  clear Zq X6_0
  replace Hh : Hid (w6_.heap[w.heap.size]? = some (.cells #[.int .i64 b, .int .i64 s, .int .i64 k] 24 (0, 0))) := (Sq.block _ zh).trans Hh.out
  replace ph0 : w6_.cell? ⟨w.heap.size, 0, none⟩ = some (.int .i64 b) := (cell_at Hh.out _).trans rfl
  replace ph1 : w6_.cell? ⟨w.heap.size, 1, none⟩ = some (.int .i64 s) := (cell_at Hh.out _).trans rfl
  replace ph2 : w6_.cell? ⟨w.heap.size, 2, none⟩ = some (.int .i64 k) := (cell_at Hh.out _).trans rfl
  replace zh : w.heap.size < w6_.heap.size := Nat.lt_of_lt_of_le zh Sq.size
  replace Ha : Hid (w6_.heap[(w.heap.size + 1)]? = some (.cells #[.int .i64 la, .slice A3 na c3] 27 (0, 0))) := (Sq.block _ za).trans Ha.out
  replace pa0 : w6_.cell? ⟨(w.heap.size + 1), 0, none⟩ = some (.int .i64 la) := (cell_at Ha.out _).trans rfl
  replace pa1 : w6_.cell? ⟨(w.heap.size + 1), 1, none⟩ = some (.slice A3 na c3) := (cell_at Ha.out _).trans rfl
  replace za : (w.heap.size + 1) < w6_.heap.size := Nat.lt_of_lt_of_le za Sq.size
  replace Hb : Hid (w6_.heap[(w.heap.size + 1 + 1)]? = some (.cells #[.int .i64 lb, .slice A4 nb c4] 27 (0, 0))) := (Sq.block _ zb).trans Hb.out
  replace pb0 : w6_.cell? ⟨(w.heap.size + 1 + 1), 0, none⟩ = some (.int .i64 lb) := (cell_at Hb.out _).trans rfl
  replace pb1 : w6_.cell? ⟨(w.heap.size + 1 + 1), 1, none⟩ = some (.slice A4 nb c4) := (cell_at Hb.out _).trans rfl
  replace zb : (w.heap.size + 1 + 1) < w6_.heap.size := Nat.lt_of_lt_of_le zb Sq.size
  replace Hx : Hid (w6_.heap[w1_.heap.size]? = some (.cells #[.int .i64 lW, .slice A5 nW c5] 27 (0, 0))) := (Sq.block _ zx).trans Hx.out
  replace px0 : w6_.cell? ⟨w1_.heap.size, 0, none⟩ = some (.int .i64 lW) := (cell_at Hx.out _).trans rfl
  replace px1 : w6_.cell? ⟨w1_.heap.size, 1, none⟩ = some (.slice A5 nW c5) := (cell_at Hx.out _).trans rfl
  replace zx : w1_.heap.size < w6_.heap.size := Nat.lt_of_lt_of_le zx Sq.size
  replace Hy : Hid (w6_.heap[w4_.heap.size]? = some (.cells #[.int .i64 l1, .slice A6 n1 c6] 27 (0, 0))) := (Sq.block _ zy).trans Hy.out
  replace py0 : w6_.cell? ⟨w4_.heap.size, 0, none⟩ = some (.int .i64 l1) := (cell_at Hy.out _).trans rfl
  replace py1 : w6_.cell? ⟨w4_.heap.size, 1, none⟩ = some (.slice A6 n1 c6) := (cell_at Hy.out _).trans rfl
  replace zy : w4_.heap.size < w6_.heap.size := Nat.lt_of_lt_of_le zy Sq.size
  replace HR5 : Hid (Rd w6_ w6_.heap.size A5 bW) := HR5.out.on Sq
  replace HR6 : Hid (Rd w6_ w6_.heap.size A6 b1) := HR6.out.on Sq
  replace HR7 : Hid (Rd w6_ w6_.heap.size A7 b2) := HR7.out.on Sq
  replace HB : Hid (Below w.heap.size w w6_) := HB.out.trans (Sq.mono HB.out.size)
  clear Bq Sq
  have HR8 := Lib.hid Rq; clear Rq
  go_wp2_with fail
  refine (HS.out A8 c8 _ HB.out HR8.out).mono ?_
  rintro e w7_ ⟨rfl, Bq⟩
  have Sq : Below w6_.heap.size w6_ w7_ := Bq
  replace Hh : Hid (w7_.heap[w.heap.size]? = some (.cells #[.int .i64 b, .int .i64 s, .int .i64 k] 24 (0, 0))) := (Sq.block _ zh).trans Hh.out
  replace ph0 : w7_.cell? ⟨w.heap.size, 0, none⟩ = some (.int .i64 b) := (cell_at Hh.out _).trans rfl
  replace ph1 : w7_.cell? ⟨w.heap.size, 1, none⟩ = some (.int .i64 s) := (cell_at Hh.out _).trans rfl
  replace ph2 : w7_.cell? ⟨w.heap.size, 2, none⟩ = some (.int .i64 k) := (cell_at Hh.out _).trans rfl
  replace zh : w.heap.size < w7_.heap.size := Nat.lt_of_lt_of_le zh Sq.size
  replace Ha : Hid (w7_.heap[(w.heap.size + 1)]? = some (.cells #[.int .i64 la, .slice A3 na c3] 27 (0, 0))) := (Sq.block _ za).trans Ha.out
  replace pa0 : w7_.cell? ⟨(w.heap.size + 1), 0, none⟩ = some (.int .i64 la) := (cell_at Ha.out _).trans rfl
  replace pa1 : w7_.cell? ⟨(w.heap.size + 1), 1, none⟩ = some (.slice A3 na c3) := (cell_at Ha.out _).trans rfl
  replace za : (w.heap.size + 1) < w7_.heap.size := Nat.lt_of_lt_of_le za Sq.size
  replace Hb : Hid (w7_.heap[(w.heap.size + 1 + 1)]? = some (.cells #[.int .i64 lb, .slice A4 nb c4] 27 (0, 0))) := (Sq.block _ zb).trans Hb.out
  replace pb0 : w7_.cell? ⟨(w.heap.size + 1 + 1), 0, none⟩ = some (.int .i64 lb) := (cell_at Hb.out _).trans rfl
  replace pb1 : w7_.cell? ⟨(w.heap.size + 1 + 1), 1, none⟩ = some (.slice A4 nb c4) := (cell_at Hb.out _).trans rfl
  replace zb : (w.heap.size + 1 + 1) < w7_.heap.size := Nat.lt_of_lt_of_le zb Sq.size
  replace Hx : Hid (w7_.heap[w1_.heap.size]? = some (.cells #[.int .i64 lW, .slice A5 nW c5] 27 (0, 0))) := (Sq.block _ zx).trans Hx.out
  replace px0 : w7_.cell? ⟨w1_.heap.size, 0, none⟩ = some (.int .i64 lW) := (cell_at Hx.out _).trans rfl
  replace px1 : w7_.cell? ⟨w1_.heap.size, 1, none⟩ = some (.slice A5 nW c5) := (cell_at Hx.out _).trans rfl
  replace zx : w1_.heap.size < w7_.heap.size := Nat.lt_of_lt_of_le zx Sq.size
  replace Hy : Hid (w7_.heap[w4_.heap.size]? = some (.cells #[.int .i64 l1, .slice A6 n1 c6] 27 (0, 0))) := (Sq.block _ zy).trans Hy.out
  replace py0 : w7_.cell? ⟨w4_.heap.size, 0, none⟩ = some (.int .i64 l1) := (cell_at Hy.out _).trans rfl
  replace py1 : w7_.cell? ⟨w4_.heap.size, 1, none⟩ = some (.slice A6 n1 c6) := (cell_at Hy.out _).trans rfl
  replace zy : w4_.heap.size < w7_.heap.size := Nat.lt_of_lt_of_le zy Sq.size
  replace Hz : Hid (w7_.heap[w5_.heap.size]? = some (.cells #[.int .i64 l2, .slice A7 n2 c7] 27 (0, 0))) := (Sq.block _ zz).trans Hz.out
  replace pz0 : w7_.cell? ⟨w5_.heap.size, 0, none⟩ = some (.int .i64 l2) := (cell_at Hz.out _).trans rfl
  replace pz1 : w7_.cell? ⟨w5_.heap.size, 1, none⟩ = some (.slice A7 n2 c7) := (cell_at Hz.out _).trans rfl
  replace zz : w5_.heap.size < w7_.heap.size := Nat.lt_of_lt_of_le zz Sq.size
  replace HR5 : Hid (Rd w7_ w7_.heap.size A5 bW) := HR5.out.on Sq
  replace HR6 : Hid (Rd w7_ w7_.heap.size A6 b1) := HR6.out.on Sq
  replace HR7 : Hid (Rd w7_ w7_.heap.size A7 b2) := HR7.out.on Sq
  replace HR8 : Hid (RdV w7_ w7_.heap.size A8 cs) := HR8.out.on Sq
  replace HB : Hid (Below w.heap.size w w7_) := HB.out.trans (Sq.mono HB.out.size)
  clear Bq Sq
  go_wp2
  go_ret
  exact ⟨rfl, HB.out⟩
set_option maxHeartbeats 1000000 in
theorem succBack_law (a : Int) (A1 : Option Addr) (c1 : Nat) (xs : List Int) (A2 : Option Addr) (c2 : Nat) (ys : List Int) (b s k : Int) (la : Int) (A3 : Option Addr) (c3 : Nat) (ba : List Nat) (lb : Int) (A4 : Option Addr) (c4 : Nat) (bb : List Nat) (w : World) (ha : -9223372036854775808 ≤ a ∧ a ≤ 9223372036854775807) (cp1 : xs.length ≤ c1) (nl1 : A1 = none → c1 = 0) (by1 : ∀ x ∈ xs, -9223372036854775808 ≤ x ∧ x ≤ 9223372036854775807) (rd1 : RdV w w.heap.size A1 (zc xs)) (sz1 : xs.length ≤ 9223372036854775807) (cp2 : ys.length ≤ c2) (nl2 : A2 = none → c2 = 0) (by2 : ∀ x ∈ ys, -9223372036854775808 ≤ x ∧ x ≤ 9223372036854775807) (rd2 : RdV w w.heap.size A2 (zc ys)) (sz2 : ys.length ≤ 9223372036854775807) (hb : -9223372036854775808 ≤ b ∧ b ≤ 9223372036854775807) (hs : -9223372036854775808 ≤ s ∧ s ≤ 9223372036854775807) (hk : -9223372036854775808 ≤ k ∧ k ≤ 9223372036854775807) (hba : ∀ b ∈ ba, b < 256) (hRa : Rd w w.heap.size A3 ba) (hbb : ∀ b ∈ bb, b < 256) (hRb : Rd w w.heap.size A4 bb) :
    Calls Tryz.prog 4 #[.int .i64 a, .slice A1 xs.length c1, .slice A2 ys.length c2, .agg #[.int .i64 b, .int .i64 s, .int .i64 k], .agg #[.int .i64 la, .slice A3 ba.length c3], .agg #[.int .i64 lb, .slice A4 bb.length c4]] w fun e w' => e = .returned (.bool true) ∧ Below w.heap.size w w' := by
  have HX0 : ∀ V, Below w.heap.size w V → Calls Tryz.prog 15 #[.int .i64 a, .slice A1 xs.length c1, .slice A2 ys.length c2, .agg #[.int .i64 b, .int .i64 s, .int .i64 k]] V (Gave V (swL a xs ys b s k) (swF a xs ys b s k)) := fun V hV => swrite_any a xs _ rfl sz1 ys _ rfl sz2 b s k A1 A2 c1 c2 cp1 V (rd1.on hV) (rd2.on hV)
  by_cases h0 : swF a xs ys b s k = 0
  · obtain ⟨a', l, b', s', k', rfl, ha', rfl, hl, rfl, rfl, rfl, hb', hs', hk', hF, hlen, hL⟩ := swF_some _ _ _ _ _ _ h0
    have hFr : b' ≠ 0 → Rising (tn ys) := fun h => by obtain ⟨F, rfl, hF2⟩ := hF h; rw [tn_ns]; exact hF2
    have hyr : b' ≠ 0 → rchk ys = 0 := fun h => by obtain ⟨F, rfl, hF2⟩ := hF h; exact rchk_ok F hF2
    rw [h0, hL] at HX0
    obtain ⟨LW, hLW⟩ : ∃ LW, sbits a' b' s' k' l (tn ys) = LW := ⟨_, rfl⟩
    rw [hLW] at HX0 hlen
    have J1 : ∀ A c V, Below w.heap.size w V → Rd V V.heap.size A (pack LW) → _ := fun A c V hV h => join_g la (LW.length : Int) A3 A c3 c ba (pack LW) V hba (pack_lt LW) (hRa.on hV) h
    by_cases he1 : joinE la ba (LW.length : Int) (pack LW) = 0
    · rw [he1] at J1
      obtain ⟨a1, b1', g1, g2, g3, g4, hlen1⟩ := joinE_zero _ _ _ _ hba (pack_lt LW) he1
      have ex : LW = b1' := by
        have h1 := congrArg (unpack LW.length) g4
        rw [unpack_pack, show LW.length = b1'.length by omega, unpack_pack] at h1
        exact h1
      subst ex; subst g1; subst g2
      have hJ := jL_ok a1 LW he1
      rw [hJ] at J1
      have J2 : ∀ A c V, Below w.heap.size w V → Rd V V.heap.size A (pack (a1 ++ LW)) → _ := fun A c V hV h => join_g ((a1 ++ LW).length : Int) lb A A4 c c4 (pack (a1 ++ LW)) bb V (pack_lt _) hbb h (hRb.on hV)
      by_cases he2 : joinE ((a1 ++ LW).length : Int) (pack (a1 ++ LW)) lb bb = 0
      · rw [he2] at J2
        obtain ⟨a2, b2', k1, k2, k3, k4, hlen2⟩ := joinE_zero _ _ _ _ (pack_lt (a1 ++ LW)) hbb he2
        have ex : a1 ++ LW = a2 := by
          have h1 := congrArg (unpack (a1 ++ LW).length) k2
          rw [unpack_pack, show (a1 ++ LW).length = a2.length by omega, unpack_pack] at h1
          exact h1
        subst ex; subst k3; subst k4
        have hJ2 := jL_ok (a1 ++ LW) b2' he2
        rw [hJ2] at J2
        have hrd := sread_bits a' b' s' k' ha' hk'.1 l (tn ys) hl hFr a1 b2'
        rw [hLW, ← List.append_assoc] at hrd
        have hRE := srE_in ((a1 ++ LW) ++ b2') (by rw [List.length_append]; exact hlen2) a1.length (by rw [List.length_append, List.length_append]; omega) a' ha' b' s' k' hb' hs' hk'.1 hk'.2 ys hyr
        refine sback_3 _ A1 A2 A3 A4 c1 c2 c3 c4 _ _ _ _ _ _ _ _ _ w _ _ _ _ _ _ _ _ _ (zc (ns l)) (by omega) (by omega) (by omega) (by omega) (Lib.hid HX0) (Lib.hid J1) (Lib.hid J2) (Lib.hid fun A c V hV hR => ?_) (Lib.hid fun A c V hV hR => sameI_x (ns l) _ rfl sz1 A A1 c c1 V hR (rd1.on hV))
        have h := sread_all ((((a1 ++ LW) ++ b2').length : Nat) : Int) A c (pack ((a1 ++ LW) ++ b2')) (pack_lt _) (a1.length : Int) (a' : Int) ys _ rfl sz2 A2 c2 nl2 cp2 (b' : Int) (s' : Int) (k' : Int) V hR (rd2.on hV)
        rw [srX_ok _ _ _ _ _ _ ys hRE, hrd] at h
        refine h.mono fun e w' ⟨A8, c8, h1, _, _, h4, h5⟩ => ⟨A8, c8, ?_, h4, h5⟩
        rw [h1, ns_length]
        simp
      · have hJ2 := jL_no _ _ _ _ he2
        rw [hJ2] at J2
        exact sback_2 _ A1 A2 A3 A4 c1 c2 c3 c4 _ _ _ _ _ _ _ _ _ w _ _ _ _ _ _ _ _ _ _ _ rfl he2 (Lib.hid HX0) (Lib.hid J1) (Lib.hid J2)
    · have J2 : ∀ A c V, Below w.heap.size w V → Rd V V.heap.size A (pack (jL la ba (LW.length : Int) (pack LW))) → _ := fun A c V hV h => join_g ((jL la ba (LW.length : Int) (pack LW)).length : Int) lb A A4 c c4 (pack (jL la ba (LW.length : Int) (pack LW))) bb V (pack_lt _) hbb h (hRb.on hV)
      exact sback_1 _ A1 A2 A3 A4 c1 c2 c3 c4 _ _ _ _ _ _ _ _ _ w _ _ _ _ _ _ _ _ _ _ _ he1 (Lib.hid HX0) (Lib.hid J1) (Lib.hid J2)
  · have hn := swL_no _ _ _ _ _ _ h0
    rw [hn] at HX0
    have J1 : ∀ A c V, Below w.heap.size w V → Rd V V.heap.size A (pack []) → _ := fun A c V hV h => join_g la 0 A3 A c3 c ba (pack []) V hba (pack_lt _) (hRa.on hV) h
    have J2 : ∀ A c V, Below w.heap.size w V → Rd V V.heap.size A (pack (jL la ba 0 (pack []))) → _ := fun A c V hV h => join_g ((jL la ba 0 (pack [])).length : Int) lb A A4 c c4 (pack (jL la ba 0 (pack []))) bb V (pack_lt _) hbb h (hRb.on hV)
    exact sback_w a A1 A2 A3 A4 c1 c2 c3 c4 _ _ _ _ b s k la lb w _ _ _ _ _ _ _ _ _ _ _ _ h0 rfl rfl rfl (Lib.hid HX0) (Lib.hid J1) (Lib.hid J2)
end Go.Proofs.YticdnodlapafoaaGreat
