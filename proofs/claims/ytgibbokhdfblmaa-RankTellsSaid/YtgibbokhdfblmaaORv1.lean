/- The law RankTells, its ways, part 1. -/
import Derived.Test.YtgibbokhdfblmaaORJ
import Derived.Test.YtgibbokhdfblmaaRefU
import Derived.Test.YtgibbokhdfblmaaOBeg
namespace Go.Proofs.Ytgibbokhdfblmaa
set_option maxRecDepth 100000
set_option linter.unusedVariables false
open Go.RowKit Go.Shelf

set_option maxHeartbeats 8000000 in
theorem rt_e_v_x (len : Int) (A : Option Addr) (N c : Nat) (ix : Int) (A2 : Option Addr) (nx c2 : Nat) (p bit i every : Int) (n s ny : Nat) (ew ev eu ey g : Int) (ys : List Int) (l : List Bool) (w : World)
    (HRk : Hid (∀ V, Below w.heap.size w V → Calls Try.prog 28 #[.agg #[.int .i64 len, .slice A N c], .int .i64 p] V (RkP V 0 ew)))
    (HSl : Hid (∀ V, Below w.heap.size w V → Calls Try.prog 29 #[.agg #[.int .i64 len, .slice A N c], .int .i64 bit, .int .i64 i] V (RkP V 0 ev)))
    (HBd : Hid (∀ V, Below w.heap.size w V → Calls Try.prog 30 #[.agg #[.int .i64 len, .slice A N c], .int .i64 every] V fun x w' => ∃ A c, x = .returned (.tuple #[.agg #[.int .i64 ey, .slice A ny c], .int .i64 g]) ∧ RdV w' w'.heap.size A (zc ys) ∧ Below V.heap.size V w'))
    (HBy : Hid (∀ V, Below w.heap.size w V → Calls Try.prog 31 #[.agg #[.int .i64 len, .slice A N c], .agg #[.int .i64 ix, .slice A2 nx c2], .int .i64 p] V (RkP V 0 eu)))
    (HRe : Hid (∀ V, Below w.heap.size w V → Calls Try.prog 20 #[.agg #[.int .i64 len, .slice A N c], .int .i64 p] V fun e w' => e = .returned (.int .i64 ew) ∧ Below V.heap.size V w'))
    (HCk : Hid (∀ V, Below w.heap.size w V → Calls Try.prog 32 #[.agg #[.int .i64 len, .slice A N c]] V fun e w' => e = .returned (.int .i64 ev) ∧ Below V.heap.size V w'))
    (HRc : Hid (∀ V, Below w.heap.size w V → Calls Try.prog 33 #[.agg #[.int .i64 len, .slice A N c], .agg #[.int .i64 ix, .slice A2 nx c2]] V fun e w' => e = .returned (.int .i64 eu) ∧ Below V.heap.size V w'))
    (HRb : Hid (∀ V, Below w.heap.size w V → Calls Try.prog 36 #[.agg #[.int .i64 len, .slice A N c], .int .i64 every] V fun x w' => ∃ A c, x = .returned (.tuple #[.agg #[.int .i64 ey, .slice A ny c], .int .i64 g]) ∧ RdV w' w'.heap.size A (zc ys) ∧ Below V.heap.size V w'))
    (HPc : Hid (∀ V, Below w.heap.size w V → Calls Try.prog 39 #[.agg #[.int .i64 len, .slice A N c], .agg #[.int .i64 ix, .slice A2 nx c2]] V fun e w' => e = .returned (.int .i64 eu) ∧ Below V.heap.size V w'))
    (HSm : Hid (∀ A B c d V, RdV V V.heap.size A (zc ys) → RdV V V.heap.size B (zc ys) → Calls Try.prog 38 #[.slice A ny c, .slice B ny d] V fun e w' => e = .returned (.bool true) ∧ Below V.heap.size V w'))
    (tw : (ew == 0) = false) (tv : (ev == 0) = false) (tu : (eu == 0) = false) :
    Calls Try.prog 4 #[.agg #[.int .i64 len, .slice A N c], .int .i64 p, .int .i64 bit, .int .i64 i, .int .i64 every, .agg #[.int .i64 ix, .slice A2 nx c2]] w fun e w' => e = .returned (.bool true) ∧ Below w.heap.size w w' := by
  have HB : Hid (Below w.heap.size w w) := Below.refl _ w
  go_enter Try.func4, Try.ntmps4
  have HBq : Hid (Below w.heap.size w (w.alloc (.cells #[.int .i64 len, .slice A N c] 25))) := one_below _ _
  replace HB : Hid (Below w.heap.size w (w.alloc (.cells #[.int .i64 len, .slice A N c] 25))) := HB.out.trans (HBq.out.mono HB.out.size)
  clear HBq
  have KB0 : Hid (((w.alloc (.cells #[.int .i64 len, .slice A N c] 25))).cell? ⟨w.heap.size, 0, none⟩ = some (.int .i64 len)) := (cell_at (World.alloc_heap_new w _) 0).trans rfl
  have KB1 : Hid (((w.alloc (.cells #[.int .i64 len, .slice A N c] 25))).cell? ⟨w.heap.size, 1, none⟩ = some (.slice A N c)) := (cell_at (World.alloc_heap_new w _) 1).trans rfl
  have HBq : Hid (Below (w.alloc (.cells #[.int .i64 len, .slice A N c] 25)).heap.size (w.alloc (.cells #[.int .i64 len, .slice A N c] 25)) ((w.alloc (.cells #[.int .i64 len, .slice A N c] 25)).alloc (.cells #[.int .i64 ix, .slice A2 nx c2] 45))) := one_below _ _
  replace HB : Hid (Below w.heap.size w ((w.alloc (.cells #[.int .i64 len, .slice A N c] 25)).alloc (.cells #[.int .i64 ix, .slice A2 nx c2] 45))) := HB.out.trans (HBq.out.mono HB.out.size)
  replace KB0 : Hid ((((w.alloc (.cells #[.int .i64 len, .slice A N c] 25)).alloc (.cells #[.int .i64 ix, .slice A2 nx c2] 45))).cell? ⟨w.heap.size, 0, none⟩ = some (.int .i64 len)) := (HBq.out.cell (World.block_lt_of_cell? _ _ KB0.out)).trans KB0.out
  replace KB1 : Hid ((((w.alloc (.cells #[.int .i64 len, .slice A N c] 25)).alloc (.cells #[.int .i64 ix, .slice A2 nx c2] 45))).cell? ⟨w.heap.size, 1, none⟩ = some (.slice A N c)) := (HBq.out.cell (World.block_lt_of_cell? _ _ KB1.out)).trans KB1.out
  clear HBq
  have KX0 : Hid ((((w.alloc (.cells #[.int .i64 len, .slice A N c] 25)).alloc (.cells #[.int .i64 ix, .slice A2 nx c2] 45))).cell? ⟨w.heap.size + 1, 0, none⟩ = some (.int .i64 ix)) := by { have h := cell_at (World.alloc_heap_new (w.alloc (.cells #[.int .i64 len, .slice A N c] 25)) (.cells #[.int .i64 ix, .slice A2 nx c2] 45)) 0; rw [World.size_alloc] at h; exact h }
  have KX1 : Hid ((((w.alloc (.cells #[.int .i64 len, .slice A N c] 25)).alloc (.cells #[.int .i64 ix, .slice A2 nx c2] 45))).cell? ⟨w.heap.size + 1, 1, none⟩ = some (.slice A2 nx c2)) := by { have h := cell_at (World.alloc_heap_new (w.alloc (.cells #[.int .i64 len, .slice A N c] 25)) (.cells #[.int .i64 ix, .slice A2 nx c2] 45)) 1; rw [World.size_alloc] at h; exact h }
  have HC := Lib.hid (HRk.out _ HB.out)
  have k_KB0 := KB0.out
  have k_KB1 := KB1.out
  have k_KX0 := KX0.out
  have k_KX1 := KX1.out
  go_wp2_with fail
  clear k_KB0
  clear k_KB1
  clear k_KX0
  clear k_KX1
  refine HC.out.mono ?_
  rintro e w1_ ⟨rfl, bq⟩
  clear HC
  have HBc := Lib.hid bq; clear bq
  have HBq : Hid (Below ((w.alloc (.cells #[.int .i64 len, .slice A N c] 25)).alloc (.cells #[.int .i64 ix, .slice A2 nx c2] 45)).heap.size ((w.alloc (.cells #[.int .i64 len, .slice A N c] 25)).alloc (.cells #[.int .i64 ix, .slice A2 nx c2] 45)) w1_) := HBc.out
  replace HB : Hid (Below w.heap.size w w1_) := HB.out.trans (HBq.out.mono HB.out.size)
  replace KB0 : Hid ((w1_).cell? ⟨w.heap.size, 0, none⟩ = some (.int .i64 len)) := (HBq.out.cell (World.block_lt_of_cell? _ _ KB0.out)).trans KB0.out
  replace KB1 : Hid ((w1_).cell? ⟨w.heap.size, 1, none⟩ = some (.slice A N c)) := (HBq.out.cell (World.block_lt_of_cell? _ _ KB1.out)).trans KB1.out
  replace KX0 : Hid ((w1_).cell? ⟨w.heap.size + 1, 0, none⟩ = some (.int .i64 ix)) := (HBq.out.cell (World.block_lt_of_cell? _ _ KX0.out)).trans KX0.out
  replace KX1 : Hid ((w1_).cell? ⟨w.heap.size + 1, 1, none⟩ = some (.slice A2 nx c2)) := (HBq.out.cell (World.block_lt_of_cell? _ _ KX1.out)).trans KX1.out
  clear HBq
  clear HBc
  have HC := Lib.hid (HSl.out _ HB.out)
  have k_KB0 := KB0.out
  have k_KB1 := KB1.out
  have k_KX0 := KX0.out
  have k_KX1 := KX1.out
  go_wp2_with fail
  clear k_KB0
  clear k_KB1
  clear k_KX0
  clear k_KX1
  refine HC.out.mono ?_
  rintro e w2_ ⟨rfl, bq⟩
  clear HC
  have HBc := Lib.hid bq; clear bq
  have HBq : Hid (Below w1_.heap.size w1_ w2_) := HBc.out
  replace HB : Hid (Below w.heap.size w w2_) := HB.out.trans (HBq.out.mono HB.out.size)
  replace KB0 : Hid ((w2_).cell? ⟨w.heap.size, 0, none⟩ = some (.int .i64 len)) := (HBq.out.cell (World.block_lt_of_cell? _ _ KB0.out)).trans KB0.out
  replace KB1 : Hid ((w2_).cell? ⟨w.heap.size, 1, none⟩ = some (.slice A N c)) := (HBq.out.cell (World.block_lt_of_cell? _ _ KB1.out)).trans KB1.out
  replace KX0 : Hid ((w2_).cell? ⟨w.heap.size + 1, 0, none⟩ = some (.int .i64 ix)) := (HBq.out.cell (World.block_lt_of_cell? _ _ KX0.out)).trans KX0.out
  replace KX1 : Hid ((w2_).cell? ⟨w.heap.size + 1, 1, none⟩ = some (.slice A2 nx c2)) := (HBq.out.cell (World.block_lt_of_cell? _ _ KX1.out)).trans KX1.out
  clear HBq
  clear HBc
  have HC := Lib.hid (HBd.out _ HB.out)
  have k_KB0 := KB0.out
  have k_KB1 := KB1.out
  have k_KX0 := KX0.out
  have k_KX1 := KX1.out
  go_wp2_with fail
  clear k_KB0
  clear k_KB1
  clear k_KX0
  clear k_KX1
  refine HC.out.mono ?_
  rintro e w3_ ⟨AY, cY, rfl, rq, bq⟩
  clear HC
  have HBc := Lib.hid bq; clear bq
  have HBq : Hid (Below w2_.heap.size w2_ w3_) := HBc.out
  replace HB : Hid (Below w.heap.size w w3_) := HB.out.trans (HBq.out.mono HB.out.size)
  replace KB0 : Hid ((w3_).cell? ⟨w.heap.size, 0, none⟩ = some (.int .i64 len)) := (HBq.out.cell (World.block_lt_of_cell? _ _ KB0.out)).trans KB0.out
  replace KB1 : Hid ((w3_).cell? ⟨w.heap.size, 1, none⟩ = some (.slice A N c)) := (HBq.out.cell (World.block_lt_of_cell? _ _ KB1.out)).trans KB1.out
  replace KX0 : Hid ((w3_).cell? ⟨w.heap.size + 1, 0, none⟩ = some (.int .i64 ix)) := (HBq.out.cell (World.block_lt_of_cell? _ _ KX0.out)).trans KX0.out
  replace KX1 : Hid ((w3_).cell? ⟨w.heap.size + 1, 1, none⟩ = some (.slice A2 nx c2)) := (HBq.out.cell (World.block_lt_of_cell? _ _ KX1.out)).trans KX1.out
  clear HBq
  clear HBc
  have HY : Hid (RdV w3_ (w3_).heap.size AY (zc ys)) := rq
  clear rq
  have HBq : Hid (Below w3_.heap.size w3_ (w3_.alloc (.cells #[.int .i64 ey, .slice AY ny cY] 45))) := one_below _ _
  replace HB : Hid (Below w.heap.size w (w3_.alloc (.cells #[.int .i64 ey, .slice AY ny cY] 45))) := HB.out.trans (HBq.out.mono HB.out.size)
  replace KB0 : Hid (((w3_.alloc (.cells #[.int .i64 ey, .slice AY ny cY] 45))).cell? ⟨w.heap.size, 0, none⟩ = some (.int .i64 len)) := (HBq.out.cell (World.block_lt_of_cell? _ _ KB0.out)).trans KB0.out
  replace KB1 : Hid (((w3_.alloc (.cells #[.int .i64 ey, .slice AY ny cY] 45))).cell? ⟨w.heap.size, 1, none⟩ = some (.slice A N c)) := (HBq.out.cell (World.block_lt_of_cell? _ _ KB1.out)).trans KB1.out
  replace KX0 : Hid (((w3_.alloc (.cells #[.int .i64 ey, .slice AY ny cY] 45))).cell? ⟨w.heap.size + 1, 0, none⟩ = some (.int .i64 ix)) := (HBq.out.cell (World.block_lt_of_cell? _ _ KX0.out)).trans KX0.out
  replace KX1 : Hid (((w3_.alloc (.cells #[.int .i64 ey, .slice AY ny cY] 45))).cell? ⟨w.heap.size + 1, 1, none⟩ = some (.slice A2 nx c2)) := (HBq.out.cell (World.block_lt_of_cell? _ _ KX1.out)).trans KX1.out
  replace HY : Hid (RdV (w3_.alloc (.cells #[.int .i64 ey, .slice AY ny cY] 45)) ((w3_.alloc (.cells #[.int .i64 ey, .slice AY ny cY] 45))).heap.size AY (zc ys)) := HY.out.on HBq.out
  clear HBq
  have KY0 : Hid (((w3_.alloc (.cells #[.int .i64 ey, .slice AY ny cY] 45))).cell? ⟨w3_.heap.size, 0, none⟩ = some (.int .i64 ey)) := (cell_at (World.alloc_heap_new w3_ _) 0).trans rfl
  have KY1 : Hid (((w3_.alloc (.cells #[.int .i64 ey, .slice AY ny cY] 45))).cell? ⟨w3_.heap.size, 1, none⟩ = some (.slice AY ny cY)) := (cell_at (World.alloc_heap_new w3_ _) 1).trans rfl
  have HC := Lib.hid (HBy.out _ HB.out)
  have k_KB0 := KB0.out
  have k_KB1 := KB1.out
  have k_KX0 := KX0.out
  have k_KX1 := KX1.out
  go_wp2_with fail
  clear k_KB0
  clear k_KB1
  clear k_KX0
  clear k_KX1
  refine HC.out.mono ?_
  rintro e w4_ ⟨rfl, bq⟩
  clear HC
  have HBc := Lib.hid bq; clear bq
  have HBq : Hid (Below (w3_.alloc (.cells #[.int .i64 ey, .slice AY ny cY] 45)).heap.size (w3_.alloc (.cells #[.int .i64 ey, .slice AY ny cY] 45)) w4_) := HBc.out
  replace HB : Hid (Below w.heap.size w w4_) := HB.out.trans (HBq.out.mono HB.out.size)
  replace KB0 : Hid ((w4_).cell? ⟨w.heap.size, 0, none⟩ = some (.int .i64 len)) := (HBq.out.cell (World.block_lt_of_cell? _ _ KB0.out)).trans KB0.out
  replace KB1 : Hid ((w4_).cell? ⟨w.heap.size, 1, none⟩ = some (.slice A N c)) := (HBq.out.cell (World.block_lt_of_cell? _ _ KB1.out)).trans KB1.out
  replace KX0 : Hid ((w4_).cell? ⟨w.heap.size + 1, 0, none⟩ = some (.int .i64 ix)) := (HBq.out.cell (World.block_lt_of_cell? _ _ KX0.out)).trans KX0.out
  replace KX1 : Hid ((w4_).cell? ⟨w.heap.size + 1, 1, none⟩ = some (.slice A2 nx c2)) := (HBq.out.cell (World.block_lt_of_cell? _ _ KX1.out)).trans KX1.out
  replace HY : Hid (RdV w4_ (w4_).heap.size AY (zc ys)) := HY.out.on HBq.out
  replace KY0 : Hid ((w4_).cell? ⟨w3_.heap.size, 0, none⟩ = some (.int .i64 ey)) := (HBq.out.cell (World.block_lt_of_cell? _ _ KY0.out)).trans KY0.out
  replace KY1 : Hid ((w4_).cell? ⟨w3_.heap.size, 1, none⟩ = some (.slice AY ny cY)) := (HBq.out.cell (World.block_lt_of_cell? _ _ KY1.out)).trans KY1.out
  clear HBq
  clear HBc
  have HS : Hid (∀ W, Below w4_.heap.size w4_ W → W.cell? ⟨w.heap.size, 0, none⟩ = some (.int .i64 len) ∧ W.cell? ⟨w.heap.size, 1, none⟩ = some (.slice A N c) ∧ W.cell? ⟨w.heap.size + 1, 0, none⟩ = some (.int .i64 ix) ∧ W.cell? ⟨w.heap.size + 1, 1, none⟩ = some (.slice A2 nx c2)) := fun W hW => ⟨(hW.cell (World.block_lt_of_cell? _ _ KB0.out)).trans KB0.out, (hW.cell (World.block_lt_of_cell? _ _ KB1.out)).trans KB1.out, (hW.cell (World.block_lt_of_cell? _ _ KX0.out)).trans KX0.out, (hW.cell (World.block_lt_of_cell? _ _ KX1.out)).trans KX1.out⟩
  have HD : Hid (Below w4_.heap.size w4_ w4_.drew) := (Below.refl _ _).drew
  go_wp2
  go_region_held3 (fun w' => w'.cell? ⟨w.heap.size, 0, none⟩ = some (.int .i64 len) ∧ w'.cell? ⟨w.heap.size, 1, none⟩ = some (.slice A N c) ∧ w'.cell? ⟨w.heap.size + 1, 0, none⟩ = some (.int .i64 ix) ∧ w'.cell? ⟨w.heap.size + 1, 1, none⟩ = some (.slice A2 nx c2))
    ((refine HS.out _ ?_; first | exact hk3.out | exact hk2.out | exact hk1.out | exact HD.out))
    ((first
      | (go_at_call 33; have hx := hk2.out; refine (HRc.out wb (HB.out.trans (hx.mono HB.out.size))).mono ?_; rintro e wc ⟨rfl, bq⟩; have hk3 : Hid (Below w4_.heap.size w4_ wc) := hx.trans (bq.mono hx.size); clear bq hx)
      | (go_at_call 32; have hx := hk1.out; refine (HCk.out wa (HB.out.trans (hx.mono HB.out.size))).mono ?_; rintro e wb ⟨rfl, bq⟩; have hk2 : Hid (Below w4_.heap.size w4_ wb) := hx.trans (bq.mono hx.size); clear bq hx)
      | (go_at_call 20; refine (HRe.out _ (HB.out.trans (HD.out.mono HB.out.size))).mono ?_; rintro e wa ⟨rfl, bq⟩; have hk1 : Hid (Below w4_.heap.size w4_ wa) := HD.out.trans (bq.mono HD.out.size); clear bq)))
  have HBq : Hid (Below w4_.heap.size w4_ wc) := hk3.out
  replace HB : Hid (Below w.heap.size w wc) := HB.out.trans (HBq.out.mono HB.out.size)
  replace KB0 : Hid ((wc).cell? ⟨w.heap.size, 0, none⟩ = some (.int .i64 len)) := (HBq.out.cell (World.block_lt_of_cell? _ _ KB0.out)).trans KB0.out
  replace KB1 : Hid ((wc).cell? ⟨w.heap.size, 1, none⟩ = some (.slice A N c)) := (HBq.out.cell (World.block_lt_of_cell? _ _ KB1.out)).trans KB1.out
  replace KX0 : Hid ((wc).cell? ⟨w.heap.size + 1, 0, none⟩ = some (.int .i64 ix)) := (HBq.out.cell (World.block_lt_of_cell? _ _ KX0.out)).trans KX0.out
  replace KX1 : Hid ((wc).cell? ⟨w.heap.size + 1, 1, none⟩ = some (.slice A2 nx c2)) := (HBq.out.cell (World.block_lt_of_cell? _ _ KX1.out)).trans KX1.out
  replace HY : Hid (RdV wc (wc).heap.size AY (zc ys)) := HY.out.on HBq.out
  replace KY0 : Hid ((wc).cell? ⟨w3_.heap.size, 0, none⟩ = some (.int .i64 ey)) := (HBq.out.cell (World.block_lt_of_cell? _ _ KY0.out)).trans KY0.out
  replace KY1 : Hid ((wc).cell? ⟨w3_.heap.size, 1, none⟩ = some (.slice AY ny cY)) := (HBq.out.cell (World.block_lt_of_cell? _ _ KY1.out)).trans KY1.out
  clear HBq
  clear HS HD
  try clear hk1
  try clear hk2
  clear hk3
  have HC := Lib.hid (HRb.out _ HB.out)
  have k_KB0 := KB0.out
  have k_KB1 := KB1.out
  go_wp2_with fail
  clear k_KB0
  clear k_KB1
  refine HC.out.mono ?_
  rintro e w5_ ⟨AZ, cZ, rfl, rq, bq⟩
  clear HC
  have HBc := Lib.hid bq; clear bq
  have HBq : Hid (Below wc.heap.size wc w5_) := HBc.out
  replace HB : Hid (Below w.heap.size w w5_) := HB.out.trans (HBq.out.mono HB.out.size)
  replace KB0 : Hid ((w5_).cell? ⟨w.heap.size, 0, none⟩ = some (.int .i64 len)) := (HBq.out.cell (World.block_lt_of_cell? _ _ KB0.out)).trans KB0.out
  replace KB1 : Hid ((w5_).cell? ⟨w.heap.size, 1, none⟩ = some (.slice A N c)) := (HBq.out.cell (World.block_lt_of_cell? _ _ KB1.out)).trans KB1.out
  replace KX0 : Hid ((w5_).cell? ⟨w.heap.size + 1, 0, none⟩ = some (.int .i64 ix)) := (HBq.out.cell (World.block_lt_of_cell? _ _ KX0.out)).trans KX0.out
  replace KX1 : Hid ((w5_).cell? ⟨w.heap.size + 1, 1, none⟩ = some (.slice A2 nx c2)) := (HBq.out.cell (World.block_lt_of_cell? _ _ KX1.out)).trans KX1.out
  replace HY : Hid (RdV w5_ (w5_).heap.size AY (zc ys)) := HY.out.on HBq.out
  replace KY0 : Hid ((w5_).cell? ⟨w3_.heap.size, 0, none⟩ = some (.int .i64 ey)) := (HBq.out.cell (World.block_lt_of_cell? _ _ KY0.out)).trans KY0.out
  replace KY1 : Hid ((w5_).cell? ⟨w3_.heap.size, 1, none⟩ = some (.slice AY ny cY)) := (HBq.out.cell (World.block_lt_of_cell? _ _ KY1.out)).trans KY1.out
  clear HBq
  clear HBc
  have HZ : Hid (RdV w5_ (w5_).heap.size AZ (zc ys)) := rq
  clear rq
  have HBq : Hid (Below w5_.heap.size w5_ (w5_.alloc (.cells #[.int .i64 ey, .slice AZ ny cZ] 45))) := one_below _ _
  replace HB : Hid (Below w.heap.size w (w5_.alloc (.cells #[.int .i64 ey, .slice AZ ny cZ] 45))) := HB.out.trans (HBq.out.mono HB.out.size)
  replace KB0 : Hid (((w5_.alloc (.cells #[.int .i64 ey, .slice AZ ny cZ] 45))).cell? ⟨w.heap.size, 0, none⟩ = some (.int .i64 len)) := (HBq.out.cell (World.block_lt_of_cell? _ _ KB0.out)).trans KB0.out
  replace KB1 : Hid (((w5_.alloc (.cells #[.int .i64 ey, .slice AZ ny cZ] 45))).cell? ⟨w.heap.size, 1, none⟩ = some (.slice A N c)) := (HBq.out.cell (World.block_lt_of_cell? _ _ KB1.out)).trans KB1.out
  replace KX0 : Hid (((w5_.alloc (.cells #[.int .i64 ey, .slice AZ ny cZ] 45))).cell? ⟨w.heap.size + 1, 0, none⟩ = some (.int .i64 ix)) := (HBq.out.cell (World.block_lt_of_cell? _ _ KX0.out)).trans KX0.out
  replace KX1 : Hid (((w5_.alloc (.cells #[.int .i64 ey, .slice AZ ny cZ] 45))).cell? ⟨w.heap.size + 1, 1, none⟩ = some (.slice A2 nx c2)) := (HBq.out.cell (World.block_lt_of_cell? _ _ KX1.out)).trans KX1.out
  replace HY : Hid (RdV (w5_.alloc (.cells #[.int .i64 ey, .slice AZ ny cZ] 45)) ((w5_.alloc (.cells #[.int .i64 ey, .slice AZ ny cZ] 45))).heap.size AY (zc ys)) := HY.out.on HBq.out
  replace KY0 : Hid (((w5_.alloc (.cells #[.int .i64 ey, .slice AZ ny cZ] 45))).cell? ⟨w3_.heap.size, 0, none⟩ = some (.int .i64 ey)) := (HBq.out.cell (World.block_lt_of_cell? _ _ KY0.out)).trans KY0.out
  replace KY1 : Hid (((w5_.alloc (.cells #[.int .i64 ey, .slice AZ ny cZ] 45))).cell? ⟨w3_.heap.size, 1, none⟩ = some (.slice AY ny cY)) := (HBq.out.cell (World.block_lt_of_cell? _ _ KY1.out)).trans KY1.out
  replace HZ : Hid (RdV (w5_.alloc (.cells #[.int .i64 ey, .slice AZ ny cZ] 45)) ((w5_.alloc (.cells #[.int .i64 ey, .slice AZ ny cZ] 45))).heap.size AZ (zc ys)) := HZ.out.on HBq.out
  clear HBq
  have KZ0 : Hid (((w5_.alloc (.cells #[.int .i64 ey, .slice AZ ny cZ] 45))).cell? ⟨w5_.heap.size, 0, none⟩ = some (.int .i64 ey)) := (cell_at (World.alloc_heap_new w5_ _) 0).trans rfl
  have KZ1 : Hid (((w5_.alloc (.cells #[.int .i64 ey, .slice AZ ny cZ] 45))).cell? ⟨w5_.heap.size, 1, none⟩ = some (.slice AZ ny cZ)) := (cell_at (World.alloc_heap_new w5_ _) 1).trans rfl
  have HC := Lib.hid (rbegun_true (w5_.alloc (.cells #[.int .i64 ey, .slice AZ ny cZ] 45)))
  have k_KB0 := KB0.out
  have k_KB1 := KB1.out
  go_wp2_with fail
  clear k_KB0
  clear k_KB1
  refine HC.out.mono ?_
  rintro e w6_ ⟨rfl, bq⟩
  clear HC
  have HBc := Lib.hid bq; clear bq
  have HBq : Hid (Below (w5_.alloc (.cells #[.int .i64 ey, .slice AZ ny cZ] 45)).heap.size (w5_.alloc (.cells #[.int .i64 ey, .slice AZ ny cZ] 45)) w6_) := HBc.out
  replace HB : Hid (Below w.heap.size w w6_) := HB.out.trans (HBq.out.mono HB.out.size)
  replace KB0 : Hid ((w6_).cell? ⟨w.heap.size, 0, none⟩ = some (.int .i64 len)) := (HBq.out.cell (World.block_lt_of_cell? _ _ KB0.out)).trans KB0.out
  replace KB1 : Hid ((w6_).cell? ⟨w.heap.size, 1, none⟩ = some (.slice A N c)) := (HBq.out.cell (World.block_lt_of_cell? _ _ KB1.out)).trans KB1.out
  replace KX0 : Hid ((w6_).cell? ⟨w.heap.size + 1, 0, none⟩ = some (.int .i64 ix)) := (HBq.out.cell (World.block_lt_of_cell? _ _ KX0.out)).trans KX0.out
  replace KX1 : Hid ((w6_).cell? ⟨w.heap.size + 1, 1, none⟩ = some (.slice A2 nx c2)) := (HBq.out.cell (World.block_lt_of_cell? _ _ KX1.out)).trans KX1.out
  replace HY : Hid (RdV w6_ (w6_).heap.size AY (zc ys)) := HY.out.on HBq.out
  replace KY0 : Hid ((w6_).cell? ⟨w3_.heap.size, 0, none⟩ = some (.int .i64 ey)) := (HBq.out.cell (World.block_lt_of_cell? _ _ KY0.out)).trans KY0.out
  replace KY1 : Hid ((w6_).cell? ⟨w3_.heap.size, 1, none⟩ = some (.slice AY ny cY)) := (HBq.out.cell (World.block_lt_of_cell? _ _ KY1.out)).trans KY1.out
  replace HZ : Hid (RdV w6_ (w6_).heap.size AZ (zc ys)) := HZ.out.on HBq.out
  replace KZ0 : Hid ((w6_).cell? ⟨w5_.heap.size, 0, none⟩ = some (.int .i64 ey)) := (HBq.out.cell (World.block_lt_of_cell? _ _ KZ0.out)).trans KZ0.out
  replace KZ1 : Hid ((w6_).cell? ⟨w5_.heap.size, 1, none⟩ = some (.slice AZ ny cZ)) := (HBq.out.cell (World.block_lt_of_cell? _ _ KZ1.out)).trans KZ1.out
  clear HBq
  clear HBc
  have HC := Lib.hid (HSm.out _ _ cY cZ _ HY.out HZ.out)
  have k_KY0 := KY0.out
  have k_KY1 := KY1.out
  have k_KZ0 := KZ0.out
  have k_KZ1 := KZ1.out
  go_wp2_with fail
  clear k_KY0
  clear k_KY1
  clear k_KZ0
  clear k_KZ1
  refine HC.out.mono ?_
  rintro e w7_ ⟨rfl, bq⟩
  clear HC
  have HBc := Lib.hid bq; clear bq
  have HBq : Hid (Below w6_.heap.size w6_ w7_) := HBc.out
  replace HB : Hid (Below w.heap.size w w7_) := HB.out.trans (HBq.out.mono HB.out.size)
  replace KB0 : Hid ((w7_).cell? ⟨w.heap.size, 0, none⟩ = some (.int .i64 len)) := (HBq.out.cell (World.block_lt_of_cell? _ _ KB0.out)).trans KB0.out
  replace KB1 : Hid ((w7_).cell? ⟨w.heap.size, 1, none⟩ = some (.slice A N c)) := (HBq.out.cell (World.block_lt_of_cell? _ _ KB1.out)).trans KB1.out
  replace KX0 : Hid ((w7_).cell? ⟨w.heap.size + 1, 0, none⟩ = some (.int .i64 ix)) := (HBq.out.cell (World.block_lt_of_cell? _ _ KX0.out)).trans KX0.out
  replace KX1 : Hid ((w7_).cell? ⟨w.heap.size + 1, 1, none⟩ = some (.slice A2 nx c2)) := (HBq.out.cell (World.block_lt_of_cell? _ _ KX1.out)).trans KX1.out
  replace HY : Hid (RdV w7_ (w7_).heap.size AY (zc ys)) := HY.out.on HBq.out
  replace KY0 : Hid ((w7_).cell? ⟨w3_.heap.size, 0, none⟩ = some (.int .i64 ey)) := (HBq.out.cell (World.block_lt_of_cell? _ _ KY0.out)).trans KY0.out
  replace KY1 : Hid ((w7_).cell? ⟨w3_.heap.size, 1, none⟩ = some (.slice AY ny cY)) := (HBq.out.cell (World.block_lt_of_cell? _ _ KY1.out)).trans KY1.out
  replace HZ : Hid (RdV w7_ (w7_).heap.size AZ (zc ys)) := HZ.out.on HBq.out
  replace KZ0 : Hid ((w7_).cell? ⟨w5_.heap.size, 0, none⟩ = some (.int .i64 ey)) := (HBq.out.cell (World.block_lt_of_cell? _ _ KZ0.out)).trans KZ0.out
  replace KZ1 : Hid ((w7_).cell? ⟨w5_.heap.size, 1, none⟩ = some (.slice AZ ny cZ)) := (HBq.out.cell (World.block_lt_of_cell? _ _ KZ1.out)).trans KZ1.out
  clear HBq
  clear HBc
  have HC := Lib.hid (HPc.out _ HB.out)
  have k_KB0 := KB0.out
  have k_KB1 := KB1.out
  have k_KX0 := KX0.out
  have k_KX1 := KX1.out
  go_wp2_with fail
  clear k_KB0
  clear k_KB1
  clear k_KX0
  clear k_KX1
  refine HC.out.mono ?_
  rintro e w8_ ⟨rfl, bq⟩
  clear HC
  have HBc := Lib.hid bq; clear bq
  have HBq : Hid (Below w7_.heap.size w7_ w8_) := HBc.out
  replace HB : Hid (Below w.heap.size w w8_) := HB.out.trans (HBq.out.mono HB.out.size)
  replace KB0 : Hid ((w8_).cell? ⟨w.heap.size, 0, none⟩ = some (.int .i64 len)) := (HBq.out.cell (World.block_lt_of_cell? _ _ KB0.out)).trans KB0.out
  replace KB1 : Hid ((w8_).cell? ⟨w.heap.size, 1, none⟩ = some (.slice A N c)) := (HBq.out.cell (World.block_lt_of_cell? _ _ KB1.out)).trans KB1.out
  replace KX0 : Hid ((w8_).cell? ⟨w.heap.size + 1, 0, none⟩ = some (.int .i64 ix)) := (HBq.out.cell (World.block_lt_of_cell? _ _ KX0.out)).trans KX0.out
  replace KX1 : Hid ((w8_).cell? ⟨w.heap.size + 1, 1, none⟩ = some (.slice A2 nx c2)) := (HBq.out.cell (World.block_lt_of_cell? _ _ KX1.out)).trans KX1.out
  replace HY : Hid (RdV w8_ (w8_).heap.size AY (zc ys)) := HY.out.on HBq.out
  replace KY0 : Hid ((w8_).cell? ⟨w3_.heap.size, 0, none⟩ = some (.int .i64 ey)) := (HBq.out.cell (World.block_lt_of_cell? _ _ KY0.out)).trans KY0.out
  replace KY1 : Hid ((w8_).cell? ⟨w3_.heap.size, 1, none⟩ = some (.slice AY ny cY)) := (HBq.out.cell (World.block_lt_of_cell? _ _ KY1.out)).trans KY1.out
  replace HZ : Hid (RdV w8_ (w8_).heap.size AZ (zc ys)) := HZ.out.on HBq.out
  replace KZ0 : Hid ((w8_).cell? ⟨w5_.heap.size, 0, none⟩ = some (.int .i64 ey)) := (HBq.out.cell (World.block_lt_of_cell? _ _ KZ0.out)).trans KZ0.out
  replace KZ1 : Hid ((w8_).cell? ⟨w5_.heap.size, 1, none⟩ = some (.slice AZ ny cZ)) := (HBq.out.cell (World.block_lt_of_cell? _ _ KZ1.out)).trans KZ1.out
  clear HBq
  clear HBc
  go_wp2
  go_ret
  exact ⟨rfl, HB.out⟩
set_option maxHeartbeats 8000000 in
theorem rt_w_ra_u (len : Int) (A : Option Addr) (N c : Nat) (ix : Int) (A2 : Option Addr) (nx c2 : Nat) (p bit i every : Int) (n s ny : Nat) (ew ev eu ey g : Int) (ys : List Int) (l : List Bool) (w : World)
    (HRk : Hid (∀ V, Below w.heap.size w V → Calls Try.prog 28 #[.agg #[.int .i64 len, .slice A N c], .int .i64 p] V (RkP V n 0)))
    (HSl : Hid (∀ V, Below w.heap.size w V → Calls Try.prog 29 #[.agg #[.int .i64 len, .slice A N c], .int .i64 bit, .int .i64 i] V (RkP V 0 3)))
    (HBd : Hid (∀ V, Below w.heap.size w V → Calls Try.prog 30 #[.agg #[.int .i64 len, .slice A N c], .int .i64 every] V fun x w' => ∃ A c, x = .returned (.tuple #[.agg #[.int .i64 ey, .slice A ny c], .int .i64 g]) ∧ RdV w' w'.heap.size A (zc ys) ∧ Below V.heap.size V w'))
    (HBy : Hid (∀ V, Below w.heap.size w V → Calls Try.prog 31 #[.agg #[.int .i64 len, .slice A N c], .agg #[.int .i64 ix, .slice A2 nx c2], .int .i64 p] V (RkP V n 0)))
    (HRe : Hid (∀ V, Below w.heap.size w V → Calls Try.prog 20 #[.agg #[.int .i64 len, .slice A N c], .int .i64 p] V fun e w' => e = .returned (.int .i64 0) ∧ Below V.heap.size V w'))
    (HCk : Hid (∀ V, Below w.heap.size w V → Calls Try.prog 32 #[.agg #[.int .i64 len, .slice A N c]] V fun e w' => e = .returned (.int .i64 0) ∧ Below V.heap.size V w'))
    (HRc : Hid (∀ V, Below w.heap.size w V → Calls Try.prog 33 #[.agg #[.int .i64 len, .slice A N c], .agg #[.int .i64 ix, .slice A2 nx c2]] V fun e w' => e = .returned (.int .i64 0) ∧ Below V.heap.size V w'))
    (HRb : Hid (∀ V, Below w.heap.size w V → Calls Try.prog 36 #[.agg #[.int .i64 len, .slice A N c], .int .i64 every] V fun x w' => ∃ A c, x = .returned (.tuple #[.agg #[.int .i64 ey, .slice A ny c], .int .i64 g]) ∧ RdV w' w'.heap.size A (zc ys) ∧ Below V.heap.size V w'))
    (HPc : Hid (∀ V, Below w.heap.size w V → Calls Try.prog 39 #[.agg #[.int .i64 len, .slice A N c], .agg #[.int .i64 ix, .slice A2 nx c2]] V fun e w' => e = .returned (.int .i64 0) ∧ Below V.heap.size V w'))
    (HSm : Hid (∀ A B c d V, RdV V V.heap.size A (zc ys) → RdV V V.heap.size B (zc ys) → Calls Try.prog 38 #[.slice A ny c, .slice B ny d] V fun e w' => e = .returned (.bool true) ∧ Below V.heap.size V w'))
    (HBl : Hid (∀ V, Below w.heap.size w V → Calls Try.prog 22 #[.agg #[.int .i64 len, .slice A N c]] V (Listed V l)))
    (HOa : Hid (∀ A c V, RdV V V.heap.size A (ic l) → Calls Try.prog 34 #[.slice A l.length c, .int .i64 p] V fun e w' => e = .returned (.int .i64 (n : Int)) ∧ Below V.heap.size V w'))
    (ta : decide (bit < 0) = true) :
    Calls Try.prog 4 #[.agg #[.int .i64 len, .slice A N c], .int .i64 p, .int .i64 bit, .int .i64 i, .int .i64 every, .agg #[.int .i64 ix, .slice A2 nx c2]] w fun e w' => e = .returned (.bool true) ∧ Below w.heap.size w w' := by
  have HB : Hid (Below w.heap.size w w) := Below.refl _ w
  go_enter Try.func4, Try.ntmps4
  have HBq : Hid (Below w.heap.size w (w.alloc (.cells #[.int .i64 len, .slice A N c] 25))) := one_below _ _
  replace HB : Hid (Below w.heap.size w (w.alloc (.cells #[.int .i64 len, .slice A N c] 25))) := HB.out.trans (HBq.out.mono HB.out.size)
  clear HBq
  have KB0 : Hid (((w.alloc (.cells #[.int .i64 len, .slice A N c] 25))).cell? ⟨w.heap.size, 0, none⟩ = some (.int .i64 len)) := (cell_at (World.alloc_heap_new w _) 0).trans rfl
  have KB1 : Hid (((w.alloc (.cells #[.int .i64 len, .slice A N c] 25))).cell? ⟨w.heap.size, 1, none⟩ = some (.slice A N c)) := (cell_at (World.alloc_heap_new w _) 1).trans rfl
  have HBq : Hid (Below (w.alloc (.cells #[.int .i64 len, .slice A N c] 25)).heap.size (w.alloc (.cells #[.int .i64 len, .slice A N c] 25)) ((w.alloc (.cells #[.int .i64 len, .slice A N c] 25)).alloc (.cells #[.int .i64 ix, .slice A2 nx c2] 45))) := one_below _ _
  replace HB : Hid (Below w.heap.size w ((w.alloc (.cells #[.int .i64 len, .slice A N c] 25)).alloc (.cells #[.int .i64 ix, .slice A2 nx c2] 45))) := HB.out.trans (HBq.out.mono HB.out.size)
  replace KB0 : Hid ((((w.alloc (.cells #[.int .i64 len, .slice A N c] 25)).alloc (.cells #[.int .i64 ix, .slice A2 nx c2] 45))).cell? ⟨w.heap.size, 0, none⟩ = some (.int .i64 len)) := (HBq.out.cell (World.block_lt_of_cell? _ _ KB0.out)).trans KB0.out
  replace KB1 : Hid ((((w.alloc (.cells #[.int .i64 len, .slice A N c] 25)).alloc (.cells #[.int .i64 ix, .slice A2 nx c2] 45))).cell? ⟨w.heap.size, 1, none⟩ = some (.slice A N c)) := (HBq.out.cell (World.block_lt_of_cell? _ _ KB1.out)).trans KB1.out
  clear HBq
  have KX0 : Hid ((((w.alloc (.cells #[.int .i64 len, .slice A N c] 25)).alloc (.cells #[.int .i64 ix, .slice A2 nx c2] 45))).cell? ⟨w.heap.size + 1, 0, none⟩ = some (.int .i64 ix)) := by { have h := cell_at (World.alloc_heap_new (w.alloc (.cells #[.int .i64 len, .slice A N c] 25)) (.cells #[.int .i64 ix, .slice A2 nx c2] 45)) 0; rw [World.size_alloc] at h; exact h }
  have KX1 : Hid ((((w.alloc (.cells #[.int .i64 len, .slice A N c] 25)).alloc (.cells #[.int .i64 ix, .slice A2 nx c2] 45))).cell? ⟨w.heap.size + 1, 1, none⟩ = some (.slice A2 nx c2)) := by { have h := cell_at (World.alloc_heap_new (w.alloc (.cells #[.int .i64 len, .slice A N c] 25)) (.cells #[.int .i64 ix, .slice A2 nx c2] 45)) 1; rw [World.size_alloc] at h; exact h }
  have HC := Lib.hid (HRk.out _ HB.out)
  have k_KB0 := KB0.out
  have k_KB1 := KB1.out
  have k_KX0 := KX0.out
  have k_KX1 := KX1.out
  go_wp2_with fail
  clear k_KB0
  clear k_KB1
  clear k_KX0
  clear k_KX1
  refine HC.out.mono ?_
  rintro e w1_ ⟨rfl, bq⟩
  clear HC
  have HBc := Lib.hid bq; clear bq
  have HBq : Hid (Below ((w.alloc (.cells #[.int .i64 len, .slice A N c] 25)).alloc (.cells #[.int .i64 ix, .slice A2 nx c2] 45)).heap.size ((w.alloc (.cells #[.int .i64 len, .slice A N c] 25)).alloc (.cells #[.int .i64 ix, .slice A2 nx c2] 45)) w1_) := HBc.out
  replace HB : Hid (Below w.heap.size w w1_) := HB.out.trans (HBq.out.mono HB.out.size)
  replace KB0 : Hid ((w1_).cell? ⟨w.heap.size, 0, none⟩ = some (.int .i64 len)) := (HBq.out.cell (World.block_lt_of_cell? _ _ KB0.out)).trans KB0.out
  replace KB1 : Hid ((w1_).cell? ⟨w.heap.size, 1, none⟩ = some (.slice A N c)) := (HBq.out.cell (World.block_lt_of_cell? _ _ KB1.out)).trans KB1.out
  replace KX0 : Hid ((w1_).cell? ⟨w.heap.size + 1, 0, none⟩ = some (.int .i64 ix)) := (HBq.out.cell (World.block_lt_of_cell? _ _ KX0.out)).trans KX0.out
  replace KX1 : Hid ((w1_).cell? ⟨w.heap.size + 1, 1, none⟩ = some (.slice A2 nx c2)) := (HBq.out.cell (World.block_lt_of_cell? _ _ KX1.out)).trans KX1.out
  clear HBq
  clear HBc
  have HC := Lib.hid (HSl.out _ HB.out)
  have k_KB0 := KB0.out
  have k_KB1 := KB1.out
  have k_KX0 := KX0.out
  have k_KX1 := KX1.out
  go_wp2_with fail
  clear k_KB0
  clear k_KB1
  clear k_KX0
  clear k_KX1
  refine HC.out.mono ?_
  rintro e w2_ ⟨rfl, bq⟩
  clear HC
  have HBc := Lib.hid bq; clear bq
  have HBq : Hid (Below w1_.heap.size w1_ w2_) := HBc.out
  replace HB : Hid (Below w.heap.size w w2_) := HB.out.trans (HBq.out.mono HB.out.size)
  replace KB0 : Hid ((w2_).cell? ⟨w.heap.size, 0, none⟩ = some (.int .i64 len)) := (HBq.out.cell (World.block_lt_of_cell? _ _ KB0.out)).trans KB0.out
  replace KB1 : Hid ((w2_).cell? ⟨w.heap.size, 1, none⟩ = some (.slice A N c)) := (HBq.out.cell (World.block_lt_of_cell? _ _ KB1.out)).trans KB1.out
  replace KX0 : Hid ((w2_).cell? ⟨w.heap.size + 1, 0, none⟩ = some (.int .i64 ix)) := (HBq.out.cell (World.block_lt_of_cell? _ _ KX0.out)).trans KX0.out
  replace KX1 : Hid ((w2_).cell? ⟨w.heap.size + 1, 1, none⟩ = some (.slice A2 nx c2)) := (HBq.out.cell (World.block_lt_of_cell? _ _ KX1.out)).trans KX1.out
  clear HBq
  clear HBc
  have HC := Lib.hid (HBd.out _ HB.out)
  have k_KB0 := KB0.out
  have k_KB1 := KB1.out
  have k_KX0 := KX0.out
  have k_KX1 := KX1.out
  go_wp2_with fail
  clear k_KB0
  clear k_KB1
  clear k_KX0
  clear k_KX1
  refine HC.out.mono ?_
  rintro e w3_ ⟨AY, cY, rfl, rq, bq⟩
  clear HC
  have HBc := Lib.hid bq; clear bq
  have HBq : Hid (Below w2_.heap.size w2_ w3_) := HBc.out
  replace HB : Hid (Below w.heap.size w w3_) := HB.out.trans (HBq.out.mono HB.out.size)
  replace KB0 : Hid ((w3_).cell? ⟨w.heap.size, 0, none⟩ = some (.int .i64 len)) := (HBq.out.cell (World.block_lt_of_cell? _ _ KB0.out)).trans KB0.out
  replace KB1 : Hid ((w3_).cell? ⟨w.heap.size, 1, none⟩ = some (.slice A N c)) := (HBq.out.cell (World.block_lt_of_cell? _ _ KB1.out)).trans KB1.out
  replace KX0 : Hid ((w3_).cell? ⟨w.heap.size + 1, 0, none⟩ = some (.int .i64 ix)) := (HBq.out.cell (World.block_lt_of_cell? _ _ KX0.out)).trans KX0.out
  replace KX1 : Hid ((w3_).cell? ⟨w.heap.size + 1, 1, none⟩ = some (.slice A2 nx c2)) := (HBq.out.cell (World.block_lt_of_cell? _ _ KX1.out)).trans KX1.out
  clear HBq
  clear HBc
  have HY : Hid (RdV w3_ (w3_).heap.size AY (zc ys)) := rq
  clear rq
  have HBq : Hid (Below w3_.heap.size w3_ (w3_.alloc (.cells #[.int .i64 ey, .slice AY ny cY] 45))) := one_below _ _
  replace HB : Hid (Below w.heap.size w (w3_.alloc (.cells #[.int .i64 ey, .slice AY ny cY] 45))) := HB.out.trans (HBq.out.mono HB.out.size)
  replace KB0 : Hid (((w3_.alloc (.cells #[.int .i64 ey, .slice AY ny cY] 45))).cell? ⟨w.heap.size, 0, none⟩ = some (.int .i64 len)) := (HBq.out.cell (World.block_lt_of_cell? _ _ KB0.out)).trans KB0.out
  replace KB1 : Hid (((w3_.alloc (.cells #[.int .i64 ey, .slice AY ny cY] 45))).cell? ⟨w.heap.size, 1, none⟩ = some (.slice A N c)) := (HBq.out.cell (World.block_lt_of_cell? _ _ KB1.out)).trans KB1.out
  replace KX0 : Hid (((w3_.alloc (.cells #[.int .i64 ey, .slice AY ny cY] 45))).cell? ⟨w.heap.size + 1, 0, none⟩ = some (.int .i64 ix)) := (HBq.out.cell (World.block_lt_of_cell? _ _ KX0.out)).trans KX0.out
  replace KX1 : Hid (((w3_.alloc (.cells #[.int .i64 ey, .slice AY ny cY] 45))).cell? ⟨w.heap.size + 1, 1, none⟩ = some (.slice A2 nx c2)) := (HBq.out.cell (World.block_lt_of_cell? _ _ KX1.out)).trans KX1.out
  replace HY : Hid (RdV (w3_.alloc (.cells #[.int .i64 ey, .slice AY ny cY] 45)) ((w3_.alloc (.cells #[.int .i64 ey, .slice AY ny cY] 45))).heap.size AY (zc ys)) := HY.out.on HBq.out
  clear HBq
  have KY0 : Hid (((w3_.alloc (.cells #[.int .i64 ey, .slice AY ny cY] 45))).cell? ⟨w3_.heap.size, 0, none⟩ = some (.int .i64 ey)) := (cell_at (World.alloc_heap_new w3_ _) 0).trans rfl
  have KY1 : Hid (((w3_.alloc (.cells #[.int .i64 ey, .slice AY ny cY] 45))).cell? ⟨w3_.heap.size, 1, none⟩ = some (.slice AY ny cY)) := (cell_at (World.alloc_heap_new w3_ _) 1).trans rfl
  have HC := Lib.hid (HBy.out _ HB.out)
  have k_KB0 := KB0.out
  have k_KB1 := KB1.out
  have k_KX0 := KX0.out
  have k_KX1 := KX1.out
  go_wp2_with fail
  clear k_KB0
  clear k_KB1
  clear k_KX0
  clear k_KX1
  refine HC.out.mono ?_
  rintro e w4_ ⟨rfl, bq⟩
  clear HC
  have HBc := Lib.hid bq; clear bq
  have HBq : Hid (Below (w3_.alloc (.cells #[.int .i64 ey, .slice AY ny cY] 45)).heap.size (w3_.alloc (.cells #[.int .i64 ey, .slice AY ny cY] 45)) w4_) := HBc.out
  replace HB : Hid (Below w.heap.size w w4_) := HB.out.trans (HBq.out.mono HB.out.size)
  replace KB0 : Hid ((w4_).cell? ⟨w.heap.size, 0, none⟩ = some (.int .i64 len)) := (HBq.out.cell (World.block_lt_of_cell? _ _ KB0.out)).trans KB0.out
  replace KB1 : Hid ((w4_).cell? ⟨w.heap.size, 1, none⟩ = some (.slice A N c)) := (HBq.out.cell (World.block_lt_of_cell? _ _ KB1.out)).trans KB1.out
  replace KX0 : Hid ((w4_).cell? ⟨w.heap.size + 1, 0, none⟩ = some (.int .i64 ix)) := (HBq.out.cell (World.block_lt_of_cell? _ _ KX0.out)).trans KX0.out
  replace KX1 : Hid ((w4_).cell? ⟨w.heap.size + 1, 1, none⟩ = some (.slice A2 nx c2)) := (HBq.out.cell (World.block_lt_of_cell? _ _ KX1.out)).trans KX1.out
  replace HY : Hid (RdV w4_ (w4_).heap.size AY (zc ys)) := HY.out.on HBq.out
  replace KY0 : Hid ((w4_).cell? ⟨w3_.heap.size, 0, none⟩ = some (.int .i64 ey)) := (HBq.out.cell (World.block_lt_of_cell? _ _ KY0.out)).trans KY0.out
  replace KY1 : Hid ((w4_).cell? ⟨w3_.heap.size, 1, none⟩ = some (.slice AY ny cY)) := (HBq.out.cell (World.block_lt_of_cell? _ _ KY1.out)).trans KY1.out
  clear HBq
  clear HBc
  have HS : Hid (∀ W, Below w4_.heap.size w4_ W → W.cell? ⟨w.heap.size, 0, none⟩ = some (.int .i64 len) ∧ W.cell? ⟨w.heap.size, 1, none⟩ = some (.slice A N c) ∧ W.cell? ⟨w.heap.size + 1, 0, none⟩ = some (.int .i64 ix) ∧ W.cell? ⟨w.heap.size + 1, 1, none⟩ = some (.slice A2 nx c2)) := fun W hW => ⟨(hW.cell (World.block_lt_of_cell? _ _ KB0.out)).trans KB0.out, (hW.cell (World.block_lt_of_cell? _ _ KB1.out)).trans KB1.out, (hW.cell (World.block_lt_of_cell? _ _ KX0.out)).trans KX0.out, (hW.cell (World.block_lt_of_cell? _ _ KX1.out)).trans KX1.out⟩
  have HD : Hid (Below w4_.heap.size w4_ w4_.drew) := (Below.refl _ _).drew
  go_wp2
  go_region_held3 (fun w' => w'.cell? ⟨w.heap.size, 0, none⟩ = some (.int .i64 len) ∧ w'.cell? ⟨w.heap.size, 1, none⟩ = some (.slice A N c) ∧ w'.cell? ⟨w.heap.size + 1, 0, none⟩ = some (.int .i64 ix) ∧ w'.cell? ⟨w.heap.size + 1, 1, none⟩ = some (.slice A2 nx c2))
    ((refine HS.out _ ?_; first | exact hk3.out | exact hk2.out | exact hk1.out | exact HD.out))
    ((first
      | (go_at_call 33; have hx := hk2.out; refine (HRc.out wb (HB.out.trans (hx.mono HB.out.size))).mono ?_; rintro e wc ⟨rfl, bq⟩; have hk3 : Hid (Below w4_.heap.size w4_ wc) := hx.trans (bq.mono hx.size); clear bq hx)
      | (go_at_call 32; have hx := hk1.out; refine (HCk.out wa (HB.out.trans (hx.mono HB.out.size))).mono ?_; rintro e wb ⟨rfl, bq⟩; have hk2 : Hid (Below w4_.heap.size w4_ wb) := hx.trans (bq.mono hx.size); clear bq hx)
      | (go_at_call 20; refine (HRe.out _ (HB.out.trans (HD.out.mono HB.out.size))).mono ?_; rintro e wa ⟨rfl, bq⟩; have hk1 : Hid (Below w4_.heap.size w4_ wa) := HD.out.trans (bq.mono HD.out.size); clear bq)))
  have HBq : Hid (Below w4_.heap.size w4_ wc) := hk3.out
  replace HB : Hid (Below w.heap.size w wc) := HB.out.trans (HBq.out.mono HB.out.size)
  replace KB0 : Hid ((wc).cell? ⟨w.heap.size, 0, none⟩ = some (.int .i64 len)) := (HBq.out.cell (World.block_lt_of_cell? _ _ KB0.out)).trans KB0.out
  replace KB1 : Hid ((wc).cell? ⟨w.heap.size, 1, none⟩ = some (.slice A N c)) := (HBq.out.cell (World.block_lt_of_cell? _ _ KB1.out)).trans KB1.out
  replace KX0 : Hid ((wc).cell? ⟨w.heap.size + 1, 0, none⟩ = some (.int .i64 ix)) := (HBq.out.cell (World.block_lt_of_cell? _ _ KX0.out)).trans KX0.out
  replace KX1 : Hid ((wc).cell? ⟨w.heap.size + 1, 1, none⟩ = some (.slice A2 nx c2)) := (HBq.out.cell (World.block_lt_of_cell? _ _ KX1.out)).trans KX1.out
  replace HY : Hid (RdV wc (wc).heap.size AY (zc ys)) := HY.out.on HBq.out
  replace KY0 : Hid ((wc).cell? ⟨w3_.heap.size, 0, none⟩ = some (.int .i64 ey)) := (HBq.out.cell (World.block_lt_of_cell? _ _ KY0.out)).trans KY0.out
  replace KY1 : Hid ((wc).cell? ⟨w3_.heap.size, 1, none⟩ = some (.slice AY ny cY)) := (HBq.out.cell (World.block_lt_of_cell? _ _ KY1.out)).trans KY1.out
  clear HBq
  clear HS HD
  try clear hk1
  try clear hk2
  clear hk3
  have HC := Lib.hid (HBl.out _ HB.out)
  have k_KB0 := KB0.out
  have k_KB1 := KB1.out
  go_wp2_with fail
  clear k_KB0
  clear k_KB1
  refine HC.out.mono ?_
  rintro e w5_ ⟨AL, cL, rfl, rq, bq⟩
  clear HC
  have HBc := Lib.hid bq; clear bq
  have HBq : Hid (Below wc.heap.size wc w5_) := HBc.out
  replace HB : Hid (Below w.heap.size w w5_) := HB.out.trans (HBq.out.mono HB.out.size)
  replace KB0 : Hid ((w5_).cell? ⟨w.heap.size, 0, none⟩ = some (.int .i64 len)) := (HBq.out.cell (World.block_lt_of_cell? _ _ KB0.out)).trans KB0.out
  replace KB1 : Hid ((w5_).cell? ⟨w.heap.size, 1, none⟩ = some (.slice A N c)) := (HBq.out.cell (World.block_lt_of_cell? _ _ KB1.out)).trans KB1.out
  replace KX0 : Hid ((w5_).cell? ⟨w.heap.size + 1, 0, none⟩ = some (.int .i64 ix)) := (HBq.out.cell (World.block_lt_of_cell? _ _ KX0.out)).trans KX0.out
  replace KX1 : Hid ((w5_).cell? ⟨w.heap.size + 1, 1, none⟩ = some (.slice A2 nx c2)) := (HBq.out.cell (World.block_lt_of_cell? _ _ KX1.out)).trans KX1.out
  replace HY : Hid (RdV w5_ (w5_).heap.size AY (zc ys)) := HY.out.on HBq.out
  replace KY0 : Hid ((w5_).cell? ⟨w3_.heap.size, 0, none⟩ = some (.int .i64 ey)) := (HBq.out.cell (World.block_lt_of_cell? _ _ KY0.out)).trans KY0.out
  replace KY1 : Hid ((w5_).cell? ⟨w3_.heap.size, 1, none⟩ = some (.slice AY ny cY)) := (HBq.out.cell (World.block_lt_of_cell? _ _ KY1.out)).trans KY1.out
  clear HBq
  clear HBc
  have HL : Hid (RdV w5_ (w5_).heap.size AL (ic l)) := own_rdv rq
  clear rq
  have HC := Lib.hid (HOa.out AL cL _ HL.out)
  have k_KB0 := KB0.out
  have k_KB1 := KB1.out
  go_wp2_with fail
  clear k_KB0
  clear k_KB1
  refine HC.out.mono ?_
  rintro e w6_ ⟨rfl, bq⟩
  clear HC
  have HBc := Lib.hid bq; clear bq
  have HBq : Hid (Below w5_.heap.size w5_ w6_) := HBc.out
  replace HB : Hid (Below w.heap.size w w6_) := HB.out.trans (HBq.out.mono HB.out.size)
  replace KB0 : Hid ((w6_).cell? ⟨w.heap.size, 0, none⟩ = some (.int .i64 len)) := (HBq.out.cell (World.block_lt_of_cell? _ _ KB0.out)).trans KB0.out
  replace KB1 : Hid ((w6_).cell? ⟨w.heap.size, 1, none⟩ = some (.slice A N c)) := (HBq.out.cell (World.block_lt_of_cell? _ _ KB1.out)).trans KB1.out
  replace KX0 : Hid ((w6_).cell? ⟨w.heap.size + 1, 0, none⟩ = some (.int .i64 ix)) := (HBq.out.cell (World.block_lt_of_cell? _ _ KX0.out)).trans KX0.out
  replace KX1 : Hid ((w6_).cell? ⟨w.heap.size + 1, 1, none⟩ = some (.slice A2 nx c2)) := (HBq.out.cell (World.block_lt_of_cell? _ _ KX1.out)).trans KX1.out
  replace HY : Hid (RdV w6_ (w6_).heap.size AY (zc ys)) := HY.out.on HBq.out
  replace KY0 : Hid ((w6_).cell? ⟨w3_.heap.size, 0, none⟩ = some (.int .i64 ey)) := (HBq.out.cell (World.block_lt_of_cell? _ _ KY0.out)).trans KY0.out
  replace KY1 : Hid ((w6_).cell? ⟨w3_.heap.size, 1, none⟩ = some (.slice AY ny cY)) := (HBq.out.cell (World.block_lt_of_cell? _ _ KY1.out)).trans KY1.out
  replace HL : Hid (RdV w6_ (w6_).heap.size AL (ic l)) := HL.out.on HBq.out
  clear HBq
  clear HBc
  have HC := Lib.hid (HRb.out _ HB.out)
  have k_KB0 := KB0.out
  have k_KB1 := KB1.out
  go_wp2_with fail
  clear k_KB0
  clear k_KB1
  refine HC.out.mono ?_
  rintro e w7_ ⟨AZ, cZ, rfl, rq, bq⟩
  clear HC
  have HBc := Lib.hid bq; clear bq
  have HBq : Hid (Below w6_.heap.size w6_ w7_) := HBc.out
  replace HB : Hid (Below w.heap.size w w7_) := HB.out.trans (HBq.out.mono HB.out.size)
  replace KB0 : Hid ((w7_).cell? ⟨w.heap.size, 0, none⟩ = some (.int .i64 len)) := (HBq.out.cell (World.block_lt_of_cell? _ _ KB0.out)).trans KB0.out
  replace KB1 : Hid ((w7_).cell? ⟨w.heap.size, 1, none⟩ = some (.slice A N c)) := (HBq.out.cell (World.block_lt_of_cell? _ _ KB1.out)).trans KB1.out
  replace KX0 : Hid ((w7_).cell? ⟨w.heap.size + 1, 0, none⟩ = some (.int .i64 ix)) := (HBq.out.cell (World.block_lt_of_cell? _ _ KX0.out)).trans KX0.out
  replace KX1 : Hid ((w7_).cell? ⟨w.heap.size + 1, 1, none⟩ = some (.slice A2 nx c2)) := (HBq.out.cell (World.block_lt_of_cell? _ _ KX1.out)).trans KX1.out
  replace HY : Hid (RdV w7_ (w7_).heap.size AY (zc ys)) := HY.out.on HBq.out
  replace KY0 : Hid ((w7_).cell? ⟨w3_.heap.size, 0, none⟩ = some (.int .i64 ey)) := (HBq.out.cell (World.block_lt_of_cell? _ _ KY0.out)).trans KY0.out
  replace KY1 : Hid ((w7_).cell? ⟨w3_.heap.size, 1, none⟩ = some (.slice AY ny cY)) := (HBq.out.cell (World.block_lt_of_cell? _ _ KY1.out)).trans KY1.out
  replace HL : Hid (RdV w7_ (w7_).heap.size AL (ic l)) := HL.out.on HBq.out
  clear HBq
  clear HBc
  have HZ : Hid (RdV w7_ (w7_).heap.size AZ (zc ys)) := rq
  clear rq
  have HBq : Hid (Below w7_.heap.size w7_ (w7_.alloc (.cells #[.int .i64 ey, .slice AZ ny cZ] 45))) := one_below _ _
  replace HB : Hid (Below w.heap.size w (w7_.alloc (.cells #[.int .i64 ey, .slice AZ ny cZ] 45))) := HB.out.trans (HBq.out.mono HB.out.size)
  replace KB0 : Hid (((w7_.alloc (.cells #[.int .i64 ey, .slice AZ ny cZ] 45))).cell? ⟨w.heap.size, 0, none⟩ = some (.int .i64 len)) := (HBq.out.cell (World.block_lt_of_cell? _ _ KB0.out)).trans KB0.out
  replace KB1 : Hid (((w7_.alloc (.cells #[.int .i64 ey, .slice AZ ny cZ] 45))).cell? ⟨w.heap.size, 1, none⟩ = some (.slice A N c)) := (HBq.out.cell (World.block_lt_of_cell? _ _ KB1.out)).trans KB1.out
  replace KX0 : Hid (((w7_.alloc (.cells #[.int .i64 ey, .slice AZ ny cZ] 45))).cell? ⟨w.heap.size + 1, 0, none⟩ = some (.int .i64 ix)) := (HBq.out.cell (World.block_lt_of_cell? _ _ KX0.out)).trans KX0.out
  replace KX1 : Hid (((w7_.alloc (.cells #[.int .i64 ey, .slice AZ ny cZ] 45))).cell? ⟨w.heap.size + 1, 1, none⟩ = some (.slice A2 nx c2)) := (HBq.out.cell (World.block_lt_of_cell? _ _ KX1.out)).trans KX1.out
  replace HY : Hid (RdV (w7_.alloc (.cells #[.int .i64 ey, .slice AZ ny cZ] 45)) ((w7_.alloc (.cells #[.int .i64 ey, .slice AZ ny cZ] 45))).heap.size AY (zc ys)) := HY.out.on HBq.out
  replace KY0 : Hid (((w7_.alloc (.cells #[.int .i64 ey, .slice AZ ny cZ] 45))).cell? ⟨w3_.heap.size, 0, none⟩ = some (.int .i64 ey)) := (HBq.out.cell (World.block_lt_of_cell? _ _ KY0.out)).trans KY0.out
  replace KY1 : Hid (((w7_.alloc (.cells #[.int .i64 ey, .slice AZ ny cZ] 45))).cell? ⟨w3_.heap.size, 1, none⟩ = some (.slice AY ny cY)) := (HBq.out.cell (World.block_lt_of_cell? _ _ KY1.out)).trans KY1.out
  replace HL : Hid (RdV (w7_.alloc (.cells #[.int .i64 ey, .slice AZ ny cZ] 45)) ((w7_.alloc (.cells #[.int .i64 ey, .slice AZ ny cZ] 45))).heap.size AL (ic l)) := HL.out.on HBq.out
  replace HZ : Hid (RdV (w7_.alloc (.cells #[.int .i64 ey, .slice AZ ny cZ] 45)) ((w7_.alloc (.cells #[.int .i64 ey, .slice AZ ny cZ] 45))).heap.size AZ (zc ys)) := HZ.out.on HBq.out
  clear HBq
  have KZ0 : Hid (((w7_.alloc (.cells #[.int .i64 ey, .slice AZ ny cZ] 45))).cell? ⟨w7_.heap.size, 0, none⟩ = some (.int .i64 ey)) := (cell_at (World.alloc_heap_new w7_ _) 0).trans rfl
  have KZ1 : Hid (((w7_.alloc (.cells #[.int .i64 ey, .slice AZ ny cZ] 45))).cell? ⟨w7_.heap.size, 1, none⟩ = some (.slice AZ ny cZ)) := (cell_at (World.alloc_heap_new w7_ _) 1).trans rfl
  have HC := Lib.hid (rbegun_true (w7_.alloc (.cells #[.int .i64 ey, .slice AZ ny cZ] 45)))
  have k_KB0 := KB0.out
  have k_KB1 := KB1.out
  go_wp2_with fail
  clear k_KB0
  clear k_KB1
  refine HC.out.mono ?_
  rintro e w8_ ⟨rfl, bq⟩
  clear HC
  have HBc := Lib.hid bq; clear bq
  have HBq : Hid (Below (w7_.alloc (.cells #[.int .i64 ey, .slice AZ ny cZ] 45)).heap.size (w7_.alloc (.cells #[.int .i64 ey, .slice AZ ny cZ] 45)) w8_) := HBc.out
  replace HB : Hid (Below w.heap.size w w8_) := HB.out.trans (HBq.out.mono HB.out.size)
  replace KB0 : Hid ((w8_).cell? ⟨w.heap.size, 0, none⟩ = some (.int .i64 len)) := (HBq.out.cell (World.block_lt_of_cell? _ _ KB0.out)).trans KB0.out
  replace KB1 : Hid ((w8_).cell? ⟨w.heap.size, 1, none⟩ = some (.slice A N c)) := (HBq.out.cell (World.block_lt_of_cell? _ _ KB1.out)).trans KB1.out
  replace KX0 : Hid ((w8_).cell? ⟨w.heap.size + 1, 0, none⟩ = some (.int .i64 ix)) := (HBq.out.cell (World.block_lt_of_cell? _ _ KX0.out)).trans KX0.out
  replace KX1 : Hid ((w8_).cell? ⟨w.heap.size + 1, 1, none⟩ = some (.slice A2 nx c2)) := (HBq.out.cell (World.block_lt_of_cell? _ _ KX1.out)).trans KX1.out
  replace HY : Hid (RdV w8_ (w8_).heap.size AY (zc ys)) := HY.out.on HBq.out
  replace KY0 : Hid ((w8_).cell? ⟨w3_.heap.size, 0, none⟩ = some (.int .i64 ey)) := (HBq.out.cell (World.block_lt_of_cell? _ _ KY0.out)).trans KY0.out
  replace KY1 : Hid ((w8_).cell? ⟨w3_.heap.size, 1, none⟩ = some (.slice AY ny cY)) := (HBq.out.cell (World.block_lt_of_cell? _ _ KY1.out)).trans KY1.out
  replace HL : Hid (RdV w8_ (w8_).heap.size AL (ic l)) := HL.out.on HBq.out
  replace HZ : Hid (RdV w8_ (w8_).heap.size AZ (zc ys)) := HZ.out.on HBq.out
  replace KZ0 : Hid ((w8_).cell? ⟨w7_.heap.size, 0, none⟩ = some (.int .i64 ey)) := (HBq.out.cell (World.block_lt_of_cell? _ _ KZ0.out)).trans KZ0.out
  replace KZ1 : Hid ((w8_).cell? ⟨w7_.heap.size, 1, none⟩ = some (.slice AZ ny cZ)) := (HBq.out.cell (World.block_lt_of_cell? _ _ KZ1.out)).trans KZ1.out
  clear HBq
  clear HBc
  have HC := Lib.hid (HSm.out _ _ cY cZ _ HY.out HZ.out)
  have k_KY0 := KY0.out
  have k_KY1 := KY1.out
  have k_KZ0 := KZ0.out
  have k_KZ1 := KZ1.out
  go_wp2_with fail
  clear k_KY0
  clear k_KY1
  clear k_KZ0
  clear k_KZ1
  refine HC.out.mono ?_
  rintro e w9_ ⟨rfl, bq⟩
  clear HC
  have HBc := Lib.hid bq; clear bq
  have HBq : Hid (Below w8_.heap.size w8_ w9_) := HBc.out
  replace HB : Hid (Below w.heap.size w w9_) := HB.out.trans (HBq.out.mono HB.out.size)
  replace KB0 : Hid ((w9_).cell? ⟨w.heap.size, 0, none⟩ = some (.int .i64 len)) := (HBq.out.cell (World.block_lt_of_cell? _ _ KB0.out)).trans KB0.out
  replace KB1 : Hid ((w9_).cell? ⟨w.heap.size, 1, none⟩ = some (.slice A N c)) := (HBq.out.cell (World.block_lt_of_cell? _ _ KB1.out)).trans KB1.out
  replace KX0 : Hid ((w9_).cell? ⟨w.heap.size + 1, 0, none⟩ = some (.int .i64 ix)) := (HBq.out.cell (World.block_lt_of_cell? _ _ KX0.out)).trans KX0.out
  replace KX1 : Hid ((w9_).cell? ⟨w.heap.size + 1, 1, none⟩ = some (.slice A2 nx c2)) := (HBq.out.cell (World.block_lt_of_cell? _ _ KX1.out)).trans KX1.out
  replace HY : Hid (RdV w9_ (w9_).heap.size AY (zc ys)) := HY.out.on HBq.out
  replace KY0 : Hid ((w9_).cell? ⟨w3_.heap.size, 0, none⟩ = some (.int .i64 ey)) := (HBq.out.cell (World.block_lt_of_cell? _ _ KY0.out)).trans KY0.out
  replace KY1 : Hid ((w9_).cell? ⟨w3_.heap.size, 1, none⟩ = some (.slice AY ny cY)) := (HBq.out.cell (World.block_lt_of_cell? _ _ KY1.out)).trans KY1.out
  replace HL : Hid (RdV w9_ (w9_).heap.size AL (ic l)) := HL.out.on HBq.out
  replace HZ : Hid (RdV w9_ (w9_).heap.size AZ (zc ys)) := HZ.out.on HBq.out
  replace KZ0 : Hid ((w9_).cell? ⟨w7_.heap.size, 0, none⟩ = some (.int .i64 ey)) := (HBq.out.cell (World.block_lt_of_cell? _ _ KZ0.out)).trans KZ0.out
  replace KZ1 : Hid ((w9_).cell? ⟨w7_.heap.size, 1, none⟩ = some (.slice AZ ny cZ)) := (HBq.out.cell (World.block_lt_of_cell? _ _ KZ1.out)).trans KZ1.out
  clear HBq
  clear HBc
  have HC := Lib.hid (HPc.out _ HB.out)
  have k_KB0 := KB0.out
  have k_KB1 := KB1.out
  have k_KX0 := KX0.out
  have k_KX1 := KX1.out
  go_wp2_with fail
  clear k_KB0
  clear k_KB1
  clear k_KX0
  clear k_KX1
  refine HC.out.mono ?_
  rintro e w10_ ⟨rfl, bq⟩
  clear HC
  have HBc := Lib.hid bq; clear bq
  have HBq : Hid (Below w9_.heap.size w9_ w10_) := HBc.out
  replace HB : Hid (Below w.heap.size w w10_) := HB.out.trans (HBq.out.mono HB.out.size)
  replace KB0 : Hid ((w10_).cell? ⟨w.heap.size, 0, none⟩ = some (.int .i64 len)) := (HBq.out.cell (World.block_lt_of_cell? _ _ KB0.out)).trans KB0.out
  replace KB1 : Hid ((w10_).cell? ⟨w.heap.size, 1, none⟩ = some (.slice A N c)) := (HBq.out.cell (World.block_lt_of_cell? _ _ KB1.out)).trans KB1.out
  replace KX0 : Hid ((w10_).cell? ⟨w.heap.size + 1, 0, none⟩ = some (.int .i64 ix)) := (HBq.out.cell (World.block_lt_of_cell? _ _ KX0.out)).trans KX0.out
  replace KX1 : Hid ((w10_).cell? ⟨w.heap.size + 1, 1, none⟩ = some (.slice A2 nx c2)) := (HBq.out.cell (World.block_lt_of_cell? _ _ KX1.out)).trans KX1.out
  replace HY : Hid (RdV w10_ (w10_).heap.size AY (zc ys)) := HY.out.on HBq.out
  replace KY0 : Hid ((w10_).cell? ⟨w3_.heap.size, 0, none⟩ = some (.int .i64 ey)) := (HBq.out.cell (World.block_lt_of_cell? _ _ KY0.out)).trans KY0.out
  replace KY1 : Hid ((w10_).cell? ⟨w3_.heap.size, 1, none⟩ = some (.slice AY ny cY)) := (HBq.out.cell (World.block_lt_of_cell? _ _ KY1.out)).trans KY1.out
  replace HL : Hid (RdV w10_ (w10_).heap.size AL (ic l)) := HL.out.on HBq.out
  replace HZ : Hid (RdV w10_ (w10_).heap.size AZ (zc ys)) := HZ.out.on HBq.out
  replace KZ0 : Hid ((w10_).cell? ⟨w7_.heap.size, 0, none⟩ = some (.int .i64 ey)) := (HBq.out.cell (World.block_lt_of_cell? _ _ KZ0.out)).trans KZ0.out
  replace KZ1 : Hid ((w10_).cell? ⟨w7_.heap.size, 1, none⟩ = some (.slice AZ ny cZ)) := (HBq.out.cell (World.block_lt_of_cell? _ _ KZ1.out)).trans KZ1.out
  clear HBq
  clear HBc
  go_wp2
  go_ret
  exact ⟨rfl, HB.out⟩
set_option maxHeartbeats 8000000 in
theorem rt_w_ra_x (len : Int) (A : Option Addr) (N c : Nat) (ix : Int) (A2 : Option Addr) (nx c2 : Nat) (p bit i every : Int) (n s ny : Nat) (ew ev eu ey g : Int) (ys : List Int) (l : List Bool) (w : World)
    (HRk : Hid (∀ V, Below w.heap.size w V → Calls Try.prog 28 #[.agg #[.int .i64 len, .slice A N c], .int .i64 p] V (RkP V n 0)))
    (HSl : Hid (∀ V, Below w.heap.size w V → Calls Try.prog 29 #[.agg #[.int .i64 len, .slice A N c], .int .i64 bit, .int .i64 i] V (RkP V 0 3)))
    (HBd : Hid (∀ V, Below w.heap.size w V → Calls Try.prog 30 #[.agg #[.int .i64 len, .slice A N c], .int .i64 every] V fun x w' => ∃ A c, x = .returned (.tuple #[.agg #[.int .i64 ey, .slice A ny c], .int .i64 g]) ∧ RdV w' w'.heap.size A (zc ys) ∧ Below V.heap.size V w'))
    (HBy : Hid (∀ V, Below w.heap.size w V → Calls Try.prog 31 #[.agg #[.int .i64 len, .slice A N c], .agg #[.int .i64 ix, .slice A2 nx c2], .int .i64 p] V (RkP V 0 eu)))
    (HRe : Hid (∀ V, Below w.heap.size w V → Calls Try.prog 20 #[.agg #[.int .i64 len, .slice A N c], .int .i64 p] V fun e w' => e = .returned (.int .i64 0) ∧ Below V.heap.size V w'))
    (HCk : Hid (∀ V, Below w.heap.size w V → Calls Try.prog 32 #[.agg #[.int .i64 len, .slice A N c]] V fun e w' => e = .returned (.int .i64 0) ∧ Below V.heap.size V w'))
    (HRc : Hid (∀ V, Below w.heap.size w V → Calls Try.prog 33 #[.agg #[.int .i64 len, .slice A N c], .agg #[.int .i64 ix, .slice A2 nx c2]] V fun e w' => e = .returned (.int .i64 eu) ∧ Below V.heap.size V w'))
    (HRb : Hid (∀ V, Below w.heap.size w V → Calls Try.prog 36 #[.agg #[.int .i64 len, .slice A N c], .int .i64 every] V fun x w' => ∃ A c, x = .returned (.tuple #[.agg #[.int .i64 ey, .slice A ny c], .int .i64 g]) ∧ RdV w' w'.heap.size A (zc ys) ∧ Below V.heap.size V w'))
    (HPc : Hid (∀ V, Below w.heap.size w V → Calls Try.prog 39 #[.agg #[.int .i64 len, .slice A N c], .agg #[.int .i64 ix, .slice A2 nx c2]] V fun e w' => e = .returned (.int .i64 eu) ∧ Below V.heap.size V w'))
    (HSm : Hid (∀ A B c d V, RdV V V.heap.size A (zc ys) → RdV V V.heap.size B (zc ys) → Calls Try.prog 38 #[.slice A ny c, .slice B ny d] V fun e w' => e = .returned (.bool true) ∧ Below V.heap.size V w'))
    (HBl : Hid (∀ V, Below w.heap.size w V → Calls Try.prog 22 #[.agg #[.int .i64 len, .slice A N c]] V (Listed V l)))
    (HOa : Hid (∀ A c V, RdV V V.heap.size A (ic l) → Calls Try.prog 34 #[.slice A l.length c, .int .i64 p] V fun e w' => e = .returned (.int .i64 (n : Int)) ∧ Below V.heap.size V w'))
    (tu : (eu == 0) = false) (ta : decide (bit < 0) = true) :
    Calls Try.prog 4 #[.agg #[.int .i64 len, .slice A N c], .int .i64 p, .int .i64 bit, .int .i64 i, .int .i64 every, .agg #[.int .i64 ix, .slice A2 nx c2]] w fun e w' => e = .returned (.bool true) ∧ Below w.heap.size w w' := by
  have HB : Hid (Below w.heap.size w w) := Below.refl _ w
  go_enter Try.func4, Try.ntmps4
  have HBq : Hid (Below w.heap.size w (w.alloc (.cells #[.int .i64 len, .slice A N c] 25))) := one_below _ _
  replace HB : Hid (Below w.heap.size w (w.alloc (.cells #[.int .i64 len, .slice A N c] 25))) := HB.out.trans (HBq.out.mono HB.out.size)
  clear HBq
  have KB0 : Hid (((w.alloc (.cells #[.int .i64 len, .slice A N c] 25))).cell? ⟨w.heap.size, 0, none⟩ = some (.int .i64 len)) := (cell_at (World.alloc_heap_new w _) 0).trans rfl
  have KB1 : Hid (((w.alloc (.cells #[.int .i64 len, .slice A N c] 25))).cell? ⟨w.heap.size, 1, none⟩ = some (.slice A N c)) := (cell_at (World.alloc_heap_new w _) 1).trans rfl
  have HBq : Hid (Below (w.alloc (.cells #[.int .i64 len, .slice A N c] 25)).heap.size (w.alloc (.cells #[.int .i64 len, .slice A N c] 25)) ((w.alloc (.cells #[.int .i64 len, .slice A N c] 25)).alloc (.cells #[.int .i64 ix, .slice A2 nx c2] 45))) := one_below _ _
  replace HB : Hid (Below w.heap.size w ((w.alloc (.cells #[.int .i64 len, .slice A N c] 25)).alloc (.cells #[.int .i64 ix, .slice A2 nx c2] 45))) := HB.out.trans (HBq.out.mono HB.out.size)
  replace KB0 : Hid ((((w.alloc (.cells #[.int .i64 len, .slice A N c] 25)).alloc (.cells #[.int .i64 ix, .slice A2 nx c2] 45))).cell? ⟨w.heap.size, 0, none⟩ = some (.int .i64 len)) := (HBq.out.cell (World.block_lt_of_cell? _ _ KB0.out)).trans KB0.out
  replace KB1 : Hid ((((w.alloc (.cells #[.int .i64 len, .slice A N c] 25)).alloc (.cells #[.int .i64 ix, .slice A2 nx c2] 45))).cell? ⟨w.heap.size, 1, none⟩ = some (.slice A N c)) := (HBq.out.cell (World.block_lt_of_cell? _ _ KB1.out)).trans KB1.out
  clear HBq
  have KX0 : Hid ((((w.alloc (.cells #[.int .i64 len, .slice A N c] 25)).alloc (.cells #[.int .i64 ix, .slice A2 nx c2] 45))).cell? ⟨w.heap.size + 1, 0, none⟩ = some (.int .i64 ix)) := by { have h := cell_at (World.alloc_heap_new (w.alloc (.cells #[.int .i64 len, .slice A N c] 25)) (.cells #[.int .i64 ix, .slice A2 nx c2] 45)) 0; rw [World.size_alloc] at h; exact h }
  have KX1 : Hid ((((w.alloc (.cells #[.int .i64 len, .slice A N c] 25)).alloc (.cells #[.int .i64 ix, .slice A2 nx c2] 45))).cell? ⟨w.heap.size + 1, 1, none⟩ = some (.slice A2 nx c2)) := by { have h := cell_at (World.alloc_heap_new (w.alloc (.cells #[.int .i64 len, .slice A N c] 25)) (.cells #[.int .i64 ix, .slice A2 nx c2] 45)) 1; rw [World.size_alloc] at h; exact h }
  have HC := Lib.hid (HRk.out _ HB.out)
  have k_KB0 := KB0.out
  have k_KB1 := KB1.out
  have k_KX0 := KX0.out
  have k_KX1 := KX1.out
  go_wp2_with fail
  clear k_KB0
  clear k_KB1
  clear k_KX0
  clear k_KX1
  refine HC.out.mono ?_
  rintro e w1_ ⟨rfl, bq⟩
  clear HC
  have HBc := Lib.hid bq; clear bq
  have HBq : Hid (Below ((w.alloc (.cells #[.int .i64 len, .slice A N c] 25)).alloc (.cells #[.int .i64 ix, .slice A2 nx c2] 45)).heap.size ((w.alloc (.cells #[.int .i64 len, .slice A N c] 25)).alloc (.cells #[.int .i64 ix, .slice A2 nx c2] 45)) w1_) := HBc.out
  replace HB : Hid (Below w.heap.size w w1_) := HB.out.trans (HBq.out.mono HB.out.size)
  replace KB0 : Hid ((w1_).cell? ⟨w.heap.size, 0, none⟩ = some (.int .i64 len)) := (HBq.out.cell (World.block_lt_of_cell? _ _ KB0.out)).trans KB0.out
  replace KB1 : Hid ((w1_).cell? ⟨w.heap.size, 1, none⟩ = some (.slice A N c)) := (HBq.out.cell (World.block_lt_of_cell? _ _ KB1.out)).trans KB1.out
  replace KX0 : Hid ((w1_).cell? ⟨w.heap.size + 1, 0, none⟩ = some (.int .i64 ix)) := (HBq.out.cell (World.block_lt_of_cell? _ _ KX0.out)).trans KX0.out
  replace KX1 : Hid ((w1_).cell? ⟨w.heap.size + 1, 1, none⟩ = some (.slice A2 nx c2)) := (HBq.out.cell (World.block_lt_of_cell? _ _ KX1.out)).trans KX1.out
  clear HBq
  clear HBc
  have HC := Lib.hid (HSl.out _ HB.out)
  have k_KB0 := KB0.out
  have k_KB1 := KB1.out
  have k_KX0 := KX0.out
  have k_KX1 := KX1.out
  go_wp2_with fail
  clear k_KB0
  clear k_KB1
  clear k_KX0
  clear k_KX1
  refine HC.out.mono ?_
  rintro e w2_ ⟨rfl, bq⟩
  clear HC
  have HBc := Lib.hid bq; clear bq
  have HBq : Hid (Below w1_.heap.size w1_ w2_) := HBc.out
  replace HB : Hid (Below w.heap.size w w2_) := HB.out.trans (HBq.out.mono HB.out.size)
  replace KB0 : Hid ((w2_).cell? ⟨w.heap.size, 0, none⟩ = some (.int .i64 len)) := (HBq.out.cell (World.block_lt_of_cell? _ _ KB0.out)).trans KB0.out
  replace KB1 : Hid ((w2_).cell? ⟨w.heap.size, 1, none⟩ = some (.slice A N c)) := (HBq.out.cell (World.block_lt_of_cell? _ _ KB1.out)).trans KB1.out
  replace KX0 : Hid ((w2_).cell? ⟨w.heap.size + 1, 0, none⟩ = some (.int .i64 ix)) := (HBq.out.cell (World.block_lt_of_cell? _ _ KX0.out)).trans KX0.out
  replace KX1 : Hid ((w2_).cell? ⟨w.heap.size + 1, 1, none⟩ = some (.slice A2 nx c2)) := (HBq.out.cell (World.block_lt_of_cell? _ _ KX1.out)).trans KX1.out
  clear HBq
  clear HBc
  have HC := Lib.hid (HBd.out _ HB.out)
  have k_KB0 := KB0.out
  have k_KB1 := KB1.out
  have k_KX0 := KX0.out
  have k_KX1 := KX1.out
  go_wp2_with fail
  clear k_KB0
  clear k_KB1
  clear k_KX0
  clear k_KX1
  refine HC.out.mono ?_
  rintro e w3_ ⟨AY, cY, rfl, rq, bq⟩
  clear HC
  have HBc := Lib.hid bq; clear bq
  have HBq : Hid (Below w2_.heap.size w2_ w3_) := HBc.out
  replace HB : Hid (Below w.heap.size w w3_) := HB.out.trans (HBq.out.mono HB.out.size)
  replace KB0 : Hid ((w3_).cell? ⟨w.heap.size, 0, none⟩ = some (.int .i64 len)) := (HBq.out.cell (World.block_lt_of_cell? _ _ KB0.out)).trans KB0.out
  replace KB1 : Hid ((w3_).cell? ⟨w.heap.size, 1, none⟩ = some (.slice A N c)) := (HBq.out.cell (World.block_lt_of_cell? _ _ KB1.out)).trans KB1.out
  replace KX0 : Hid ((w3_).cell? ⟨w.heap.size + 1, 0, none⟩ = some (.int .i64 ix)) := (HBq.out.cell (World.block_lt_of_cell? _ _ KX0.out)).trans KX0.out
  replace KX1 : Hid ((w3_).cell? ⟨w.heap.size + 1, 1, none⟩ = some (.slice A2 nx c2)) := (HBq.out.cell (World.block_lt_of_cell? _ _ KX1.out)).trans KX1.out
  clear HBq
  clear HBc
  have HY : Hid (RdV w3_ (w3_).heap.size AY (zc ys)) := rq
  clear rq
  have HBq : Hid (Below w3_.heap.size w3_ (w3_.alloc (.cells #[.int .i64 ey, .slice AY ny cY] 45))) := one_below _ _
  replace HB : Hid (Below w.heap.size w (w3_.alloc (.cells #[.int .i64 ey, .slice AY ny cY] 45))) := HB.out.trans (HBq.out.mono HB.out.size)
  replace KB0 : Hid (((w3_.alloc (.cells #[.int .i64 ey, .slice AY ny cY] 45))).cell? ⟨w.heap.size, 0, none⟩ = some (.int .i64 len)) := (HBq.out.cell (World.block_lt_of_cell? _ _ KB0.out)).trans KB0.out
  replace KB1 : Hid (((w3_.alloc (.cells #[.int .i64 ey, .slice AY ny cY] 45))).cell? ⟨w.heap.size, 1, none⟩ = some (.slice A N c)) := (HBq.out.cell (World.block_lt_of_cell? _ _ KB1.out)).trans KB1.out
  replace KX0 : Hid (((w3_.alloc (.cells #[.int .i64 ey, .slice AY ny cY] 45))).cell? ⟨w.heap.size + 1, 0, none⟩ = some (.int .i64 ix)) := (HBq.out.cell (World.block_lt_of_cell? _ _ KX0.out)).trans KX0.out
  replace KX1 : Hid (((w3_.alloc (.cells #[.int .i64 ey, .slice AY ny cY] 45))).cell? ⟨w.heap.size + 1, 1, none⟩ = some (.slice A2 nx c2)) := (HBq.out.cell (World.block_lt_of_cell? _ _ KX1.out)).trans KX1.out
  replace HY : Hid (RdV (w3_.alloc (.cells #[.int .i64 ey, .slice AY ny cY] 45)) ((w3_.alloc (.cells #[.int .i64 ey, .slice AY ny cY] 45))).heap.size AY (zc ys)) := HY.out.on HBq.out
  clear HBq
  have KY0 : Hid (((w3_.alloc (.cells #[.int .i64 ey, .slice AY ny cY] 45))).cell? ⟨w3_.heap.size, 0, none⟩ = some (.int .i64 ey)) := (cell_at (World.alloc_heap_new w3_ _) 0).trans rfl
  have KY1 : Hid (((w3_.alloc (.cells #[.int .i64 ey, .slice AY ny cY] 45))).cell? ⟨w3_.heap.size, 1, none⟩ = some (.slice AY ny cY)) := (cell_at (World.alloc_heap_new w3_ _) 1).trans rfl
  have HC := Lib.hid (HBy.out _ HB.out)
  have k_KB0 := KB0.out
  have k_KB1 := KB1.out
  have k_KX0 := KX0.out
  have k_KX1 := KX1.out
  go_wp2_with fail
  clear k_KB0
  clear k_KB1
  clear k_KX0
  clear k_KX1
  refine HC.out.mono ?_
  rintro e w4_ ⟨rfl, bq⟩
  clear HC
  have HBc := Lib.hid bq; clear bq
  have HBq : Hid (Below (w3_.alloc (.cells #[.int .i64 ey, .slice AY ny cY] 45)).heap.size (w3_.alloc (.cells #[.int .i64 ey, .slice AY ny cY] 45)) w4_) := HBc.out
  replace HB : Hid (Below w.heap.size w w4_) := HB.out.trans (HBq.out.mono HB.out.size)
  replace KB0 : Hid ((w4_).cell? ⟨w.heap.size, 0, none⟩ = some (.int .i64 len)) := (HBq.out.cell (World.block_lt_of_cell? _ _ KB0.out)).trans KB0.out
  replace KB1 : Hid ((w4_).cell? ⟨w.heap.size, 1, none⟩ = some (.slice A N c)) := (HBq.out.cell (World.block_lt_of_cell? _ _ KB1.out)).trans KB1.out
  replace KX0 : Hid ((w4_).cell? ⟨w.heap.size + 1, 0, none⟩ = some (.int .i64 ix)) := (HBq.out.cell (World.block_lt_of_cell? _ _ KX0.out)).trans KX0.out
  replace KX1 : Hid ((w4_).cell? ⟨w.heap.size + 1, 1, none⟩ = some (.slice A2 nx c2)) := (HBq.out.cell (World.block_lt_of_cell? _ _ KX1.out)).trans KX1.out
  replace HY : Hid (RdV w4_ (w4_).heap.size AY (zc ys)) := HY.out.on HBq.out
  replace KY0 : Hid ((w4_).cell? ⟨w3_.heap.size, 0, none⟩ = some (.int .i64 ey)) := (HBq.out.cell (World.block_lt_of_cell? _ _ KY0.out)).trans KY0.out
  replace KY1 : Hid ((w4_).cell? ⟨w3_.heap.size, 1, none⟩ = some (.slice AY ny cY)) := (HBq.out.cell (World.block_lt_of_cell? _ _ KY1.out)).trans KY1.out
  clear HBq
  clear HBc
  have HS : Hid (∀ W, Below w4_.heap.size w4_ W → W.cell? ⟨w.heap.size, 0, none⟩ = some (.int .i64 len) ∧ W.cell? ⟨w.heap.size, 1, none⟩ = some (.slice A N c) ∧ W.cell? ⟨w.heap.size + 1, 0, none⟩ = some (.int .i64 ix) ∧ W.cell? ⟨w.heap.size + 1, 1, none⟩ = some (.slice A2 nx c2)) := fun W hW => ⟨(hW.cell (World.block_lt_of_cell? _ _ KB0.out)).trans KB0.out, (hW.cell (World.block_lt_of_cell? _ _ KB1.out)).trans KB1.out, (hW.cell (World.block_lt_of_cell? _ _ KX0.out)).trans KX0.out, (hW.cell (World.block_lt_of_cell? _ _ KX1.out)).trans KX1.out⟩
  have HD : Hid (Below w4_.heap.size w4_ w4_.drew) := (Below.refl _ _).drew
  go_wp2
  go_region_held3 (fun w' => w'.cell? ⟨w.heap.size, 0, none⟩ = some (.int .i64 len) ∧ w'.cell? ⟨w.heap.size, 1, none⟩ = some (.slice A N c) ∧ w'.cell? ⟨w.heap.size + 1, 0, none⟩ = some (.int .i64 ix) ∧ w'.cell? ⟨w.heap.size + 1, 1, none⟩ = some (.slice A2 nx c2))
    ((refine HS.out _ ?_; first | exact hk3.out | exact hk2.out | exact hk1.out | exact HD.out))
    ((first
      | (go_at_call 33; have hx := hk2.out; refine (HRc.out wb (HB.out.trans (hx.mono HB.out.size))).mono ?_; rintro e wc ⟨rfl, bq⟩; have hk3 : Hid (Below w4_.heap.size w4_ wc) := hx.trans (bq.mono hx.size); clear bq hx)
      | (go_at_call 32; have hx := hk1.out; refine (HCk.out wa (HB.out.trans (hx.mono HB.out.size))).mono ?_; rintro e wb ⟨rfl, bq⟩; have hk2 : Hid (Below w4_.heap.size w4_ wb) := hx.trans (bq.mono hx.size); clear bq hx)
      | (go_at_call 20; refine (HRe.out _ (HB.out.trans (HD.out.mono HB.out.size))).mono ?_; rintro e wa ⟨rfl, bq⟩; have hk1 : Hid (Below w4_.heap.size w4_ wa) := HD.out.trans (bq.mono HD.out.size); clear bq)))
  have HBq : Hid (Below w4_.heap.size w4_ wc) := hk3.out
  replace HB : Hid (Below w.heap.size w wc) := HB.out.trans (HBq.out.mono HB.out.size)
  replace KB0 : Hid ((wc).cell? ⟨w.heap.size, 0, none⟩ = some (.int .i64 len)) := (HBq.out.cell (World.block_lt_of_cell? _ _ KB0.out)).trans KB0.out
  replace KB1 : Hid ((wc).cell? ⟨w.heap.size, 1, none⟩ = some (.slice A N c)) := (HBq.out.cell (World.block_lt_of_cell? _ _ KB1.out)).trans KB1.out
  replace KX0 : Hid ((wc).cell? ⟨w.heap.size + 1, 0, none⟩ = some (.int .i64 ix)) := (HBq.out.cell (World.block_lt_of_cell? _ _ KX0.out)).trans KX0.out
  replace KX1 : Hid ((wc).cell? ⟨w.heap.size + 1, 1, none⟩ = some (.slice A2 nx c2)) := (HBq.out.cell (World.block_lt_of_cell? _ _ KX1.out)).trans KX1.out
  replace HY : Hid (RdV wc (wc).heap.size AY (zc ys)) := HY.out.on HBq.out
  replace KY0 : Hid ((wc).cell? ⟨w3_.heap.size, 0, none⟩ = some (.int .i64 ey)) := (HBq.out.cell (World.block_lt_of_cell? _ _ KY0.out)).trans KY0.out
  replace KY1 : Hid ((wc).cell? ⟨w3_.heap.size, 1, none⟩ = some (.slice AY ny cY)) := (HBq.out.cell (World.block_lt_of_cell? _ _ KY1.out)).trans KY1.out
  clear HBq
  clear HS HD
  try clear hk1
  try clear hk2
  clear hk3
  have HC := Lib.hid (HBl.out _ HB.out)
  have k_KB0 := KB0.out
  have k_KB1 := KB1.out
  go_wp2_with fail
  clear k_KB0
  clear k_KB1
  refine HC.out.mono ?_
  rintro e w5_ ⟨AL, cL, rfl, rq, bq⟩
  clear HC
  have HBc := Lib.hid bq; clear bq
  have HBq : Hid (Below wc.heap.size wc w5_) := HBc.out
  replace HB : Hid (Below w.heap.size w w5_) := HB.out.trans (HBq.out.mono HB.out.size)
  replace KB0 : Hid ((w5_).cell? ⟨w.heap.size, 0, none⟩ = some (.int .i64 len)) := (HBq.out.cell (World.block_lt_of_cell? _ _ KB0.out)).trans KB0.out
  replace KB1 : Hid ((w5_).cell? ⟨w.heap.size, 1, none⟩ = some (.slice A N c)) := (HBq.out.cell (World.block_lt_of_cell? _ _ KB1.out)).trans KB1.out
  replace KX0 : Hid ((w5_).cell? ⟨w.heap.size + 1, 0, none⟩ = some (.int .i64 ix)) := (HBq.out.cell (World.block_lt_of_cell? _ _ KX0.out)).trans KX0.out
  replace KX1 : Hid ((w5_).cell? ⟨w.heap.size + 1, 1, none⟩ = some (.slice A2 nx c2)) := (HBq.out.cell (World.block_lt_of_cell? _ _ KX1.out)).trans KX1.out
  replace HY : Hid (RdV w5_ (w5_).heap.size AY (zc ys)) := HY.out.on HBq.out
  replace KY0 : Hid ((w5_).cell? ⟨w3_.heap.size, 0, none⟩ = some (.int .i64 ey)) := (HBq.out.cell (World.block_lt_of_cell? _ _ KY0.out)).trans KY0.out
  replace KY1 : Hid ((w5_).cell? ⟨w3_.heap.size, 1, none⟩ = some (.slice AY ny cY)) := (HBq.out.cell (World.block_lt_of_cell? _ _ KY1.out)).trans KY1.out
  clear HBq
  clear HBc
  have HL : Hid (RdV w5_ (w5_).heap.size AL (ic l)) := own_rdv rq
  clear rq
  have HC := Lib.hid (HOa.out AL cL _ HL.out)
  have k_KB0 := KB0.out
  have k_KB1 := KB1.out
  go_wp2_with fail
  clear k_KB0
  clear k_KB1
  refine HC.out.mono ?_
  rintro e w6_ ⟨rfl, bq⟩
  clear HC
  have HBc := Lib.hid bq; clear bq
  have HBq : Hid (Below w5_.heap.size w5_ w6_) := HBc.out
  replace HB : Hid (Below w.heap.size w w6_) := HB.out.trans (HBq.out.mono HB.out.size)
  replace KB0 : Hid ((w6_).cell? ⟨w.heap.size, 0, none⟩ = some (.int .i64 len)) := (HBq.out.cell (World.block_lt_of_cell? _ _ KB0.out)).trans KB0.out
  replace KB1 : Hid ((w6_).cell? ⟨w.heap.size, 1, none⟩ = some (.slice A N c)) := (HBq.out.cell (World.block_lt_of_cell? _ _ KB1.out)).trans KB1.out
  replace KX0 : Hid ((w6_).cell? ⟨w.heap.size + 1, 0, none⟩ = some (.int .i64 ix)) := (HBq.out.cell (World.block_lt_of_cell? _ _ KX0.out)).trans KX0.out
  replace KX1 : Hid ((w6_).cell? ⟨w.heap.size + 1, 1, none⟩ = some (.slice A2 nx c2)) := (HBq.out.cell (World.block_lt_of_cell? _ _ KX1.out)).trans KX1.out
  replace HY : Hid (RdV w6_ (w6_).heap.size AY (zc ys)) := HY.out.on HBq.out
  replace KY0 : Hid ((w6_).cell? ⟨w3_.heap.size, 0, none⟩ = some (.int .i64 ey)) := (HBq.out.cell (World.block_lt_of_cell? _ _ KY0.out)).trans KY0.out
  replace KY1 : Hid ((w6_).cell? ⟨w3_.heap.size, 1, none⟩ = some (.slice AY ny cY)) := (HBq.out.cell (World.block_lt_of_cell? _ _ KY1.out)).trans KY1.out
  replace HL : Hid (RdV w6_ (w6_).heap.size AL (ic l)) := HL.out.on HBq.out
  clear HBq
  clear HBc
  have HC := Lib.hid (HRb.out _ HB.out)
  have k_KB0 := KB0.out
  have k_KB1 := KB1.out
  go_wp2_with fail
  clear k_KB0
  clear k_KB1
  refine HC.out.mono ?_
  rintro e w7_ ⟨AZ, cZ, rfl, rq, bq⟩
  clear HC
  have HBc := Lib.hid bq; clear bq
  have HBq : Hid (Below w6_.heap.size w6_ w7_) := HBc.out
  replace HB : Hid (Below w.heap.size w w7_) := HB.out.trans (HBq.out.mono HB.out.size)
  replace KB0 : Hid ((w7_).cell? ⟨w.heap.size, 0, none⟩ = some (.int .i64 len)) := (HBq.out.cell (World.block_lt_of_cell? _ _ KB0.out)).trans KB0.out
  replace KB1 : Hid ((w7_).cell? ⟨w.heap.size, 1, none⟩ = some (.slice A N c)) := (HBq.out.cell (World.block_lt_of_cell? _ _ KB1.out)).trans KB1.out
  replace KX0 : Hid ((w7_).cell? ⟨w.heap.size + 1, 0, none⟩ = some (.int .i64 ix)) := (HBq.out.cell (World.block_lt_of_cell? _ _ KX0.out)).trans KX0.out
  replace KX1 : Hid ((w7_).cell? ⟨w.heap.size + 1, 1, none⟩ = some (.slice A2 nx c2)) := (HBq.out.cell (World.block_lt_of_cell? _ _ KX1.out)).trans KX1.out
  replace HY : Hid (RdV w7_ (w7_).heap.size AY (zc ys)) := HY.out.on HBq.out
  replace KY0 : Hid ((w7_).cell? ⟨w3_.heap.size, 0, none⟩ = some (.int .i64 ey)) := (HBq.out.cell (World.block_lt_of_cell? _ _ KY0.out)).trans KY0.out
  replace KY1 : Hid ((w7_).cell? ⟨w3_.heap.size, 1, none⟩ = some (.slice AY ny cY)) := (HBq.out.cell (World.block_lt_of_cell? _ _ KY1.out)).trans KY1.out
  replace HL : Hid (RdV w7_ (w7_).heap.size AL (ic l)) := HL.out.on HBq.out
  clear HBq
  clear HBc
  have HZ : Hid (RdV w7_ (w7_).heap.size AZ (zc ys)) := rq
  clear rq
  have HBq : Hid (Below w7_.heap.size w7_ (w7_.alloc (.cells #[.int .i64 ey, .slice AZ ny cZ] 45))) := one_below _ _
  replace HB : Hid (Below w.heap.size w (w7_.alloc (.cells #[.int .i64 ey, .slice AZ ny cZ] 45))) := HB.out.trans (HBq.out.mono HB.out.size)
  replace KB0 : Hid (((w7_.alloc (.cells #[.int .i64 ey, .slice AZ ny cZ] 45))).cell? ⟨w.heap.size, 0, none⟩ = some (.int .i64 len)) := (HBq.out.cell (World.block_lt_of_cell? _ _ KB0.out)).trans KB0.out
  replace KB1 : Hid (((w7_.alloc (.cells #[.int .i64 ey, .slice AZ ny cZ] 45))).cell? ⟨w.heap.size, 1, none⟩ = some (.slice A N c)) := (HBq.out.cell (World.block_lt_of_cell? _ _ KB1.out)).trans KB1.out
  replace KX0 : Hid (((w7_.alloc (.cells #[.int .i64 ey, .slice AZ ny cZ] 45))).cell? ⟨w.heap.size + 1, 0, none⟩ = some (.int .i64 ix)) := (HBq.out.cell (World.block_lt_of_cell? _ _ KX0.out)).trans KX0.out
  replace KX1 : Hid (((w7_.alloc (.cells #[.int .i64 ey, .slice AZ ny cZ] 45))).cell? ⟨w.heap.size + 1, 1, none⟩ = some (.slice A2 nx c2)) := (HBq.out.cell (World.block_lt_of_cell? _ _ KX1.out)).trans KX1.out
  replace HY : Hid (RdV (w7_.alloc (.cells #[.int .i64 ey, .slice AZ ny cZ] 45)) ((w7_.alloc (.cells #[.int .i64 ey, .slice AZ ny cZ] 45))).heap.size AY (zc ys)) := HY.out.on HBq.out
  replace KY0 : Hid (((w7_.alloc (.cells #[.int .i64 ey, .slice AZ ny cZ] 45))).cell? ⟨w3_.heap.size, 0, none⟩ = some (.int .i64 ey)) := (HBq.out.cell (World.block_lt_of_cell? _ _ KY0.out)).trans KY0.out
  replace KY1 : Hid (((w7_.alloc (.cells #[.int .i64 ey, .slice AZ ny cZ] 45))).cell? ⟨w3_.heap.size, 1, none⟩ = some (.slice AY ny cY)) := (HBq.out.cell (World.block_lt_of_cell? _ _ KY1.out)).trans KY1.out
  replace HL : Hid (RdV (w7_.alloc (.cells #[.int .i64 ey, .slice AZ ny cZ] 45)) ((w7_.alloc (.cells #[.int .i64 ey, .slice AZ ny cZ] 45))).heap.size AL (ic l)) := HL.out.on HBq.out
  replace HZ : Hid (RdV (w7_.alloc (.cells #[.int .i64 ey, .slice AZ ny cZ] 45)) ((w7_.alloc (.cells #[.int .i64 ey, .slice AZ ny cZ] 45))).heap.size AZ (zc ys)) := HZ.out.on HBq.out
  clear HBq
  have KZ0 : Hid (((w7_.alloc (.cells #[.int .i64 ey, .slice AZ ny cZ] 45))).cell? ⟨w7_.heap.size, 0, none⟩ = some (.int .i64 ey)) := (cell_at (World.alloc_heap_new w7_ _) 0).trans rfl
  have KZ1 : Hid (((w7_.alloc (.cells #[.int .i64 ey, .slice AZ ny cZ] 45))).cell? ⟨w7_.heap.size, 1, none⟩ = some (.slice AZ ny cZ)) := (cell_at (World.alloc_heap_new w7_ _) 1).trans rfl
  have HC := Lib.hid (rbegun_true (w7_.alloc (.cells #[.int .i64 ey, .slice AZ ny cZ] 45)))
  have k_KB0 := KB0.out
  have k_KB1 := KB1.out
  go_wp2_with fail
  clear k_KB0
  clear k_KB1
  refine HC.out.mono ?_
  rintro e w8_ ⟨rfl, bq⟩
  clear HC
  have HBc := Lib.hid bq; clear bq
  have HBq : Hid (Below (w7_.alloc (.cells #[.int .i64 ey, .slice AZ ny cZ] 45)).heap.size (w7_.alloc (.cells #[.int .i64 ey, .slice AZ ny cZ] 45)) w8_) := HBc.out
  replace HB : Hid (Below w.heap.size w w8_) := HB.out.trans (HBq.out.mono HB.out.size)
  replace KB0 : Hid ((w8_).cell? ⟨w.heap.size, 0, none⟩ = some (.int .i64 len)) := (HBq.out.cell (World.block_lt_of_cell? _ _ KB0.out)).trans KB0.out
  replace KB1 : Hid ((w8_).cell? ⟨w.heap.size, 1, none⟩ = some (.slice A N c)) := (HBq.out.cell (World.block_lt_of_cell? _ _ KB1.out)).trans KB1.out
  replace KX0 : Hid ((w8_).cell? ⟨w.heap.size + 1, 0, none⟩ = some (.int .i64 ix)) := (HBq.out.cell (World.block_lt_of_cell? _ _ KX0.out)).trans KX0.out
  replace KX1 : Hid ((w8_).cell? ⟨w.heap.size + 1, 1, none⟩ = some (.slice A2 nx c2)) := (HBq.out.cell (World.block_lt_of_cell? _ _ KX1.out)).trans KX1.out
  replace HY : Hid (RdV w8_ (w8_).heap.size AY (zc ys)) := HY.out.on HBq.out
  replace KY0 : Hid ((w8_).cell? ⟨w3_.heap.size, 0, none⟩ = some (.int .i64 ey)) := (HBq.out.cell (World.block_lt_of_cell? _ _ KY0.out)).trans KY0.out
  replace KY1 : Hid ((w8_).cell? ⟨w3_.heap.size, 1, none⟩ = some (.slice AY ny cY)) := (HBq.out.cell (World.block_lt_of_cell? _ _ KY1.out)).trans KY1.out
  replace HL : Hid (RdV w8_ (w8_).heap.size AL (ic l)) := HL.out.on HBq.out
  replace HZ : Hid (RdV w8_ (w8_).heap.size AZ (zc ys)) := HZ.out.on HBq.out
  replace KZ0 : Hid ((w8_).cell? ⟨w7_.heap.size, 0, none⟩ = some (.int .i64 ey)) := (HBq.out.cell (World.block_lt_of_cell? _ _ KZ0.out)).trans KZ0.out
  replace KZ1 : Hid ((w8_).cell? ⟨w7_.heap.size, 1, none⟩ = some (.slice AZ ny cZ)) := (HBq.out.cell (World.block_lt_of_cell? _ _ KZ1.out)).trans KZ1.out
  clear HBq
  clear HBc
  have HC := Lib.hid (HSm.out _ _ cY cZ _ HY.out HZ.out)
  have k_KY0 := KY0.out
  have k_KY1 := KY1.out
  have k_KZ0 := KZ0.out
  have k_KZ1 := KZ1.out
  go_wp2_with fail
  clear k_KY0
  clear k_KY1
  clear k_KZ0
  clear k_KZ1
  refine HC.out.mono ?_
  rintro e w9_ ⟨rfl, bq⟩
  clear HC
  have HBc := Lib.hid bq; clear bq
  have HBq : Hid (Below w8_.heap.size w8_ w9_) := HBc.out
  replace HB : Hid (Below w.heap.size w w9_) := HB.out.trans (HBq.out.mono HB.out.size)
  replace KB0 : Hid ((w9_).cell? ⟨w.heap.size, 0, none⟩ = some (.int .i64 len)) := (HBq.out.cell (World.block_lt_of_cell? _ _ KB0.out)).trans KB0.out
  replace KB1 : Hid ((w9_).cell? ⟨w.heap.size, 1, none⟩ = some (.slice A N c)) := (HBq.out.cell (World.block_lt_of_cell? _ _ KB1.out)).trans KB1.out
  replace KX0 : Hid ((w9_).cell? ⟨w.heap.size + 1, 0, none⟩ = some (.int .i64 ix)) := (HBq.out.cell (World.block_lt_of_cell? _ _ KX0.out)).trans KX0.out
  replace KX1 : Hid ((w9_).cell? ⟨w.heap.size + 1, 1, none⟩ = some (.slice A2 nx c2)) := (HBq.out.cell (World.block_lt_of_cell? _ _ KX1.out)).trans KX1.out
  replace HY : Hid (RdV w9_ (w9_).heap.size AY (zc ys)) := HY.out.on HBq.out
  replace KY0 : Hid ((w9_).cell? ⟨w3_.heap.size, 0, none⟩ = some (.int .i64 ey)) := (HBq.out.cell (World.block_lt_of_cell? _ _ KY0.out)).trans KY0.out
  replace KY1 : Hid ((w9_).cell? ⟨w3_.heap.size, 1, none⟩ = some (.slice AY ny cY)) := (HBq.out.cell (World.block_lt_of_cell? _ _ KY1.out)).trans KY1.out
  replace HL : Hid (RdV w9_ (w9_).heap.size AL (ic l)) := HL.out.on HBq.out
  replace HZ : Hid (RdV w9_ (w9_).heap.size AZ (zc ys)) := HZ.out.on HBq.out
  replace KZ0 : Hid ((w9_).cell? ⟨w7_.heap.size, 0, none⟩ = some (.int .i64 ey)) := (HBq.out.cell (World.block_lt_of_cell? _ _ KZ0.out)).trans KZ0.out
  replace KZ1 : Hid ((w9_).cell? ⟨w7_.heap.size, 1, none⟩ = some (.slice AZ ny cZ)) := (HBq.out.cell (World.block_lt_of_cell? _ _ KZ1.out)).trans KZ1.out
  clear HBq
  clear HBc
  have HC := Lib.hid (HPc.out _ HB.out)
  have k_KB0 := KB0.out
  have k_KB1 := KB1.out
  have k_KX0 := KX0.out
  have k_KX1 := KX1.out
  go_wp2_with fail
  clear k_KB0
  clear k_KB1
  clear k_KX0
  clear k_KX1
  refine HC.out.mono ?_
  rintro e w10_ ⟨rfl, bq⟩
  clear HC
  have HBc := Lib.hid bq; clear bq
  have HBq : Hid (Below w9_.heap.size w9_ w10_) := HBc.out
  replace HB : Hid (Below w.heap.size w w10_) := HB.out.trans (HBq.out.mono HB.out.size)
  replace KB0 : Hid ((w10_).cell? ⟨w.heap.size, 0, none⟩ = some (.int .i64 len)) := (HBq.out.cell (World.block_lt_of_cell? _ _ KB0.out)).trans KB0.out
  replace KB1 : Hid ((w10_).cell? ⟨w.heap.size, 1, none⟩ = some (.slice A N c)) := (HBq.out.cell (World.block_lt_of_cell? _ _ KB1.out)).trans KB1.out
  replace KX0 : Hid ((w10_).cell? ⟨w.heap.size + 1, 0, none⟩ = some (.int .i64 ix)) := (HBq.out.cell (World.block_lt_of_cell? _ _ KX0.out)).trans KX0.out
  replace KX1 : Hid ((w10_).cell? ⟨w.heap.size + 1, 1, none⟩ = some (.slice A2 nx c2)) := (HBq.out.cell (World.block_lt_of_cell? _ _ KX1.out)).trans KX1.out
  replace HY : Hid (RdV w10_ (w10_).heap.size AY (zc ys)) := HY.out.on HBq.out
  replace KY0 : Hid ((w10_).cell? ⟨w3_.heap.size, 0, none⟩ = some (.int .i64 ey)) := (HBq.out.cell (World.block_lt_of_cell? _ _ KY0.out)).trans KY0.out
  replace KY1 : Hid ((w10_).cell? ⟨w3_.heap.size, 1, none⟩ = some (.slice AY ny cY)) := (HBq.out.cell (World.block_lt_of_cell? _ _ KY1.out)).trans KY1.out
  replace HL : Hid (RdV w10_ (w10_).heap.size AL (ic l)) := HL.out.on HBq.out
  replace HZ : Hid (RdV w10_ (w10_).heap.size AZ (zc ys)) := HZ.out.on HBq.out
  replace KZ0 : Hid ((w10_).cell? ⟨w7_.heap.size, 0, none⟩ = some (.int .i64 ey)) := (HBq.out.cell (World.block_lt_of_cell? _ _ KZ0.out)).trans KZ0.out
  replace KZ1 : Hid ((w10_).cell? ⟨w7_.heap.size, 1, none⟩ = some (.slice AZ ny cZ)) := (HBq.out.cell (World.block_lt_of_cell? _ _ KZ1.out)).trans KZ1.out
  clear HBq
  clear HBc
  go_wp2
  go_ret
  exact ⟨rfl, HB.out⟩
set_option maxHeartbeats 8000000 in
theorem rt_w_rb_u (len : Int) (A : Option Addr) (N c : Nat) (ix : Int) (A2 : Option Addr) (nx c2 : Nat) (p bit i every : Int) (n s ny : Nat) (ew ev eu ey g : Int) (ys : List Int) (l : List Bool) (w : World)
    (HRk : Hid (∀ V, Below w.heap.size w V → Calls Try.prog 28 #[.agg #[.int .i64 len, .slice A N c], .int .i64 p] V (RkP V n 0)))
    (HSl : Hid (∀ V, Below w.heap.size w V → Calls Try.prog 29 #[.agg #[.int .i64 len, .slice A N c], .int .i64 bit, .int .i64 i] V (RkP V 0 3)))
    (HBd : Hid (∀ V, Below w.heap.size w V → Calls Try.prog 30 #[.agg #[.int .i64 len, .slice A N c], .int .i64 every] V fun x w' => ∃ A c, x = .returned (.tuple #[.agg #[.int .i64 ey, .slice A ny c], .int .i64 g]) ∧ RdV w' w'.heap.size A (zc ys) ∧ Below V.heap.size V w'))
    (HBy : Hid (∀ V, Below w.heap.size w V → Calls Try.prog 31 #[.agg #[.int .i64 len, .slice A N c], .agg #[.int .i64 ix, .slice A2 nx c2], .int .i64 p] V (RkP V n 0)))
    (HRe : Hid (∀ V, Below w.heap.size w V → Calls Try.prog 20 #[.agg #[.int .i64 len, .slice A N c], .int .i64 p] V fun e w' => e = .returned (.int .i64 0) ∧ Below V.heap.size V w'))
    (HCk : Hid (∀ V, Below w.heap.size w V → Calls Try.prog 32 #[.agg #[.int .i64 len, .slice A N c]] V fun e w' => e = .returned (.int .i64 0) ∧ Below V.heap.size V w'))
    (HRc : Hid (∀ V, Below w.heap.size w V → Calls Try.prog 33 #[.agg #[.int .i64 len, .slice A N c], .agg #[.int .i64 ix, .slice A2 nx c2]] V fun e w' => e = .returned (.int .i64 0) ∧ Below V.heap.size V w'))
    (HRb : Hid (∀ V, Below w.heap.size w V → Calls Try.prog 36 #[.agg #[.int .i64 len, .slice A N c], .int .i64 every] V fun x w' => ∃ A c, x = .returned (.tuple #[.agg #[.int .i64 ey, .slice A ny c], .int .i64 g]) ∧ RdV w' w'.heap.size A (zc ys) ∧ Below V.heap.size V w'))
    (HPc : Hid (∀ V, Below w.heap.size w V → Calls Try.prog 39 #[.agg #[.int .i64 len, .slice A N c], .agg #[.int .i64 ix, .slice A2 nx c2]] V fun e w' => e = .returned (.int .i64 0) ∧ Below V.heap.size V w'))
    (HSm : Hid (∀ A B c d V, RdV V V.heap.size A (zc ys) → RdV V V.heap.size B (zc ys) → Calls Try.prog 38 #[.slice A ny c, .slice B ny d] V fun e w' => e = .returned (.bool true) ∧ Below V.heap.size V w'))
    (HBl : Hid (∀ V, Below w.heap.size w V → Calls Try.prog 22 #[.agg #[.int .i64 len, .slice A N c]] V (Listed V l)))
    (HOa : Hid (∀ A c V, RdV V V.heap.size A (ic l) → Calls Try.prog 34 #[.slice A l.length c, .int .i64 p] V fun e w' => e = .returned (.int .i64 (n : Int)) ∧ Below V.heap.size V w'))
    (ta : decide (bit < 0) = false) (tb : decide (1 < bit) = true) :
    Calls Try.prog 4 #[.agg #[.int .i64 len, .slice A N c], .int .i64 p, .int .i64 bit, .int .i64 i, .int .i64 every, .agg #[.int .i64 ix, .slice A2 nx c2]] w fun e w' => e = .returned (.bool true) ∧ Below w.heap.size w w' := by
  have HB : Hid (Below w.heap.size w w) := Below.refl _ w
  go_enter Try.func4, Try.ntmps4
  have HBq : Hid (Below w.heap.size w (w.alloc (.cells #[.int .i64 len, .slice A N c] 25))) := one_below _ _
  replace HB : Hid (Below w.heap.size w (w.alloc (.cells #[.int .i64 len, .slice A N c] 25))) := HB.out.trans (HBq.out.mono HB.out.size)
  clear HBq
  have KB0 : Hid (((w.alloc (.cells #[.int .i64 len, .slice A N c] 25))).cell? ⟨w.heap.size, 0, none⟩ = some (.int .i64 len)) := (cell_at (World.alloc_heap_new w _) 0).trans rfl
  have KB1 : Hid (((w.alloc (.cells #[.int .i64 len, .slice A N c] 25))).cell? ⟨w.heap.size, 1, none⟩ = some (.slice A N c)) := (cell_at (World.alloc_heap_new w _) 1).trans rfl
  have HBq : Hid (Below (w.alloc (.cells #[.int .i64 len, .slice A N c] 25)).heap.size (w.alloc (.cells #[.int .i64 len, .slice A N c] 25)) ((w.alloc (.cells #[.int .i64 len, .slice A N c] 25)).alloc (.cells #[.int .i64 ix, .slice A2 nx c2] 45))) := one_below _ _
  replace HB : Hid (Below w.heap.size w ((w.alloc (.cells #[.int .i64 len, .slice A N c] 25)).alloc (.cells #[.int .i64 ix, .slice A2 nx c2] 45))) := HB.out.trans (HBq.out.mono HB.out.size)
  replace KB0 : Hid ((((w.alloc (.cells #[.int .i64 len, .slice A N c] 25)).alloc (.cells #[.int .i64 ix, .slice A2 nx c2] 45))).cell? ⟨w.heap.size, 0, none⟩ = some (.int .i64 len)) := (HBq.out.cell (World.block_lt_of_cell? _ _ KB0.out)).trans KB0.out
  replace KB1 : Hid ((((w.alloc (.cells #[.int .i64 len, .slice A N c] 25)).alloc (.cells #[.int .i64 ix, .slice A2 nx c2] 45))).cell? ⟨w.heap.size, 1, none⟩ = some (.slice A N c)) := (HBq.out.cell (World.block_lt_of_cell? _ _ KB1.out)).trans KB1.out
  clear HBq
  have KX0 : Hid ((((w.alloc (.cells #[.int .i64 len, .slice A N c] 25)).alloc (.cells #[.int .i64 ix, .slice A2 nx c2] 45))).cell? ⟨w.heap.size + 1, 0, none⟩ = some (.int .i64 ix)) := by { have h := cell_at (World.alloc_heap_new (w.alloc (.cells #[.int .i64 len, .slice A N c] 25)) (.cells #[.int .i64 ix, .slice A2 nx c2] 45)) 0; rw [World.size_alloc] at h; exact h }
  have KX1 : Hid ((((w.alloc (.cells #[.int .i64 len, .slice A N c] 25)).alloc (.cells #[.int .i64 ix, .slice A2 nx c2] 45))).cell? ⟨w.heap.size + 1, 1, none⟩ = some (.slice A2 nx c2)) := by { have h := cell_at (World.alloc_heap_new (w.alloc (.cells #[.int .i64 len, .slice A N c] 25)) (.cells #[.int .i64 ix, .slice A2 nx c2] 45)) 1; rw [World.size_alloc] at h; exact h }
  have HC := Lib.hid (HRk.out _ HB.out)
  have k_KB0 := KB0.out
  have k_KB1 := KB1.out
  have k_KX0 := KX0.out
  have k_KX1 := KX1.out
  go_wp2_with fail
  clear k_KB0
  clear k_KB1
  clear k_KX0
  clear k_KX1
  refine HC.out.mono ?_
  rintro e w1_ ⟨rfl, bq⟩
  clear HC
  have HBc := Lib.hid bq; clear bq
  have HBq : Hid (Below ((w.alloc (.cells #[.int .i64 len, .slice A N c] 25)).alloc (.cells #[.int .i64 ix, .slice A2 nx c2] 45)).heap.size ((w.alloc (.cells #[.int .i64 len, .slice A N c] 25)).alloc (.cells #[.int .i64 ix, .slice A2 nx c2] 45)) w1_) := HBc.out
  replace HB : Hid (Below w.heap.size w w1_) := HB.out.trans (HBq.out.mono HB.out.size)
  replace KB0 : Hid ((w1_).cell? ⟨w.heap.size, 0, none⟩ = some (.int .i64 len)) := (HBq.out.cell (World.block_lt_of_cell? _ _ KB0.out)).trans KB0.out
  replace KB1 : Hid ((w1_).cell? ⟨w.heap.size, 1, none⟩ = some (.slice A N c)) := (HBq.out.cell (World.block_lt_of_cell? _ _ KB1.out)).trans KB1.out
  replace KX0 : Hid ((w1_).cell? ⟨w.heap.size + 1, 0, none⟩ = some (.int .i64 ix)) := (HBq.out.cell (World.block_lt_of_cell? _ _ KX0.out)).trans KX0.out
  replace KX1 : Hid ((w1_).cell? ⟨w.heap.size + 1, 1, none⟩ = some (.slice A2 nx c2)) := (HBq.out.cell (World.block_lt_of_cell? _ _ KX1.out)).trans KX1.out
  clear HBq
  clear HBc
  have HC := Lib.hid (HSl.out _ HB.out)
  have k_KB0 := KB0.out
  have k_KB1 := KB1.out
  have k_KX0 := KX0.out
  have k_KX1 := KX1.out
  go_wp2_with fail
  clear k_KB0
  clear k_KB1
  clear k_KX0
  clear k_KX1
  refine HC.out.mono ?_
  rintro e w2_ ⟨rfl, bq⟩
  clear HC
  have HBc := Lib.hid bq; clear bq
  have HBq : Hid (Below w1_.heap.size w1_ w2_) := HBc.out
  replace HB : Hid (Below w.heap.size w w2_) := HB.out.trans (HBq.out.mono HB.out.size)
  replace KB0 : Hid ((w2_).cell? ⟨w.heap.size, 0, none⟩ = some (.int .i64 len)) := (HBq.out.cell (World.block_lt_of_cell? _ _ KB0.out)).trans KB0.out
  replace KB1 : Hid ((w2_).cell? ⟨w.heap.size, 1, none⟩ = some (.slice A N c)) := (HBq.out.cell (World.block_lt_of_cell? _ _ KB1.out)).trans KB1.out
  replace KX0 : Hid ((w2_).cell? ⟨w.heap.size + 1, 0, none⟩ = some (.int .i64 ix)) := (HBq.out.cell (World.block_lt_of_cell? _ _ KX0.out)).trans KX0.out
  replace KX1 : Hid ((w2_).cell? ⟨w.heap.size + 1, 1, none⟩ = some (.slice A2 nx c2)) := (HBq.out.cell (World.block_lt_of_cell? _ _ KX1.out)).trans KX1.out
  clear HBq
  clear HBc
  have HC := Lib.hid (HBd.out _ HB.out)
  have k_KB0 := KB0.out
  have k_KB1 := KB1.out
  have k_KX0 := KX0.out
  have k_KX1 := KX1.out
  go_wp2_with fail
  clear k_KB0
  clear k_KB1
  clear k_KX0
  clear k_KX1
  refine HC.out.mono ?_
  rintro e w3_ ⟨AY, cY, rfl, rq, bq⟩
  clear HC
  have HBc := Lib.hid bq; clear bq
  have HBq : Hid (Below w2_.heap.size w2_ w3_) := HBc.out
  replace HB : Hid (Below w.heap.size w w3_) := HB.out.trans (HBq.out.mono HB.out.size)
  replace KB0 : Hid ((w3_).cell? ⟨w.heap.size, 0, none⟩ = some (.int .i64 len)) := (HBq.out.cell (World.block_lt_of_cell? _ _ KB0.out)).trans KB0.out
  replace KB1 : Hid ((w3_).cell? ⟨w.heap.size, 1, none⟩ = some (.slice A N c)) := (HBq.out.cell (World.block_lt_of_cell? _ _ KB1.out)).trans KB1.out
  replace KX0 : Hid ((w3_).cell? ⟨w.heap.size + 1, 0, none⟩ = some (.int .i64 ix)) := (HBq.out.cell (World.block_lt_of_cell? _ _ KX0.out)).trans KX0.out
  replace KX1 : Hid ((w3_).cell? ⟨w.heap.size + 1, 1, none⟩ = some (.slice A2 nx c2)) := (HBq.out.cell (World.block_lt_of_cell? _ _ KX1.out)).trans KX1.out
  clear HBq
  clear HBc
  have HY : Hid (RdV w3_ (w3_).heap.size AY (zc ys)) := rq
  clear rq
  have HBq : Hid (Below w3_.heap.size w3_ (w3_.alloc (.cells #[.int .i64 ey, .slice AY ny cY] 45))) := one_below _ _
  replace HB : Hid (Below w.heap.size w (w3_.alloc (.cells #[.int .i64 ey, .slice AY ny cY] 45))) := HB.out.trans (HBq.out.mono HB.out.size)
  replace KB0 : Hid (((w3_.alloc (.cells #[.int .i64 ey, .slice AY ny cY] 45))).cell? ⟨w.heap.size, 0, none⟩ = some (.int .i64 len)) := (HBq.out.cell (World.block_lt_of_cell? _ _ KB0.out)).trans KB0.out
  replace KB1 : Hid (((w3_.alloc (.cells #[.int .i64 ey, .slice AY ny cY] 45))).cell? ⟨w.heap.size, 1, none⟩ = some (.slice A N c)) := (HBq.out.cell (World.block_lt_of_cell? _ _ KB1.out)).trans KB1.out
  replace KX0 : Hid (((w3_.alloc (.cells #[.int .i64 ey, .slice AY ny cY] 45))).cell? ⟨w.heap.size + 1, 0, none⟩ = some (.int .i64 ix)) := (HBq.out.cell (World.block_lt_of_cell? _ _ KX0.out)).trans KX0.out
  replace KX1 : Hid (((w3_.alloc (.cells #[.int .i64 ey, .slice AY ny cY] 45))).cell? ⟨w.heap.size + 1, 1, none⟩ = some (.slice A2 nx c2)) := (HBq.out.cell (World.block_lt_of_cell? _ _ KX1.out)).trans KX1.out
  replace HY : Hid (RdV (w3_.alloc (.cells #[.int .i64 ey, .slice AY ny cY] 45)) ((w3_.alloc (.cells #[.int .i64 ey, .slice AY ny cY] 45))).heap.size AY (zc ys)) := HY.out.on HBq.out
  clear HBq
  have KY0 : Hid (((w3_.alloc (.cells #[.int .i64 ey, .slice AY ny cY] 45))).cell? ⟨w3_.heap.size, 0, none⟩ = some (.int .i64 ey)) := (cell_at (World.alloc_heap_new w3_ _) 0).trans rfl
  have KY1 : Hid (((w3_.alloc (.cells #[.int .i64 ey, .slice AY ny cY] 45))).cell? ⟨w3_.heap.size, 1, none⟩ = some (.slice AY ny cY)) := (cell_at (World.alloc_heap_new w3_ _) 1).trans rfl
  have HC := Lib.hid (HBy.out _ HB.out)
  have k_KB0 := KB0.out
  have k_KB1 := KB1.out
  have k_KX0 := KX0.out
  have k_KX1 := KX1.out
  go_wp2_with fail
  clear k_KB0
  clear k_KB1
  clear k_KX0
  clear k_KX1
  refine HC.out.mono ?_
  rintro e w4_ ⟨rfl, bq⟩
  clear HC
  have HBc := Lib.hid bq; clear bq
  have HBq : Hid (Below (w3_.alloc (.cells #[.int .i64 ey, .slice AY ny cY] 45)).heap.size (w3_.alloc (.cells #[.int .i64 ey, .slice AY ny cY] 45)) w4_) := HBc.out
  replace HB : Hid (Below w.heap.size w w4_) := HB.out.trans (HBq.out.mono HB.out.size)
  replace KB0 : Hid ((w4_).cell? ⟨w.heap.size, 0, none⟩ = some (.int .i64 len)) := (HBq.out.cell (World.block_lt_of_cell? _ _ KB0.out)).trans KB0.out
  replace KB1 : Hid ((w4_).cell? ⟨w.heap.size, 1, none⟩ = some (.slice A N c)) := (HBq.out.cell (World.block_lt_of_cell? _ _ KB1.out)).trans KB1.out
  replace KX0 : Hid ((w4_).cell? ⟨w.heap.size + 1, 0, none⟩ = some (.int .i64 ix)) := (HBq.out.cell (World.block_lt_of_cell? _ _ KX0.out)).trans KX0.out
  replace KX1 : Hid ((w4_).cell? ⟨w.heap.size + 1, 1, none⟩ = some (.slice A2 nx c2)) := (HBq.out.cell (World.block_lt_of_cell? _ _ KX1.out)).trans KX1.out
  replace HY : Hid (RdV w4_ (w4_).heap.size AY (zc ys)) := HY.out.on HBq.out
  replace KY0 : Hid ((w4_).cell? ⟨w3_.heap.size, 0, none⟩ = some (.int .i64 ey)) := (HBq.out.cell (World.block_lt_of_cell? _ _ KY0.out)).trans KY0.out
  replace KY1 : Hid ((w4_).cell? ⟨w3_.heap.size, 1, none⟩ = some (.slice AY ny cY)) := (HBq.out.cell (World.block_lt_of_cell? _ _ KY1.out)).trans KY1.out
  clear HBq
  clear HBc
  have HS : Hid (∀ W, Below w4_.heap.size w4_ W → W.cell? ⟨w.heap.size, 0, none⟩ = some (.int .i64 len) ∧ W.cell? ⟨w.heap.size, 1, none⟩ = some (.slice A N c) ∧ W.cell? ⟨w.heap.size + 1, 0, none⟩ = some (.int .i64 ix) ∧ W.cell? ⟨w.heap.size + 1, 1, none⟩ = some (.slice A2 nx c2)) := fun W hW => ⟨(hW.cell (World.block_lt_of_cell? _ _ KB0.out)).trans KB0.out, (hW.cell (World.block_lt_of_cell? _ _ KB1.out)).trans KB1.out, (hW.cell (World.block_lt_of_cell? _ _ KX0.out)).trans KX0.out, (hW.cell (World.block_lt_of_cell? _ _ KX1.out)).trans KX1.out⟩
  have HD : Hid (Below w4_.heap.size w4_ w4_.drew) := (Below.refl _ _).drew
  go_wp2
  go_region_held3 (fun w' => w'.cell? ⟨w.heap.size, 0, none⟩ = some (.int .i64 len) ∧ w'.cell? ⟨w.heap.size, 1, none⟩ = some (.slice A N c) ∧ w'.cell? ⟨w.heap.size + 1, 0, none⟩ = some (.int .i64 ix) ∧ w'.cell? ⟨w.heap.size + 1, 1, none⟩ = some (.slice A2 nx c2))
    ((refine HS.out _ ?_; first | exact hk3.out | exact hk2.out | exact hk1.out | exact HD.out))
    ((first
      | (go_at_call 33; have hx := hk2.out; refine (HRc.out wb (HB.out.trans (hx.mono HB.out.size))).mono ?_; rintro e wc ⟨rfl, bq⟩; have hk3 : Hid (Below w4_.heap.size w4_ wc) := hx.trans (bq.mono hx.size); clear bq hx)
      | (go_at_call 32; have hx := hk1.out; refine (HCk.out wa (HB.out.trans (hx.mono HB.out.size))).mono ?_; rintro e wb ⟨rfl, bq⟩; have hk2 : Hid (Below w4_.heap.size w4_ wb) := hx.trans (bq.mono hx.size); clear bq hx)
      | (go_at_call 20; refine (HRe.out _ (HB.out.trans (HD.out.mono HB.out.size))).mono ?_; rintro e wa ⟨rfl, bq⟩; have hk1 : Hid (Below w4_.heap.size w4_ wa) := HD.out.trans (bq.mono HD.out.size); clear bq)))
  have HBq : Hid (Below w4_.heap.size w4_ wc) := hk3.out
  replace HB : Hid (Below w.heap.size w wc) := HB.out.trans (HBq.out.mono HB.out.size)
  replace KB0 : Hid ((wc).cell? ⟨w.heap.size, 0, none⟩ = some (.int .i64 len)) := (HBq.out.cell (World.block_lt_of_cell? _ _ KB0.out)).trans KB0.out
  replace KB1 : Hid ((wc).cell? ⟨w.heap.size, 1, none⟩ = some (.slice A N c)) := (HBq.out.cell (World.block_lt_of_cell? _ _ KB1.out)).trans KB1.out
  replace KX0 : Hid ((wc).cell? ⟨w.heap.size + 1, 0, none⟩ = some (.int .i64 ix)) := (HBq.out.cell (World.block_lt_of_cell? _ _ KX0.out)).trans KX0.out
  replace KX1 : Hid ((wc).cell? ⟨w.heap.size + 1, 1, none⟩ = some (.slice A2 nx c2)) := (HBq.out.cell (World.block_lt_of_cell? _ _ KX1.out)).trans KX1.out
  replace HY : Hid (RdV wc (wc).heap.size AY (zc ys)) := HY.out.on HBq.out
  replace KY0 : Hid ((wc).cell? ⟨w3_.heap.size, 0, none⟩ = some (.int .i64 ey)) := (HBq.out.cell (World.block_lt_of_cell? _ _ KY0.out)).trans KY0.out
  replace KY1 : Hid ((wc).cell? ⟨w3_.heap.size, 1, none⟩ = some (.slice AY ny cY)) := (HBq.out.cell (World.block_lt_of_cell? _ _ KY1.out)).trans KY1.out
  clear HBq
  clear HS HD
  try clear hk1
  try clear hk2
  clear hk3
  have HC := Lib.hid (HBl.out _ HB.out)
  have k_KB0 := KB0.out
  have k_KB1 := KB1.out
  go_wp2_with fail
  clear k_KB0
  clear k_KB1
  refine HC.out.mono ?_
  rintro e w5_ ⟨AL, cL, rfl, rq, bq⟩
  clear HC
  have HBc := Lib.hid bq; clear bq
  have HBq : Hid (Below wc.heap.size wc w5_) := HBc.out
  replace HB : Hid (Below w.heap.size w w5_) := HB.out.trans (HBq.out.mono HB.out.size)
  replace KB0 : Hid ((w5_).cell? ⟨w.heap.size, 0, none⟩ = some (.int .i64 len)) := (HBq.out.cell (World.block_lt_of_cell? _ _ KB0.out)).trans KB0.out
  replace KB1 : Hid ((w5_).cell? ⟨w.heap.size, 1, none⟩ = some (.slice A N c)) := (HBq.out.cell (World.block_lt_of_cell? _ _ KB1.out)).trans KB1.out
  replace KX0 : Hid ((w5_).cell? ⟨w.heap.size + 1, 0, none⟩ = some (.int .i64 ix)) := (HBq.out.cell (World.block_lt_of_cell? _ _ KX0.out)).trans KX0.out
  replace KX1 : Hid ((w5_).cell? ⟨w.heap.size + 1, 1, none⟩ = some (.slice A2 nx c2)) := (HBq.out.cell (World.block_lt_of_cell? _ _ KX1.out)).trans KX1.out
  replace HY : Hid (RdV w5_ (w5_).heap.size AY (zc ys)) := HY.out.on HBq.out
  replace KY0 : Hid ((w5_).cell? ⟨w3_.heap.size, 0, none⟩ = some (.int .i64 ey)) := (HBq.out.cell (World.block_lt_of_cell? _ _ KY0.out)).trans KY0.out
  replace KY1 : Hid ((w5_).cell? ⟨w3_.heap.size, 1, none⟩ = some (.slice AY ny cY)) := (HBq.out.cell (World.block_lt_of_cell? _ _ KY1.out)).trans KY1.out
  clear HBq
  clear HBc
  have HL : Hid (RdV w5_ (w5_).heap.size AL (ic l)) := own_rdv rq
  clear rq
  have HC := Lib.hid (HOa.out AL cL _ HL.out)
  have k_KB0 := KB0.out
  have k_KB1 := KB1.out
  go_wp2_with fail
  clear k_KB0
  clear k_KB1
  refine HC.out.mono ?_
  rintro e w6_ ⟨rfl, bq⟩
  clear HC
  have HBc := Lib.hid bq; clear bq
  have HBq : Hid (Below w5_.heap.size w5_ w6_) := HBc.out
  replace HB : Hid (Below w.heap.size w w6_) := HB.out.trans (HBq.out.mono HB.out.size)
  replace KB0 : Hid ((w6_).cell? ⟨w.heap.size, 0, none⟩ = some (.int .i64 len)) := (HBq.out.cell (World.block_lt_of_cell? _ _ KB0.out)).trans KB0.out
  replace KB1 : Hid ((w6_).cell? ⟨w.heap.size, 1, none⟩ = some (.slice A N c)) := (HBq.out.cell (World.block_lt_of_cell? _ _ KB1.out)).trans KB1.out
  replace KX0 : Hid ((w6_).cell? ⟨w.heap.size + 1, 0, none⟩ = some (.int .i64 ix)) := (HBq.out.cell (World.block_lt_of_cell? _ _ KX0.out)).trans KX0.out
  replace KX1 : Hid ((w6_).cell? ⟨w.heap.size + 1, 1, none⟩ = some (.slice A2 nx c2)) := (HBq.out.cell (World.block_lt_of_cell? _ _ KX1.out)).trans KX1.out
  replace HY : Hid (RdV w6_ (w6_).heap.size AY (zc ys)) := HY.out.on HBq.out
  replace KY0 : Hid ((w6_).cell? ⟨w3_.heap.size, 0, none⟩ = some (.int .i64 ey)) := (HBq.out.cell (World.block_lt_of_cell? _ _ KY0.out)).trans KY0.out
  replace KY1 : Hid ((w6_).cell? ⟨w3_.heap.size, 1, none⟩ = some (.slice AY ny cY)) := (HBq.out.cell (World.block_lt_of_cell? _ _ KY1.out)).trans KY1.out
  replace HL : Hid (RdV w6_ (w6_).heap.size AL (ic l)) := HL.out.on HBq.out
  clear HBq
  clear HBc
  have HC := Lib.hid (HRb.out _ HB.out)
  have k_KB0 := KB0.out
  have k_KB1 := KB1.out
  go_wp2_with fail
  clear k_KB0
  clear k_KB1
  refine HC.out.mono ?_
  rintro e w7_ ⟨AZ, cZ, rfl, rq, bq⟩
  clear HC
  have HBc := Lib.hid bq; clear bq
  have HBq : Hid (Below w6_.heap.size w6_ w7_) := HBc.out
  replace HB : Hid (Below w.heap.size w w7_) := HB.out.trans (HBq.out.mono HB.out.size)
  replace KB0 : Hid ((w7_).cell? ⟨w.heap.size, 0, none⟩ = some (.int .i64 len)) := (HBq.out.cell (World.block_lt_of_cell? _ _ KB0.out)).trans KB0.out
  replace KB1 : Hid ((w7_).cell? ⟨w.heap.size, 1, none⟩ = some (.slice A N c)) := (HBq.out.cell (World.block_lt_of_cell? _ _ KB1.out)).trans KB1.out
  replace KX0 : Hid ((w7_).cell? ⟨w.heap.size + 1, 0, none⟩ = some (.int .i64 ix)) := (HBq.out.cell (World.block_lt_of_cell? _ _ KX0.out)).trans KX0.out
  replace KX1 : Hid ((w7_).cell? ⟨w.heap.size + 1, 1, none⟩ = some (.slice A2 nx c2)) := (HBq.out.cell (World.block_lt_of_cell? _ _ KX1.out)).trans KX1.out
  replace HY : Hid (RdV w7_ (w7_).heap.size AY (zc ys)) := HY.out.on HBq.out
  replace KY0 : Hid ((w7_).cell? ⟨w3_.heap.size, 0, none⟩ = some (.int .i64 ey)) := (HBq.out.cell (World.block_lt_of_cell? _ _ KY0.out)).trans KY0.out
  replace KY1 : Hid ((w7_).cell? ⟨w3_.heap.size, 1, none⟩ = some (.slice AY ny cY)) := (HBq.out.cell (World.block_lt_of_cell? _ _ KY1.out)).trans KY1.out
  replace HL : Hid (RdV w7_ (w7_).heap.size AL (ic l)) := HL.out.on HBq.out
  clear HBq
  clear HBc
  have HZ : Hid (RdV w7_ (w7_).heap.size AZ (zc ys)) := rq
  clear rq
  have HBq : Hid (Below w7_.heap.size w7_ (w7_.alloc (.cells #[.int .i64 ey, .slice AZ ny cZ] 45))) := one_below _ _
  replace HB : Hid (Below w.heap.size w (w7_.alloc (.cells #[.int .i64 ey, .slice AZ ny cZ] 45))) := HB.out.trans (HBq.out.mono HB.out.size)
  replace KB0 : Hid (((w7_.alloc (.cells #[.int .i64 ey, .slice AZ ny cZ] 45))).cell? ⟨w.heap.size, 0, none⟩ = some (.int .i64 len)) := (HBq.out.cell (World.block_lt_of_cell? _ _ KB0.out)).trans KB0.out
  replace KB1 : Hid (((w7_.alloc (.cells #[.int .i64 ey, .slice AZ ny cZ] 45))).cell? ⟨w.heap.size, 1, none⟩ = some (.slice A N c)) := (HBq.out.cell (World.block_lt_of_cell? _ _ KB1.out)).trans KB1.out
  replace KX0 : Hid (((w7_.alloc (.cells #[.int .i64 ey, .slice AZ ny cZ] 45))).cell? ⟨w.heap.size + 1, 0, none⟩ = some (.int .i64 ix)) := (HBq.out.cell (World.block_lt_of_cell? _ _ KX0.out)).trans KX0.out
  replace KX1 : Hid (((w7_.alloc (.cells #[.int .i64 ey, .slice AZ ny cZ] 45))).cell? ⟨w.heap.size + 1, 1, none⟩ = some (.slice A2 nx c2)) := (HBq.out.cell (World.block_lt_of_cell? _ _ KX1.out)).trans KX1.out
  replace HY : Hid (RdV (w7_.alloc (.cells #[.int .i64 ey, .slice AZ ny cZ] 45)) ((w7_.alloc (.cells #[.int .i64 ey, .slice AZ ny cZ] 45))).heap.size AY (zc ys)) := HY.out.on HBq.out
  replace KY0 : Hid (((w7_.alloc (.cells #[.int .i64 ey, .slice AZ ny cZ] 45))).cell? ⟨w3_.heap.size, 0, none⟩ = some (.int .i64 ey)) := (HBq.out.cell (World.block_lt_of_cell? _ _ KY0.out)).trans KY0.out
  replace KY1 : Hid (((w7_.alloc (.cells #[.int .i64 ey, .slice AZ ny cZ] 45))).cell? ⟨w3_.heap.size, 1, none⟩ = some (.slice AY ny cY)) := (HBq.out.cell (World.block_lt_of_cell? _ _ KY1.out)).trans KY1.out
  replace HL : Hid (RdV (w7_.alloc (.cells #[.int .i64 ey, .slice AZ ny cZ] 45)) ((w7_.alloc (.cells #[.int .i64 ey, .slice AZ ny cZ] 45))).heap.size AL (ic l)) := HL.out.on HBq.out
  replace HZ : Hid (RdV (w7_.alloc (.cells #[.int .i64 ey, .slice AZ ny cZ] 45)) ((w7_.alloc (.cells #[.int .i64 ey, .slice AZ ny cZ] 45))).heap.size AZ (zc ys)) := HZ.out.on HBq.out
  clear HBq
  have KZ0 : Hid (((w7_.alloc (.cells #[.int .i64 ey, .slice AZ ny cZ] 45))).cell? ⟨w7_.heap.size, 0, none⟩ = some (.int .i64 ey)) := (cell_at (World.alloc_heap_new w7_ _) 0).trans rfl
  have KZ1 : Hid (((w7_.alloc (.cells #[.int .i64 ey, .slice AZ ny cZ] 45))).cell? ⟨w7_.heap.size, 1, none⟩ = some (.slice AZ ny cZ)) := (cell_at (World.alloc_heap_new w7_ _) 1).trans rfl
  have HC := Lib.hid (rbegun_true (w7_.alloc (.cells #[.int .i64 ey, .slice AZ ny cZ] 45)))
  have k_KB0 := KB0.out
  have k_KB1 := KB1.out
  go_wp2_with fail
  clear k_KB0
  clear k_KB1
  refine HC.out.mono ?_
  rintro e w8_ ⟨rfl, bq⟩
  clear HC
  have HBc := Lib.hid bq; clear bq
  have HBq : Hid (Below (w7_.alloc (.cells #[.int .i64 ey, .slice AZ ny cZ] 45)).heap.size (w7_.alloc (.cells #[.int .i64 ey, .slice AZ ny cZ] 45)) w8_) := HBc.out
  replace HB : Hid (Below w.heap.size w w8_) := HB.out.trans (HBq.out.mono HB.out.size)
  replace KB0 : Hid ((w8_).cell? ⟨w.heap.size, 0, none⟩ = some (.int .i64 len)) := (HBq.out.cell (World.block_lt_of_cell? _ _ KB0.out)).trans KB0.out
  replace KB1 : Hid ((w8_).cell? ⟨w.heap.size, 1, none⟩ = some (.slice A N c)) := (HBq.out.cell (World.block_lt_of_cell? _ _ KB1.out)).trans KB1.out
  replace KX0 : Hid ((w8_).cell? ⟨w.heap.size + 1, 0, none⟩ = some (.int .i64 ix)) := (HBq.out.cell (World.block_lt_of_cell? _ _ KX0.out)).trans KX0.out
  replace KX1 : Hid ((w8_).cell? ⟨w.heap.size + 1, 1, none⟩ = some (.slice A2 nx c2)) := (HBq.out.cell (World.block_lt_of_cell? _ _ KX1.out)).trans KX1.out
  replace HY : Hid (RdV w8_ (w8_).heap.size AY (zc ys)) := HY.out.on HBq.out
  replace KY0 : Hid ((w8_).cell? ⟨w3_.heap.size, 0, none⟩ = some (.int .i64 ey)) := (HBq.out.cell (World.block_lt_of_cell? _ _ KY0.out)).trans KY0.out
  replace KY1 : Hid ((w8_).cell? ⟨w3_.heap.size, 1, none⟩ = some (.slice AY ny cY)) := (HBq.out.cell (World.block_lt_of_cell? _ _ KY1.out)).trans KY1.out
  replace HL : Hid (RdV w8_ (w8_).heap.size AL (ic l)) := HL.out.on HBq.out
  replace HZ : Hid (RdV w8_ (w8_).heap.size AZ (zc ys)) := HZ.out.on HBq.out
  replace KZ0 : Hid ((w8_).cell? ⟨w7_.heap.size, 0, none⟩ = some (.int .i64 ey)) := (HBq.out.cell (World.block_lt_of_cell? _ _ KZ0.out)).trans KZ0.out
  replace KZ1 : Hid ((w8_).cell? ⟨w7_.heap.size, 1, none⟩ = some (.slice AZ ny cZ)) := (HBq.out.cell (World.block_lt_of_cell? _ _ KZ1.out)).trans KZ1.out
  clear HBq
  clear HBc
  have HC := Lib.hid (HSm.out _ _ cY cZ _ HY.out HZ.out)
  have k_KY0 := KY0.out
  have k_KY1 := KY1.out
  have k_KZ0 := KZ0.out
  have k_KZ1 := KZ1.out
  go_wp2_with fail
  clear k_KY0
  clear k_KY1
  clear k_KZ0
  clear k_KZ1
  refine HC.out.mono ?_
  rintro e w9_ ⟨rfl, bq⟩
  clear HC
  have HBc := Lib.hid bq; clear bq
  have HBq : Hid (Below w8_.heap.size w8_ w9_) := HBc.out
  replace HB : Hid (Below w.heap.size w w9_) := HB.out.trans (HBq.out.mono HB.out.size)
  replace KB0 : Hid ((w9_).cell? ⟨w.heap.size, 0, none⟩ = some (.int .i64 len)) := (HBq.out.cell (World.block_lt_of_cell? _ _ KB0.out)).trans KB0.out
  replace KB1 : Hid ((w9_).cell? ⟨w.heap.size, 1, none⟩ = some (.slice A N c)) := (HBq.out.cell (World.block_lt_of_cell? _ _ KB1.out)).trans KB1.out
  replace KX0 : Hid ((w9_).cell? ⟨w.heap.size + 1, 0, none⟩ = some (.int .i64 ix)) := (HBq.out.cell (World.block_lt_of_cell? _ _ KX0.out)).trans KX0.out
  replace KX1 : Hid ((w9_).cell? ⟨w.heap.size + 1, 1, none⟩ = some (.slice A2 nx c2)) := (HBq.out.cell (World.block_lt_of_cell? _ _ KX1.out)).trans KX1.out
  replace HY : Hid (RdV w9_ (w9_).heap.size AY (zc ys)) := HY.out.on HBq.out
  replace KY0 : Hid ((w9_).cell? ⟨w3_.heap.size, 0, none⟩ = some (.int .i64 ey)) := (HBq.out.cell (World.block_lt_of_cell? _ _ KY0.out)).trans KY0.out
  replace KY1 : Hid ((w9_).cell? ⟨w3_.heap.size, 1, none⟩ = some (.slice AY ny cY)) := (HBq.out.cell (World.block_lt_of_cell? _ _ KY1.out)).trans KY1.out
  replace HL : Hid (RdV w9_ (w9_).heap.size AL (ic l)) := HL.out.on HBq.out
  replace HZ : Hid (RdV w9_ (w9_).heap.size AZ (zc ys)) := HZ.out.on HBq.out
  replace KZ0 : Hid ((w9_).cell? ⟨w7_.heap.size, 0, none⟩ = some (.int .i64 ey)) := (HBq.out.cell (World.block_lt_of_cell? _ _ KZ0.out)).trans KZ0.out
  replace KZ1 : Hid ((w9_).cell? ⟨w7_.heap.size, 1, none⟩ = some (.slice AZ ny cZ)) := (HBq.out.cell (World.block_lt_of_cell? _ _ KZ1.out)).trans KZ1.out
  clear HBq
  clear HBc
  have HC := Lib.hid (HPc.out _ HB.out)
  have k_KB0 := KB0.out
  have k_KB1 := KB1.out
  have k_KX0 := KX0.out
  have k_KX1 := KX1.out
  go_wp2_with fail
  clear k_KB0
  clear k_KB1
  clear k_KX0
  clear k_KX1
  refine HC.out.mono ?_
  rintro e w10_ ⟨rfl, bq⟩
  clear HC
  have HBc := Lib.hid bq; clear bq
  have HBq : Hid (Below w9_.heap.size w9_ w10_) := HBc.out
  replace HB : Hid (Below w.heap.size w w10_) := HB.out.trans (HBq.out.mono HB.out.size)
  replace KB0 : Hid ((w10_).cell? ⟨w.heap.size, 0, none⟩ = some (.int .i64 len)) := (HBq.out.cell (World.block_lt_of_cell? _ _ KB0.out)).trans KB0.out
  replace KB1 : Hid ((w10_).cell? ⟨w.heap.size, 1, none⟩ = some (.slice A N c)) := (HBq.out.cell (World.block_lt_of_cell? _ _ KB1.out)).trans KB1.out
  replace KX0 : Hid ((w10_).cell? ⟨w.heap.size + 1, 0, none⟩ = some (.int .i64 ix)) := (HBq.out.cell (World.block_lt_of_cell? _ _ KX0.out)).trans KX0.out
  replace KX1 : Hid ((w10_).cell? ⟨w.heap.size + 1, 1, none⟩ = some (.slice A2 nx c2)) := (HBq.out.cell (World.block_lt_of_cell? _ _ KX1.out)).trans KX1.out
  replace HY : Hid (RdV w10_ (w10_).heap.size AY (zc ys)) := HY.out.on HBq.out
  replace KY0 : Hid ((w10_).cell? ⟨w3_.heap.size, 0, none⟩ = some (.int .i64 ey)) := (HBq.out.cell (World.block_lt_of_cell? _ _ KY0.out)).trans KY0.out
  replace KY1 : Hid ((w10_).cell? ⟨w3_.heap.size, 1, none⟩ = some (.slice AY ny cY)) := (HBq.out.cell (World.block_lt_of_cell? _ _ KY1.out)).trans KY1.out
  replace HL : Hid (RdV w10_ (w10_).heap.size AL (ic l)) := HL.out.on HBq.out
  replace HZ : Hid (RdV w10_ (w10_).heap.size AZ (zc ys)) := HZ.out.on HBq.out
  replace KZ0 : Hid ((w10_).cell? ⟨w7_.heap.size, 0, none⟩ = some (.int .i64 ey)) := (HBq.out.cell (World.block_lt_of_cell? _ _ KZ0.out)).trans KZ0.out
  replace KZ1 : Hid ((w10_).cell? ⟨w7_.heap.size, 1, none⟩ = some (.slice AZ ny cZ)) := (HBq.out.cell (World.block_lt_of_cell? _ _ KZ1.out)).trans KZ1.out
  clear HBq
  clear HBc
  go_wp2
  go_ret
  exact ⟨rfl, HB.out⟩
set_option maxHeartbeats 8000000 in
theorem rt_w_rb_x (len : Int) (A : Option Addr) (N c : Nat) (ix : Int) (A2 : Option Addr) (nx c2 : Nat) (p bit i every : Int) (n s ny : Nat) (ew ev eu ey g : Int) (ys : List Int) (l : List Bool) (w : World)
    (HRk : Hid (∀ V, Below w.heap.size w V → Calls Try.prog 28 #[.agg #[.int .i64 len, .slice A N c], .int .i64 p] V (RkP V n 0)))
    (HSl : Hid (∀ V, Below w.heap.size w V → Calls Try.prog 29 #[.agg #[.int .i64 len, .slice A N c], .int .i64 bit, .int .i64 i] V (RkP V 0 3)))
    (HBd : Hid (∀ V, Below w.heap.size w V → Calls Try.prog 30 #[.agg #[.int .i64 len, .slice A N c], .int .i64 every] V fun x w' => ∃ A c, x = .returned (.tuple #[.agg #[.int .i64 ey, .slice A ny c], .int .i64 g]) ∧ RdV w' w'.heap.size A (zc ys) ∧ Below V.heap.size V w'))
    (HBy : Hid (∀ V, Below w.heap.size w V → Calls Try.prog 31 #[.agg #[.int .i64 len, .slice A N c], .agg #[.int .i64 ix, .slice A2 nx c2], .int .i64 p] V (RkP V 0 eu)))
    (HRe : Hid (∀ V, Below w.heap.size w V → Calls Try.prog 20 #[.agg #[.int .i64 len, .slice A N c], .int .i64 p] V fun e w' => e = .returned (.int .i64 0) ∧ Below V.heap.size V w'))
    (HCk : Hid (∀ V, Below w.heap.size w V → Calls Try.prog 32 #[.agg #[.int .i64 len, .slice A N c]] V fun e w' => e = .returned (.int .i64 0) ∧ Below V.heap.size V w'))
    (HRc : Hid (∀ V, Below w.heap.size w V → Calls Try.prog 33 #[.agg #[.int .i64 len, .slice A N c], .agg #[.int .i64 ix, .slice A2 nx c2]] V fun e w' => e = .returned (.int .i64 eu) ∧ Below V.heap.size V w'))
    (HRb : Hid (∀ V, Below w.heap.size w V → Calls Try.prog 36 #[.agg #[.int .i64 len, .slice A N c], .int .i64 every] V fun x w' => ∃ A c, x = .returned (.tuple #[.agg #[.int .i64 ey, .slice A ny c], .int .i64 g]) ∧ RdV w' w'.heap.size A (zc ys) ∧ Below V.heap.size V w'))
    (HPc : Hid (∀ V, Below w.heap.size w V → Calls Try.prog 39 #[.agg #[.int .i64 len, .slice A N c], .agg #[.int .i64 ix, .slice A2 nx c2]] V fun e w' => e = .returned (.int .i64 eu) ∧ Below V.heap.size V w'))
    (HSm : Hid (∀ A B c d V, RdV V V.heap.size A (zc ys) → RdV V V.heap.size B (zc ys) → Calls Try.prog 38 #[.slice A ny c, .slice B ny d] V fun e w' => e = .returned (.bool true) ∧ Below V.heap.size V w'))
    (HBl : Hid (∀ V, Below w.heap.size w V → Calls Try.prog 22 #[.agg #[.int .i64 len, .slice A N c]] V (Listed V l)))
    (HOa : Hid (∀ A c V, RdV V V.heap.size A (ic l) → Calls Try.prog 34 #[.slice A l.length c, .int .i64 p] V fun e w' => e = .returned (.int .i64 (n : Int)) ∧ Below V.heap.size V w'))
    (tu : (eu == 0) = false) (ta : decide (bit < 0) = false) (tb : decide (1 < bit) = true) :
    Calls Try.prog 4 #[.agg #[.int .i64 len, .slice A N c], .int .i64 p, .int .i64 bit, .int .i64 i, .int .i64 every, .agg #[.int .i64 ix, .slice A2 nx c2]] w fun e w' => e = .returned (.bool true) ∧ Below w.heap.size w w' := by
  have HB : Hid (Below w.heap.size w w) := Below.refl _ w
  go_enter Try.func4, Try.ntmps4
  have HBq : Hid (Below w.heap.size w (w.alloc (.cells #[.int .i64 len, .slice A N c] 25))) := one_below _ _
  replace HB : Hid (Below w.heap.size w (w.alloc (.cells #[.int .i64 len, .slice A N c] 25))) := HB.out.trans (HBq.out.mono HB.out.size)
  clear HBq
  have KB0 : Hid (((w.alloc (.cells #[.int .i64 len, .slice A N c] 25))).cell? ⟨w.heap.size, 0, none⟩ = some (.int .i64 len)) := (cell_at (World.alloc_heap_new w _) 0).trans rfl
  have KB1 : Hid (((w.alloc (.cells #[.int .i64 len, .slice A N c] 25))).cell? ⟨w.heap.size, 1, none⟩ = some (.slice A N c)) := (cell_at (World.alloc_heap_new w _) 1).trans rfl
  have HBq : Hid (Below (w.alloc (.cells #[.int .i64 len, .slice A N c] 25)).heap.size (w.alloc (.cells #[.int .i64 len, .slice A N c] 25)) ((w.alloc (.cells #[.int .i64 len, .slice A N c] 25)).alloc (.cells #[.int .i64 ix, .slice A2 nx c2] 45))) := one_below _ _
  replace HB : Hid (Below w.heap.size w ((w.alloc (.cells #[.int .i64 len, .slice A N c] 25)).alloc (.cells #[.int .i64 ix, .slice A2 nx c2] 45))) := HB.out.trans (HBq.out.mono HB.out.size)
  replace KB0 : Hid ((((w.alloc (.cells #[.int .i64 len, .slice A N c] 25)).alloc (.cells #[.int .i64 ix, .slice A2 nx c2] 45))).cell? ⟨w.heap.size, 0, none⟩ = some (.int .i64 len)) := (HBq.out.cell (World.block_lt_of_cell? _ _ KB0.out)).trans KB0.out
  replace KB1 : Hid ((((w.alloc (.cells #[.int .i64 len, .slice A N c] 25)).alloc (.cells #[.int .i64 ix, .slice A2 nx c2] 45))).cell? ⟨w.heap.size, 1, none⟩ = some (.slice A N c)) := (HBq.out.cell (World.block_lt_of_cell? _ _ KB1.out)).trans KB1.out
  clear HBq
  have KX0 : Hid ((((w.alloc (.cells #[.int .i64 len, .slice A N c] 25)).alloc (.cells #[.int .i64 ix, .slice A2 nx c2] 45))).cell? ⟨w.heap.size + 1, 0, none⟩ = some (.int .i64 ix)) := by { have h := cell_at (World.alloc_heap_new (w.alloc (.cells #[.int .i64 len, .slice A N c] 25)) (.cells #[.int .i64 ix, .slice A2 nx c2] 45)) 0; rw [World.size_alloc] at h; exact h }
  have KX1 : Hid ((((w.alloc (.cells #[.int .i64 len, .slice A N c] 25)).alloc (.cells #[.int .i64 ix, .slice A2 nx c2] 45))).cell? ⟨w.heap.size + 1, 1, none⟩ = some (.slice A2 nx c2)) := by { have h := cell_at (World.alloc_heap_new (w.alloc (.cells #[.int .i64 len, .slice A N c] 25)) (.cells #[.int .i64 ix, .slice A2 nx c2] 45)) 1; rw [World.size_alloc] at h; exact h }
  have HC := Lib.hid (HRk.out _ HB.out)
  have k_KB0 := KB0.out
  have k_KB1 := KB1.out
  have k_KX0 := KX0.out
  have k_KX1 := KX1.out
  go_wp2_with fail
  clear k_KB0
  clear k_KB1
  clear k_KX0
  clear k_KX1
  refine HC.out.mono ?_
  rintro e w1_ ⟨rfl, bq⟩
  clear HC
  have HBc := Lib.hid bq; clear bq
  have HBq : Hid (Below ((w.alloc (.cells #[.int .i64 len, .slice A N c] 25)).alloc (.cells #[.int .i64 ix, .slice A2 nx c2] 45)).heap.size ((w.alloc (.cells #[.int .i64 len, .slice A N c] 25)).alloc (.cells #[.int .i64 ix, .slice A2 nx c2] 45)) w1_) := HBc.out
  replace HB : Hid (Below w.heap.size w w1_) := HB.out.trans (HBq.out.mono HB.out.size)
  replace KB0 : Hid ((w1_).cell? ⟨w.heap.size, 0, none⟩ = some (.int .i64 len)) := (HBq.out.cell (World.block_lt_of_cell? _ _ KB0.out)).trans KB0.out
  replace KB1 : Hid ((w1_).cell? ⟨w.heap.size, 1, none⟩ = some (.slice A N c)) := (HBq.out.cell (World.block_lt_of_cell? _ _ KB1.out)).trans KB1.out
  replace KX0 : Hid ((w1_).cell? ⟨w.heap.size + 1, 0, none⟩ = some (.int .i64 ix)) := (HBq.out.cell (World.block_lt_of_cell? _ _ KX0.out)).trans KX0.out
  replace KX1 : Hid ((w1_).cell? ⟨w.heap.size + 1, 1, none⟩ = some (.slice A2 nx c2)) := (HBq.out.cell (World.block_lt_of_cell? _ _ KX1.out)).trans KX1.out
  clear HBq
  clear HBc
  have HC := Lib.hid (HSl.out _ HB.out)
  have k_KB0 := KB0.out
  have k_KB1 := KB1.out
  have k_KX0 := KX0.out
  have k_KX1 := KX1.out
  go_wp2_with fail
  clear k_KB0
  clear k_KB1
  clear k_KX0
  clear k_KX1
  refine HC.out.mono ?_
  rintro e w2_ ⟨rfl, bq⟩
  clear HC
  have HBc := Lib.hid bq; clear bq
  have HBq : Hid (Below w1_.heap.size w1_ w2_) := HBc.out
  replace HB : Hid (Below w.heap.size w w2_) := HB.out.trans (HBq.out.mono HB.out.size)
  replace KB0 : Hid ((w2_).cell? ⟨w.heap.size, 0, none⟩ = some (.int .i64 len)) := (HBq.out.cell (World.block_lt_of_cell? _ _ KB0.out)).trans KB0.out
  replace KB1 : Hid ((w2_).cell? ⟨w.heap.size, 1, none⟩ = some (.slice A N c)) := (HBq.out.cell (World.block_lt_of_cell? _ _ KB1.out)).trans KB1.out
  replace KX0 : Hid ((w2_).cell? ⟨w.heap.size + 1, 0, none⟩ = some (.int .i64 ix)) := (HBq.out.cell (World.block_lt_of_cell? _ _ KX0.out)).trans KX0.out
  replace KX1 : Hid ((w2_).cell? ⟨w.heap.size + 1, 1, none⟩ = some (.slice A2 nx c2)) := (HBq.out.cell (World.block_lt_of_cell? _ _ KX1.out)).trans KX1.out
  clear HBq
  clear HBc
  have HC := Lib.hid (HBd.out _ HB.out)
  have k_KB0 := KB0.out
  have k_KB1 := KB1.out
  have k_KX0 := KX0.out
  have k_KX1 := KX1.out
  go_wp2_with fail
  clear k_KB0
  clear k_KB1
  clear k_KX0
  clear k_KX1
  refine HC.out.mono ?_
  rintro e w3_ ⟨AY, cY, rfl, rq, bq⟩
  clear HC
  have HBc := Lib.hid bq; clear bq
  have HBq : Hid (Below w2_.heap.size w2_ w3_) := HBc.out
  replace HB : Hid (Below w.heap.size w w3_) := HB.out.trans (HBq.out.mono HB.out.size)
  replace KB0 : Hid ((w3_).cell? ⟨w.heap.size, 0, none⟩ = some (.int .i64 len)) := (HBq.out.cell (World.block_lt_of_cell? _ _ KB0.out)).trans KB0.out
  replace KB1 : Hid ((w3_).cell? ⟨w.heap.size, 1, none⟩ = some (.slice A N c)) := (HBq.out.cell (World.block_lt_of_cell? _ _ KB1.out)).trans KB1.out
  replace KX0 : Hid ((w3_).cell? ⟨w.heap.size + 1, 0, none⟩ = some (.int .i64 ix)) := (HBq.out.cell (World.block_lt_of_cell? _ _ KX0.out)).trans KX0.out
  replace KX1 : Hid ((w3_).cell? ⟨w.heap.size + 1, 1, none⟩ = some (.slice A2 nx c2)) := (HBq.out.cell (World.block_lt_of_cell? _ _ KX1.out)).trans KX1.out
  clear HBq
  clear HBc
  have HY : Hid (RdV w3_ (w3_).heap.size AY (zc ys)) := rq
  clear rq
  have HBq : Hid (Below w3_.heap.size w3_ (w3_.alloc (.cells #[.int .i64 ey, .slice AY ny cY] 45))) := one_below _ _
  replace HB : Hid (Below w.heap.size w (w3_.alloc (.cells #[.int .i64 ey, .slice AY ny cY] 45))) := HB.out.trans (HBq.out.mono HB.out.size)
  replace KB0 : Hid (((w3_.alloc (.cells #[.int .i64 ey, .slice AY ny cY] 45))).cell? ⟨w.heap.size, 0, none⟩ = some (.int .i64 len)) := (HBq.out.cell (World.block_lt_of_cell? _ _ KB0.out)).trans KB0.out
  replace KB1 : Hid (((w3_.alloc (.cells #[.int .i64 ey, .slice AY ny cY] 45))).cell? ⟨w.heap.size, 1, none⟩ = some (.slice A N c)) := (HBq.out.cell (World.block_lt_of_cell? _ _ KB1.out)).trans KB1.out
  replace KX0 : Hid (((w3_.alloc (.cells #[.int .i64 ey, .slice AY ny cY] 45))).cell? ⟨w.heap.size + 1, 0, none⟩ = some (.int .i64 ix)) := (HBq.out.cell (World.block_lt_of_cell? _ _ KX0.out)).trans KX0.out
  replace KX1 : Hid (((w3_.alloc (.cells #[.int .i64 ey, .slice AY ny cY] 45))).cell? ⟨w.heap.size + 1, 1, none⟩ = some (.slice A2 nx c2)) := (HBq.out.cell (World.block_lt_of_cell? _ _ KX1.out)).trans KX1.out
  replace HY : Hid (RdV (w3_.alloc (.cells #[.int .i64 ey, .slice AY ny cY] 45)) ((w3_.alloc (.cells #[.int .i64 ey, .slice AY ny cY] 45))).heap.size AY (zc ys)) := HY.out.on HBq.out
  clear HBq
  have KY0 : Hid (((w3_.alloc (.cells #[.int .i64 ey, .slice AY ny cY] 45))).cell? ⟨w3_.heap.size, 0, none⟩ = some (.int .i64 ey)) := (cell_at (World.alloc_heap_new w3_ _) 0).trans rfl
  have KY1 : Hid (((w3_.alloc (.cells #[.int .i64 ey, .slice AY ny cY] 45))).cell? ⟨w3_.heap.size, 1, none⟩ = some (.slice AY ny cY)) := (cell_at (World.alloc_heap_new w3_ _) 1).trans rfl
  have HC := Lib.hid (HBy.out _ HB.out)
  have k_KB0 := KB0.out
  have k_KB1 := KB1.out
  have k_KX0 := KX0.out
  have k_KX1 := KX1.out
  go_wp2_with fail
  clear k_KB0
  clear k_KB1
  clear k_KX0
  clear k_KX1
  refine HC.out.mono ?_
  rintro e w4_ ⟨rfl, bq⟩
  clear HC
  have HBc := Lib.hid bq; clear bq
  have HBq : Hid (Below (w3_.alloc (.cells #[.int .i64 ey, .slice AY ny cY] 45)).heap.size (w3_.alloc (.cells #[.int .i64 ey, .slice AY ny cY] 45)) w4_) := HBc.out
  replace HB : Hid (Below w.heap.size w w4_) := HB.out.trans (HBq.out.mono HB.out.size)
  replace KB0 : Hid ((w4_).cell? ⟨w.heap.size, 0, none⟩ = some (.int .i64 len)) := (HBq.out.cell (World.block_lt_of_cell? _ _ KB0.out)).trans KB0.out
  replace KB1 : Hid ((w4_).cell? ⟨w.heap.size, 1, none⟩ = some (.slice A N c)) := (HBq.out.cell (World.block_lt_of_cell? _ _ KB1.out)).trans KB1.out
  replace KX0 : Hid ((w4_).cell? ⟨w.heap.size + 1, 0, none⟩ = some (.int .i64 ix)) := (HBq.out.cell (World.block_lt_of_cell? _ _ KX0.out)).trans KX0.out
  replace KX1 : Hid ((w4_).cell? ⟨w.heap.size + 1, 1, none⟩ = some (.slice A2 nx c2)) := (HBq.out.cell (World.block_lt_of_cell? _ _ KX1.out)).trans KX1.out
  replace HY : Hid (RdV w4_ (w4_).heap.size AY (zc ys)) := HY.out.on HBq.out
  replace KY0 : Hid ((w4_).cell? ⟨w3_.heap.size, 0, none⟩ = some (.int .i64 ey)) := (HBq.out.cell (World.block_lt_of_cell? _ _ KY0.out)).trans KY0.out
  replace KY1 : Hid ((w4_).cell? ⟨w3_.heap.size, 1, none⟩ = some (.slice AY ny cY)) := (HBq.out.cell (World.block_lt_of_cell? _ _ KY1.out)).trans KY1.out
  clear HBq
  clear HBc
  have HS : Hid (∀ W, Below w4_.heap.size w4_ W → W.cell? ⟨w.heap.size, 0, none⟩ = some (.int .i64 len) ∧ W.cell? ⟨w.heap.size, 1, none⟩ = some (.slice A N c) ∧ W.cell? ⟨w.heap.size + 1, 0, none⟩ = some (.int .i64 ix) ∧ W.cell? ⟨w.heap.size + 1, 1, none⟩ = some (.slice A2 nx c2)) := fun W hW => ⟨(hW.cell (World.block_lt_of_cell? _ _ KB0.out)).trans KB0.out, (hW.cell (World.block_lt_of_cell? _ _ KB1.out)).trans KB1.out, (hW.cell (World.block_lt_of_cell? _ _ KX0.out)).trans KX0.out, (hW.cell (World.block_lt_of_cell? _ _ KX1.out)).trans KX1.out⟩
  have HD : Hid (Below w4_.heap.size w4_ w4_.drew) := (Below.refl _ _).drew
  go_wp2
  go_region_held3 (fun w' => w'.cell? ⟨w.heap.size, 0, none⟩ = some (.int .i64 len) ∧ w'.cell? ⟨w.heap.size, 1, none⟩ = some (.slice A N c) ∧ w'.cell? ⟨w.heap.size + 1, 0, none⟩ = some (.int .i64 ix) ∧ w'.cell? ⟨w.heap.size + 1, 1, none⟩ = some (.slice A2 nx c2))
    ((refine HS.out _ ?_; first | exact hk3.out | exact hk2.out | exact hk1.out | exact HD.out))
    ((first
      | (go_at_call 33; have hx := hk2.out; refine (HRc.out wb (HB.out.trans (hx.mono HB.out.size))).mono ?_; rintro e wc ⟨rfl, bq⟩; have hk3 : Hid (Below w4_.heap.size w4_ wc) := hx.trans (bq.mono hx.size); clear bq hx)
      | (go_at_call 32; have hx := hk1.out; refine (HCk.out wa (HB.out.trans (hx.mono HB.out.size))).mono ?_; rintro e wb ⟨rfl, bq⟩; have hk2 : Hid (Below w4_.heap.size w4_ wb) := hx.trans (bq.mono hx.size); clear bq hx)
      | (go_at_call 20; refine (HRe.out _ (HB.out.trans (HD.out.mono HB.out.size))).mono ?_; rintro e wa ⟨rfl, bq⟩; have hk1 : Hid (Below w4_.heap.size w4_ wa) := HD.out.trans (bq.mono HD.out.size); clear bq)))
  have HBq : Hid (Below w4_.heap.size w4_ wc) := hk3.out
  replace HB : Hid (Below w.heap.size w wc) := HB.out.trans (HBq.out.mono HB.out.size)
  replace KB0 : Hid ((wc).cell? ⟨w.heap.size, 0, none⟩ = some (.int .i64 len)) := (HBq.out.cell (World.block_lt_of_cell? _ _ KB0.out)).trans KB0.out
  replace KB1 : Hid ((wc).cell? ⟨w.heap.size, 1, none⟩ = some (.slice A N c)) := (HBq.out.cell (World.block_lt_of_cell? _ _ KB1.out)).trans KB1.out
  replace KX0 : Hid ((wc).cell? ⟨w.heap.size + 1, 0, none⟩ = some (.int .i64 ix)) := (HBq.out.cell (World.block_lt_of_cell? _ _ KX0.out)).trans KX0.out
  replace KX1 : Hid ((wc).cell? ⟨w.heap.size + 1, 1, none⟩ = some (.slice A2 nx c2)) := (HBq.out.cell (World.block_lt_of_cell? _ _ KX1.out)).trans KX1.out
  replace HY : Hid (RdV wc (wc).heap.size AY (zc ys)) := HY.out.on HBq.out
  replace KY0 : Hid ((wc).cell? ⟨w3_.heap.size, 0, none⟩ = some (.int .i64 ey)) := (HBq.out.cell (World.block_lt_of_cell? _ _ KY0.out)).trans KY0.out
  replace KY1 : Hid ((wc).cell? ⟨w3_.heap.size, 1, none⟩ = some (.slice AY ny cY)) := (HBq.out.cell (World.block_lt_of_cell? _ _ KY1.out)).trans KY1.out
  clear HBq
  clear HS HD
  try clear hk1
  try clear hk2
  clear hk3
  have HC := Lib.hid (HBl.out _ HB.out)
  have k_KB0 := KB0.out
  have k_KB1 := KB1.out
  go_wp2_with fail
  clear k_KB0
  clear k_KB1
  refine HC.out.mono ?_
  rintro e w5_ ⟨AL, cL, rfl, rq, bq⟩
  clear HC
  have HBc := Lib.hid bq; clear bq
  have HBq : Hid (Below wc.heap.size wc w5_) := HBc.out
  replace HB : Hid (Below w.heap.size w w5_) := HB.out.trans (HBq.out.mono HB.out.size)
  replace KB0 : Hid ((w5_).cell? ⟨w.heap.size, 0, none⟩ = some (.int .i64 len)) := (HBq.out.cell (World.block_lt_of_cell? _ _ KB0.out)).trans KB0.out
  replace KB1 : Hid ((w5_).cell? ⟨w.heap.size, 1, none⟩ = some (.slice A N c)) := (HBq.out.cell (World.block_lt_of_cell? _ _ KB1.out)).trans KB1.out
  replace KX0 : Hid ((w5_).cell? ⟨w.heap.size + 1, 0, none⟩ = some (.int .i64 ix)) := (HBq.out.cell (World.block_lt_of_cell? _ _ KX0.out)).trans KX0.out
  replace KX1 : Hid ((w5_).cell? ⟨w.heap.size + 1, 1, none⟩ = some (.slice A2 nx c2)) := (HBq.out.cell (World.block_lt_of_cell? _ _ KX1.out)).trans KX1.out
  replace HY : Hid (RdV w5_ (w5_).heap.size AY (zc ys)) := HY.out.on HBq.out
  replace KY0 : Hid ((w5_).cell? ⟨w3_.heap.size, 0, none⟩ = some (.int .i64 ey)) := (HBq.out.cell (World.block_lt_of_cell? _ _ KY0.out)).trans KY0.out
  replace KY1 : Hid ((w5_).cell? ⟨w3_.heap.size, 1, none⟩ = some (.slice AY ny cY)) := (HBq.out.cell (World.block_lt_of_cell? _ _ KY1.out)).trans KY1.out
  clear HBq
  clear HBc
  have HL : Hid (RdV w5_ (w5_).heap.size AL (ic l)) := own_rdv rq
  clear rq
  have HC := Lib.hid (HOa.out AL cL _ HL.out)
  have k_KB0 := KB0.out
  have k_KB1 := KB1.out
  go_wp2_with fail
  clear k_KB0
  clear k_KB1
  refine HC.out.mono ?_
  rintro e w6_ ⟨rfl, bq⟩
  clear HC
  have HBc := Lib.hid bq; clear bq
  have HBq : Hid (Below w5_.heap.size w5_ w6_) := HBc.out
  replace HB : Hid (Below w.heap.size w w6_) := HB.out.trans (HBq.out.mono HB.out.size)
  replace KB0 : Hid ((w6_).cell? ⟨w.heap.size, 0, none⟩ = some (.int .i64 len)) := (HBq.out.cell (World.block_lt_of_cell? _ _ KB0.out)).trans KB0.out
  replace KB1 : Hid ((w6_).cell? ⟨w.heap.size, 1, none⟩ = some (.slice A N c)) := (HBq.out.cell (World.block_lt_of_cell? _ _ KB1.out)).trans KB1.out
  replace KX0 : Hid ((w6_).cell? ⟨w.heap.size + 1, 0, none⟩ = some (.int .i64 ix)) := (HBq.out.cell (World.block_lt_of_cell? _ _ KX0.out)).trans KX0.out
  replace KX1 : Hid ((w6_).cell? ⟨w.heap.size + 1, 1, none⟩ = some (.slice A2 nx c2)) := (HBq.out.cell (World.block_lt_of_cell? _ _ KX1.out)).trans KX1.out
  replace HY : Hid (RdV w6_ (w6_).heap.size AY (zc ys)) := HY.out.on HBq.out
  replace KY0 : Hid ((w6_).cell? ⟨w3_.heap.size, 0, none⟩ = some (.int .i64 ey)) := (HBq.out.cell (World.block_lt_of_cell? _ _ KY0.out)).trans KY0.out
  replace KY1 : Hid ((w6_).cell? ⟨w3_.heap.size, 1, none⟩ = some (.slice AY ny cY)) := (HBq.out.cell (World.block_lt_of_cell? _ _ KY1.out)).trans KY1.out
  replace HL : Hid (RdV w6_ (w6_).heap.size AL (ic l)) := HL.out.on HBq.out
  clear HBq
  clear HBc
  have HC := Lib.hid (HRb.out _ HB.out)
  have k_KB0 := KB0.out
  have k_KB1 := KB1.out
  go_wp2_with fail
  clear k_KB0
  clear k_KB1
  refine HC.out.mono ?_
  rintro e w7_ ⟨AZ, cZ, rfl, rq, bq⟩
  clear HC
  have HBc := Lib.hid bq; clear bq
  have HBq : Hid (Below w6_.heap.size w6_ w7_) := HBc.out
  replace HB : Hid (Below w.heap.size w w7_) := HB.out.trans (HBq.out.mono HB.out.size)
  replace KB0 : Hid ((w7_).cell? ⟨w.heap.size, 0, none⟩ = some (.int .i64 len)) := (HBq.out.cell (World.block_lt_of_cell? _ _ KB0.out)).trans KB0.out
  replace KB1 : Hid ((w7_).cell? ⟨w.heap.size, 1, none⟩ = some (.slice A N c)) := (HBq.out.cell (World.block_lt_of_cell? _ _ KB1.out)).trans KB1.out
  replace KX0 : Hid ((w7_).cell? ⟨w.heap.size + 1, 0, none⟩ = some (.int .i64 ix)) := (HBq.out.cell (World.block_lt_of_cell? _ _ KX0.out)).trans KX0.out
  replace KX1 : Hid ((w7_).cell? ⟨w.heap.size + 1, 1, none⟩ = some (.slice A2 nx c2)) := (HBq.out.cell (World.block_lt_of_cell? _ _ KX1.out)).trans KX1.out
  replace HY : Hid (RdV w7_ (w7_).heap.size AY (zc ys)) := HY.out.on HBq.out
  replace KY0 : Hid ((w7_).cell? ⟨w3_.heap.size, 0, none⟩ = some (.int .i64 ey)) := (HBq.out.cell (World.block_lt_of_cell? _ _ KY0.out)).trans KY0.out
  replace KY1 : Hid ((w7_).cell? ⟨w3_.heap.size, 1, none⟩ = some (.slice AY ny cY)) := (HBq.out.cell (World.block_lt_of_cell? _ _ KY1.out)).trans KY1.out
  replace HL : Hid (RdV w7_ (w7_).heap.size AL (ic l)) := HL.out.on HBq.out
  clear HBq
  clear HBc
  have HZ : Hid (RdV w7_ (w7_).heap.size AZ (zc ys)) := rq
  clear rq
  have HBq : Hid (Below w7_.heap.size w7_ (w7_.alloc (.cells #[.int .i64 ey, .slice AZ ny cZ] 45))) := one_below _ _
  replace HB : Hid (Below w.heap.size w (w7_.alloc (.cells #[.int .i64 ey, .slice AZ ny cZ] 45))) := HB.out.trans (HBq.out.mono HB.out.size)
  replace KB0 : Hid (((w7_.alloc (.cells #[.int .i64 ey, .slice AZ ny cZ] 45))).cell? ⟨w.heap.size, 0, none⟩ = some (.int .i64 len)) := (HBq.out.cell (World.block_lt_of_cell? _ _ KB0.out)).trans KB0.out
  replace KB1 : Hid (((w7_.alloc (.cells #[.int .i64 ey, .slice AZ ny cZ] 45))).cell? ⟨w.heap.size, 1, none⟩ = some (.slice A N c)) := (HBq.out.cell (World.block_lt_of_cell? _ _ KB1.out)).trans KB1.out
  replace KX0 : Hid (((w7_.alloc (.cells #[.int .i64 ey, .slice AZ ny cZ] 45))).cell? ⟨w.heap.size + 1, 0, none⟩ = some (.int .i64 ix)) := (HBq.out.cell (World.block_lt_of_cell? _ _ KX0.out)).trans KX0.out
  replace KX1 : Hid (((w7_.alloc (.cells #[.int .i64 ey, .slice AZ ny cZ] 45))).cell? ⟨w.heap.size + 1, 1, none⟩ = some (.slice A2 nx c2)) := (HBq.out.cell (World.block_lt_of_cell? _ _ KX1.out)).trans KX1.out
  replace HY : Hid (RdV (w7_.alloc (.cells #[.int .i64 ey, .slice AZ ny cZ] 45)) ((w7_.alloc (.cells #[.int .i64 ey, .slice AZ ny cZ] 45))).heap.size AY (zc ys)) := HY.out.on HBq.out
  replace KY0 : Hid (((w7_.alloc (.cells #[.int .i64 ey, .slice AZ ny cZ] 45))).cell? ⟨w3_.heap.size, 0, none⟩ = some (.int .i64 ey)) := (HBq.out.cell (World.block_lt_of_cell? _ _ KY0.out)).trans KY0.out
  replace KY1 : Hid (((w7_.alloc (.cells #[.int .i64 ey, .slice AZ ny cZ] 45))).cell? ⟨w3_.heap.size, 1, none⟩ = some (.slice AY ny cY)) := (HBq.out.cell (World.block_lt_of_cell? _ _ KY1.out)).trans KY1.out
  replace HL : Hid (RdV (w7_.alloc (.cells #[.int .i64 ey, .slice AZ ny cZ] 45)) ((w7_.alloc (.cells #[.int .i64 ey, .slice AZ ny cZ] 45))).heap.size AL (ic l)) := HL.out.on HBq.out
  replace HZ : Hid (RdV (w7_.alloc (.cells #[.int .i64 ey, .slice AZ ny cZ] 45)) ((w7_.alloc (.cells #[.int .i64 ey, .slice AZ ny cZ] 45))).heap.size AZ (zc ys)) := HZ.out.on HBq.out
  clear HBq
  have KZ0 : Hid (((w7_.alloc (.cells #[.int .i64 ey, .slice AZ ny cZ] 45))).cell? ⟨w7_.heap.size, 0, none⟩ = some (.int .i64 ey)) := (cell_at (World.alloc_heap_new w7_ _) 0).trans rfl
  have KZ1 : Hid (((w7_.alloc (.cells #[.int .i64 ey, .slice AZ ny cZ] 45))).cell? ⟨w7_.heap.size, 1, none⟩ = some (.slice AZ ny cZ)) := (cell_at (World.alloc_heap_new w7_ _) 1).trans rfl
  have HC := Lib.hid (rbegun_true (w7_.alloc (.cells #[.int .i64 ey, .slice AZ ny cZ] 45)))
  have k_KB0 := KB0.out
  have k_KB1 := KB1.out
  go_wp2_with fail
  clear k_KB0
  clear k_KB1
  refine HC.out.mono ?_
  rintro e w8_ ⟨rfl, bq⟩
  clear HC
  have HBc := Lib.hid bq; clear bq
  have HBq : Hid (Below (w7_.alloc (.cells #[.int .i64 ey, .slice AZ ny cZ] 45)).heap.size (w7_.alloc (.cells #[.int .i64 ey, .slice AZ ny cZ] 45)) w8_) := HBc.out
  replace HB : Hid (Below w.heap.size w w8_) := HB.out.trans (HBq.out.mono HB.out.size)
  replace KB0 : Hid ((w8_).cell? ⟨w.heap.size, 0, none⟩ = some (.int .i64 len)) := (HBq.out.cell (World.block_lt_of_cell? _ _ KB0.out)).trans KB0.out
  replace KB1 : Hid ((w8_).cell? ⟨w.heap.size, 1, none⟩ = some (.slice A N c)) := (HBq.out.cell (World.block_lt_of_cell? _ _ KB1.out)).trans KB1.out
  replace KX0 : Hid ((w8_).cell? ⟨w.heap.size + 1, 0, none⟩ = some (.int .i64 ix)) := (HBq.out.cell (World.block_lt_of_cell? _ _ KX0.out)).trans KX0.out
  replace KX1 : Hid ((w8_).cell? ⟨w.heap.size + 1, 1, none⟩ = some (.slice A2 nx c2)) := (HBq.out.cell (World.block_lt_of_cell? _ _ KX1.out)).trans KX1.out
  replace HY : Hid (RdV w8_ (w8_).heap.size AY (zc ys)) := HY.out.on HBq.out
  replace KY0 : Hid ((w8_).cell? ⟨w3_.heap.size, 0, none⟩ = some (.int .i64 ey)) := (HBq.out.cell (World.block_lt_of_cell? _ _ KY0.out)).trans KY0.out
  replace KY1 : Hid ((w8_).cell? ⟨w3_.heap.size, 1, none⟩ = some (.slice AY ny cY)) := (HBq.out.cell (World.block_lt_of_cell? _ _ KY1.out)).trans KY1.out
  replace HL : Hid (RdV w8_ (w8_).heap.size AL (ic l)) := HL.out.on HBq.out
  replace HZ : Hid (RdV w8_ (w8_).heap.size AZ (zc ys)) := HZ.out.on HBq.out
  replace KZ0 : Hid ((w8_).cell? ⟨w7_.heap.size, 0, none⟩ = some (.int .i64 ey)) := (HBq.out.cell (World.block_lt_of_cell? _ _ KZ0.out)).trans KZ0.out
  replace KZ1 : Hid ((w8_).cell? ⟨w7_.heap.size, 1, none⟩ = some (.slice AZ ny cZ)) := (HBq.out.cell (World.block_lt_of_cell? _ _ KZ1.out)).trans KZ1.out
  clear HBq
  clear HBc
  have HC := Lib.hid (HSm.out _ _ cY cZ _ HY.out HZ.out)
  have k_KY0 := KY0.out
  have k_KY1 := KY1.out
  have k_KZ0 := KZ0.out
  have k_KZ1 := KZ1.out
  go_wp2_with fail
  clear k_KY0
  clear k_KY1
  clear k_KZ0
  clear k_KZ1
  refine HC.out.mono ?_
  rintro e w9_ ⟨rfl, bq⟩
  clear HC
  have HBc := Lib.hid bq; clear bq
  have HBq : Hid (Below w8_.heap.size w8_ w9_) := HBc.out
  replace HB : Hid (Below w.heap.size w w9_) := HB.out.trans (HBq.out.mono HB.out.size)
  replace KB0 : Hid ((w9_).cell? ⟨w.heap.size, 0, none⟩ = some (.int .i64 len)) := (HBq.out.cell (World.block_lt_of_cell? _ _ KB0.out)).trans KB0.out
  replace KB1 : Hid ((w9_).cell? ⟨w.heap.size, 1, none⟩ = some (.slice A N c)) := (HBq.out.cell (World.block_lt_of_cell? _ _ KB1.out)).trans KB1.out
  replace KX0 : Hid ((w9_).cell? ⟨w.heap.size + 1, 0, none⟩ = some (.int .i64 ix)) := (HBq.out.cell (World.block_lt_of_cell? _ _ KX0.out)).trans KX0.out
  replace KX1 : Hid ((w9_).cell? ⟨w.heap.size + 1, 1, none⟩ = some (.slice A2 nx c2)) := (HBq.out.cell (World.block_lt_of_cell? _ _ KX1.out)).trans KX1.out
  replace HY : Hid (RdV w9_ (w9_).heap.size AY (zc ys)) := HY.out.on HBq.out
  replace KY0 : Hid ((w9_).cell? ⟨w3_.heap.size, 0, none⟩ = some (.int .i64 ey)) := (HBq.out.cell (World.block_lt_of_cell? _ _ KY0.out)).trans KY0.out
  replace KY1 : Hid ((w9_).cell? ⟨w3_.heap.size, 1, none⟩ = some (.slice AY ny cY)) := (HBq.out.cell (World.block_lt_of_cell? _ _ KY1.out)).trans KY1.out
  replace HL : Hid (RdV w9_ (w9_).heap.size AL (ic l)) := HL.out.on HBq.out
  replace HZ : Hid (RdV w9_ (w9_).heap.size AZ (zc ys)) := HZ.out.on HBq.out
  replace KZ0 : Hid ((w9_).cell? ⟨w7_.heap.size, 0, none⟩ = some (.int .i64 ey)) := (HBq.out.cell (World.block_lt_of_cell? _ _ KZ0.out)).trans KZ0.out
  replace KZ1 : Hid ((w9_).cell? ⟨w7_.heap.size, 1, none⟩ = some (.slice AZ ny cZ)) := (HBq.out.cell (World.block_lt_of_cell? _ _ KZ1.out)).trans KZ1.out
  clear HBq
  clear HBc
  have HC := Lib.hid (HPc.out _ HB.out)
  have k_KB0 := KB0.out
  have k_KB1 := KB1.out
  have k_KX0 := KX0.out
  have k_KX1 := KX1.out
  go_wp2_with fail
  clear k_KB0
  clear k_KB1
  clear k_KX0
  clear k_KX1
  refine HC.out.mono ?_
  rintro e w10_ ⟨rfl, bq⟩
  clear HC
  have HBc := Lib.hid bq; clear bq
  have HBq : Hid (Below w9_.heap.size w9_ w10_) := HBc.out
  replace HB : Hid (Below w.heap.size w w10_) := HB.out.trans (HBq.out.mono HB.out.size)
  replace KB0 : Hid ((w10_).cell? ⟨w.heap.size, 0, none⟩ = some (.int .i64 len)) := (HBq.out.cell (World.block_lt_of_cell? _ _ KB0.out)).trans KB0.out
  replace KB1 : Hid ((w10_).cell? ⟨w.heap.size, 1, none⟩ = some (.slice A N c)) := (HBq.out.cell (World.block_lt_of_cell? _ _ KB1.out)).trans KB1.out
  replace KX0 : Hid ((w10_).cell? ⟨w.heap.size + 1, 0, none⟩ = some (.int .i64 ix)) := (HBq.out.cell (World.block_lt_of_cell? _ _ KX0.out)).trans KX0.out
  replace KX1 : Hid ((w10_).cell? ⟨w.heap.size + 1, 1, none⟩ = some (.slice A2 nx c2)) := (HBq.out.cell (World.block_lt_of_cell? _ _ KX1.out)).trans KX1.out
  replace HY : Hid (RdV w10_ (w10_).heap.size AY (zc ys)) := HY.out.on HBq.out
  replace KY0 : Hid ((w10_).cell? ⟨w3_.heap.size, 0, none⟩ = some (.int .i64 ey)) := (HBq.out.cell (World.block_lt_of_cell? _ _ KY0.out)).trans KY0.out
  replace KY1 : Hid ((w10_).cell? ⟨w3_.heap.size, 1, none⟩ = some (.slice AY ny cY)) := (HBq.out.cell (World.block_lt_of_cell? _ _ KY1.out)).trans KY1.out
  replace HL : Hid (RdV w10_ (w10_).heap.size AL (ic l)) := HL.out.on HBq.out
  replace HZ : Hid (RdV w10_ (w10_).heap.size AZ (zc ys)) := HZ.out.on HBq.out
  replace KZ0 : Hid ((w10_).cell? ⟨w7_.heap.size, 0, none⟩ = some (.int .i64 ey)) := (HBq.out.cell (World.block_lt_of_cell? _ _ KZ0.out)).trans KZ0.out
  replace KZ1 : Hid ((w10_).cell? ⟨w7_.heap.size, 1, none⟩ = some (.slice AZ ny cZ)) := (HBq.out.cell (World.block_lt_of_cell? _ _ KZ1.out)).trans KZ1.out
  clear HBq
  clear HBc
  go_wp2
  go_ret
  exact ⟨rfl, HB.out⟩
set_option maxHeartbeats 8000000 in
theorem rt_w_rc_u (len : Int) (A : Option Addr) (N c : Nat) (ix : Int) (A2 : Option Addr) (nx c2 : Nat) (p bit i every : Int) (n s ny : Nat) (ew ev eu ey g : Int) (ys : List Int) (l : List Bool) (w : World)
    (HRk : Hid (∀ V, Below w.heap.size w V → Calls Try.prog 28 #[.agg #[.int .i64 len, .slice A N c], .int .i64 p] V (RkP V n 0)))
    (HSl : Hid (∀ V, Below w.heap.size w V → Calls Try.prog 29 #[.agg #[.int .i64 len, .slice A N c], .int .i64 bit, .int .i64 i] V (RkP V 0 3)))
    (HBd : Hid (∀ V, Below w.heap.size w V → Calls Try.prog 30 #[.agg #[.int .i64 len, .slice A N c], .int .i64 every] V fun x w' => ∃ A c, x = .returned (.tuple #[.agg #[.int .i64 ey, .slice A ny c], .int .i64 g]) ∧ RdV w' w'.heap.size A (zc ys) ∧ Below V.heap.size V w'))
    (HBy : Hid (∀ V, Below w.heap.size w V → Calls Try.prog 31 #[.agg #[.int .i64 len, .slice A N c], .agg #[.int .i64 ix, .slice A2 nx c2], .int .i64 p] V (RkP V n 0)))
    (HRe : Hid (∀ V, Below w.heap.size w V → Calls Try.prog 20 #[.agg #[.int .i64 len, .slice A N c], .int .i64 p] V fun e w' => e = .returned (.int .i64 0) ∧ Below V.heap.size V w'))
    (HCk : Hid (∀ V, Below w.heap.size w V → Calls Try.prog 32 #[.agg #[.int .i64 len, .slice A N c]] V fun e w' => e = .returned (.int .i64 0) ∧ Below V.heap.size V w'))
    (HRc : Hid (∀ V, Below w.heap.size w V → Calls Try.prog 33 #[.agg #[.int .i64 len, .slice A N c], .agg #[.int .i64 ix, .slice A2 nx c2]] V fun e w' => e = .returned (.int .i64 0) ∧ Below V.heap.size V w'))
    (HRb : Hid (∀ V, Below w.heap.size w V → Calls Try.prog 36 #[.agg #[.int .i64 len, .slice A N c], .int .i64 every] V fun x w' => ∃ A c, x = .returned (.tuple #[.agg #[.int .i64 ey, .slice A ny c], .int .i64 g]) ∧ RdV w' w'.heap.size A (zc ys) ∧ Below V.heap.size V w'))
    (HPc : Hid (∀ V, Below w.heap.size w V → Calls Try.prog 39 #[.agg #[.int .i64 len, .slice A N c], .agg #[.int .i64 ix, .slice A2 nx c2]] V fun e w' => e = .returned (.int .i64 0) ∧ Below V.heap.size V w'))
    (HSm : Hid (∀ A B c d V, RdV V V.heap.size A (zc ys) → RdV V V.heap.size B (zc ys) → Calls Try.prog 38 #[.slice A ny c, .slice B ny d] V fun e w' => e = .returned (.bool true) ∧ Below V.heap.size V w'))
    (HBl : Hid (∀ V, Below w.heap.size w V → Calls Try.prog 22 #[.agg #[.int .i64 len, .slice A N c]] V (Listed V l)))
    (HOa : Hid (∀ A c V, RdV V V.heap.size A (ic l) → Calls Try.prog 34 #[.slice A l.length c, .int .i64 p] V fun e w' => e = .returned (.int .i64 (n : Int)) ∧ Below V.heap.size V w'))
    (ta : decide (bit < 0) = false) (tb : decide (1 < bit) = false) (tc : decide (i < 0) = true) :
    Calls Try.prog 4 #[.agg #[.int .i64 len, .slice A N c], .int .i64 p, .int .i64 bit, .int .i64 i, .int .i64 every, .agg #[.int .i64 ix, .slice A2 nx c2]] w fun e w' => e = .returned (.bool true) ∧ Below w.heap.size w w' := by
  have HB : Hid (Below w.heap.size w w) := Below.refl _ w
  go_enter Try.func4, Try.ntmps4
  have HBq : Hid (Below w.heap.size w (w.alloc (.cells #[.int .i64 len, .slice A N c] 25))) := one_below _ _
  replace HB : Hid (Below w.heap.size w (w.alloc (.cells #[.int .i64 len, .slice A N c] 25))) := HB.out.trans (HBq.out.mono HB.out.size)
  clear HBq
  have KB0 : Hid (((w.alloc (.cells #[.int .i64 len, .slice A N c] 25))).cell? ⟨w.heap.size, 0, none⟩ = some (.int .i64 len)) := (cell_at (World.alloc_heap_new w _) 0).trans rfl
  have KB1 : Hid (((w.alloc (.cells #[.int .i64 len, .slice A N c] 25))).cell? ⟨w.heap.size, 1, none⟩ = some (.slice A N c)) := (cell_at (World.alloc_heap_new w _) 1).trans rfl
  have HBq : Hid (Below (w.alloc (.cells #[.int .i64 len, .slice A N c] 25)).heap.size (w.alloc (.cells #[.int .i64 len, .slice A N c] 25)) ((w.alloc (.cells #[.int .i64 len, .slice A N c] 25)).alloc (.cells #[.int .i64 ix, .slice A2 nx c2] 45))) := one_below _ _
  replace HB : Hid (Below w.heap.size w ((w.alloc (.cells #[.int .i64 len, .slice A N c] 25)).alloc (.cells #[.int .i64 ix, .slice A2 nx c2] 45))) := HB.out.trans (HBq.out.mono HB.out.size)
  replace KB0 : Hid ((((w.alloc (.cells #[.int .i64 len, .slice A N c] 25)).alloc (.cells #[.int .i64 ix, .slice A2 nx c2] 45))).cell? ⟨w.heap.size, 0, none⟩ = some (.int .i64 len)) := (HBq.out.cell (World.block_lt_of_cell? _ _ KB0.out)).trans KB0.out
  replace KB1 : Hid ((((w.alloc (.cells #[.int .i64 len, .slice A N c] 25)).alloc (.cells #[.int .i64 ix, .slice A2 nx c2] 45))).cell? ⟨w.heap.size, 1, none⟩ = some (.slice A N c)) := (HBq.out.cell (World.block_lt_of_cell? _ _ KB1.out)).trans KB1.out
  clear HBq
  have KX0 : Hid ((((w.alloc (.cells #[.int .i64 len, .slice A N c] 25)).alloc (.cells #[.int .i64 ix, .slice A2 nx c2] 45))).cell? ⟨w.heap.size + 1, 0, none⟩ = some (.int .i64 ix)) := by { have h := cell_at (World.alloc_heap_new (w.alloc (.cells #[.int .i64 len, .slice A N c] 25)) (.cells #[.int .i64 ix, .slice A2 nx c2] 45)) 0; rw [World.size_alloc] at h; exact h }
  have KX1 : Hid ((((w.alloc (.cells #[.int .i64 len, .slice A N c] 25)).alloc (.cells #[.int .i64 ix, .slice A2 nx c2] 45))).cell? ⟨w.heap.size + 1, 1, none⟩ = some (.slice A2 nx c2)) := by { have h := cell_at (World.alloc_heap_new (w.alloc (.cells #[.int .i64 len, .slice A N c] 25)) (.cells #[.int .i64 ix, .slice A2 nx c2] 45)) 1; rw [World.size_alloc] at h; exact h }
  have HC := Lib.hid (HRk.out _ HB.out)
  have k_KB0 := KB0.out
  have k_KB1 := KB1.out
  have k_KX0 := KX0.out
  have k_KX1 := KX1.out
  go_wp2_with fail
  clear k_KB0
  clear k_KB1
  clear k_KX0
  clear k_KX1
  refine HC.out.mono ?_
  rintro e w1_ ⟨rfl, bq⟩
  clear HC
  have HBc := Lib.hid bq; clear bq
  have HBq : Hid (Below ((w.alloc (.cells #[.int .i64 len, .slice A N c] 25)).alloc (.cells #[.int .i64 ix, .slice A2 nx c2] 45)).heap.size ((w.alloc (.cells #[.int .i64 len, .slice A N c] 25)).alloc (.cells #[.int .i64 ix, .slice A2 nx c2] 45)) w1_) := HBc.out
  replace HB : Hid (Below w.heap.size w w1_) := HB.out.trans (HBq.out.mono HB.out.size)
  replace KB0 : Hid ((w1_).cell? ⟨w.heap.size, 0, none⟩ = some (.int .i64 len)) := (HBq.out.cell (World.block_lt_of_cell? _ _ KB0.out)).trans KB0.out
  replace KB1 : Hid ((w1_).cell? ⟨w.heap.size, 1, none⟩ = some (.slice A N c)) := (HBq.out.cell (World.block_lt_of_cell? _ _ KB1.out)).trans KB1.out
  replace KX0 : Hid ((w1_).cell? ⟨w.heap.size + 1, 0, none⟩ = some (.int .i64 ix)) := (HBq.out.cell (World.block_lt_of_cell? _ _ KX0.out)).trans KX0.out
  replace KX1 : Hid ((w1_).cell? ⟨w.heap.size + 1, 1, none⟩ = some (.slice A2 nx c2)) := (HBq.out.cell (World.block_lt_of_cell? _ _ KX1.out)).trans KX1.out
  clear HBq
  clear HBc
  have HC := Lib.hid (HSl.out _ HB.out)
  have k_KB0 := KB0.out
  have k_KB1 := KB1.out
  have k_KX0 := KX0.out
  have k_KX1 := KX1.out
  go_wp2_with fail
  clear k_KB0
  clear k_KB1
  clear k_KX0
  clear k_KX1
  refine HC.out.mono ?_
  rintro e w2_ ⟨rfl, bq⟩
  clear HC
  have HBc := Lib.hid bq; clear bq
  have HBq : Hid (Below w1_.heap.size w1_ w2_) := HBc.out
  replace HB : Hid (Below w.heap.size w w2_) := HB.out.trans (HBq.out.mono HB.out.size)
  replace KB0 : Hid ((w2_).cell? ⟨w.heap.size, 0, none⟩ = some (.int .i64 len)) := (HBq.out.cell (World.block_lt_of_cell? _ _ KB0.out)).trans KB0.out
  replace KB1 : Hid ((w2_).cell? ⟨w.heap.size, 1, none⟩ = some (.slice A N c)) := (HBq.out.cell (World.block_lt_of_cell? _ _ KB1.out)).trans KB1.out
  replace KX0 : Hid ((w2_).cell? ⟨w.heap.size + 1, 0, none⟩ = some (.int .i64 ix)) := (HBq.out.cell (World.block_lt_of_cell? _ _ KX0.out)).trans KX0.out
  replace KX1 : Hid ((w2_).cell? ⟨w.heap.size + 1, 1, none⟩ = some (.slice A2 nx c2)) := (HBq.out.cell (World.block_lt_of_cell? _ _ KX1.out)).trans KX1.out
  clear HBq
  clear HBc
  have HC := Lib.hid (HBd.out _ HB.out)
  have k_KB0 := KB0.out
  have k_KB1 := KB1.out
  have k_KX0 := KX0.out
  have k_KX1 := KX1.out
  go_wp2_with fail
  clear k_KB0
  clear k_KB1
  clear k_KX0
  clear k_KX1
  refine HC.out.mono ?_
  rintro e w3_ ⟨AY, cY, rfl, rq, bq⟩
  clear HC
  have HBc := Lib.hid bq; clear bq
  have HBq : Hid (Below w2_.heap.size w2_ w3_) := HBc.out
  replace HB : Hid (Below w.heap.size w w3_) := HB.out.trans (HBq.out.mono HB.out.size)
  replace KB0 : Hid ((w3_).cell? ⟨w.heap.size, 0, none⟩ = some (.int .i64 len)) := (HBq.out.cell (World.block_lt_of_cell? _ _ KB0.out)).trans KB0.out
  replace KB1 : Hid ((w3_).cell? ⟨w.heap.size, 1, none⟩ = some (.slice A N c)) := (HBq.out.cell (World.block_lt_of_cell? _ _ KB1.out)).trans KB1.out
  replace KX0 : Hid ((w3_).cell? ⟨w.heap.size + 1, 0, none⟩ = some (.int .i64 ix)) := (HBq.out.cell (World.block_lt_of_cell? _ _ KX0.out)).trans KX0.out
  replace KX1 : Hid ((w3_).cell? ⟨w.heap.size + 1, 1, none⟩ = some (.slice A2 nx c2)) := (HBq.out.cell (World.block_lt_of_cell? _ _ KX1.out)).trans KX1.out
  clear HBq
  clear HBc
  have HY : Hid (RdV w3_ (w3_).heap.size AY (zc ys)) := rq
  clear rq
  have HBq : Hid (Below w3_.heap.size w3_ (w3_.alloc (.cells #[.int .i64 ey, .slice AY ny cY] 45))) := one_below _ _
  replace HB : Hid (Below w.heap.size w (w3_.alloc (.cells #[.int .i64 ey, .slice AY ny cY] 45))) := HB.out.trans (HBq.out.mono HB.out.size)
  replace KB0 : Hid (((w3_.alloc (.cells #[.int .i64 ey, .slice AY ny cY] 45))).cell? ⟨w.heap.size, 0, none⟩ = some (.int .i64 len)) := (HBq.out.cell (World.block_lt_of_cell? _ _ KB0.out)).trans KB0.out
  replace KB1 : Hid (((w3_.alloc (.cells #[.int .i64 ey, .slice AY ny cY] 45))).cell? ⟨w.heap.size, 1, none⟩ = some (.slice A N c)) := (HBq.out.cell (World.block_lt_of_cell? _ _ KB1.out)).trans KB1.out
  replace KX0 : Hid (((w3_.alloc (.cells #[.int .i64 ey, .slice AY ny cY] 45))).cell? ⟨w.heap.size + 1, 0, none⟩ = some (.int .i64 ix)) := (HBq.out.cell (World.block_lt_of_cell? _ _ KX0.out)).trans KX0.out
  replace KX1 : Hid (((w3_.alloc (.cells #[.int .i64 ey, .slice AY ny cY] 45))).cell? ⟨w.heap.size + 1, 1, none⟩ = some (.slice A2 nx c2)) := (HBq.out.cell (World.block_lt_of_cell? _ _ KX1.out)).trans KX1.out
  replace HY : Hid (RdV (w3_.alloc (.cells #[.int .i64 ey, .slice AY ny cY] 45)) ((w3_.alloc (.cells #[.int .i64 ey, .slice AY ny cY] 45))).heap.size AY (zc ys)) := HY.out.on HBq.out
  clear HBq
  have KY0 : Hid (((w3_.alloc (.cells #[.int .i64 ey, .slice AY ny cY] 45))).cell? ⟨w3_.heap.size, 0, none⟩ = some (.int .i64 ey)) := (cell_at (World.alloc_heap_new w3_ _) 0).trans rfl
  have KY1 : Hid (((w3_.alloc (.cells #[.int .i64 ey, .slice AY ny cY] 45))).cell? ⟨w3_.heap.size, 1, none⟩ = some (.slice AY ny cY)) := (cell_at (World.alloc_heap_new w3_ _) 1).trans rfl
  have HC := Lib.hid (HBy.out _ HB.out)
  have k_KB0 := KB0.out
  have k_KB1 := KB1.out
  have k_KX0 := KX0.out
  have k_KX1 := KX1.out
  go_wp2_with fail
  clear k_KB0
  clear k_KB1
  clear k_KX0
  clear k_KX1
  refine HC.out.mono ?_
  rintro e w4_ ⟨rfl, bq⟩
  clear HC
  have HBc := Lib.hid bq; clear bq
  have HBq : Hid (Below (w3_.alloc (.cells #[.int .i64 ey, .slice AY ny cY] 45)).heap.size (w3_.alloc (.cells #[.int .i64 ey, .slice AY ny cY] 45)) w4_) := HBc.out
  replace HB : Hid (Below w.heap.size w w4_) := HB.out.trans (HBq.out.mono HB.out.size)
  replace KB0 : Hid ((w4_).cell? ⟨w.heap.size, 0, none⟩ = some (.int .i64 len)) := (HBq.out.cell (World.block_lt_of_cell? _ _ KB0.out)).trans KB0.out
  replace KB1 : Hid ((w4_).cell? ⟨w.heap.size, 1, none⟩ = some (.slice A N c)) := (HBq.out.cell (World.block_lt_of_cell? _ _ KB1.out)).trans KB1.out
  replace KX0 : Hid ((w4_).cell? ⟨w.heap.size + 1, 0, none⟩ = some (.int .i64 ix)) := (HBq.out.cell (World.block_lt_of_cell? _ _ KX0.out)).trans KX0.out
  replace KX1 : Hid ((w4_).cell? ⟨w.heap.size + 1, 1, none⟩ = some (.slice A2 nx c2)) := (HBq.out.cell (World.block_lt_of_cell? _ _ KX1.out)).trans KX1.out
  replace HY : Hid (RdV w4_ (w4_).heap.size AY (zc ys)) := HY.out.on HBq.out
  replace KY0 : Hid ((w4_).cell? ⟨w3_.heap.size, 0, none⟩ = some (.int .i64 ey)) := (HBq.out.cell (World.block_lt_of_cell? _ _ KY0.out)).trans KY0.out
  replace KY1 : Hid ((w4_).cell? ⟨w3_.heap.size, 1, none⟩ = some (.slice AY ny cY)) := (HBq.out.cell (World.block_lt_of_cell? _ _ KY1.out)).trans KY1.out
  clear HBq
  clear HBc
  have HS : Hid (∀ W, Below w4_.heap.size w4_ W → W.cell? ⟨w.heap.size, 0, none⟩ = some (.int .i64 len) ∧ W.cell? ⟨w.heap.size, 1, none⟩ = some (.slice A N c) ∧ W.cell? ⟨w.heap.size + 1, 0, none⟩ = some (.int .i64 ix) ∧ W.cell? ⟨w.heap.size + 1, 1, none⟩ = some (.slice A2 nx c2)) := fun W hW => ⟨(hW.cell (World.block_lt_of_cell? _ _ KB0.out)).trans KB0.out, (hW.cell (World.block_lt_of_cell? _ _ KB1.out)).trans KB1.out, (hW.cell (World.block_lt_of_cell? _ _ KX0.out)).trans KX0.out, (hW.cell (World.block_lt_of_cell? _ _ KX1.out)).trans KX1.out⟩
  have HD : Hid (Below w4_.heap.size w4_ w4_.drew) := (Below.refl _ _).drew
  go_wp2
  go_region_held3 (fun w' => w'.cell? ⟨w.heap.size, 0, none⟩ = some (.int .i64 len) ∧ w'.cell? ⟨w.heap.size, 1, none⟩ = some (.slice A N c) ∧ w'.cell? ⟨w.heap.size + 1, 0, none⟩ = some (.int .i64 ix) ∧ w'.cell? ⟨w.heap.size + 1, 1, none⟩ = some (.slice A2 nx c2))
    ((refine HS.out _ ?_; first | exact hk3.out | exact hk2.out | exact hk1.out | exact HD.out))
    ((first
      | (go_at_call 33; have hx := hk2.out; refine (HRc.out wb (HB.out.trans (hx.mono HB.out.size))).mono ?_; rintro e wc ⟨rfl, bq⟩; have hk3 : Hid (Below w4_.heap.size w4_ wc) := hx.trans (bq.mono hx.size); clear bq hx)
      | (go_at_call 32; have hx := hk1.out; refine (HCk.out wa (HB.out.trans (hx.mono HB.out.size))).mono ?_; rintro e wb ⟨rfl, bq⟩; have hk2 : Hid (Below w4_.heap.size w4_ wb) := hx.trans (bq.mono hx.size); clear bq hx)
      | (go_at_call 20; refine (HRe.out _ (HB.out.trans (HD.out.mono HB.out.size))).mono ?_; rintro e wa ⟨rfl, bq⟩; have hk1 : Hid (Below w4_.heap.size w4_ wa) := HD.out.trans (bq.mono HD.out.size); clear bq)))
  have HBq : Hid (Below w4_.heap.size w4_ wc) := hk3.out
  replace HB : Hid (Below w.heap.size w wc) := HB.out.trans (HBq.out.mono HB.out.size)
  replace KB0 : Hid ((wc).cell? ⟨w.heap.size, 0, none⟩ = some (.int .i64 len)) := (HBq.out.cell (World.block_lt_of_cell? _ _ KB0.out)).trans KB0.out
  replace KB1 : Hid ((wc).cell? ⟨w.heap.size, 1, none⟩ = some (.slice A N c)) := (HBq.out.cell (World.block_lt_of_cell? _ _ KB1.out)).trans KB1.out
  replace KX0 : Hid ((wc).cell? ⟨w.heap.size + 1, 0, none⟩ = some (.int .i64 ix)) := (HBq.out.cell (World.block_lt_of_cell? _ _ KX0.out)).trans KX0.out
  replace KX1 : Hid ((wc).cell? ⟨w.heap.size + 1, 1, none⟩ = some (.slice A2 nx c2)) := (HBq.out.cell (World.block_lt_of_cell? _ _ KX1.out)).trans KX1.out
  replace HY : Hid (RdV wc (wc).heap.size AY (zc ys)) := HY.out.on HBq.out
  replace KY0 : Hid ((wc).cell? ⟨w3_.heap.size, 0, none⟩ = some (.int .i64 ey)) := (HBq.out.cell (World.block_lt_of_cell? _ _ KY0.out)).trans KY0.out
  replace KY1 : Hid ((wc).cell? ⟨w3_.heap.size, 1, none⟩ = some (.slice AY ny cY)) := (HBq.out.cell (World.block_lt_of_cell? _ _ KY1.out)).trans KY1.out
  clear HBq
  clear HS HD
  try clear hk1
  try clear hk2
  clear hk3
  have HC := Lib.hid (HBl.out _ HB.out)
  have k_KB0 := KB0.out
  have k_KB1 := KB1.out
  go_wp2_with fail
  clear k_KB0
  clear k_KB1
  refine HC.out.mono ?_
  rintro e w5_ ⟨AL, cL, rfl, rq, bq⟩
  clear HC
  have HBc := Lib.hid bq; clear bq
  have HBq : Hid (Below wc.heap.size wc w5_) := HBc.out
  replace HB : Hid (Below w.heap.size w w5_) := HB.out.trans (HBq.out.mono HB.out.size)
  replace KB0 : Hid ((w5_).cell? ⟨w.heap.size, 0, none⟩ = some (.int .i64 len)) := (HBq.out.cell (World.block_lt_of_cell? _ _ KB0.out)).trans KB0.out
  replace KB1 : Hid ((w5_).cell? ⟨w.heap.size, 1, none⟩ = some (.slice A N c)) := (HBq.out.cell (World.block_lt_of_cell? _ _ KB1.out)).trans KB1.out
  replace KX0 : Hid ((w5_).cell? ⟨w.heap.size + 1, 0, none⟩ = some (.int .i64 ix)) := (HBq.out.cell (World.block_lt_of_cell? _ _ KX0.out)).trans KX0.out
  replace KX1 : Hid ((w5_).cell? ⟨w.heap.size + 1, 1, none⟩ = some (.slice A2 nx c2)) := (HBq.out.cell (World.block_lt_of_cell? _ _ KX1.out)).trans KX1.out
  replace HY : Hid (RdV w5_ (w5_).heap.size AY (zc ys)) := HY.out.on HBq.out
  replace KY0 : Hid ((w5_).cell? ⟨w3_.heap.size, 0, none⟩ = some (.int .i64 ey)) := (HBq.out.cell (World.block_lt_of_cell? _ _ KY0.out)).trans KY0.out
  replace KY1 : Hid ((w5_).cell? ⟨w3_.heap.size, 1, none⟩ = some (.slice AY ny cY)) := (HBq.out.cell (World.block_lt_of_cell? _ _ KY1.out)).trans KY1.out
  clear HBq
  clear HBc
  have HL : Hid (RdV w5_ (w5_).heap.size AL (ic l)) := own_rdv rq
  clear rq
  have HC := Lib.hid (HOa.out AL cL _ HL.out)
  have k_KB0 := KB0.out
  have k_KB1 := KB1.out
  go_wp2_with fail
  clear k_KB0
  clear k_KB1
  refine HC.out.mono ?_
  rintro e w6_ ⟨rfl, bq⟩
  clear HC
  have HBc := Lib.hid bq; clear bq
  have HBq : Hid (Below w5_.heap.size w5_ w6_) := HBc.out
  replace HB : Hid (Below w.heap.size w w6_) := HB.out.trans (HBq.out.mono HB.out.size)
  replace KB0 : Hid ((w6_).cell? ⟨w.heap.size, 0, none⟩ = some (.int .i64 len)) := (HBq.out.cell (World.block_lt_of_cell? _ _ KB0.out)).trans KB0.out
  replace KB1 : Hid ((w6_).cell? ⟨w.heap.size, 1, none⟩ = some (.slice A N c)) := (HBq.out.cell (World.block_lt_of_cell? _ _ KB1.out)).trans KB1.out
  replace KX0 : Hid ((w6_).cell? ⟨w.heap.size + 1, 0, none⟩ = some (.int .i64 ix)) := (HBq.out.cell (World.block_lt_of_cell? _ _ KX0.out)).trans KX0.out
  replace KX1 : Hid ((w6_).cell? ⟨w.heap.size + 1, 1, none⟩ = some (.slice A2 nx c2)) := (HBq.out.cell (World.block_lt_of_cell? _ _ KX1.out)).trans KX1.out
  replace HY : Hid (RdV w6_ (w6_).heap.size AY (zc ys)) := HY.out.on HBq.out
  replace KY0 : Hid ((w6_).cell? ⟨w3_.heap.size, 0, none⟩ = some (.int .i64 ey)) := (HBq.out.cell (World.block_lt_of_cell? _ _ KY0.out)).trans KY0.out
  replace KY1 : Hid ((w6_).cell? ⟨w3_.heap.size, 1, none⟩ = some (.slice AY ny cY)) := (HBq.out.cell (World.block_lt_of_cell? _ _ KY1.out)).trans KY1.out
  replace HL : Hid (RdV w6_ (w6_).heap.size AL (ic l)) := HL.out.on HBq.out
  clear HBq
  clear HBc
  have HC := Lib.hid (HRb.out _ HB.out)
  have k_KB0 := KB0.out
  have k_KB1 := KB1.out
  go_wp2_with fail
  clear k_KB0
  clear k_KB1
  refine HC.out.mono ?_
  rintro e w7_ ⟨AZ, cZ, rfl, rq, bq⟩
  clear HC
  have HBc := Lib.hid bq; clear bq
  have HBq : Hid (Below w6_.heap.size w6_ w7_) := HBc.out
  replace HB : Hid (Below w.heap.size w w7_) := HB.out.trans (HBq.out.mono HB.out.size)
  replace KB0 : Hid ((w7_).cell? ⟨w.heap.size, 0, none⟩ = some (.int .i64 len)) := (HBq.out.cell (World.block_lt_of_cell? _ _ KB0.out)).trans KB0.out
  replace KB1 : Hid ((w7_).cell? ⟨w.heap.size, 1, none⟩ = some (.slice A N c)) := (HBq.out.cell (World.block_lt_of_cell? _ _ KB1.out)).trans KB1.out
  replace KX0 : Hid ((w7_).cell? ⟨w.heap.size + 1, 0, none⟩ = some (.int .i64 ix)) := (HBq.out.cell (World.block_lt_of_cell? _ _ KX0.out)).trans KX0.out
  replace KX1 : Hid ((w7_).cell? ⟨w.heap.size + 1, 1, none⟩ = some (.slice A2 nx c2)) := (HBq.out.cell (World.block_lt_of_cell? _ _ KX1.out)).trans KX1.out
  replace HY : Hid (RdV w7_ (w7_).heap.size AY (zc ys)) := HY.out.on HBq.out
  replace KY0 : Hid ((w7_).cell? ⟨w3_.heap.size, 0, none⟩ = some (.int .i64 ey)) := (HBq.out.cell (World.block_lt_of_cell? _ _ KY0.out)).trans KY0.out
  replace KY1 : Hid ((w7_).cell? ⟨w3_.heap.size, 1, none⟩ = some (.slice AY ny cY)) := (HBq.out.cell (World.block_lt_of_cell? _ _ KY1.out)).trans KY1.out
  replace HL : Hid (RdV w7_ (w7_).heap.size AL (ic l)) := HL.out.on HBq.out
  clear HBq
  clear HBc
  have HZ : Hid (RdV w7_ (w7_).heap.size AZ (zc ys)) := rq
  clear rq
  have HBq : Hid (Below w7_.heap.size w7_ (w7_.alloc (.cells #[.int .i64 ey, .slice AZ ny cZ] 45))) := one_below _ _
  replace HB : Hid (Below w.heap.size w (w7_.alloc (.cells #[.int .i64 ey, .slice AZ ny cZ] 45))) := HB.out.trans (HBq.out.mono HB.out.size)
  replace KB0 : Hid (((w7_.alloc (.cells #[.int .i64 ey, .slice AZ ny cZ] 45))).cell? ⟨w.heap.size, 0, none⟩ = some (.int .i64 len)) := (HBq.out.cell (World.block_lt_of_cell? _ _ KB0.out)).trans KB0.out
  replace KB1 : Hid (((w7_.alloc (.cells #[.int .i64 ey, .slice AZ ny cZ] 45))).cell? ⟨w.heap.size, 1, none⟩ = some (.slice A N c)) := (HBq.out.cell (World.block_lt_of_cell? _ _ KB1.out)).trans KB1.out
  replace KX0 : Hid (((w7_.alloc (.cells #[.int .i64 ey, .slice AZ ny cZ] 45))).cell? ⟨w.heap.size + 1, 0, none⟩ = some (.int .i64 ix)) := (HBq.out.cell (World.block_lt_of_cell? _ _ KX0.out)).trans KX0.out
  replace KX1 : Hid (((w7_.alloc (.cells #[.int .i64 ey, .slice AZ ny cZ] 45))).cell? ⟨w.heap.size + 1, 1, none⟩ = some (.slice A2 nx c2)) := (HBq.out.cell (World.block_lt_of_cell? _ _ KX1.out)).trans KX1.out
  replace HY : Hid (RdV (w7_.alloc (.cells #[.int .i64 ey, .slice AZ ny cZ] 45)) ((w7_.alloc (.cells #[.int .i64 ey, .slice AZ ny cZ] 45))).heap.size AY (zc ys)) := HY.out.on HBq.out
  replace KY0 : Hid (((w7_.alloc (.cells #[.int .i64 ey, .slice AZ ny cZ] 45))).cell? ⟨w3_.heap.size, 0, none⟩ = some (.int .i64 ey)) := (HBq.out.cell (World.block_lt_of_cell? _ _ KY0.out)).trans KY0.out
  replace KY1 : Hid (((w7_.alloc (.cells #[.int .i64 ey, .slice AZ ny cZ] 45))).cell? ⟨w3_.heap.size, 1, none⟩ = some (.slice AY ny cY)) := (HBq.out.cell (World.block_lt_of_cell? _ _ KY1.out)).trans KY1.out
  replace HL : Hid (RdV (w7_.alloc (.cells #[.int .i64 ey, .slice AZ ny cZ] 45)) ((w7_.alloc (.cells #[.int .i64 ey, .slice AZ ny cZ] 45))).heap.size AL (ic l)) := HL.out.on HBq.out
  replace HZ : Hid (RdV (w7_.alloc (.cells #[.int .i64 ey, .slice AZ ny cZ] 45)) ((w7_.alloc (.cells #[.int .i64 ey, .slice AZ ny cZ] 45))).heap.size AZ (zc ys)) := HZ.out.on HBq.out
  clear HBq
  have KZ0 : Hid (((w7_.alloc (.cells #[.int .i64 ey, .slice AZ ny cZ] 45))).cell? ⟨w7_.heap.size, 0, none⟩ = some (.int .i64 ey)) := (cell_at (World.alloc_heap_new w7_ _) 0).trans rfl
  have KZ1 : Hid (((w7_.alloc (.cells #[.int .i64 ey, .slice AZ ny cZ] 45))).cell? ⟨w7_.heap.size, 1, none⟩ = some (.slice AZ ny cZ)) := (cell_at (World.alloc_heap_new w7_ _) 1).trans rfl
  have HC := Lib.hid (rbegun_true (w7_.alloc (.cells #[.int .i64 ey, .slice AZ ny cZ] 45)))
  have k_KB0 := KB0.out
  have k_KB1 := KB1.out
  go_wp2_with fail
  clear k_KB0
  clear k_KB1
  refine HC.out.mono ?_
  rintro e w8_ ⟨rfl, bq⟩
  clear HC
  have HBc := Lib.hid bq; clear bq
  have HBq : Hid (Below (w7_.alloc (.cells #[.int .i64 ey, .slice AZ ny cZ] 45)).heap.size (w7_.alloc (.cells #[.int .i64 ey, .slice AZ ny cZ] 45)) w8_) := HBc.out
  replace HB : Hid (Below w.heap.size w w8_) := HB.out.trans (HBq.out.mono HB.out.size)
  replace KB0 : Hid ((w8_).cell? ⟨w.heap.size, 0, none⟩ = some (.int .i64 len)) := (HBq.out.cell (World.block_lt_of_cell? _ _ KB0.out)).trans KB0.out
  replace KB1 : Hid ((w8_).cell? ⟨w.heap.size, 1, none⟩ = some (.slice A N c)) := (HBq.out.cell (World.block_lt_of_cell? _ _ KB1.out)).trans KB1.out
  replace KX0 : Hid ((w8_).cell? ⟨w.heap.size + 1, 0, none⟩ = some (.int .i64 ix)) := (HBq.out.cell (World.block_lt_of_cell? _ _ KX0.out)).trans KX0.out
  replace KX1 : Hid ((w8_).cell? ⟨w.heap.size + 1, 1, none⟩ = some (.slice A2 nx c2)) := (HBq.out.cell (World.block_lt_of_cell? _ _ KX1.out)).trans KX1.out
  replace HY : Hid (RdV w8_ (w8_).heap.size AY (zc ys)) := HY.out.on HBq.out
  replace KY0 : Hid ((w8_).cell? ⟨w3_.heap.size, 0, none⟩ = some (.int .i64 ey)) := (HBq.out.cell (World.block_lt_of_cell? _ _ KY0.out)).trans KY0.out
  replace KY1 : Hid ((w8_).cell? ⟨w3_.heap.size, 1, none⟩ = some (.slice AY ny cY)) := (HBq.out.cell (World.block_lt_of_cell? _ _ KY1.out)).trans KY1.out
  replace HL : Hid (RdV w8_ (w8_).heap.size AL (ic l)) := HL.out.on HBq.out
  replace HZ : Hid (RdV w8_ (w8_).heap.size AZ (zc ys)) := HZ.out.on HBq.out
  replace KZ0 : Hid ((w8_).cell? ⟨w7_.heap.size, 0, none⟩ = some (.int .i64 ey)) := (HBq.out.cell (World.block_lt_of_cell? _ _ KZ0.out)).trans KZ0.out
  replace KZ1 : Hid ((w8_).cell? ⟨w7_.heap.size, 1, none⟩ = some (.slice AZ ny cZ)) := (HBq.out.cell (World.block_lt_of_cell? _ _ KZ1.out)).trans KZ1.out
  clear HBq
  clear HBc
  have HC := Lib.hid (HSm.out _ _ cY cZ _ HY.out HZ.out)
  have k_KY0 := KY0.out
  have k_KY1 := KY1.out
  have k_KZ0 := KZ0.out
  have k_KZ1 := KZ1.out
  go_wp2_with fail
  clear k_KY0
  clear k_KY1
  clear k_KZ0
  clear k_KZ1
  refine HC.out.mono ?_
  rintro e w9_ ⟨rfl, bq⟩
  clear HC
  have HBc := Lib.hid bq; clear bq
  have HBq : Hid (Below w8_.heap.size w8_ w9_) := HBc.out
  replace HB : Hid (Below w.heap.size w w9_) := HB.out.trans (HBq.out.mono HB.out.size)
  replace KB0 : Hid ((w9_).cell? ⟨w.heap.size, 0, none⟩ = some (.int .i64 len)) := (HBq.out.cell (World.block_lt_of_cell? _ _ KB0.out)).trans KB0.out
  replace KB1 : Hid ((w9_).cell? ⟨w.heap.size, 1, none⟩ = some (.slice A N c)) := (HBq.out.cell (World.block_lt_of_cell? _ _ KB1.out)).trans KB1.out
  replace KX0 : Hid ((w9_).cell? ⟨w.heap.size + 1, 0, none⟩ = some (.int .i64 ix)) := (HBq.out.cell (World.block_lt_of_cell? _ _ KX0.out)).trans KX0.out
  replace KX1 : Hid ((w9_).cell? ⟨w.heap.size + 1, 1, none⟩ = some (.slice A2 nx c2)) := (HBq.out.cell (World.block_lt_of_cell? _ _ KX1.out)).trans KX1.out
  replace HY : Hid (RdV w9_ (w9_).heap.size AY (zc ys)) := HY.out.on HBq.out
  replace KY0 : Hid ((w9_).cell? ⟨w3_.heap.size, 0, none⟩ = some (.int .i64 ey)) := (HBq.out.cell (World.block_lt_of_cell? _ _ KY0.out)).trans KY0.out
  replace KY1 : Hid ((w9_).cell? ⟨w3_.heap.size, 1, none⟩ = some (.slice AY ny cY)) := (HBq.out.cell (World.block_lt_of_cell? _ _ KY1.out)).trans KY1.out
  replace HL : Hid (RdV w9_ (w9_).heap.size AL (ic l)) := HL.out.on HBq.out
  replace HZ : Hid (RdV w9_ (w9_).heap.size AZ (zc ys)) := HZ.out.on HBq.out
  replace KZ0 : Hid ((w9_).cell? ⟨w7_.heap.size, 0, none⟩ = some (.int .i64 ey)) := (HBq.out.cell (World.block_lt_of_cell? _ _ KZ0.out)).trans KZ0.out
  replace KZ1 : Hid ((w9_).cell? ⟨w7_.heap.size, 1, none⟩ = some (.slice AZ ny cZ)) := (HBq.out.cell (World.block_lt_of_cell? _ _ KZ1.out)).trans KZ1.out
  clear HBq
  clear HBc
  have HC := Lib.hid (HPc.out _ HB.out)
  have k_KB0 := KB0.out
  have k_KB1 := KB1.out
  have k_KX0 := KX0.out
  have k_KX1 := KX1.out
  go_wp2_with fail
  clear k_KB0
  clear k_KB1
  clear k_KX0
  clear k_KX1
  refine HC.out.mono ?_
  rintro e w10_ ⟨rfl, bq⟩
  clear HC
  have HBc := Lib.hid bq; clear bq
  have HBq : Hid (Below w9_.heap.size w9_ w10_) := HBc.out
  replace HB : Hid (Below w.heap.size w w10_) := HB.out.trans (HBq.out.mono HB.out.size)
  replace KB0 : Hid ((w10_).cell? ⟨w.heap.size, 0, none⟩ = some (.int .i64 len)) := (HBq.out.cell (World.block_lt_of_cell? _ _ KB0.out)).trans KB0.out
  replace KB1 : Hid ((w10_).cell? ⟨w.heap.size, 1, none⟩ = some (.slice A N c)) := (HBq.out.cell (World.block_lt_of_cell? _ _ KB1.out)).trans KB1.out
  replace KX0 : Hid ((w10_).cell? ⟨w.heap.size + 1, 0, none⟩ = some (.int .i64 ix)) := (HBq.out.cell (World.block_lt_of_cell? _ _ KX0.out)).trans KX0.out
  replace KX1 : Hid ((w10_).cell? ⟨w.heap.size + 1, 1, none⟩ = some (.slice A2 nx c2)) := (HBq.out.cell (World.block_lt_of_cell? _ _ KX1.out)).trans KX1.out
  replace HY : Hid (RdV w10_ (w10_).heap.size AY (zc ys)) := HY.out.on HBq.out
  replace KY0 : Hid ((w10_).cell? ⟨w3_.heap.size, 0, none⟩ = some (.int .i64 ey)) := (HBq.out.cell (World.block_lt_of_cell? _ _ KY0.out)).trans KY0.out
  replace KY1 : Hid ((w10_).cell? ⟨w3_.heap.size, 1, none⟩ = some (.slice AY ny cY)) := (HBq.out.cell (World.block_lt_of_cell? _ _ KY1.out)).trans KY1.out
  replace HL : Hid (RdV w10_ (w10_).heap.size AL (ic l)) := HL.out.on HBq.out
  replace HZ : Hid (RdV w10_ (w10_).heap.size AZ (zc ys)) := HZ.out.on HBq.out
  replace KZ0 : Hid ((w10_).cell? ⟨w7_.heap.size, 0, none⟩ = some (.int .i64 ey)) := (HBq.out.cell (World.block_lt_of_cell? _ _ KZ0.out)).trans KZ0.out
  replace KZ1 : Hid ((w10_).cell? ⟨w7_.heap.size, 1, none⟩ = some (.slice AZ ny cZ)) := (HBq.out.cell (World.block_lt_of_cell? _ _ KZ1.out)).trans KZ1.out
  clear HBq
  clear HBc
  go_wp2
  go_ret
  exact ⟨rfl, HB.out⟩
set_option maxHeartbeats 8000000 in
theorem rt_w_rc_x (len : Int) (A : Option Addr) (N c : Nat) (ix : Int) (A2 : Option Addr) (nx c2 : Nat) (p bit i every : Int) (n s ny : Nat) (ew ev eu ey g : Int) (ys : List Int) (l : List Bool) (w : World)
    (HRk : Hid (∀ V, Below w.heap.size w V → Calls Try.prog 28 #[.agg #[.int .i64 len, .slice A N c], .int .i64 p] V (RkP V n 0)))
    (HSl : Hid (∀ V, Below w.heap.size w V → Calls Try.prog 29 #[.agg #[.int .i64 len, .slice A N c], .int .i64 bit, .int .i64 i] V (RkP V 0 3)))
    (HBd : Hid (∀ V, Below w.heap.size w V → Calls Try.prog 30 #[.agg #[.int .i64 len, .slice A N c], .int .i64 every] V fun x w' => ∃ A c, x = .returned (.tuple #[.agg #[.int .i64 ey, .slice A ny c], .int .i64 g]) ∧ RdV w' w'.heap.size A (zc ys) ∧ Below V.heap.size V w'))
    (HBy : Hid (∀ V, Below w.heap.size w V → Calls Try.prog 31 #[.agg #[.int .i64 len, .slice A N c], .agg #[.int .i64 ix, .slice A2 nx c2], .int .i64 p] V (RkP V 0 eu)))
    (HRe : Hid (∀ V, Below w.heap.size w V → Calls Try.prog 20 #[.agg #[.int .i64 len, .slice A N c], .int .i64 p] V fun e w' => e = .returned (.int .i64 0) ∧ Below V.heap.size V w'))
    (HCk : Hid (∀ V, Below w.heap.size w V → Calls Try.prog 32 #[.agg #[.int .i64 len, .slice A N c]] V fun e w' => e = .returned (.int .i64 0) ∧ Below V.heap.size V w'))
    (HRc : Hid (∀ V, Below w.heap.size w V → Calls Try.prog 33 #[.agg #[.int .i64 len, .slice A N c], .agg #[.int .i64 ix, .slice A2 nx c2]] V fun e w' => e = .returned (.int .i64 eu) ∧ Below V.heap.size V w'))
    (HRb : Hid (∀ V, Below w.heap.size w V → Calls Try.prog 36 #[.agg #[.int .i64 len, .slice A N c], .int .i64 every] V fun x w' => ∃ A c, x = .returned (.tuple #[.agg #[.int .i64 ey, .slice A ny c], .int .i64 g]) ∧ RdV w' w'.heap.size A (zc ys) ∧ Below V.heap.size V w'))
    (HPc : Hid (∀ V, Below w.heap.size w V → Calls Try.prog 39 #[.agg #[.int .i64 len, .slice A N c], .agg #[.int .i64 ix, .slice A2 nx c2]] V fun e w' => e = .returned (.int .i64 eu) ∧ Below V.heap.size V w'))
    (HSm : Hid (∀ A B c d V, RdV V V.heap.size A (zc ys) → RdV V V.heap.size B (zc ys) → Calls Try.prog 38 #[.slice A ny c, .slice B ny d] V fun e w' => e = .returned (.bool true) ∧ Below V.heap.size V w'))
    (HBl : Hid (∀ V, Below w.heap.size w V → Calls Try.prog 22 #[.agg #[.int .i64 len, .slice A N c]] V (Listed V l)))
    (HOa : Hid (∀ A c V, RdV V V.heap.size A (ic l) → Calls Try.prog 34 #[.slice A l.length c, .int .i64 p] V fun e w' => e = .returned (.int .i64 (n : Int)) ∧ Below V.heap.size V w'))
    (tu : (eu == 0) = false) (ta : decide (bit < 0) = false) (tb : decide (1 < bit) = false) (tc : decide (i < 0) = true) :
    Calls Try.prog 4 #[.agg #[.int .i64 len, .slice A N c], .int .i64 p, .int .i64 bit, .int .i64 i, .int .i64 every, .agg #[.int .i64 ix, .slice A2 nx c2]] w fun e w' => e = .returned (.bool true) ∧ Below w.heap.size w w' := by
  have HB : Hid (Below w.heap.size w w) := Below.refl _ w
  go_enter Try.func4, Try.ntmps4
  have HBq : Hid (Below w.heap.size w (w.alloc (.cells #[.int .i64 len, .slice A N c] 25))) := one_below _ _
  replace HB : Hid (Below w.heap.size w (w.alloc (.cells #[.int .i64 len, .slice A N c] 25))) := HB.out.trans (HBq.out.mono HB.out.size)
  clear HBq
  have KB0 : Hid (((w.alloc (.cells #[.int .i64 len, .slice A N c] 25))).cell? ⟨w.heap.size, 0, none⟩ = some (.int .i64 len)) := (cell_at (World.alloc_heap_new w _) 0).trans rfl
  have KB1 : Hid (((w.alloc (.cells #[.int .i64 len, .slice A N c] 25))).cell? ⟨w.heap.size, 1, none⟩ = some (.slice A N c)) := (cell_at (World.alloc_heap_new w _) 1).trans rfl
  have HBq : Hid (Below (w.alloc (.cells #[.int .i64 len, .slice A N c] 25)).heap.size (w.alloc (.cells #[.int .i64 len, .slice A N c] 25)) ((w.alloc (.cells #[.int .i64 len, .slice A N c] 25)).alloc (.cells #[.int .i64 ix, .slice A2 nx c2] 45))) := one_below _ _
  replace HB : Hid (Below w.heap.size w ((w.alloc (.cells #[.int .i64 len, .slice A N c] 25)).alloc (.cells #[.int .i64 ix, .slice A2 nx c2] 45))) := HB.out.trans (HBq.out.mono HB.out.size)
  replace KB0 : Hid ((((w.alloc (.cells #[.int .i64 len, .slice A N c] 25)).alloc (.cells #[.int .i64 ix, .slice A2 nx c2] 45))).cell? ⟨w.heap.size, 0, none⟩ = some (.int .i64 len)) := (HBq.out.cell (World.block_lt_of_cell? _ _ KB0.out)).trans KB0.out
  replace KB1 : Hid ((((w.alloc (.cells #[.int .i64 len, .slice A N c] 25)).alloc (.cells #[.int .i64 ix, .slice A2 nx c2] 45))).cell? ⟨w.heap.size, 1, none⟩ = some (.slice A N c)) := (HBq.out.cell (World.block_lt_of_cell? _ _ KB1.out)).trans KB1.out
  clear HBq
  have KX0 : Hid ((((w.alloc (.cells #[.int .i64 len, .slice A N c] 25)).alloc (.cells #[.int .i64 ix, .slice A2 nx c2] 45))).cell? ⟨w.heap.size + 1, 0, none⟩ = some (.int .i64 ix)) := by { have h := cell_at (World.alloc_heap_new (w.alloc (.cells #[.int .i64 len, .slice A N c] 25)) (.cells #[.int .i64 ix, .slice A2 nx c2] 45)) 0; rw [World.size_alloc] at h; exact h }
  have KX1 : Hid ((((w.alloc (.cells #[.int .i64 len, .slice A N c] 25)).alloc (.cells #[.int .i64 ix, .slice A2 nx c2] 45))).cell? ⟨w.heap.size + 1, 1, none⟩ = some (.slice A2 nx c2)) := by { have h := cell_at (World.alloc_heap_new (w.alloc (.cells #[.int .i64 len, .slice A N c] 25)) (.cells #[.int .i64 ix, .slice A2 nx c2] 45)) 1; rw [World.size_alloc] at h; exact h }
  have HC := Lib.hid (HRk.out _ HB.out)
  have k_KB0 := KB0.out
  have k_KB1 := KB1.out
  have k_KX0 := KX0.out
  have k_KX1 := KX1.out
  go_wp2_with fail
  clear k_KB0
  clear k_KB1
  clear k_KX0
  clear k_KX1
  refine HC.out.mono ?_
  rintro e w1_ ⟨rfl, bq⟩
  clear HC
  have HBc := Lib.hid bq; clear bq
  have HBq : Hid (Below ((w.alloc (.cells #[.int .i64 len, .slice A N c] 25)).alloc (.cells #[.int .i64 ix, .slice A2 nx c2] 45)).heap.size ((w.alloc (.cells #[.int .i64 len, .slice A N c] 25)).alloc (.cells #[.int .i64 ix, .slice A2 nx c2] 45)) w1_) := HBc.out
  replace HB : Hid (Below w.heap.size w w1_) := HB.out.trans (HBq.out.mono HB.out.size)
  replace KB0 : Hid ((w1_).cell? ⟨w.heap.size, 0, none⟩ = some (.int .i64 len)) := (HBq.out.cell (World.block_lt_of_cell? _ _ KB0.out)).trans KB0.out
  replace KB1 : Hid ((w1_).cell? ⟨w.heap.size, 1, none⟩ = some (.slice A N c)) := (HBq.out.cell (World.block_lt_of_cell? _ _ KB1.out)).trans KB1.out
  replace KX0 : Hid ((w1_).cell? ⟨w.heap.size + 1, 0, none⟩ = some (.int .i64 ix)) := (HBq.out.cell (World.block_lt_of_cell? _ _ KX0.out)).trans KX0.out
  replace KX1 : Hid ((w1_).cell? ⟨w.heap.size + 1, 1, none⟩ = some (.slice A2 nx c2)) := (HBq.out.cell (World.block_lt_of_cell? _ _ KX1.out)).trans KX1.out
  clear HBq
  clear HBc
  have HC := Lib.hid (HSl.out _ HB.out)
  have k_KB0 := KB0.out
  have k_KB1 := KB1.out
  have k_KX0 := KX0.out
  have k_KX1 := KX1.out
  go_wp2_with fail
  clear k_KB0
  clear k_KB1
  clear k_KX0
  clear k_KX1
  refine HC.out.mono ?_
  rintro e w2_ ⟨rfl, bq⟩
  clear HC
  have HBc := Lib.hid bq; clear bq
  have HBq : Hid (Below w1_.heap.size w1_ w2_) := HBc.out
  replace HB : Hid (Below w.heap.size w w2_) := HB.out.trans (HBq.out.mono HB.out.size)
  replace KB0 : Hid ((w2_).cell? ⟨w.heap.size, 0, none⟩ = some (.int .i64 len)) := (HBq.out.cell (World.block_lt_of_cell? _ _ KB0.out)).trans KB0.out
  replace KB1 : Hid ((w2_).cell? ⟨w.heap.size, 1, none⟩ = some (.slice A N c)) := (HBq.out.cell (World.block_lt_of_cell? _ _ KB1.out)).trans KB1.out
  replace KX0 : Hid ((w2_).cell? ⟨w.heap.size + 1, 0, none⟩ = some (.int .i64 ix)) := (HBq.out.cell (World.block_lt_of_cell? _ _ KX0.out)).trans KX0.out
  replace KX1 : Hid ((w2_).cell? ⟨w.heap.size + 1, 1, none⟩ = some (.slice A2 nx c2)) := (HBq.out.cell (World.block_lt_of_cell? _ _ KX1.out)).trans KX1.out
  clear HBq
  clear HBc
  have HC := Lib.hid (HBd.out _ HB.out)
  have k_KB0 := KB0.out
  have k_KB1 := KB1.out
  have k_KX0 := KX0.out
  have k_KX1 := KX1.out
  go_wp2_with fail
  clear k_KB0
  clear k_KB1
  clear k_KX0
  clear k_KX1
  refine HC.out.mono ?_
  rintro e w3_ ⟨AY, cY, rfl, rq, bq⟩
  clear HC
  have HBc := Lib.hid bq; clear bq
  have HBq : Hid (Below w2_.heap.size w2_ w3_) := HBc.out
  replace HB : Hid (Below w.heap.size w w3_) := HB.out.trans (HBq.out.mono HB.out.size)
  replace KB0 : Hid ((w3_).cell? ⟨w.heap.size, 0, none⟩ = some (.int .i64 len)) := (HBq.out.cell (World.block_lt_of_cell? _ _ KB0.out)).trans KB0.out
  replace KB1 : Hid ((w3_).cell? ⟨w.heap.size, 1, none⟩ = some (.slice A N c)) := (HBq.out.cell (World.block_lt_of_cell? _ _ KB1.out)).trans KB1.out
  replace KX0 : Hid ((w3_).cell? ⟨w.heap.size + 1, 0, none⟩ = some (.int .i64 ix)) := (HBq.out.cell (World.block_lt_of_cell? _ _ KX0.out)).trans KX0.out
  replace KX1 : Hid ((w3_).cell? ⟨w.heap.size + 1, 1, none⟩ = some (.slice A2 nx c2)) := (HBq.out.cell (World.block_lt_of_cell? _ _ KX1.out)).trans KX1.out
  clear HBq
  clear HBc
  have HY : Hid (RdV w3_ (w3_).heap.size AY (zc ys)) := rq
  clear rq
  have HBq : Hid (Below w3_.heap.size w3_ (w3_.alloc (.cells #[.int .i64 ey, .slice AY ny cY] 45))) := one_below _ _
  replace HB : Hid (Below w.heap.size w (w3_.alloc (.cells #[.int .i64 ey, .slice AY ny cY] 45))) := HB.out.trans (HBq.out.mono HB.out.size)
  replace KB0 : Hid (((w3_.alloc (.cells #[.int .i64 ey, .slice AY ny cY] 45))).cell? ⟨w.heap.size, 0, none⟩ = some (.int .i64 len)) := (HBq.out.cell (World.block_lt_of_cell? _ _ KB0.out)).trans KB0.out
  replace KB1 : Hid (((w3_.alloc (.cells #[.int .i64 ey, .slice AY ny cY] 45))).cell? ⟨w.heap.size, 1, none⟩ = some (.slice A N c)) := (HBq.out.cell (World.block_lt_of_cell? _ _ KB1.out)).trans KB1.out
  replace KX0 : Hid (((w3_.alloc (.cells #[.int .i64 ey, .slice AY ny cY] 45))).cell? ⟨w.heap.size + 1, 0, none⟩ = some (.int .i64 ix)) := (HBq.out.cell (World.block_lt_of_cell? _ _ KX0.out)).trans KX0.out
  replace KX1 : Hid (((w3_.alloc (.cells #[.int .i64 ey, .slice AY ny cY] 45))).cell? ⟨w.heap.size + 1, 1, none⟩ = some (.slice A2 nx c2)) := (HBq.out.cell (World.block_lt_of_cell? _ _ KX1.out)).trans KX1.out
  replace HY : Hid (RdV (w3_.alloc (.cells #[.int .i64 ey, .slice AY ny cY] 45)) ((w3_.alloc (.cells #[.int .i64 ey, .slice AY ny cY] 45))).heap.size AY (zc ys)) := HY.out.on HBq.out
  clear HBq
  have KY0 : Hid (((w3_.alloc (.cells #[.int .i64 ey, .slice AY ny cY] 45))).cell? ⟨w3_.heap.size, 0, none⟩ = some (.int .i64 ey)) := (cell_at (World.alloc_heap_new w3_ _) 0).trans rfl
  have KY1 : Hid (((w3_.alloc (.cells #[.int .i64 ey, .slice AY ny cY] 45))).cell? ⟨w3_.heap.size, 1, none⟩ = some (.slice AY ny cY)) := (cell_at (World.alloc_heap_new w3_ _) 1).trans rfl
  have HC := Lib.hid (HBy.out _ HB.out)
  have k_KB0 := KB0.out
  have k_KB1 := KB1.out
  have k_KX0 := KX0.out
  have k_KX1 := KX1.out
  go_wp2_with fail
  clear k_KB0
  clear k_KB1
  clear k_KX0
  clear k_KX1
  refine HC.out.mono ?_
  rintro e w4_ ⟨rfl, bq⟩
  clear HC
  have HBc := Lib.hid bq; clear bq
  have HBq : Hid (Below (w3_.alloc (.cells #[.int .i64 ey, .slice AY ny cY] 45)).heap.size (w3_.alloc (.cells #[.int .i64 ey, .slice AY ny cY] 45)) w4_) := HBc.out
  replace HB : Hid (Below w.heap.size w w4_) := HB.out.trans (HBq.out.mono HB.out.size)
  replace KB0 : Hid ((w4_).cell? ⟨w.heap.size, 0, none⟩ = some (.int .i64 len)) := (HBq.out.cell (World.block_lt_of_cell? _ _ KB0.out)).trans KB0.out
  replace KB1 : Hid ((w4_).cell? ⟨w.heap.size, 1, none⟩ = some (.slice A N c)) := (HBq.out.cell (World.block_lt_of_cell? _ _ KB1.out)).trans KB1.out
  replace KX0 : Hid ((w4_).cell? ⟨w.heap.size + 1, 0, none⟩ = some (.int .i64 ix)) := (HBq.out.cell (World.block_lt_of_cell? _ _ KX0.out)).trans KX0.out
  replace KX1 : Hid ((w4_).cell? ⟨w.heap.size + 1, 1, none⟩ = some (.slice A2 nx c2)) := (HBq.out.cell (World.block_lt_of_cell? _ _ KX1.out)).trans KX1.out
  replace HY : Hid (RdV w4_ (w4_).heap.size AY (zc ys)) := HY.out.on HBq.out
  replace KY0 : Hid ((w4_).cell? ⟨w3_.heap.size, 0, none⟩ = some (.int .i64 ey)) := (HBq.out.cell (World.block_lt_of_cell? _ _ KY0.out)).trans KY0.out
  replace KY1 : Hid ((w4_).cell? ⟨w3_.heap.size, 1, none⟩ = some (.slice AY ny cY)) := (HBq.out.cell (World.block_lt_of_cell? _ _ KY1.out)).trans KY1.out
  clear HBq
  clear HBc
  have HS : Hid (∀ W, Below w4_.heap.size w4_ W → W.cell? ⟨w.heap.size, 0, none⟩ = some (.int .i64 len) ∧ W.cell? ⟨w.heap.size, 1, none⟩ = some (.slice A N c) ∧ W.cell? ⟨w.heap.size + 1, 0, none⟩ = some (.int .i64 ix) ∧ W.cell? ⟨w.heap.size + 1, 1, none⟩ = some (.slice A2 nx c2)) := fun W hW => ⟨(hW.cell (World.block_lt_of_cell? _ _ KB0.out)).trans KB0.out, (hW.cell (World.block_lt_of_cell? _ _ KB1.out)).trans KB1.out, (hW.cell (World.block_lt_of_cell? _ _ KX0.out)).trans KX0.out, (hW.cell (World.block_lt_of_cell? _ _ KX1.out)).trans KX1.out⟩
  have HD : Hid (Below w4_.heap.size w4_ w4_.drew) := (Below.refl _ _).drew
  go_wp2
  go_region_held3 (fun w' => w'.cell? ⟨w.heap.size, 0, none⟩ = some (.int .i64 len) ∧ w'.cell? ⟨w.heap.size, 1, none⟩ = some (.slice A N c) ∧ w'.cell? ⟨w.heap.size + 1, 0, none⟩ = some (.int .i64 ix) ∧ w'.cell? ⟨w.heap.size + 1, 1, none⟩ = some (.slice A2 nx c2))
    ((refine HS.out _ ?_; first | exact hk3.out | exact hk2.out | exact hk1.out | exact HD.out))
    ((first
      | (go_at_call 33; have hx := hk2.out; refine (HRc.out wb (HB.out.trans (hx.mono HB.out.size))).mono ?_; rintro e wc ⟨rfl, bq⟩; have hk3 : Hid (Below w4_.heap.size w4_ wc) := hx.trans (bq.mono hx.size); clear bq hx)
      | (go_at_call 32; have hx := hk1.out; refine (HCk.out wa (HB.out.trans (hx.mono HB.out.size))).mono ?_; rintro e wb ⟨rfl, bq⟩; have hk2 : Hid (Below w4_.heap.size w4_ wb) := hx.trans (bq.mono hx.size); clear bq hx)
      | (go_at_call 20; refine (HRe.out _ (HB.out.trans (HD.out.mono HB.out.size))).mono ?_; rintro e wa ⟨rfl, bq⟩; have hk1 : Hid (Below w4_.heap.size w4_ wa) := HD.out.trans (bq.mono HD.out.size); clear bq)))
  have HBq : Hid (Below w4_.heap.size w4_ wc) := hk3.out
  replace HB : Hid (Below w.heap.size w wc) := HB.out.trans (HBq.out.mono HB.out.size)
  replace KB0 : Hid ((wc).cell? ⟨w.heap.size, 0, none⟩ = some (.int .i64 len)) := (HBq.out.cell (World.block_lt_of_cell? _ _ KB0.out)).trans KB0.out
  replace KB1 : Hid ((wc).cell? ⟨w.heap.size, 1, none⟩ = some (.slice A N c)) := (HBq.out.cell (World.block_lt_of_cell? _ _ KB1.out)).trans KB1.out
  replace KX0 : Hid ((wc).cell? ⟨w.heap.size + 1, 0, none⟩ = some (.int .i64 ix)) := (HBq.out.cell (World.block_lt_of_cell? _ _ KX0.out)).trans KX0.out
  replace KX1 : Hid ((wc).cell? ⟨w.heap.size + 1, 1, none⟩ = some (.slice A2 nx c2)) := (HBq.out.cell (World.block_lt_of_cell? _ _ KX1.out)).trans KX1.out
  replace HY : Hid (RdV wc (wc).heap.size AY (zc ys)) := HY.out.on HBq.out
  replace KY0 : Hid ((wc).cell? ⟨w3_.heap.size, 0, none⟩ = some (.int .i64 ey)) := (HBq.out.cell (World.block_lt_of_cell? _ _ KY0.out)).trans KY0.out
  replace KY1 : Hid ((wc).cell? ⟨w3_.heap.size, 1, none⟩ = some (.slice AY ny cY)) := (HBq.out.cell (World.block_lt_of_cell? _ _ KY1.out)).trans KY1.out
  clear HBq
  clear HS HD
  try clear hk1
  try clear hk2
  clear hk3
  have HC := Lib.hid (HBl.out _ HB.out)
  have k_KB0 := KB0.out
  have k_KB1 := KB1.out
  go_wp2_with fail
  clear k_KB0
  clear k_KB1
  refine HC.out.mono ?_
  rintro e w5_ ⟨AL, cL, rfl, rq, bq⟩
  clear HC
  have HBc := Lib.hid bq; clear bq
  have HBq : Hid (Below wc.heap.size wc w5_) := HBc.out
  replace HB : Hid (Below w.heap.size w w5_) := HB.out.trans (HBq.out.mono HB.out.size)
  replace KB0 : Hid ((w5_).cell? ⟨w.heap.size, 0, none⟩ = some (.int .i64 len)) := (HBq.out.cell (World.block_lt_of_cell? _ _ KB0.out)).trans KB0.out
  replace KB1 : Hid ((w5_).cell? ⟨w.heap.size, 1, none⟩ = some (.slice A N c)) := (HBq.out.cell (World.block_lt_of_cell? _ _ KB1.out)).trans KB1.out
  replace KX0 : Hid ((w5_).cell? ⟨w.heap.size + 1, 0, none⟩ = some (.int .i64 ix)) := (HBq.out.cell (World.block_lt_of_cell? _ _ KX0.out)).trans KX0.out
  replace KX1 : Hid ((w5_).cell? ⟨w.heap.size + 1, 1, none⟩ = some (.slice A2 nx c2)) := (HBq.out.cell (World.block_lt_of_cell? _ _ KX1.out)).trans KX1.out
  replace HY : Hid (RdV w5_ (w5_).heap.size AY (zc ys)) := HY.out.on HBq.out
  replace KY0 : Hid ((w5_).cell? ⟨w3_.heap.size, 0, none⟩ = some (.int .i64 ey)) := (HBq.out.cell (World.block_lt_of_cell? _ _ KY0.out)).trans KY0.out
  replace KY1 : Hid ((w5_).cell? ⟨w3_.heap.size, 1, none⟩ = some (.slice AY ny cY)) := (HBq.out.cell (World.block_lt_of_cell? _ _ KY1.out)).trans KY1.out
  clear HBq
  clear HBc
  have HL : Hid (RdV w5_ (w5_).heap.size AL (ic l)) := own_rdv rq
  clear rq
  have HC := Lib.hid (HOa.out AL cL _ HL.out)
  have k_KB0 := KB0.out
  have k_KB1 := KB1.out
  go_wp2_with fail
  clear k_KB0
  clear k_KB1
  refine HC.out.mono ?_
  rintro e w6_ ⟨rfl, bq⟩
  clear HC
  have HBc := Lib.hid bq; clear bq
  have HBq : Hid (Below w5_.heap.size w5_ w6_) := HBc.out
  replace HB : Hid (Below w.heap.size w w6_) := HB.out.trans (HBq.out.mono HB.out.size)
  replace KB0 : Hid ((w6_).cell? ⟨w.heap.size, 0, none⟩ = some (.int .i64 len)) := (HBq.out.cell (World.block_lt_of_cell? _ _ KB0.out)).trans KB0.out
  replace KB1 : Hid ((w6_).cell? ⟨w.heap.size, 1, none⟩ = some (.slice A N c)) := (HBq.out.cell (World.block_lt_of_cell? _ _ KB1.out)).trans KB1.out
  replace KX0 : Hid ((w6_).cell? ⟨w.heap.size + 1, 0, none⟩ = some (.int .i64 ix)) := (HBq.out.cell (World.block_lt_of_cell? _ _ KX0.out)).trans KX0.out
  replace KX1 : Hid ((w6_).cell? ⟨w.heap.size + 1, 1, none⟩ = some (.slice A2 nx c2)) := (HBq.out.cell (World.block_lt_of_cell? _ _ KX1.out)).trans KX1.out
  replace HY : Hid (RdV w6_ (w6_).heap.size AY (zc ys)) := HY.out.on HBq.out
  replace KY0 : Hid ((w6_).cell? ⟨w3_.heap.size, 0, none⟩ = some (.int .i64 ey)) := (HBq.out.cell (World.block_lt_of_cell? _ _ KY0.out)).trans KY0.out
  replace KY1 : Hid ((w6_).cell? ⟨w3_.heap.size, 1, none⟩ = some (.slice AY ny cY)) := (HBq.out.cell (World.block_lt_of_cell? _ _ KY1.out)).trans KY1.out
  replace HL : Hid (RdV w6_ (w6_).heap.size AL (ic l)) := HL.out.on HBq.out
  clear HBq
  clear HBc
  have HC := Lib.hid (HRb.out _ HB.out)
  have k_KB0 := KB0.out
  have k_KB1 := KB1.out
  go_wp2_with fail
  clear k_KB0
  clear k_KB1
  refine HC.out.mono ?_
  rintro e w7_ ⟨AZ, cZ, rfl, rq, bq⟩
  clear HC
  have HBc := Lib.hid bq; clear bq
  have HBq : Hid (Below w6_.heap.size w6_ w7_) := HBc.out
  replace HB : Hid (Below w.heap.size w w7_) := HB.out.trans (HBq.out.mono HB.out.size)
  replace KB0 : Hid ((w7_).cell? ⟨w.heap.size, 0, none⟩ = some (.int .i64 len)) := (HBq.out.cell (World.block_lt_of_cell? _ _ KB0.out)).trans KB0.out
  replace KB1 : Hid ((w7_).cell? ⟨w.heap.size, 1, none⟩ = some (.slice A N c)) := (HBq.out.cell (World.block_lt_of_cell? _ _ KB1.out)).trans KB1.out
  replace KX0 : Hid ((w7_).cell? ⟨w.heap.size + 1, 0, none⟩ = some (.int .i64 ix)) := (HBq.out.cell (World.block_lt_of_cell? _ _ KX0.out)).trans KX0.out
  replace KX1 : Hid ((w7_).cell? ⟨w.heap.size + 1, 1, none⟩ = some (.slice A2 nx c2)) := (HBq.out.cell (World.block_lt_of_cell? _ _ KX1.out)).trans KX1.out
  replace HY : Hid (RdV w7_ (w7_).heap.size AY (zc ys)) := HY.out.on HBq.out
  replace KY0 : Hid ((w7_).cell? ⟨w3_.heap.size, 0, none⟩ = some (.int .i64 ey)) := (HBq.out.cell (World.block_lt_of_cell? _ _ KY0.out)).trans KY0.out
  replace KY1 : Hid ((w7_).cell? ⟨w3_.heap.size, 1, none⟩ = some (.slice AY ny cY)) := (HBq.out.cell (World.block_lt_of_cell? _ _ KY1.out)).trans KY1.out
  replace HL : Hid (RdV w7_ (w7_).heap.size AL (ic l)) := HL.out.on HBq.out
  clear HBq
  clear HBc
  have HZ : Hid (RdV w7_ (w7_).heap.size AZ (zc ys)) := rq
  clear rq
  have HBq : Hid (Below w7_.heap.size w7_ (w7_.alloc (.cells #[.int .i64 ey, .slice AZ ny cZ] 45))) := one_below _ _
  replace HB : Hid (Below w.heap.size w (w7_.alloc (.cells #[.int .i64 ey, .slice AZ ny cZ] 45))) := HB.out.trans (HBq.out.mono HB.out.size)
  replace KB0 : Hid (((w7_.alloc (.cells #[.int .i64 ey, .slice AZ ny cZ] 45))).cell? ⟨w.heap.size, 0, none⟩ = some (.int .i64 len)) := (HBq.out.cell (World.block_lt_of_cell? _ _ KB0.out)).trans KB0.out
  replace KB1 : Hid (((w7_.alloc (.cells #[.int .i64 ey, .slice AZ ny cZ] 45))).cell? ⟨w.heap.size, 1, none⟩ = some (.slice A N c)) := (HBq.out.cell (World.block_lt_of_cell? _ _ KB1.out)).trans KB1.out
  replace KX0 : Hid (((w7_.alloc (.cells #[.int .i64 ey, .slice AZ ny cZ] 45))).cell? ⟨w.heap.size + 1, 0, none⟩ = some (.int .i64 ix)) := (HBq.out.cell (World.block_lt_of_cell? _ _ KX0.out)).trans KX0.out
  replace KX1 : Hid (((w7_.alloc (.cells #[.int .i64 ey, .slice AZ ny cZ] 45))).cell? ⟨w.heap.size + 1, 1, none⟩ = some (.slice A2 nx c2)) := (HBq.out.cell (World.block_lt_of_cell? _ _ KX1.out)).trans KX1.out
  replace HY : Hid (RdV (w7_.alloc (.cells #[.int .i64 ey, .slice AZ ny cZ] 45)) ((w7_.alloc (.cells #[.int .i64 ey, .slice AZ ny cZ] 45))).heap.size AY (zc ys)) := HY.out.on HBq.out
  replace KY0 : Hid (((w7_.alloc (.cells #[.int .i64 ey, .slice AZ ny cZ] 45))).cell? ⟨w3_.heap.size, 0, none⟩ = some (.int .i64 ey)) := (HBq.out.cell (World.block_lt_of_cell? _ _ KY0.out)).trans KY0.out
  replace KY1 : Hid (((w7_.alloc (.cells #[.int .i64 ey, .slice AZ ny cZ] 45))).cell? ⟨w3_.heap.size, 1, none⟩ = some (.slice AY ny cY)) := (HBq.out.cell (World.block_lt_of_cell? _ _ KY1.out)).trans KY1.out
  replace HL : Hid (RdV (w7_.alloc (.cells #[.int .i64 ey, .slice AZ ny cZ] 45)) ((w7_.alloc (.cells #[.int .i64 ey, .slice AZ ny cZ] 45))).heap.size AL (ic l)) := HL.out.on HBq.out
  replace HZ : Hid (RdV (w7_.alloc (.cells #[.int .i64 ey, .slice AZ ny cZ] 45)) ((w7_.alloc (.cells #[.int .i64 ey, .slice AZ ny cZ] 45))).heap.size AZ (zc ys)) := HZ.out.on HBq.out
  clear HBq
  have KZ0 : Hid (((w7_.alloc (.cells #[.int .i64 ey, .slice AZ ny cZ] 45))).cell? ⟨w7_.heap.size, 0, none⟩ = some (.int .i64 ey)) := (cell_at (World.alloc_heap_new w7_ _) 0).trans rfl
  have KZ1 : Hid (((w7_.alloc (.cells #[.int .i64 ey, .slice AZ ny cZ] 45))).cell? ⟨w7_.heap.size, 1, none⟩ = some (.slice AZ ny cZ)) := (cell_at (World.alloc_heap_new w7_ _) 1).trans rfl
  have HC := Lib.hid (rbegun_true (w7_.alloc (.cells #[.int .i64 ey, .slice AZ ny cZ] 45)))
  have k_KB0 := KB0.out
  have k_KB1 := KB1.out
  go_wp2_with fail
  clear k_KB0
  clear k_KB1
  refine HC.out.mono ?_
  rintro e w8_ ⟨rfl, bq⟩
  clear HC
  have HBc := Lib.hid bq; clear bq
  have HBq : Hid (Below (w7_.alloc (.cells #[.int .i64 ey, .slice AZ ny cZ] 45)).heap.size (w7_.alloc (.cells #[.int .i64 ey, .slice AZ ny cZ] 45)) w8_) := HBc.out
  replace HB : Hid (Below w.heap.size w w8_) := HB.out.trans (HBq.out.mono HB.out.size)
  replace KB0 : Hid ((w8_).cell? ⟨w.heap.size, 0, none⟩ = some (.int .i64 len)) := (HBq.out.cell (World.block_lt_of_cell? _ _ KB0.out)).trans KB0.out
  replace KB1 : Hid ((w8_).cell? ⟨w.heap.size, 1, none⟩ = some (.slice A N c)) := (HBq.out.cell (World.block_lt_of_cell? _ _ KB1.out)).trans KB1.out
  replace KX0 : Hid ((w8_).cell? ⟨w.heap.size + 1, 0, none⟩ = some (.int .i64 ix)) := (HBq.out.cell (World.block_lt_of_cell? _ _ KX0.out)).trans KX0.out
  replace KX1 : Hid ((w8_).cell? ⟨w.heap.size + 1, 1, none⟩ = some (.slice A2 nx c2)) := (HBq.out.cell (World.block_lt_of_cell? _ _ KX1.out)).trans KX1.out
  replace HY : Hid (RdV w8_ (w8_).heap.size AY (zc ys)) := HY.out.on HBq.out
  replace KY0 : Hid ((w8_).cell? ⟨w3_.heap.size, 0, none⟩ = some (.int .i64 ey)) := (HBq.out.cell (World.block_lt_of_cell? _ _ KY0.out)).trans KY0.out
  replace KY1 : Hid ((w8_).cell? ⟨w3_.heap.size, 1, none⟩ = some (.slice AY ny cY)) := (HBq.out.cell (World.block_lt_of_cell? _ _ KY1.out)).trans KY1.out
  replace HL : Hid (RdV w8_ (w8_).heap.size AL (ic l)) := HL.out.on HBq.out
  replace HZ : Hid (RdV w8_ (w8_).heap.size AZ (zc ys)) := HZ.out.on HBq.out
  replace KZ0 : Hid ((w8_).cell? ⟨w7_.heap.size, 0, none⟩ = some (.int .i64 ey)) := (HBq.out.cell (World.block_lt_of_cell? _ _ KZ0.out)).trans KZ0.out
  replace KZ1 : Hid ((w8_).cell? ⟨w7_.heap.size, 1, none⟩ = some (.slice AZ ny cZ)) := (HBq.out.cell (World.block_lt_of_cell? _ _ KZ1.out)).trans KZ1.out
  clear HBq
  clear HBc
  have HC := Lib.hid (HSm.out _ _ cY cZ _ HY.out HZ.out)
  have k_KY0 := KY0.out
  have k_KY1 := KY1.out
  have k_KZ0 := KZ0.out
  have k_KZ1 := KZ1.out
  go_wp2_with fail
  clear k_KY0
  clear k_KY1
  clear k_KZ0
  clear k_KZ1
  refine HC.out.mono ?_
  rintro e w9_ ⟨rfl, bq⟩
  clear HC
  have HBc := Lib.hid bq; clear bq
  have HBq : Hid (Below w8_.heap.size w8_ w9_) := HBc.out
  replace HB : Hid (Below w.heap.size w w9_) := HB.out.trans (HBq.out.mono HB.out.size)
  replace KB0 : Hid ((w9_).cell? ⟨w.heap.size, 0, none⟩ = some (.int .i64 len)) := (HBq.out.cell (World.block_lt_of_cell? _ _ KB0.out)).trans KB0.out
  replace KB1 : Hid ((w9_).cell? ⟨w.heap.size, 1, none⟩ = some (.slice A N c)) := (HBq.out.cell (World.block_lt_of_cell? _ _ KB1.out)).trans KB1.out
  replace KX0 : Hid ((w9_).cell? ⟨w.heap.size + 1, 0, none⟩ = some (.int .i64 ix)) := (HBq.out.cell (World.block_lt_of_cell? _ _ KX0.out)).trans KX0.out
  replace KX1 : Hid ((w9_).cell? ⟨w.heap.size + 1, 1, none⟩ = some (.slice A2 nx c2)) := (HBq.out.cell (World.block_lt_of_cell? _ _ KX1.out)).trans KX1.out
  replace HY : Hid (RdV w9_ (w9_).heap.size AY (zc ys)) := HY.out.on HBq.out
  replace KY0 : Hid ((w9_).cell? ⟨w3_.heap.size, 0, none⟩ = some (.int .i64 ey)) := (HBq.out.cell (World.block_lt_of_cell? _ _ KY0.out)).trans KY0.out
  replace KY1 : Hid ((w9_).cell? ⟨w3_.heap.size, 1, none⟩ = some (.slice AY ny cY)) := (HBq.out.cell (World.block_lt_of_cell? _ _ KY1.out)).trans KY1.out
  replace HL : Hid (RdV w9_ (w9_).heap.size AL (ic l)) := HL.out.on HBq.out
  replace HZ : Hid (RdV w9_ (w9_).heap.size AZ (zc ys)) := HZ.out.on HBq.out
  replace KZ0 : Hid ((w9_).cell? ⟨w7_.heap.size, 0, none⟩ = some (.int .i64 ey)) := (HBq.out.cell (World.block_lt_of_cell? _ _ KZ0.out)).trans KZ0.out
  replace KZ1 : Hid ((w9_).cell? ⟨w7_.heap.size, 1, none⟩ = some (.slice AZ ny cZ)) := (HBq.out.cell (World.block_lt_of_cell? _ _ KZ1.out)).trans KZ1.out
  clear HBq
  clear HBc
  have HC := Lib.hid (HPc.out _ HB.out)
  have k_KB0 := KB0.out
  have k_KB1 := KB1.out
  have k_KX0 := KX0.out
  have k_KX1 := KX1.out
  go_wp2_with fail
  clear k_KB0
  clear k_KB1
  clear k_KX0
  clear k_KX1
  refine HC.out.mono ?_
  rintro e w10_ ⟨rfl, bq⟩
  clear HC
  have HBc := Lib.hid bq; clear bq
  have HBq : Hid (Below w9_.heap.size w9_ w10_) := HBc.out
  replace HB : Hid (Below w.heap.size w w10_) := HB.out.trans (HBq.out.mono HB.out.size)
  replace KB0 : Hid ((w10_).cell? ⟨w.heap.size, 0, none⟩ = some (.int .i64 len)) := (HBq.out.cell (World.block_lt_of_cell? _ _ KB0.out)).trans KB0.out
  replace KB1 : Hid ((w10_).cell? ⟨w.heap.size, 1, none⟩ = some (.slice A N c)) := (HBq.out.cell (World.block_lt_of_cell? _ _ KB1.out)).trans KB1.out
  replace KX0 : Hid ((w10_).cell? ⟨w.heap.size + 1, 0, none⟩ = some (.int .i64 ix)) := (HBq.out.cell (World.block_lt_of_cell? _ _ KX0.out)).trans KX0.out
  replace KX1 : Hid ((w10_).cell? ⟨w.heap.size + 1, 1, none⟩ = some (.slice A2 nx c2)) := (HBq.out.cell (World.block_lt_of_cell? _ _ KX1.out)).trans KX1.out
  replace HY : Hid (RdV w10_ (w10_).heap.size AY (zc ys)) := HY.out.on HBq.out
  replace KY0 : Hid ((w10_).cell? ⟨w3_.heap.size, 0, none⟩ = some (.int .i64 ey)) := (HBq.out.cell (World.block_lt_of_cell? _ _ KY0.out)).trans KY0.out
  replace KY1 : Hid ((w10_).cell? ⟨w3_.heap.size, 1, none⟩ = some (.slice AY ny cY)) := (HBq.out.cell (World.block_lt_of_cell? _ _ KY1.out)).trans KY1.out
  replace HL : Hid (RdV w10_ (w10_).heap.size AL (ic l)) := HL.out.on HBq.out
  replace HZ : Hid (RdV w10_ (w10_).heap.size AZ (zc ys)) := HZ.out.on HBq.out
  replace KZ0 : Hid ((w10_).cell? ⟨w7_.heap.size, 0, none⟩ = some (.int .i64 ey)) := (HBq.out.cell (World.block_lt_of_cell? _ _ KZ0.out)).trans KZ0.out
  replace KZ1 : Hid ((w10_).cell? ⟨w7_.heap.size, 1, none⟩ = some (.slice AZ ny cZ)) := (HBq.out.cell (World.block_lt_of_cell? _ _ KZ1.out)).trans KZ1.out
  clear HBq
  clear HBc
  go_wp2
  go_ret
  exact ⟨rfl, HB.out⟩
end Go.Proofs.Ytgibbokhdfblmaa
