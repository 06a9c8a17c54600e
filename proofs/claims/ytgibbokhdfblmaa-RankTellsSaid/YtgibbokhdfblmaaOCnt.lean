/- How many 1 bits stand between two positions, as the program counts them; no condition but those that each fact names. -/
import Derived.Test.YtgibbokhdfblmaaOPure
namespace Go.Proofs.Ytgibbokhdfblmaa
set_option maxRecDepth 100000
set_option linter.unusedVariables false
open Go.RowKit Go.Shelf

attribute [local go_sem] Oper.semAt_some

/-- The blocks that a visit keeps which begins in block N: where the ones are counted is N + 1. -/
def ckept (N : Nat) (k : Nat) : Prop := k < N ∨ k = N + 2 ∨ k = N + 3 ∨ k = N + 5
set_option maxHeartbeats 2000000 in
theorem count_l (l : List Bool) (hl : l.length ≤ 8192) (A : Option Addr) (c fr to : Nat) (hft : fr ≤ to) (hto : to ≤ l.length) (r : Nat) (hr : (vis true l fr to).length = r) (w : World) (h : Rd w w.heap.size A (pack l)) :
    Calls Try.prog 62 #[.agg #[.int .i64 (l.length : Int), .slice A (pack l).length c], .int .i64 (fr : Int), .int .i64 (to : Int)] w fun e w' => e = .returned (.int .i64 (r : Int)) ∧ Below w.heap.size w w' := by
  have HR := Lib.hid h; clear h
  have HRes := Lib.hid hr; clear hr
  refine (callsIn_wide (n := 4)).1 ?_
  refine callsIn_of_wp_marks Try.func62 rfl trivial ?_ rfl
  simp only [Try.ntmps62, List.size_toArray, List.length_cons, List.length_nil, Nat.reduceAdd, Nat.reduceSub, Array.replicate_succ, Array.replicate_zero, List.push_toArray, List.append_toArray, List.nil_append, List.cons_append]
  gi_wp2_with (refine ⟨trivial, ?_⟩; gi_at_call 53; refine (of_in 3 _ _ _ _ _ _ _ _).mono ?_; rintro e w' ⟨rfl, rfl⟩)
  simp only [Nat.add_assoc, Nat.reduceAdd]
  obtain ⟨hz, a0, a1, a2, a3, a4, a5⟩ := six w (.cells #[.int .i64 (l.length : Int), .slice A (pack l).length c] 25) (.cells #[.int .i64 0] 3) (.cells #[.int .i64 (l.length : Int), .slice A (pack l).length c] 25) (.cells #[.int .u64 1] 22) (.cells #[.int .i64 (fr : Int)] 3) (.cells #[.int .i64 (to : Int)] 3)
  have hlow : Below w.heap.size w ((((((w.alloc (.cells #[.int .i64 (l.length : Int), .slice A (pack l).length c] 25)).alloc (.cells #[.int .i64 0] 3)).alloc (.cells #[.int .i64 (l.length : Int), .slice A (pack l).length c] 25)).alloc (.cells #[.int .u64 1] 22)).alloc (.cells #[.int .i64 (fr : Int)] 3)).alloc (.cells #[.int .i64 (to : Int)] 3)) :=
    ((((up2 w _ _).alloc (by simp only [World.size_alloc]; omega) _).alloc (by simp only [World.size_alloc]; omega) _).alloc (by simp only [World.size_alloc]; omega) _).alloc (by simp only [World.size_alloc]; omega) _
  generalize ((((((w.alloc (.cells #[.int .i64 (l.length : Int), .slice A (pack l).length c] 25)).alloc (.cells #[.int .i64 0] 3)).alloc (.cells #[.int .i64 (l.length : Int), .slice A (pack l).length c] 25)).alloc (.cells #[.int .u64 1] 22)).alloc (.cells #[.int .i64 (fr : Int)] 3)).alloc (.cells #[.int .i64 (to : Int)] 3)) = w5 at *
  have hvis : ∀ k, ckept w.heap.size k → k < w5.heap.size := by rintro k (h | h | h | h) <;> omega
  refine wpIn_rangeFunc_ownG rfl (by decide) (gf := 83) (lb := #[.pointer (some ⟨w.heap.size + 4, 0, none⟩), .pointer (some ⟨w.heap.size + 5, 0, none⟩), .pointer (some ⟨w.heap.size + 2, 0, none⟩), .pointer (some ⟨w.heap.size + 3, 0, none⟩)]) rfl trivial (enters_of Try.func83 (by kernel_rfl) rfl)
    (of_stops 3 (by decide) (w.heap.size + 4) (w.heap.size + 5) (w.heap.size + 2) (w.heap.size + 3) w.heap.size c A (ckept w.heap.size) l hl true fr to hft hto (.inr (.inr (.inr rfl))) (.inr (.inl rfl)) (.inr (.inr (.inl rfl))) (fun k hk => .inl hk) w5 hvis (by omega) (by omega)
      (box_cell a4) (box_cell a5) (box_cell a3) (blk_cells a2).1 (blk_cells a2).2.1 (HR.out.below hlow (Nat.le_refl _)))
    (fun h k => keepS_t h k) (keepS_b hvis) (Below.refl _ _) (fun _ => rfl)
    (fun pre X => Boxed X (w.heap.size + 1) 3 (.int .i64 (pre.length : Int)) ∧ (Fr (ckept w.heap.size) w5 X ∧ w5.heap.size ≤ X.heap.size))
    (fun _ _ _ => False)
    (OwnFrom.and (Own.from (box_own (w.heap.size + 1) 3 (fun pre : List Nat => .int .i64 (pre.length : Int))) _) (fr_own _ w5 w5.heap.size (Nat.le_refl _) hvis))
    (fun _ _ _ _ _ hs _ _ => hs)
    ⟨a1, Fr.refl _ _, Nat.le_refl _⟩
    ?a1 ?assign ?body ?done ?stop
  case assign =>
    intro lp x X K hK
    gi_wp2
    exact hK
  case body =>
    rintro lp pre x X ⟨hbx, hfr, hzz⟩ hlt
    have hcn := hbx.cell
    have hfn := hbx.frozen
    have hw : wrap64 ((pre.length : Int) + 1) = (((pre ++ [x]).length : Nat) : Int) := by
      rw [List.length_append]; simp only [List.length_cons, List.length_nil]; unfold wrap64; omega
    have HW := Lib.hid hw; clear hw
    gi_wp2
    have e1 : ((pre.length : Int) + 1) = (((pre ++ [x]).length : Nat) : Int) := by rw [List.length_append]; simp
    rw [e1]
    have hnk : ¬ ckept w.heap.size (w.heap.size + 1) := by rintro (h | h | h | h) <;> omega
    exact ⟨(KeepsOthers.setCell _ _ _).from _, ⟨fun j hj => Below.heap_setCell _ _ _ _ (fun e => by have e' : j = w.heap.size + 1 := e; subst e'; exact hnk hj), by simp [World.setCell]⟩, hbx.set _, hfr.setCell (p := ⟨w.heap.size + 1, 0, none⟩) hnk _, by simpa [World.setCell] using hzz⟩
  case done =>
    rintro D ys X hD rfl ⟨hbx, hfr, hzz⟩ hK
    rw [HRes.out] at hbx
    have hcn := hbx.cell
    have HF : Hid (Below w.heap.size w (X.putObj D (.deferred none))) := (hlow.trans (hfr.below (fun j hj => .inl hj))).trans (belowK_b (w := w) (Nat.le_refl _) X D _ _ (by have := hlow.size; omega) hK rfl rfl)
    gi_wp2
    refine ⟨by simp, .inl ⟨_, _, rfl, run_takeDeferred hK, ?_⟩⟩
    refine ⟨.int .i64 (r : Int), ?_, rfl, HF.out⟩
    simp [results, Try.results62, go_sem]
  case stop =>
    rintro D c pre W _ _ h _
    exact h.elim
/-- A Below of one call's blocks. -/
theorem count_on (l : List Bool) (hl : l.length ≤ 8192) (A : Option Addr) (c fr to : Nat) (hft : fr ≤ to) (hto : to ≤ l.length) (w : World) (h : Rd w w.heap.size A (pack l)) :
    Calls Try.prog 62 #[.agg #[.int .i64 (l.length : Int), .slice A (pack l).length c], .int .i64 (fr : Int), .int .i64 (to : Int)] w fun e w' => e = .returned (.int .i64 ((cnt (l.take to) - cnt (l.take fr) : Nat) : Int)) ∧ Below w.heap.size w w' :=
  count_l l hl A c fr to hft hto _ (vis_count l fr to hft) w h
end Go.Proofs.Ytgibbokhdfblmaa
