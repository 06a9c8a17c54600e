/- What Select answers where nothing is wrong; no condition but those that each fact names. -/
import Derived.Test.YtgibbokhdfblmaaOSel
namespace Go.Proofs.Ytgibbokhdfblmaa
set_option maxRecDepth 100000
set_option linter.unusedVariables false
open Go.RowKit Go.Shelf

attribute [local go_sem] Oper.semAt_some

/-- The blocks that Select's visit keeps: s: the heap's size where it began; n: where the visit began. -/
def skept (s n : Nat) (k : Nat) : Prop := k < s + 2 ∨ k = n + 1 ∨ k = n + 2 ∨ k = n + 4
set_option maxHeartbeats 4000000 in
theorem sel_ok1 (l : List Bool) (hl : l.length ≤ 8192) (A : Option Addr) (c i : Nat) (rn : Nat) (re : Int) (hr : (sel true l i = none ∧ rn = 0 ∧ re = 5) ∨ (sel true l i = some rn ∧ re = 0)) (w : World) (h : Rd w w.heap.size A (pack l)) :
    Calls Try.prog 29 #[.agg #[.int .i64 (l.length : Int), .slice A (pack l).length c], .int .i64 1, .int .i64 (i : Int)] w (RkP w rn re) := by
  have HC0 : ∀ V, Below w.heap.size w V → Calls Try.prog 43 #[.agg #[.int .i64 (l.length : Int), .slice A (pack l).length c]] V fun e w' => e = .returned (.int .i64 0) ∧ Below V.heap.size V w' := fun V hV => check_l l hl A c V (h.on hV)
  have HC := Lib.hid HC0; clear HC0
  have HX := Lib.hid h; clear h
  have HP := Lib.hid hr; clear hr
  have HLL := Lib.hid hl; clear hl
  have t1 : decide ((0 : Int) ≤ (i : Int)) = true := by simp
  have HR := Lib.hid (range2 0 true true 0 (by decide))
  refine (callsIn_wide (n := 4)).1 ?_
  refine callsIn_of_wp_marks Try.func29 rfl trivial ?_ rfl
  simp only [Try.ntmps29, List.size_toArray, List.length_cons, List.length_nil, Nat.reduceAdd, Nat.reduceSub, Array.replicate_succ, Array.replicate_zero, List.push_toArray, List.append_toArray, List.nil_append, List.cons_append]
  gi_wp2_with fail
  obtain ⟨hz, a0, a1, a2, a3⟩ := four w (.cells #[.int .i64 (l.length : Int), .slice A (pack l).length c] 25) (.cells #[.int .i64 (i : Int)] 3) (.cells #[.int .i64 0] 3) (.cells #[.int .i64 0] 27)
  have hlow : Below w.heap.size w ((((w.alloc (.cells #[.int .i64 (l.length : Int), .slice A (pack l).length c] 25)).alloc (.cells #[.int .i64 (i : Int)] 3)).alloc (.cells #[.int .i64 0] 3)).alloc (.cells #[.int .i64 0] 27)) := ((up2 w _ _).alloc (by simp only [World.size_alloc]; omega) _).alloc (by simp only [World.size_alloc]; omega) _
  simp only [Nat.add_assoc, Nat.reduceAdd]
  generalize ((((w.alloc (.cells #[.int .i64 (l.length : Int), .slice A (pack l).length c] 25)).alloc (.cells #[.int .i64 (i : Int)] 3)).alloc (.cells #[.int .i64 0] 3)).alloc (.cells #[.int .i64 0] 27)) = V0 at *
  have HV := Lib.hid hlow; clear hlow
  have HKS : Hid (∀ w' : World, Below V0.heap.size V0 w' → w'.cell? ⟨w.heap.size, 0, none⟩ = some (.int .i64 (l.length : Int)) ∧ w'.cell? ⟨w.heap.size, 1, none⟩ = some (.slice A (pack l).length c) ∧ w'.cell? ⟨w.heap.size + 1, 0, none⟩ = some (.int .i64 (i : Int))) := fun w' h =>
    ⟨(blk_cells ((h.block _ (by omega)).trans a0)).1, (blk_cells ((h.block _ (by omega)).trans a0)).2.1, box_cell ((h.block _ (by omega)).trans a1)⟩
  have HKR : Hid (∀ w' : World, Below V0.heap.size V0 w' → Boxed w' (w.heap.size + 1) 3 (.int .i64 (i : Int)) ∧ Boxed w' (w.heap.size + 2) 3 (.int .i64 0) ∧ Boxed w' (w.heap.size + 3) 27 (.int .i64 0)) := fun w' h =>
    ⟨(h.block _ (by omega)).trans a1, (h.block _ (by omega)).trans a2, (h.block _ (by omega)).trans a3⟩
  have HVz := Lib.hid hz
  clear a0 a1 a2 a3 hz
  refine wpIn_wide.2 ?_
  refine wp_region_noPanic ?_
  refine wp_region_held_drew (S := fun w' => w'.cell? ⟨w.heap.size, 0, none⟩ = some (.int .i64 (l.length : Int)) ∧ w'.cell? ⟨w.heap.size, 1, none⟩ = some (.slice A (pack l).length c) ∧ w'.cell? ⟨w.heap.size + 1, 0, none⟩ = some (.int .i64 (i : Int))) (by kernel_rfl) (HKS.out _ (Below.refl _ _).drew) (fun hHeld => ?_)
  (refine held_val (i := 0) rfl (by kernel_rfl) (by kernel_rfl) (by kernel_rfl) (fun _ _ _ _ h => h) hHeld (by rfl) ?_; apply Exists.intro; refine ⟨fun wq hSw => ?_, ?_⟩; ((try dsimp only at hSw); obtain ⟨k1, k2, k3⟩ := hSw; go_simp; try rfl); try simp only [Act.put, List.setIfInBounds_toArray, List.set_cons_zero, List.set_cons_succ])
  (refine held_val (i := 2) rfl (by kernel_rfl) (by kernel_rfl) (by kernel_rfl) (fun _ _ _ _ h => h) hHeld (by rfl) ?_; apply Exists.intro; refine ⟨fun wq hSw => ?_, ?_⟩; ((try dsimp only at hSw); obtain ⟨k1, k2, k3⟩ := hSw; go_simp; try rfl); try simp only [Act.put, List.setIfInBounds_toArray, List.set_cons_zero, List.set_cons_succ])
  (refine held_val (i := 3) rfl (by kernel_rfl) (by kernel_rfl) (by kernel_rfl) (fun _ _ _ _ h => h) hHeld (by rfl) ?_; apply Exists.intro; refine ⟨fun wq hSw => ?_, ?_⟩; ((try dsimp only at hSw); obtain ⟨k1, k2, k3⟩ := hSw; go_simp; try rfl); try simp only [Act.put, List.setIfInBounds_toArray, List.set_cons_zero, List.set_cons_succ])
  (refine held_val (i := 8) rfl (by kernel_rfl) (by kernel_rfl) (by kernel_rfl) (fun _ _ _ _ h => h) hHeld (by rfl) ?_; apply Exists.intro; refine ⟨fun wq hSw => ?_, ?_⟩; ((try dsimp only at hSw); obtain ⟨k1, k2, k3⟩ := hSw; go_simp; try rfl); try simp only [Act.put, List.setIfInBounds_toArray, List.set_cons_zero, List.set_cons_succ])
  (refine held_val (i := 9) rfl (by kernel_rfl) (by kernel_rfl) (by kernel_rfl) (fun _ _ _ _ h => h) hHeld (by rfl) ?_; apply Exists.intro; refine ⟨fun wq hSw => ?_, ?_⟩; ((try dsimp only at hSw); obtain ⟨k1, k2, k3⟩ := hSw; go_simp; try rfl); try simp only [Act.put, List.setIfInBounds_toArray, List.set_cons_zero, List.set_cons_succ])
  refine wpAnyH_ready (rs := [1]) (by kernel_rfl) (by simp) ?_
  refine AllReadyH.cons (of_drop rfl) (fun K hK => ?_) AllReadyH.nil
  clear hHeld
  go_simp
  (go_at_call 43; refine (HC.out V0.drew HV.out.drew).mono ?_; rintro e w5 ⟨rfl, B5⟩; have hk1 : Hid (Below V0.heap.size V0 w5) := ((Below.refl _ V0).drew).trans B5; clear B5)
  go_wp2_with fail
  refine hK.out _ _ (HKS.out _ hk1.out) (fun hHeld => ?_)
  clear hK K
  try simp only [Act.put, List.setIfInBounds_toArray, List.set_cons_zero, List.set_cons_succ]
  (refine held_val (i := 4) rfl (by kernel_rfl) (by kernel_rfl) (by kernel_rfl) (fun _ _ _ _ h => h) hHeld (by rfl) ?_; apply Exists.intro; refine ⟨fun wq hSw => ?_, ?_⟩; ((try dsimp only at hSw); obtain ⟨k1, k2, k3⟩ := hSw; go_simp; try rfl); try simp only [Act.put, List.setIfInBounds_toArray, List.set_cons_zero, List.set_cons_succ])
  (refine held_val (i := 5) rfl (by kernel_rfl) (by kernel_rfl) (by kernel_rfl) (fun _ _ _ _ h => h) hHeld (by rfl) ?_; apply Exists.intro; refine ⟨fun wq hSw => ?_, ?_⟩; ((try dsimp only at hSw); obtain ⟨k1, k2, k3⟩ := hSw; go_simp; try rfl); try simp only [Act.put, List.setIfInBounds_toArray, List.set_cons_zero, List.set_cons_succ])
  (refine held_val (i := 6) rfl (by kernel_rfl) (by kernel_rfl) (by kernel_rfl) (fun _ _ _ _ h => h) hHeld (by rfl) ?_; apply Exists.intro; refine ⟨fun wq hSw => ?_, ?_⟩; ((try dsimp only at hSw); obtain ⟨k1, k2, k3⟩ := hSw; go_simp; try rfl); try simp only [Act.put, List.setIfInBounds_toArray, List.set_cons_zero, List.set_cons_succ])
  (refine held_val (i := 7) rfl (by kernel_rfl) (by kernel_rfl) (by kernel_rfl) (fun _ _ _ _ h => h) hHeld (by rfl) ?_; apply Exists.intro; refine ⟨fun wq hSw => ?_, ?_⟩; ((try dsimp only at hSw); obtain ⟨k1, k2, k3⟩ := hSw; go_simp; try rfl); try simp only [Act.put, List.setIfInBounds_toArray, List.set_cons_zero, List.set_cons_succ])
  refine wpAnyH_ready (rs := [10]) (by kernel_rfl) (by simp) ?_
  refine AllReadyH.cons (of_drop rfl) (fun K hK => ?_) AllReadyH.nil
  clear hHeld
  go_simp
  refine hK.out _ _ (HKS.out _ (hk1.out.trans ((one_below _ _).mono hk1.out.size))) (fun hHeld => ?_)
  clear hK K
  try simp only [Act.put, List.setIfInBounds_toArray, List.set_cons_zero, List.set_cons_succ]
  refine wpAnyH_ready (rs := [11]) (by kernel_rfl) (by simp) ?_
  refine AllReadyH.cons (of_drop rfl) (fun K hK => ?_) AllReadyH.nil
  clear hHeld
  go_simp
  (go_at_call 61; refine (HR.out w5 _ rfl).mono ?_; rintro e w6 ⟨rfl, B2⟩; have hk2 : Hid (Below V0.heap.size V0 w6) := hk1.out.trans (B2.mono hk1.out.size); clear B2)
  go_wp2_with fail
  refine hK.out _ _ (HKS.out _ hk2.out) (fun hHeld => ?_)
  clear hK K
  try simp only [Act.put, List.setIfInBounds_toArray, List.set_cons_zero, List.set_cons_succ]
  (refine held_val (i := 12) rfl (by kernel_rfl) (by kernel_rfl) (by kernel_rfl) (fun _ _ _ _ h => h) hHeld (by rfl) ?_; apply Exists.intro; refine ⟨fun wq hSw => ?_, ?_⟩; ((try dsimp only at hSw); obtain ⟨k1, k2, k3⟩ := hSw; go_simp; try rfl); try simp only [Act.put, List.setIfInBounds_toArray, List.set_cons_zero, List.set_cons_succ])
  refine wpAnyH_done (by kernel_rfl) ?_ _
  refine NoPanic.normal ?_
  obtain ⟨r1, r2, r3⟩ := HKR.out _ hk2.out
  obtain ⟨hb0, hb1, -⟩ := HKS.out _ hk2.out
  have HB2 : Hid (Below w.heap.size w w6) := HV.out.trans (hk2.out.mono HV.out.size)
  have hz6 : w.heap.size + 4 ≤ w6.heap.size := by have := hk2.out.size; have := HVz.out; omega
  have hz7 : w.heap.size < w6.heap.size := by omega
  clear HKS HKR hk2 hk1 hHeld
  gi_wp2_with (refine ⟨trivial, ?_⟩; gi_at_call 53; refine (of_in 3 _ _ _ _ _ _ _ _).mono ?_; rintro e w' ⟨rfl, rfl⟩)
  simp only [Nat.add_assoc, Nat.reduceAdd]
  obtain ⟨hz, a0, a1, a2, a3, a4⟩ := fiv w6 (.cells #[.int .i64 0] 3) (.cells #[.int .i64 (l.length : Int), .slice A (pack l).length c] 25) (.cells #[.int .u64 1] 22) (.cells #[.int .i64 0] 3) (.cells #[.int .i64 (l.length : Int)] 3)
  have hup : Below w6.heap.size w6 (((((w6.alloc (.cells #[.int .i64 0] 3)).alloc (.cells #[.int .i64 (l.length : Int), .slice A (pack l).length c] 25)).alloc (.cells #[.int .u64 1] 22)).alloc (.cells #[.int .i64 0] 3)).alloc (.cells #[.int .i64 (l.length : Int)] 3)) := (((up2 w6 _ _).alloc (by simp only [World.size_alloc]; omega) _).alloc (by simp only [World.size_alloc]; omega) _).alloc (by simp only [World.size_alloc]; omega) _
  generalize (((((w6.alloc (.cells #[.int .i64 0] 3)).alloc (.cells #[.int .i64 (l.length : Int), .slice A (pack l).length c] 25)).alloc (.cells #[.int .u64 1] 22)).alloc (.cells #[.int .i64 0] 3)).alloc (.cells #[.int .i64 (l.length : Int)] 3)) = w5 at *
  replace r1 := (hup.block _ (by omega)).trans r1
  replace r2 := (hup.block _ (by omega)).trans r2
  replace r3 := (hup.block _ (by omega)).trans r3
  have hlow : Below w.heap.size w w5 := HB2.out.trans (hup.mono (by omega))
  clear hup HB2
  have hvis : ∀ k, skept w.heap.size w6.heap.size k → k < w5.heap.size := by rintro k (h | h | h | h) <;> omega
  have hll := HLL.out
  refine wpIn_rangeFunc_ownG rfl (by decide) (gf := 83) (lb := #[.pointer (some ⟨w6.heap.size + 3, 0, none⟩), .pointer (some ⟨w6.heap.size + 4, 0, none⟩), .pointer (some ⟨w6.heap.size + 1, 0, none⟩), .pointer (some ⟨w6.heap.size + 2, 0, none⟩)]) rfl trivial (enters_of Try.func83 (by kernel_rfl) rfl)
    (of_stops 3 (by decide) (w6.heap.size + 3) (w6.heap.size + 4) (w6.heap.size + 1) (w6.heap.size + 2) w.heap.size c A (skept w.heap.size w6.heap.size) l hll true 0 l.length (Nat.zero_le _) (Nat.le_refl _) (.inr (.inr (.inr rfl))) (.inr (.inl rfl)) (.inr (.inr (.inl rfl))) (fun k hk => .inl (by omega)) w5 hvis (by omega) (by omega)
      (box_cell a3) (box_cell a4) (box_cell a2) (blk_cells a1).1 (blk_cells a1).2.1 (HX.out.below hlow (Nat.le_refl _)))
    (fun h k => keepS_t h k) (keepS_b hvis) (Below.refl _ _) (fun _ => rfl)
    (fun pre X => (pre.length ≤ i ∧ Boxed X w6.heap.size 3 (.int .i64 (pre.length : Int)) ∧ Boxed X (w.heap.size + 2) 3 (.int .i64 0) ∧ Boxed X (w.heap.size + 3) 27 (.int .i64 0)) ∧ (Fr (skept w.heap.size w6.heap.size) w5 X ∧ w5.heap.size ≤ X.heap.size))
    (fun cd pre X => (cd = .ret ∧ ∃ p0 x, pre = p0 ++ [x] ∧ p0.length = i ∧ Boxed X (w.heap.size + 2) 3 (.int .i64 ((clamp 0 x : Nat) : Int)) ∧ Boxed X (w.heap.size + 3) 27 (.int .i64 0)) ∧ (Fr (skept w.heap.size w6.heap.size) w5 X ∧ w5.heap.size ≤ X.heap.size))
    (OwnFrom.and (Own.from (fun s X Y row hs hg hr => ⟨hs.1, box_own _ 3 (fun s : List Nat => .int .i64 (s.length : Int)) s X Y row hs.2.1 hg hr, box_own _ 3 (fun _ : Unit => .int .i64 0) () X Y row hs.2.2.1 hg hr, box_own _ 27 (fun _ : Unit => .int .i64 0) () X Y row hs.2.2.2 hg hr⟩) _) (fr_own _ w5 w5.heap.size (Nat.le_refl _) hvis))
    (fun cd => OwnFrom.and (Own.from (fun s X Y row hs hg hr => by
      obtain ⟨h1, p0, x, h2, h3, h4, h5⟩ := hs
      exact ⟨h1, p0, x, h2, h3, box_own _ 3 (fun _ : Unit => _) () X Y row h4 hg hr, box_own _ 27 (fun _ : Unit => _) () X Y row h5 hg hr⟩) _) (fr_own _ w5 w5.heap.size (Nat.le_refl _) hvis))
    ⟨⟨Nat.zero_le _, a0, r2, r3⟩, Fr.refl _ _, Nat.le_refl _⟩
    ?a1 ?assign ?body ?done ?stop
  case assign =>
    intro lp x X K hK
    gi_wp2
    exact hK
  case body =>
    rintro lp pre x X ⟨⟨hpm, h1, h2, h3⟩, hfr, hzz⟩ hlt
    have ci : X.cell? ⟨w.heap.size + 1, 0, none⟩ = some (.int .i64 (i : Int)) := box_cell ((hfr.block _ (.inl (by omega))).trans r1)
    have c1 := h1.cell
    have c2 := h2.cell
    have c3 := h3.cell
    have f1 := h1.frozen
    have f2 := h2.frozen
    have f3 := h3.frozen
    have n1 : ¬ skept w.heap.size w6.heap.size w6.heap.size := by rintro (h | h | h | h) <;> omega
    have n2 : ¬ skept w.heap.size w6.heap.size (w.heap.size + 2) := by rintro (h | h | h | h) <;> omega
    have n3 : ¬ skept w.heap.size w6.heap.size (w.heap.size + 3) := by rintro (h | h | h | h) <;> omega
    by_cases hfull : pre.length = i
    · have t3 : ((pre.length : Int) == (i : Int)) = true := by simp; omega
      have HFU := Lib.hid hfull; clear hfull
      generalize hcx : clamp 0 x = cx at *
      have HCX := Lib.hid hcx; clear hcx
      gi_wp2
      have hfr2 := (hfr.setCell (p := ⟨w.heap.size + 2, 0, none⟩) n2 (.int .i64 (cx : Int))).setCell (p := ⟨w.heap.size + 3, 0, none⟩) n3 (.int .i64 0)
      refine ⟨((KeepsOthers.setCell _ _ _).trans (KeepsOthers.setCell _ _ _)).from _, ⟨rfl, pre, x, rfl, HFU.out, ?_, ?_⟩, hfr2, by simpa [World.setCell] using hzz⟩
      · rw [HCX.out]; exact (h2.set _).other (by omega) _
      · exact (h3.other (by omega) _).set _
    · have t3 : ((pre.length : Int) == (i : Int)) = false := by simp; omega
      have hlm : pre.length < i := by omega
      clear hfull
      have hbl : pre.length ≤ 8192 := by have := HLL.out; omega
      have e1 : ((pre.length : Int) + 1) = (((pre ++ [x]).length : Nat) : Int) := by rw [List.length_append]; simp
      have HE1 := Lib.hid e1; clear e1
      gi_wp2
      rw [HE1.out]
      exact ⟨(KeepsOthers.setCell _ _ _).from _, ⟨fun j hj => Below.heap_setCell _ _ _ _ (fun e => by have e' : j = w6.heap.size := e; subst e'; exact n1 hj), by simp [World.setCell]⟩, ⟨by simp; omega, h1.set _, h2.other (by omega) _, h3.other (by omega) _⟩, hfr.setCell (p := ⟨w6.heap.size, 0, none⟩) n1 _, by simpa [World.setCell] using hzz⟩
  case done =>
    rintro D ys X hD rfl ⟨⟨hpm, h1, h2, h3⟩, hfr, hzz⟩ hK
    obtain ⟨rfl, rfl⟩ : rn = 0 ∧ re = 5 := by
      rcases HP.out with ⟨_, h, h'⟩ | ⟨h, _⟩
      · exact ⟨h, h'⟩
      · unfold sel at h
        rw [List.getElem?_eq_none hpm] at h; cases h
    have c2 := h2.cell
    have c3 := h3.cell
    have f2 := h2.frozen
    have f3 := h3.frozen
    have HL : Hid (Below w.heap.size w X) := hlow.trans (hfr.below (fun j hj => .inl (by omega)))
    clear hpm
    gi_wp2
    have hK' := ((KeepsOthers.setCell X ⟨w.heap.size + 2, 0, none⟩ (.int .i64 0)).trans (KeepsOthers.setCell _ ⟨w.heap.size + 3, 0, none⟩ (.int .i64 5))).same D _ hK rfl
    refine ⟨by simp, .inl ⟨_, _, rfl, run_takeDeferred hK', ?_⟩⟩
    have b2 : Boxed ((X.setCell ⟨w.heap.size + 2, 0, none⟩ (.int .i64 0)).setCell ⟨w.heap.size + 3, 0, none⟩ (.int .i64 5)) (w.heap.size + 2) 3 (.int .i64 0) := (h2.set _).other (by omega) _
    have b3 : Boxed ((X.setCell ⟨w.heap.size + 2, 0, none⟩ (.int .i64 0)).setCell ⟨w.heap.size + 3, 0, none⟩ (.int .i64 5)) (w.heap.size + 3) 27 (.int .i64 5) := (h3.other (by omega) _).set _
    have g2 := (b2.kept (grownBy_putObj' _ D (.deferred none)) (by simp; omega)).cell
    have g3 := (b3.kept (grownBy_putObj' _ D (.deferred none)) (by simp; omega)).cell
    refine ⟨.tuple #[.int .i64 0, .int .i64 5], ?_, rfl, ((HL.out.setCell (p := ⟨w.heap.size + 2, 0, none⟩) (by simp only; omega) _).setCell (p := ⟨w.heap.size + 3, 0, none⟩) (by simp only; omega) _).trans (belowK_b (w := w) (Nat.le_refl _) _ D _ _ (by omega) hK' rfl rfl)⟩
    simp [results, Try.results29, go_sem, g2, g3]
  case stop =>
    rintro D cd pre X hD hpre ⟨⟨rfl, p0, x, rfl, hp0, h2, h3⟩, hfr, hzz⟩ hK
    have hx : sel true l i = some x := by
      obtain ⟨t, ht⟩ := hpre
      unfold sel
      rw [← ht, List.append_assoc, List.getElem?_append_right (by omega), hp0, Nat.sub_self]; rfl
    obtain ⟨rfl, rfl⟩ : rn = clamp 0 x ∧ re = 0 := by
      have hb := (sel_some true l i x).1 hx
      have hb2 : x < l.length := by
        rcases Nat.lt_or_ge x l.length with h | h
        · exact h
        · rw [List.getElem?_eq_none h] at hb; cases hb.1
      have := HLL.out
      rw [clamp_of 0 x (Nat.zero_le _) (by omega)]
      rcases HP.out with ⟨h, _⟩ | ⟨h, h'⟩
      · rw [hx] at h; cases h
      · rw [hx] at h; cases h; exact ⟨rfl, h'⟩
    have HL : Hid (Below w.heap.size w X) := hlow.trans (hfr.below (fun j hj => .inl (by omega)))
    clear hx hpre
    gi_wp2
    refine ⟨by simp, .inl ⟨_, _, rfl, run_takeDeferred hK, ?_⟩⟩
    have g2 := (h2.kept (grownBy_putObj' _ D (.deferred none)) (by simp; omega)).cell
    have g3 := (h3.kept (grownBy_putObj' _ D (.deferred none)) (by simp; omega)).cell
    refine ⟨.tuple #[.int .i64 ((clamp 0 x : Nat) : Int), .int .i64 0], ?_, rfl, HL.out.trans (belowK_b (w := w) (Nat.le_refl _) _ D _ _ (by omega) hK rfl rfl)⟩
    generalize clamp 0 x = cx at *
    simp [results, Try.results29, go_sem, g2, g3]
set_option maxHeartbeats 4000000 in
theorem sel_ok0 (l : List Bool) (hl : l.length ≤ 8192) (A : Option Addr) (c i : Nat) (rn : Nat) (re : Int) (hr : (sel false l i = none ∧ rn = 0 ∧ re = 5) ∨ (sel false l i = some rn ∧ re = 0)) (w : World) (h : Rd w w.heap.size A (pack l)) :
    Calls Try.prog 29 #[.agg #[.int .i64 (l.length : Int), .slice A (pack l).length c], .int .i64 0, .int .i64 (i : Int)] w (RkP w rn re) := by
  have HC0 : ∀ V, Below w.heap.size w V → Calls Try.prog 43 #[.agg #[.int .i64 (l.length : Int), .slice A (pack l).length c]] V fun e w' => e = .returned (.int .i64 0) ∧ Below V.heap.size V w' := fun V hV => check_l l hl A c V (h.on hV)
  have HC := Lib.hid HC0; clear HC0
  have HX := Lib.hid h; clear h
  have HP := Lib.hid hr; clear hr
  have HLL := Lib.hid hl; clear hl
  have t1 : decide ((0 : Int) ≤ (i : Int)) = true := by simp
  have HR := Lib.hid (range2 0 true true 0 (by decide))
  refine (callsIn_wide (n := 4)).1 ?_
  refine callsIn_of_wp_marks Try.func29 rfl trivial ?_ rfl
  simp only [Try.ntmps29, List.size_toArray, List.length_cons, List.length_nil, Nat.reduceAdd, Nat.reduceSub, Array.replicate_succ, Array.replicate_zero, List.push_toArray, List.append_toArray, List.nil_append, List.cons_append]
  gi_wp2_with fail
  obtain ⟨hz, a0, a1, a2, a3⟩ := four w (.cells #[.int .i64 (l.length : Int), .slice A (pack l).length c] 25) (.cells #[.int .i64 (i : Int)] 3) (.cells #[.int .i64 0] 3) (.cells #[.int .i64 0] 27)
  have hlow : Below w.heap.size w ((((w.alloc (.cells #[.int .i64 (l.length : Int), .slice A (pack l).length c] 25)).alloc (.cells #[.int .i64 (i : Int)] 3)).alloc (.cells #[.int .i64 0] 3)).alloc (.cells #[.int .i64 0] 27)) := ((up2 w _ _).alloc (by simp only [World.size_alloc]; omega) _).alloc (by simp only [World.size_alloc]; omega) _
  simp only [Nat.add_assoc, Nat.reduceAdd]
  generalize ((((w.alloc (.cells #[.int .i64 (l.length : Int), .slice A (pack l).length c] 25)).alloc (.cells #[.int .i64 (i : Int)] 3)).alloc (.cells #[.int .i64 0] 3)).alloc (.cells #[.int .i64 0] 27)) = V0 at *
  have HV := Lib.hid hlow; clear hlow
  have HKS : Hid (∀ w' : World, Below V0.heap.size V0 w' → w'.cell? ⟨w.heap.size, 0, none⟩ = some (.int .i64 (l.length : Int)) ∧ w'.cell? ⟨w.heap.size, 1, none⟩ = some (.slice A (pack l).length c) ∧ w'.cell? ⟨w.heap.size + 1, 0, none⟩ = some (.int .i64 (i : Int))) := fun w' h =>
    ⟨(blk_cells ((h.block _ (by omega)).trans a0)).1, (blk_cells ((h.block _ (by omega)).trans a0)).2.1, box_cell ((h.block _ (by omega)).trans a1)⟩
  have HKR : Hid (∀ w' : World, Below V0.heap.size V0 w' → Boxed w' (w.heap.size + 1) 3 (.int .i64 (i : Int)) ∧ Boxed w' (w.heap.size + 2) 3 (.int .i64 0) ∧ Boxed w' (w.heap.size + 3) 27 (.int .i64 0)) := fun w' h =>
    ⟨(h.block _ (by omega)).trans a1, (h.block _ (by omega)).trans a2, (h.block _ (by omega)).trans a3⟩
  have HVz := Lib.hid hz
  clear a0 a1 a2 a3 hz
  refine wpIn_wide.2 ?_
  refine wp_region_noPanic ?_
  refine wp_region_held_drew (S := fun w' => w'.cell? ⟨w.heap.size, 0, none⟩ = some (.int .i64 (l.length : Int)) ∧ w'.cell? ⟨w.heap.size, 1, none⟩ = some (.slice A (pack l).length c) ∧ w'.cell? ⟨w.heap.size + 1, 0, none⟩ = some (.int .i64 (i : Int))) (by kernel_rfl) (HKS.out _ (Below.refl _ _).drew) (fun hHeld => ?_)
  (refine held_val (i := 0) rfl (by kernel_rfl) (by kernel_rfl) (by kernel_rfl) (fun _ _ _ _ h => h) hHeld (by rfl) ?_; apply Exists.intro; refine ⟨fun wq hSw => ?_, ?_⟩; ((try dsimp only at hSw); obtain ⟨k1, k2, k3⟩ := hSw; go_simp; try rfl); try simp only [Act.put, List.setIfInBounds_toArray, List.set_cons_zero, List.set_cons_succ])
  (refine held_val (i := 2) rfl (by kernel_rfl) (by kernel_rfl) (by kernel_rfl) (fun _ _ _ _ h => h) hHeld (by rfl) ?_; apply Exists.intro; refine ⟨fun wq hSw => ?_, ?_⟩; ((try dsimp only at hSw); obtain ⟨k1, k2, k3⟩ := hSw; go_simp; try rfl); try simp only [Act.put, List.setIfInBounds_toArray, List.set_cons_zero, List.set_cons_succ])
  (refine held_val (i := 3) rfl (by kernel_rfl) (by kernel_rfl) (by kernel_rfl) (fun _ _ _ _ h => h) hHeld (by rfl) ?_; apply Exists.intro; refine ⟨fun wq hSw => ?_, ?_⟩; ((try dsimp only at hSw); obtain ⟨k1, k2, k3⟩ := hSw; go_simp; try rfl); try simp only [Act.put, List.setIfInBounds_toArray, List.set_cons_zero, List.set_cons_succ])
  (refine held_val (i := 8) rfl (by kernel_rfl) (by kernel_rfl) (by kernel_rfl) (fun _ _ _ _ h => h) hHeld (by rfl) ?_; apply Exists.intro; refine ⟨fun wq hSw => ?_, ?_⟩; ((try dsimp only at hSw); obtain ⟨k1, k2, k3⟩ := hSw; go_simp; try rfl); try simp only [Act.put, List.setIfInBounds_toArray, List.set_cons_zero, List.set_cons_succ])
  (refine held_val (i := 9) rfl (by kernel_rfl) (by kernel_rfl) (by kernel_rfl) (fun _ _ _ _ h => h) hHeld (by rfl) ?_; apply Exists.intro; refine ⟨fun wq hSw => ?_, ?_⟩; ((try dsimp only at hSw); obtain ⟨k1, k2, k3⟩ := hSw; go_simp; try rfl); try simp only [Act.put, List.setIfInBounds_toArray, List.set_cons_zero, List.set_cons_succ])
  refine wpAnyH_ready (rs := [1]) (by kernel_rfl) (by simp) ?_
  refine AllReadyH.cons (of_drop rfl) (fun K hK => ?_) AllReadyH.nil
  clear hHeld
  go_simp
  (go_at_call 43; refine (HC.out V0.drew HV.out.drew).mono ?_; rintro e w5 ⟨rfl, B5⟩; have hk1 : Hid (Below V0.heap.size V0 w5) := ((Below.refl _ V0).drew).trans B5; clear B5)
  go_wp2_with fail
  refine hK.out _ _ (HKS.out _ hk1.out) (fun hHeld => ?_)
  clear hK K
  try simp only [Act.put, List.setIfInBounds_toArray, List.set_cons_zero, List.set_cons_succ]
  (refine held_val (i := 4) rfl (by kernel_rfl) (by kernel_rfl) (by kernel_rfl) (fun _ _ _ _ h => h) hHeld (by rfl) ?_; apply Exists.intro; refine ⟨fun wq hSw => ?_, ?_⟩; ((try dsimp only at hSw); obtain ⟨k1, k2, k3⟩ := hSw; go_simp; try rfl); try simp only [Act.put, List.setIfInBounds_toArray, List.set_cons_zero, List.set_cons_succ])
  (refine held_skip (i := 5) rfl (by kernel_rfl) (by kernel_rfl) (by kernel_rfl) (fun _ _ _ _ h => h) hHeld (by rfl) ?_; try simp only [Act.put, List.setIfInBounds_toArray, List.set_cons_zero, List.set_cons_succ])
  (refine held_skip (i := 6) rfl (by kernel_rfl) (by kernel_rfl) (by kernel_rfl) (fun _ _ _ _ h => h) hHeld (by rfl) ?_; try simp only [Act.put, List.setIfInBounds_toArray, List.set_cons_zero, List.set_cons_succ])
  (refine held_val (i := 7) rfl (by kernel_rfl) (by kernel_rfl) (by kernel_rfl) (fun _ _ _ _ h => h) hHeld (by rfl) ?_; apply Exists.intro; refine ⟨fun wq hSw => ?_, ?_⟩; ((try dsimp only at hSw); obtain ⟨k1, k2, k3⟩ := hSw; go_simp; try rfl); try simp only [Act.put, List.setIfInBounds_toArray, List.set_cons_zero, List.set_cons_succ])
  refine wpAnyH_ready (rs := [10]) (by kernel_rfl) (by simp) ?_
  refine AllReadyH.cons (of_drop rfl) (fun K hK => ?_) AllReadyH.nil
  clear hHeld
  go_simp
  refine hK.out _ _ (HKS.out _ (hk1.out.trans ((one_below _ _).mono hk1.out.size))) (fun hHeld => ?_)
  clear hK K
  try simp only [Act.put, List.setIfInBounds_toArray, List.set_cons_zero, List.set_cons_succ]
  refine wpAnyH_ready (rs := [11]) (by kernel_rfl) (by simp) ?_
  refine AllReadyH.cons (of_drop rfl) (fun K hK => ?_) AllReadyH.nil
  clear hHeld
  go_simp
  (go_at_call 61; refine (HR.out w5 _ rfl).mono ?_; rintro e w6 ⟨rfl, B2⟩; have hk2 : Hid (Below V0.heap.size V0 w6) := hk1.out.trans (B2.mono hk1.out.size); clear B2)
  go_wp2_with fail
  refine hK.out _ _ (HKS.out _ hk2.out) (fun hHeld => ?_)
  clear hK K
  try simp only [Act.put, List.setIfInBounds_toArray, List.set_cons_zero, List.set_cons_succ]
  (refine held_val (i := 12) rfl (by kernel_rfl) (by kernel_rfl) (by kernel_rfl) (fun _ _ _ _ h => h) hHeld (by rfl) ?_; apply Exists.intro; refine ⟨fun wq hSw => ?_, ?_⟩; ((try dsimp only at hSw); obtain ⟨k1, k2, k3⟩ := hSw; go_simp; try rfl); try simp only [Act.put, List.setIfInBounds_toArray, List.set_cons_zero, List.set_cons_succ])
  refine wpAnyH_done (by kernel_rfl) ?_ _
  refine NoPanic.normal ?_
  obtain ⟨r1, r2, r3⟩ := HKR.out _ hk2.out
  obtain ⟨hb0, hb1, -⟩ := HKS.out _ hk2.out
  have HB2 : Hid (Below w.heap.size w w6) := HV.out.trans (hk2.out.mono HV.out.size)
  have hz6 : w.heap.size + 4 ≤ w6.heap.size := by have := hk2.out.size; have := HVz.out; omega
  have hz7 : w.heap.size < w6.heap.size := by omega
  clear HKS HKR hk2 hk1 hHeld
  gi_wp2_with (refine ⟨trivial, ?_⟩; gi_at_call 53; refine (of_in 3 _ _ _ _ _ _ _ _).mono ?_; rintro e w' ⟨rfl, rfl⟩)
  simp only [Nat.add_assoc, Nat.reduceAdd]
  obtain ⟨hz, a0, a1, a2, a3, a4⟩ := fiv w6 (.cells #[.int .i64 0] 3) (.cells #[.int .i64 (l.length : Int), .slice A (pack l).length c] 25) (.cells #[.int .u64 0] 22) (.cells #[.int .i64 0] 3) (.cells #[.int .i64 (l.length : Int)] 3)
  have hup : Below w6.heap.size w6 (((((w6.alloc (.cells #[.int .i64 0] 3)).alloc (.cells #[.int .i64 (l.length : Int), .slice A (pack l).length c] 25)).alloc (.cells #[.int .u64 0] 22)).alloc (.cells #[.int .i64 0] 3)).alloc (.cells #[.int .i64 (l.length : Int)] 3)) := (((up2 w6 _ _).alloc (by simp only [World.size_alloc]; omega) _).alloc (by simp only [World.size_alloc]; omega) _).alloc (by simp only [World.size_alloc]; omega) _
  generalize (((((w6.alloc (.cells #[.int .i64 0] 3)).alloc (.cells #[.int .i64 (l.length : Int), .slice A (pack l).length c] 25)).alloc (.cells #[.int .u64 0] 22)).alloc (.cells #[.int .i64 0] 3)).alloc (.cells #[.int .i64 (l.length : Int)] 3)) = w5 at *
  replace r1 := (hup.block _ (by omega)).trans r1
  replace r2 := (hup.block _ (by omega)).trans r2
  replace r3 := (hup.block _ (by omega)).trans r3
  have hlow : Below w.heap.size w w5 := HB2.out.trans (hup.mono (by omega))
  clear hup HB2
  have hvis : ∀ k, skept w.heap.size w6.heap.size k → k < w5.heap.size := by rintro k (h | h | h | h) <;> omega
  have hll := HLL.out
  refine wpIn_rangeFunc_ownG rfl (by decide) (gf := 83) (lb := #[.pointer (some ⟨w6.heap.size + 3, 0, none⟩), .pointer (some ⟨w6.heap.size + 4, 0, none⟩), .pointer (some ⟨w6.heap.size + 1, 0, none⟩), .pointer (some ⟨w6.heap.size + 2, 0, none⟩)]) rfl trivial (enters_of Try.func83 (by kernel_rfl) rfl)
    (of_stops 3 (by decide) (w6.heap.size + 3) (w6.heap.size + 4) (w6.heap.size + 1) (w6.heap.size + 2) w.heap.size c A (skept w.heap.size w6.heap.size) l hll false 0 l.length (Nat.zero_le _) (Nat.le_refl _) (.inr (.inr (.inr rfl))) (.inr (.inl rfl)) (.inr (.inr (.inl rfl))) (fun k hk => .inl (by omega)) w5 hvis (by omega) (by omega)
      (box_cell a3) (box_cell a4) (box_cell a2) (blk_cells a1).1 (blk_cells a1).2.1 (HX.out.below hlow (Nat.le_refl _)))
    (fun h k => keepS_t h k) (keepS_b hvis) (Below.refl _ _) (fun _ => rfl)
    (fun pre X => (pre.length ≤ i ∧ Boxed X w6.heap.size 3 (.int .i64 (pre.length : Int)) ∧ Boxed X (w.heap.size + 2) 3 (.int .i64 0) ∧ Boxed X (w.heap.size + 3) 27 (.int .i64 0)) ∧ (Fr (skept w.heap.size w6.heap.size) w5 X ∧ w5.heap.size ≤ X.heap.size))
    (fun cd pre X => (cd = .ret ∧ ∃ p0 x, pre = p0 ++ [x] ∧ p0.length = i ∧ Boxed X (w.heap.size + 2) 3 (.int .i64 ((clamp 0 x : Nat) : Int)) ∧ Boxed X (w.heap.size + 3) 27 (.int .i64 0)) ∧ (Fr (skept w.heap.size w6.heap.size) w5 X ∧ w5.heap.size ≤ X.heap.size))
    (OwnFrom.and (Own.from (fun s X Y row hs hg hr => ⟨hs.1, box_own _ 3 (fun s : List Nat => .int .i64 (s.length : Int)) s X Y row hs.2.1 hg hr, box_own _ 3 (fun _ : Unit => .int .i64 0) () X Y row hs.2.2.1 hg hr, box_own _ 27 (fun _ : Unit => .int .i64 0) () X Y row hs.2.2.2 hg hr⟩) _) (fr_own _ w5 w5.heap.size (Nat.le_refl _) hvis))
    (fun cd => OwnFrom.and (Own.from (fun s X Y row hs hg hr => by
      obtain ⟨h1, p0, x, h2, h3, h4, h5⟩ := hs
      exact ⟨h1, p0, x, h2, h3, box_own _ 3 (fun _ : Unit => _) () X Y row h4 hg hr, box_own _ 27 (fun _ : Unit => _) () X Y row h5 hg hr⟩) _) (fr_own _ w5 w5.heap.size (Nat.le_refl _) hvis))
    ⟨⟨Nat.zero_le _, a0, r2, r3⟩, Fr.refl _ _, Nat.le_refl _⟩
    ?a1 ?assign ?body ?done ?stop
  case assign =>
    intro lp x X K hK
    gi_wp2
    exact hK
  case body =>
    rintro lp pre x X ⟨⟨hpm, h1, h2, h3⟩, hfr, hzz⟩ hlt
    have ci : X.cell? ⟨w.heap.size + 1, 0, none⟩ = some (.int .i64 (i : Int)) := box_cell ((hfr.block _ (.inl (by omega))).trans r1)
    have c1 := h1.cell
    have c2 := h2.cell
    have c3 := h3.cell
    have f1 := h1.frozen
    have f2 := h2.frozen
    have f3 := h3.frozen
    have n1 : ¬ skept w.heap.size w6.heap.size w6.heap.size := by rintro (h | h | h | h) <;> omega
    have n2 : ¬ skept w.heap.size w6.heap.size (w.heap.size + 2) := by rintro (h | h | h | h) <;> omega
    have n3 : ¬ skept w.heap.size w6.heap.size (w.heap.size + 3) := by rintro (h | h | h | h) <;> omega
    by_cases hfull : pre.length = i
    · have t3 : ((pre.length : Int) == (i : Int)) = true := by simp; omega
      have HFU := Lib.hid hfull; clear hfull
      generalize hcx : clamp 0 x = cx at *
      have HCX := Lib.hid hcx; clear hcx
      gi_wp2
      have hfr2 := (hfr.setCell (p := ⟨w.heap.size + 2, 0, none⟩) n2 (.int .i64 (cx : Int))).setCell (p := ⟨w.heap.size + 3, 0, none⟩) n3 (.int .i64 0)
      refine ⟨((KeepsOthers.setCell _ _ _).trans (KeepsOthers.setCell _ _ _)).from _, ⟨rfl, pre, x, rfl, HFU.out, ?_, ?_⟩, hfr2, by simpa [World.setCell] using hzz⟩
      · rw [HCX.out]; exact (h2.set _).other (by omega) _
      · exact (h3.other (by omega) _).set _
    · have t3 : ((pre.length : Int) == (i : Int)) = false := by simp; omega
      have hlm : pre.length < i := by omega
      clear hfull
      have hbl : pre.length ≤ 8192 := by have := HLL.out; omega
      have e1 : ((pre.length : Int) + 1) = (((pre ++ [x]).length : Nat) : Int) := by rw [List.length_append]; simp
      have HE1 := Lib.hid e1; clear e1
      gi_wp2
      rw [HE1.out]
      exact ⟨(KeepsOthers.setCell _ _ _).from _, ⟨fun j hj => Below.heap_setCell _ _ _ _ (fun e => by have e' : j = w6.heap.size := e; subst e'; exact n1 hj), by simp [World.setCell]⟩, ⟨by simp; omega, h1.set _, h2.other (by omega) _, h3.other (by omega) _⟩, hfr.setCell (p := ⟨w6.heap.size, 0, none⟩) n1 _, by simpa [World.setCell] using hzz⟩
  case done =>
    rintro D ys X hD rfl ⟨⟨hpm, h1, h2, h3⟩, hfr, hzz⟩ hK
    obtain ⟨rfl, rfl⟩ : rn = 0 ∧ re = 5 := by
      rcases HP.out with ⟨_, h, h'⟩ | ⟨h, _⟩
      · exact ⟨h, h'⟩
      · unfold sel at h
        rw [List.getElem?_eq_none hpm] at h; cases h
    have c2 := h2.cell
    have c3 := h3.cell
    have f2 := h2.frozen
    have f3 := h3.frozen
    have HL : Hid (Below w.heap.size w X) := hlow.trans (hfr.below (fun j hj => .inl (by omega)))
    clear hpm
    gi_wp2
    have hK' := ((KeepsOthers.setCell X ⟨w.heap.size + 2, 0, none⟩ (.int .i64 0)).trans (KeepsOthers.setCell _ ⟨w.heap.size + 3, 0, none⟩ (.int .i64 5))).same D _ hK rfl
    refine ⟨by simp, .inl ⟨_, _, rfl, run_takeDeferred hK', ?_⟩⟩
    have b2 : Boxed ((X.setCell ⟨w.heap.size + 2, 0, none⟩ (.int .i64 0)).setCell ⟨w.heap.size + 3, 0, none⟩ (.int .i64 5)) (w.heap.size + 2) 3 (.int .i64 0) := (h2.set _).other (by omega) _
    have b3 : Boxed ((X.setCell ⟨w.heap.size + 2, 0, none⟩ (.int .i64 0)).setCell ⟨w.heap.size + 3, 0, none⟩ (.int .i64 5)) (w.heap.size + 3) 27 (.int .i64 5) := (h3.other (by omega) _).set _
    have g2 := (b2.kept (grownBy_putObj' _ D (.deferred none)) (by simp; omega)).cell
    have g3 := (b3.kept (grownBy_putObj' _ D (.deferred none)) (by simp; omega)).cell
    refine ⟨.tuple #[.int .i64 0, .int .i64 5], ?_, rfl, ((HL.out.setCell (p := ⟨w.heap.size + 2, 0, none⟩) (by simp only; omega) _).setCell (p := ⟨w.heap.size + 3, 0, none⟩) (by simp only; omega) _).trans (belowK_b (w := w) (Nat.le_refl _) _ D _ _ (by omega) hK' rfl rfl)⟩
    simp [results, Try.results29, go_sem, g2, g3]
  case stop =>
    rintro D cd pre X hD hpre ⟨⟨rfl, p0, x, rfl, hp0, h2, h3⟩, hfr, hzz⟩ hK
    have hx : sel false l i = some x := by
      obtain ⟨t, ht⟩ := hpre
      unfold sel
      rw [← ht, List.append_assoc, List.getElem?_append_right (by omega), hp0, Nat.sub_self]; rfl
    obtain ⟨rfl, rfl⟩ : rn = clamp 0 x ∧ re = 0 := by
      have hb := (sel_some false l i x).1 hx
      have hb2 : x < l.length := by
        rcases Nat.lt_or_ge x l.length with h | h
        · exact h
        · rw [List.getElem?_eq_none h] at hb; cases hb.1
      have := HLL.out
      rw [clamp_of 0 x (Nat.zero_le _) (by omega)]
      rcases HP.out with ⟨h, _⟩ | ⟨h, h'⟩
      · rw [hx] at h; cases h
      · rw [hx] at h; cases h; exact ⟨rfl, h'⟩
    have HL : Hid (Below w.heap.size w X) := hlow.trans (hfr.below (fun j hj => .inl (by omega)))
    clear hx hpre
    gi_wp2
    refine ⟨by simp, .inl ⟨_, _, rfl, run_takeDeferred hK, ?_⟩⟩
    have g2 := (h2.kept (grownBy_putObj' _ D (.deferred none)) (by simp; omega)).cell
    have g3 := (h3.kept (grownBy_putObj' _ D (.deferred none)) (by simp; omega)).cell
    refine ⟨.tuple #[.int .i64 ((clamp 0 x : Nat) : Int), .int .i64 0], ?_, rfl, HL.out.trans (belowK_b (w := w) (Nat.le_refl _) _ D _ _ (by omega) hK rfl rfl)⟩
    generalize clamp 0 x = cx at *
    simp [results, Try.results29, go_sem, g2, g3]
end Go.Proofs.Ytgibbokhdfblmaa
