/- What Select answers, for whatever it is handed; no condition but those that each fact names. -/
import Derived.Test.YtgibbokhdfblmaaOHeld
namespace Go.Proofs.Ytgibbokhdfblmaa
set_option maxRecDepth 100000
set_option linter.unusedVariables false
open Go.RowKit Go.Shelf

attribute [local go_sem] Oper.semAt_some
set_option maxHeartbeats 4000000 in
theorem sel_e0 (len : Int) (A : Option Addr) (c : Nat) (bs : List Nat) (hb : ∀ b ∈ bs, b < 256) (bit i e0 : Int) (b0 : (bit == 0) = true) (he : rgE (chk len bs) [true, decide (0 ≤ i)] = e0) (h0 : e0 ≠ 0) (w : World) (h : Rd w w.heap.size A bs) :
    Calls Try.prog 29 #[.agg #[.int .i64 len, .slice A bs.length c], .int .i64 bit, .int .i64 i] w (RkP w 0 e0) := by
  have HC : Hid (∀ V, Below w.heap.size w V → Calls Try.prog 43 #[.agg #[.int .i64 len, .slice A bs.length c]] V fun e w' => e = .returned (.int .i64 (chk len bs)) ∧ Below V.heap.size V w') := fun V hV => check_any len A c bs V hb (h.on hV)
  have t0 : (e0 != 0) = true := by simpa using h0
  clear h h0 hb
  generalize chk len bs = ec at *
  generalize bs.length = N at *
  have HR := Lib.hid (range2 ec (true) (decide (0 ≤ i)) e0 he)
  clear he
  go_enter Try.func29, Try.ntmps29
  go_wp2_with fail
  obtain ⟨hz, a0, a1, a2, a3⟩ := four w (.cells #[.int .i64 len, .slice A N c] 25) (.cells #[.int .i64 i] 3) (.cells #[.int .i64 0] 3) (.cells #[.int .i64 0] 27)
  have hlow : Below w.heap.size w ((((w.alloc (.cells #[.int .i64 len, .slice A N c] 25)).alloc (.cells #[.int .i64 i] 3)).alloc (.cells #[.int .i64 0] 3)).alloc (.cells #[.int .i64 0] 27)) := ((up2 w _ _).alloc (by simp only [World.size_alloc]; omega) _).alloc (by simp only [World.size_alloc]; omega) _
  simp only [Nat.add_assoc, Nat.reduceAdd]
  generalize ((((w.alloc (.cells #[.int .i64 len, .slice A N c] 25)).alloc (.cells #[.int .i64 i] 3)).alloc (.cells #[.int .i64 0] 3)).alloc (.cells #[.int .i64 0] 27)) = V0 at *
  have HV := Lib.hid hlow; clear hlow
  have HKS : Hid (∀ w' : World, Below V0.heap.size V0 w' → w'.cell? ⟨w.heap.size, 0, none⟩ = some (.int .i64 len) ∧ w'.cell? ⟨w.heap.size, 1, none⟩ = some (.slice A N c) ∧ w'.cell? ⟨w.heap.size + 1, 0, none⟩ = some (.int .i64 i)) := fun w' h =>
    ⟨(blk_cells ((h.block _ (by omega)).trans a0)).1, (blk_cells ((h.block _ (by omega)).trans a0)).2.1, box_cell ((h.block _ (by omega)).trans a1)⟩
  have HKR : Hid (∀ w' : World, Below V0.heap.size V0 w' → Boxed w' (w.heap.size + 1) 3 (.int .i64 i) ∧ Boxed w' (w.heap.size + 2) 3 (.int .i64 0) ∧ Boxed w' (w.heap.size + 3) 27 (.int .i64 0)) := fun w' h =>
    ⟨(h.block _ (by omega)).trans a1, (h.block _ (by omega)).trans a2, (h.block _ (by omega)).trans a3⟩
  have HVz := Lib.hid hz
  clear a0 a1 a2 a3 hz
  refine wp_region_held_drew (S := fun w' => w'.cell? ⟨w.heap.size, 0, none⟩ = some (.int .i64 len) ∧ w'.cell? ⟨w.heap.size, 1, none⟩ = some (.slice A N c) ∧ w'.cell? ⟨w.heap.size + 1, 0, none⟩ = some (.int .i64 i)) (by kernel_rfl) (HKS.out _ (Below.refl _ _).drew) (fun hHeld => ?_)
  (refine held_val (i := 0) rfl (by kernel_rfl) (by kernel_rfl) (by kernel_rfl) (fun _ _ _ _ h => h) hHeld (by rfl) ?_; apply Exists.intro; refine ⟨fun wq hSw => ?_, ?_⟩; ((try dsimp only at hSw); obtain ⟨k1, k2, k3⟩ := hSw; go_simp; try rfl); try simp only [Act.put, List.setIfInBounds_toArray, List.set_cons_zero, List.set_cons_succ])
  (refine held_val (i := 2) rfl (by kernel_rfl) (by kernel_rfl) (by kernel_rfl) (fun _ _ _ _ h => h) hHeld (by rfl) ?_; apply Exists.intro; refine ⟨fun wq hSw => ?_, ?_⟩; ((try dsimp only at hSw); obtain ⟨k1, k2, k3⟩ := hSw; go_simp; try rfl); try simp only [Act.put, List.setIfInBounds_toArray, List.set_cons_zero, List.set_cons_succ])
  (refine held_val (i := 3) rfl (by kernel_rfl) (by kernel_rfl) (by kernel_rfl) (fun _ _ _ _ h => h) hHeld (by rfl) ?_; apply Exists.intro; refine ⟨fun wq hSw => ?_, ?_⟩; ((try dsimp only at hSw); obtain ⟨k1, k2, k3⟩ := hSw; go_simp; try rfl); try simp only [Act.put, List.setIfInBounds_toArray, List.set_cons_zero, List.set_cons_succ])
  (refine held_val (i := 8) rfl (by kernel_rfl) (by kernel_rfl) (by kernel_rfl) (fun _ _ _ _ h => h) hHeld (by rfl) ?_; apply Exists.intro; refine ⟨fun wq hSw => ?_, ?_⟩; ((try dsimp only at hSw); obtain ⟨k1, k2, k3⟩ := hSw; go_simp; try rfl); try simp only [Act.put, List.setIfInBounds_toArray, List.set_cons_zero, List.set_cons_succ])
  (refine held_val (i := 9) rfl (by kernel_rfl) (by kernel_rfl) (by kernel_rfl) (fun _ _ _ _ h => h) hHeld (by rfl) ?_; apply Exists.intro; refine ⟨fun wq hSw => ?_, ?_⟩; ((try dsimp only at hSw); obtain ⟨k1, k2, k3⟩ := hSw; go_simp; try rfl); try simp only [Act.put, List.setIfInBounds_toArray, List.set_cons_zero, List.set_cons_succ])
  refine wpAnyH_ready (rs := [1]) (by kernel_rfl) (by simp) ?_
  refine AllReadyH.cons (of_drop rfl) (fun K hK => ?_) AllReadyH.nil
  clear hHeld
  go_simp
  (go_at_call 43; refine (HC.out V0.drew HV.out.drew).mono ?_; rintro e w5 ⟨rfl, B5⟩; have hk1 : Hid (Below V0.heap.size V0 w5) := ((Below.refl _ V0).drew).trans B5; clear B5)
  go_wp2_with fail
  refine hK.out _ _ (HKS.out _ hk1.out) (fun hHeld => ?_)
  clear hK K
  try simp only [Act.put, List.setIfInBounds_toArray, List.set_cons_zero, List.set_cons_succ]
  (refine held_val (i := 4) rfl (by kernel_rfl) (by kernel_rfl) (by kernel_rfl) (fun _ _ _ _ h => h) hHeld (by rfl) ?_; apply Exists.intro; refine ⟨fun wq hSw => ?_, ?_⟩; ((try dsimp only at hSw); obtain ⟨k1, k2, k3⟩ := hSw; go_simp; try rfl); try simp only [Act.put, List.setIfInBounds_toArray, List.set_cons_zero, List.set_cons_succ])
  (refine held_skip (i := 5) rfl (by kernel_rfl) (by kernel_rfl) (by kernel_rfl) (fun _ _ _ _ h => h) hHeld (by rfl) ?_; try simp only [Act.put, List.setIfInBounds_toArray, List.set_cons_zero, List.set_cons_succ])
  (refine held_skip (i := 6) rfl (by kernel_rfl) (by kernel_rfl) (by kernel_rfl) (fun _ _ _ _ h => h) hHeld (by rfl) ?_; try simp only [Act.put, List.setIfInBounds_toArray, List.set_cons_zero, List.set_cons_succ])
  (refine held_val (i := 7) rfl (by kernel_rfl) (by kernel_rfl) (by kernel_rfl) (fun _ _ _ _ h => h) hHeld (by rfl) ?_; apply Exists.intro; refine ⟨fun wq hSw => ?_, ?_⟩; ((try dsimp only at hSw); obtain ⟨k1, k2, k3⟩ := hSw; go_simp; try rfl); try simp only [Act.put, List.setIfInBounds_toArray, List.set_cons_zero, List.set_cons_succ])
  refine wpAnyH_ready (rs := [10]) (by kernel_rfl) (by simp) ?_
  refine AllReadyH.cons (of_drop rfl) (fun K hK => ?_) AllReadyH.nil
  clear hHeld
  go_simp
  refine hK.out _ _ (HKS.out _ (hk1.out.trans ((one_below _ _).mono hk1.out.size))) (fun hHeld => ?_)
  clear hK K
  try simp only [Act.put, List.setIfInBounds_toArray, List.set_cons_zero, List.set_cons_succ]
  refine wpAnyH_ready (rs := [11]) (by kernel_rfl) (by simp) ?_
  refine AllReadyH.cons (of_drop rfl) (fun K hK => ?_) AllReadyH.nil
  clear hHeld
  go_simp
  (go_at_call 61; refine (HR.out w5 _ rfl).mono ?_; rintro e w6 ⟨rfl, B2⟩; have hk2 : Hid (Below V0.heap.size V0 w6) := hk1.out.trans (B2.mono hk1.out.size); clear B2)
  go_wp2_with fail
  refine hK.out _ _ (HKS.out _ hk2.out) (fun hHeld => ?_)
  clear hK K
  try simp only [Act.put, List.setIfInBounds_toArray, List.set_cons_zero, List.set_cons_succ]
  (refine held_val (i := 12) rfl (by kernel_rfl) (by kernel_rfl) (by kernel_rfl) (fun _ _ _ _ h => h) hHeld (by rfl) ?_; apply Exists.intro; refine ⟨fun wq hSw => ?_, ?_⟩; ((try dsimp only at hSw); obtain ⟨k1, k2, k3⟩ := hSw; go_simp; try rfl); try simp only [Act.put, List.setIfInBounds_toArray, List.set_cons_zero, List.set_cons_succ])
  refine wpAnyH_done (by kernel_rfl) ?_ _
  obtain ⟨-, r2, r3⟩ := HKR.out _ hk2.out
  have c2 := r2.cell
  have c3 := r3.cell
  have f2 := r2.frozen
  have f3 := r3.frozen
  have HB2 : Hid (Below w.heap.size w w6) := HV.out.trans (hk2.out.mono HV.out.size)
  clear HKS HKR hk2 hk1 hHeld
  go_wp2
  have g2 : ((w6.setCell ⟨w.heap.size + 2, 0, none⟩ (.int .i64 0)).setCell ⟨w.heap.size + 3, 0, none⟩ (.int .i64 e0)).cell? ⟨w.heap.size + 2, 0, none⟩ = some (.int .i64 0) := ((r2.set _).other (by omega) _).cell
  have g3 : ((w6.setCell ⟨w.heap.size + 2, 0, none⟩ (.int .i64 0)).setCell ⟨w.heap.size + 3, 0, none⟩ (.int .i64 e0)).cell? ⟨w.heap.size + 3, 0, none⟩ = some (.int .i64 e0) := ((r3.other (by omega) _).set _).cell
  refine bodyPost_ret (v := .tuple #[.int .i64 0, .int .i64 e0]) (by simp [results, Try.results29, go_sem, g2, g3]) rfl ⟨rfl, ?_⟩
  exact (HB2.out.setCell (p := ⟨w.heap.size + 2, 0, none⟩) (by simp only; omega) _).setCell (p := ⟨w.heap.size + 3, 0, none⟩) (by simp only; omega) _
set_option maxHeartbeats 4000000 in
theorem sel_e1 (len : Int) (A : Option Addr) (c : Nat) (bs : List Nat) (hb : ∀ b ∈ bs, b < 256) (bit i e0 : Int) (b0 : (bit == 0) = false) (d1 : Bool) (b1 : (bit == 1) = d1) (he : rgE (chk len bs) [d1, decide (0 ≤ i)] = e0) (h0 : e0 ≠ 0) (w : World) (h : Rd w w.heap.size A bs) :
    Calls Try.prog 29 #[.agg #[.int .i64 len, .slice A bs.length c], .int .i64 bit, .int .i64 i] w (RkP w 0 e0) := by
  have HC : Hid (∀ V, Below w.heap.size w V → Calls Try.prog 43 #[.agg #[.int .i64 len, .slice A bs.length c]] V fun e w' => e = .returned (.int .i64 (chk len bs)) ∧ Below V.heap.size V w') := fun V hV => check_any len A c bs V hb (h.on hV)
  have t0 : (e0 != 0) = true := by simpa using h0
  clear h h0 hb
  generalize chk len bs = ec at *
  generalize bs.length = N at *
  have HR := Lib.hid (range2 ec (d1) (decide (0 ≤ i)) e0 he)
  clear he
  go_enter Try.func29, Try.ntmps29
  go_wp2_with fail
  obtain ⟨hz, a0, a1, a2, a3⟩ := four w (.cells #[.int .i64 len, .slice A N c] 25) (.cells #[.int .i64 i] 3) (.cells #[.int .i64 0] 3) (.cells #[.int .i64 0] 27)
  have hlow : Below w.heap.size w ((((w.alloc (.cells #[.int .i64 len, .slice A N c] 25)).alloc (.cells #[.int .i64 i] 3)).alloc (.cells #[.int .i64 0] 3)).alloc (.cells #[.int .i64 0] 27)) := ((up2 w _ _).alloc (by simp only [World.size_alloc]; omega) _).alloc (by simp only [World.size_alloc]; omega) _
  simp only [Nat.add_assoc, Nat.reduceAdd]
  generalize ((((w.alloc (.cells #[.int .i64 len, .slice A N c] 25)).alloc (.cells #[.int .i64 i] 3)).alloc (.cells #[.int .i64 0] 3)).alloc (.cells #[.int .i64 0] 27)) = V0 at *
  have HV := Lib.hid hlow; clear hlow
  have HKS : Hid (∀ w' : World, Below V0.heap.size V0 w' → w'.cell? ⟨w.heap.size, 0, none⟩ = some (.int .i64 len) ∧ w'.cell? ⟨w.heap.size, 1, none⟩ = some (.slice A N c) ∧ w'.cell? ⟨w.heap.size + 1, 0, none⟩ = some (.int .i64 i)) := fun w' h =>
    ⟨(blk_cells ((h.block _ (by omega)).trans a0)).1, (blk_cells ((h.block _ (by omega)).trans a0)).2.1, box_cell ((h.block _ (by omega)).trans a1)⟩
  have HKR : Hid (∀ w' : World, Below V0.heap.size V0 w' → Boxed w' (w.heap.size + 1) 3 (.int .i64 i) ∧ Boxed w' (w.heap.size + 2) 3 (.int .i64 0) ∧ Boxed w' (w.heap.size + 3) 27 (.int .i64 0)) := fun w' h =>
    ⟨(h.block _ (by omega)).trans a1, (h.block _ (by omega)).trans a2, (h.block _ (by omega)).trans a3⟩
  have HVz := Lib.hid hz
  clear a0 a1 a2 a3 hz
  refine wp_region_held_drew (S := fun w' => w'.cell? ⟨w.heap.size, 0, none⟩ = some (.int .i64 len) ∧ w'.cell? ⟨w.heap.size, 1, none⟩ = some (.slice A N c) ∧ w'.cell? ⟨w.heap.size + 1, 0, none⟩ = some (.int .i64 i)) (by kernel_rfl) (HKS.out _ (Below.refl _ _).drew) (fun hHeld => ?_)
  (refine held_val (i := 0) rfl (by kernel_rfl) (by kernel_rfl) (by kernel_rfl) (fun _ _ _ _ h => h) hHeld (by rfl) ?_; apply Exists.intro; refine ⟨fun wq hSw => ?_, ?_⟩; ((try dsimp only at hSw); obtain ⟨k1, k2, k3⟩ := hSw; go_simp; try rfl); try simp only [Act.put, List.setIfInBounds_toArray, List.set_cons_zero, List.set_cons_succ])
  (refine held_val (i := 2) rfl (by kernel_rfl) (by kernel_rfl) (by kernel_rfl) (fun _ _ _ _ h => h) hHeld (by rfl) ?_; apply Exists.intro; refine ⟨fun wq hSw => ?_, ?_⟩; ((try dsimp only at hSw); obtain ⟨k1, k2, k3⟩ := hSw; go_simp; try rfl); try simp only [Act.put, List.setIfInBounds_toArray, List.set_cons_zero, List.set_cons_succ])
  (refine held_val (i := 3) rfl (by kernel_rfl) (by kernel_rfl) (by kernel_rfl) (fun _ _ _ _ h => h) hHeld (by rfl) ?_; apply Exists.intro; refine ⟨fun wq hSw => ?_, ?_⟩; ((try dsimp only at hSw); obtain ⟨k1, k2, k3⟩ := hSw; go_simp; try rfl); try simp only [Act.put, List.setIfInBounds_toArray, List.set_cons_zero, List.set_cons_succ])
  (refine held_val (i := 8) rfl (by kernel_rfl) (by kernel_rfl) (by kernel_rfl) (fun _ _ _ _ h => h) hHeld (by rfl) ?_; apply Exists.intro; refine ⟨fun wq hSw => ?_, ?_⟩; ((try dsimp only at hSw); obtain ⟨k1, k2, k3⟩ := hSw; go_simp; try rfl); try simp only [Act.put, List.setIfInBounds_toArray, List.set_cons_zero, List.set_cons_succ])
  (refine held_val (i := 9) rfl (by kernel_rfl) (by kernel_rfl) (by kernel_rfl) (fun _ _ _ _ h => h) hHeld (by rfl) ?_; apply Exists.intro; refine ⟨fun wq hSw => ?_, ?_⟩; ((try dsimp only at hSw); obtain ⟨k1, k2, k3⟩ := hSw; go_simp; try rfl); try simp only [Act.put, List.setIfInBounds_toArray, List.set_cons_zero, List.set_cons_succ])
  refine wpAnyH_ready (rs := [1]) (by kernel_rfl) (by simp) ?_
  refine AllReadyH.cons (of_drop rfl) (fun K hK => ?_) AllReadyH.nil
  clear hHeld
  go_simp
  (go_at_call 43; refine (HC.out V0.drew HV.out.drew).mono ?_; rintro e w5 ⟨rfl, B5⟩; have hk1 : Hid (Below V0.heap.size V0 w5) := ((Below.refl _ V0).drew).trans B5; clear B5)
  go_wp2_with fail
  refine hK.out _ _ (HKS.out _ hk1.out) (fun hHeld => ?_)
  clear hK K
  try simp only [Act.put, List.setIfInBounds_toArray, List.set_cons_zero, List.set_cons_succ]
  (refine held_val (i := 4) rfl (by kernel_rfl) (by kernel_rfl) (by kernel_rfl) (fun _ _ _ _ h => h) hHeld (by rfl) ?_; apply Exists.intro; refine ⟨fun wq hSw => ?_, ?_⟩; ((try dsimp only at hSw); obtain ⟨k1, k2, k3⟩ := hSw; go_simp; try rfl); try simp only [Act.put, List.setIfInBounds_toArray, List.set_cons_zero, List.set_cons_succ])
  (refine held_val (i := 5) rfl (by kernel_rfl) (by kernel_rfl) (by kernel_rfl) (fun _ _ _ _ h => h) hHeld (by rfl) ?_; apply Exists.intro; refine ⟨fun wq hSw => ?_, ?_⟩; ((try dsimp only at hSw); obtain ⟨k1, k2, k3⟩ := hSw; go_simp; try rfl); try simp only [Act.put, List.setIfInBounds_toArray, List.set_cons_zero, List.set_cons_succ])
  (refine held_val (i := 6) rfl (by kernel_rfl) (by kernel_rfl) (by kernel_rfl) (fun _ _ _ _ h => h) hHeld (by rfl) ?_; apply Exists.intro; refine ⟨fun wq hSw => ?_, ?_⟩; ((try dsimp only at hSw); obtain ⟨k1, k2, k3⟩ := hSw; go_simp; try rfl); try simp only [Act.put, List.setIfInBounds_toArray, List.set_cons_zero, List.set_cons_succ])
  (refine held_val (i := 7) rfl (by kernel_rfl) (by kernel_rfl) (by kernel_rfl) (fun _ _ _ _ h => h) hHeld (by rfl) ?_; apply Exists.intro; refine ⟨fun wq hSw => ?_, ?_⟩; ((try dsimp only at hSw); obtain ⟨k1, k2, k3⟩ := hSw; go_simp; try rfl); try simp only [Act.put, List.setIfInBounds_toArray, List.set_cons_zero, List.set_cons_succ])
  refine wpAnyH_ready (rs := [10]) (by kernel_rfl) (by simp) ?_
  refine AllReadyH.cons (of_drop rfl) (fun K hK => ?_) AllReadyH.nil
  clear hHeld
  go_simp
  refine hK.out _ _ (HKS.out _ (hk1.out.trans ((one_below _ _).mono hk1.out.size))) (fun hHeld => ?_)
  clear hK K
  try simp only [Act.put, List.setIfInBounds_toArray, List.set_cons_zero, List.set_cons_succ]
  refine wpAnyH_ready (rs := [11]) (by kernel_rfl) (by simp) ?_
  refine AllReadyH.cons (of_drop rfl) (fun K hK => ?_) AllReadyH.nil
  clear hHeld
  go_simp
  (go_at_call 61; refine (HR.out w5 _ rfl).mono ?_; rintro e w6 ⟨rfl, B2⟩; have hk2 : Hid (Below V0.heap.size V0 w6) := hk1.out.trans (B2.mono hk1.out.size); clear B2)
  go_wp2_with fail
  refine hK.out _ _ (HKS.out _ hk2.out) (fun hHeld => ?_)
  clear hK K
  try simp only [Act.put, List.setIfInBounds_toArray, List.set_cons_zero, List.set_cons_succ]
  (refine held_val (i := 12) rfl (by kernel_rfl) (by kernel_rfl) (by kernel_rfl) (fun _ _ _ _ h => h) hHeld (by rfl) ?_; apply Exists.intro; refine ⟨fun wq hSw => ?_, ?_⟩; ((try dsimp only at hSw); obtain ⟨k1, k2, k3⟩ := hSw; go_simp; try rfl); try simp only [Act.put, List.setIfInBounds_toArray, List.set_cons_zero, List.set_cons_succ])
  refine wpAnyH_done (by kernel_rfl) ?_ _
  obtain ⟨-, r2, r3⟩ := HKR.out _ hk2.out
  have c2 := r2.cell
  have c3 := r3.cell
  have f2 := r2.frozen
  have f3 := r3.frozen
  have HB2 : Hid (Below w.heap.size w w6) := HV.out.trans (hk2.out.mono HV.out.size)
  clear HKS HKR hk2 hk1 hHeld
  go_wp2
  have g2 : ((w6.setCell ⟨w.heap.size + 2, 0, none⟩ (.int .i64 0)).setCell ⟨w.heap.size + 3, 0, none⟩ (.int .i64 e0)).cell? ⟨w.heap.size + 2, 0, none⟩ = some (.int .i64 0) := ((r2.set _).other (by omega) _).cell
  have g3 : ((w6.setCell ⟨w.heap.size + 2, 0, none⟩ (.int .i64 0)).setCell ⟨w.heap.size + 3, 0, none⟩ (.int .i64 e0)).cell? ⟨w.heap.size + 3, 0, none⟩ = some (.int .i64 e0) := ((r3.other (by omega) _).set _).cell
  refine bodyPost_ret (v := .tuple #[.int .i64 0, .int .i64 e0]) (by simp [results, Try.results29, go_sem, g2, g3]) rfl ⟨rfl, ?_⟩
  exact (HB2.out.setCell (p := ⟨w.heap.size + 2, 0, none⟩) (by simp only; omega) _).setCell (p := ⟨w.heap.size + 3, 0, none⟩) (by simp only; omega) _
end Go.Proofs.Ytgibbokhdfblmaa
