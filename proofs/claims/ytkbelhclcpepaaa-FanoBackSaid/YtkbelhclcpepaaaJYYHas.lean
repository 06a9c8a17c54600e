/- Has a list its shape: what hasShape answers; no condition but those that each fact names. -/
import Derived.Test.YtkbelhclcpepaaaJYYWr
import Derived.Test.YtkbelhclcpepaaaJYOHeld
namespace Go.Proofs.Ytkbelhclcpepaaa
set_option maxRecDepth 100000
set_option linter.unusedVariables false
open Go.RowKit Go.Shelf

set_option maxHeartbeats 2000000 in
theorem has_A (n t k q z ones : Nat) (kw ll lh er ec : Int) (r : Bool) (A1 A2 : Option Addr) (n1 c1 n2 c2 : Nat) (w : World)
    (HS : Hid (∀ V, Calls Try.prog 75 #[.int .i64 (n : Int), .int .i64 (t : Int)] V fun e w' => e = .returned (.agg #[.int .i64 (n : Int), .int .i64 (t : Int), .int .i64 (k : Int), .int .i64 0, .slice none 0 0, .int .i64 0, .slice none 0 0]) ∧ Below V.heap.size V w'))
    (HLl : Hid (∀ V, Calls Try.prog 76 #[.agg #[.int .i64 (n : Int), .int .i64 (t : Int), .int .i64 (k : Int), .int .i64 0, .slice none 0 0, .int .i64 0, .slice none 0 0]] V fun e w' => e = .returned (.int .i64 (q : Int)) ∧ Below V.heap.size V w'))
    (HHl : Hid (∀ V, Calls Try.prog 77 #[.agg #[.int .i64 (n : Int), .int .i64 (t : Int), .int .i64 (k : Int), .int .i64 0, .slice none 0 0, .int .i64 0, .slice none 0 0]] V fun e w' => e = .returned (.int .i64 (z : Int)) ∧ Below V.heap.size V w'))
    (HRk : Hid (∀ V, Below w.heap.size w V → Calls Try.prog 35 #[.agg #[.int .i64 lh, .slice A2 n2 c2], .int .i64 lh] V (RkP V ones er)))
    (HCk : Hid (∀ V, Below w.heap.size w V → Calls Try.prog 48 #[.agg #[.int .i64 ll, .slice A1 n1 c1]] V fun e w' => e = .returned (.int .i64 ec) ∧ Below V.heap.size V w')) (tw : (kw != (k : Int)) = true) :
    Calls Try.prog 81 #[.agg #[.int .i64 (n : Int), .int .i64 (t : Int), .int .i64 kw, .int .i64 ll, .slice A1 n1 c1, .int .i64 lh, .slice A2 n2 c2]] w fun e w' => e = .returned (.bool false) ∧ Below w.heap.size w w' := by
  go_enter Try.func81, Try.ntmps81
  go_wp2_with fail
  obtain ⟨V0, hV0⟩ : ∃ V0, V0 = w.alloc (.cells #[.int .i64 (n : Int), .int .i64 (t : Int), .int .i64 kw, .int .i64 ll, .slice A1 n1 c1, .int .i64 lh, .slice A2 n2 c2] 70) := ⟨_, rfl⟩
  have H0 : Hid (Below w.heap.size w V0 ∧ V0.heap[w.heap.size]? = some (.cells #[.int .i64 (n : Int), .int .i64 (t : Int), .int .i64 kw, .int .i64 ll, .slice A1 n1 c1, .int .i64 lh, .slice A2 n2 c2] 70 (0, 0)) ∧ w.heap.size < V0.heap.size) := by rw [hV0]; exact ⟨one_below _ _, World.alloc_heap_new _ _, by rw [World.size_alloc]; omega⟩
  rw [← hV0]
  clear hV0
  refine (HS.out V0).mono ?_
  rintro e w1 ⟨rfl, B1⟩
  obtain ⟨X, hX⟩ : ∃ X, X = w1.heap.size := ⟨_, rfl⟩
  obtain ⟨w2, hw2⟩ : ∃ w2, w2 = w1.alloc (.cells #[.int .i64 (n : Int), .int .i64 (t : Int), .int .i64 (k : Int), .int .i64 0, .slice none 0 0, .int .i64 0, .slice none 0 0] 70) := ⟨_, rfl⟩
  have H2 : Hid (Below w.heap.size w w2 ∧ w2.heap[w.heap.size]? = some (.cells #[.int .i64 (n : Int), .int .i64 (t : Int), .int .i64 kw, .int .i64 ll, .slice A1 n1 c1, .int .i64 lh, .slice A2 n2 c2] 70 (0, 0)) ∧ w2.heap[X]? = some (.cells #[.int .i64 (n : Int), .int .i64 (t : Int), .int .i64 (k : Int), .int .i64 0, .slice none 0 0, .int .i64 0, .slice none 0 0] 70 (0, 0)) ∧ w.heap.size < X ∧ X < w2.heap.size) := by
    have h0 := H0.out
    have hs2 := B1.size
    rw [hw2, hX]
    refine ⟨h0.1.trans ((B1.trans ((one_below _ _).mono B1.size)).mono h0.1.size), ?_, World.alloc_heap_new _ _, by omega, by rw [World.size_alloc]; omega⟩
    rw [(one_below _ _).block _ (by omega)]; exact (B1.block _ h0.2.2).trans h0.2.1
  have HK : Hid (∀ w' : World, Below w2.heap.size w2 w' → w'.cell? ⟨w.heap.size, 0, none⟩ = some (.int .i64 (n : Int)) ∧ w'.cell? ⟨w.heap.size, 2, none⟩ = some (.int .i64 kw) ∧ w'.cell? ⟨w.heap.size, 3, none⟩ = some (.int .i64 ll) ∧ w'.cell? ⟨w.heap.size, 4, none⟩ = some (.slice A1 n1 c1) ∧ w'.cell? ⟨w.heap.size, 5, none⟩ = some (.int .i64 lh) ∧ w'.cell? ⟨w.heap.size, 6, none⟩ = some (.slice A2 n2 c2) ∧ w'.cell? ⟨X, 0, none⟩ = some (.int .i64 (n : Int)) ∧ w'.cell? ⟨X, 1, none⟩ = some (.int .i64 (t : Int)) ∧ w'.cell? ⟨X, 2, none⟩ = some (.int .i64 (k : Int)) ∧ w'.cell? ⟨X, 3, none⟩ = some (.int .i64 0) ∧ w'.cell? ⟨X, 4, none⟩ = some (.slice none 0 0) ∧ w'.cell? ⟨X, 5, none⟩ = some (.int .i64 0) ∧ w'.cell? ⟨X, 6, none⟩ = some (.slice none 0 0)) := fun w' h => by
    obtain ⟨⟨g0, g1, g2, g3, g4, g5, g6⟩, -⟩ := cells7 ((h.block _ (by have := H2.out; omega)).trans H2.out.2.1)
    obtain ⟨⟨d0, d1, d2, d3, d4, d5, d6⟩, -⟩ := cells7 ((h.block _ H2.out.2.2.2.2).trans H2.out.2.2.1)
    exact ⟨g0, g2, g3, g4, g5, g6, d0, d1, d2, d3, d4, d5, d6⟩
  clear B1 H0
  obtain ⟨k1, k2, k3, k4, k5, k6, k7, k8, k9, k10, k11, k12, k13⟩ := HK.out _ (Below.refl _ _)
  go_wp2_with fail
  rw [← hw2, ← hX]
  clear hw2 hX k1 k2 k3 k4 k5 k6 k7 k8 k9 k10 k11 k12 k13
  refine wp_region_held_drew (S := fun w' => w'.cell? ⟨w.heap.size, 0, none⟩ = some (.int .i64 (n : Int)) ∧ w'.cell? ⟨w.heap.size, 2, none⟩ = some (.int .i64 kw) ∧ w'.cell? ⟨w.heap.size, 3, none⟩ = some (.int .i64 ll) ∧ w'.cell? ⟨w.heap.size, 4, none⟩ = some (.slice A1 n1 c1) ∧ w'.cell? ⟨w.heap.size, 5, none⟩ = some (.int .i64 lh) ∧ w'.cell? ⟨w.heap.size, 6, none⟩ = some (.slice A2 n2 c2) ∧ w'.cell? ⟨X, 0, none⟩ = some (.int .i64 (n : Int)) ∧ w'.cell? ⟨X, 1, none⟩ = some (.int .i64 (t : Int)) ∧ w'.cell? ⟨X, 2, none⟩ = some (.int .i64 (k : Int)) ∧ w'.cell? ⟨X, 3, none⟩ = some (.int .i64 0) ∧ w'.cell? ⟨X, 4, none⟩ = some (.slice none 0 0) ∧ w'.cell? ⟨X, 5, none⟩ = some (.int .i64 0) ∧ w'.cell? ⟨X, 6, none⟩ = some (.slice none 0 0)) (by kernel_rfl) (HK.out _ (Below.refl _ _).drew) (fun hHeld => ?_)
  (refine held_val (i := 0) rfl (by kernel_rfl) (by kernel_rfl) (by kernel_rfl) (fun _ _ _ _ h => h) hHeld (by rfl) ?_; apply Exists.intro; refine ⟨fun wq hSw => ?_, ?_⟩; ((try dsimp only at hSw); obtain ⟨k1, k2, k3, k4, k5, k6, k7, k8, k9, k10, k11, k12, k13⟩ := hSw; go_simp; try rfl); try simp only [Act.put, List.setIfInBounds_toArray, List.set_cons_zero, List.set_cons_succ])
  (refine held_val (i := 1) rfl (by kernel_rfl) (by kernel_rfl) (by kernel_rfl) (fun _ _ _ _ h => h) hHeld (by rfl) ?_; apply Exists.intro; refine ⟨fun wq hSw => ?_, ?_⟩; ((try dsimp only at hSw); obtain ⟨k1, k2, k3, k4, k5, k6, k7, k8, k9, k10, k11, k12, k13⟩ := hSw; go_simp; try rfl); try simp only [Act.put, List.setIfInBounds_toArray, List.set_cons_zero, List.set_cons_succ])
  (refine held_val (i := 2) rfl (by kernel_rfl) (by kernel_rfl) (by kernel_rfl) (fun _ _ _ _ h => h) hHeld (by rfl) ?_; apply Exists.intro; refine ⟨fun wq hSw => ?_, ?_⟩; ((try dsimp only at hSw); obtain ⟨k1, k2, k3, k4, k5, k6, k7, k8, k9, k10, k11, k12, k13⟩ := hSw; go_simp; try rfl); try simp only [Act.put, List.setIfInBounds_toArray, List.set_cons_zero, List.set_cons_succ])
  (refine held_val (i := 3) rfl (by kernel_rfl) (by kernel_rfl) (by kernel_rfl) (fun _ _ _ _ h => h) hHeld (by rfl) ?_; apply Exists.intro; refine ⟨fun wq hSw => ?_, ?_⟩; ((try dsimp only at hSw); obtain ⟨k1, k2, k3, k4, k5, k6, k7, k8, k9, k10, k11, k12, k13⟩ := hSw; go_simp; try rfl); try simp only [Act.put, List.setIfInBounds_toArray, List.set_cons_zero, List.set_cons_succ])
  (refine held_val (i := 4) rfl (by kernel_rfl) (by kernel_rfl) (by kernel_rfl) (fun _ _ _ _ h => h) hHeld (by rfl) ?_; apply Exists.intro; refine ⟨fun wq hSw => ?_, ?_⟩; ((try dsimp only at hSw); obtain ⟨k1, k2, k3, k4, k5, k6, k7, k8, k9, k10, k11, k12, k13⟩ := hSw; go_simp; try rfl); try simp only [Act.put, List.setIfInBounds_toArray, List.set_cons_zero, List.set_cons_succ])
  (refine held_val (i := 5) rfl (by kernel_rfl) (by kernel_rfl) (by kernel_rfl) (fun _ _ _ _ h => h) hHeld (by rfl) ?_; apply Exists.intro; refine ⟨fun wq hSw => ?_, ?_⟩; ((try dsimp only at hSw); obtain ⟨k1, k2, k3, k4, k5, k6, k7, k8, k9, k10, k11, k12, k13⟩ := hSw; go_simp; try rfl); try simp only [Act.put, List.setIfInBounds_toArray, List.set_cons_zero, List.set_cons_succ])
  (refine held_skip (i := 6) rfl (by kernel_rfl) (by kernel_rfl) (by kernel_rfl) (fun _ _ _ _ h => h) hHeld (by rfl) ?_; try simp only [Act.put, List.setIfInBounds_toArray, List.set_cons_zero, List.set_cons_succ])
  (refine held_skip (i := 7) rfl (by kernel_rfl) (by kernel_rfl) (by kernel_rfl) (fun _ _ _ _ h => h) hHeld (by rfl) ?_; try simp only [Act.put, List.setIfInBounds_toArray, List.set_cons_zero, List.set_cons_succ])
  (refine held_skip (i := 8) rfl (by kernel_rfl) (by kernel_rfl) (by kernel_rfl) (fun _ _ _ _ h => h) hHeld (by rfl) ?_; try simp only [Act.put, List.setIfInBounds_toArray, List.set_cons_zero, List.set_cons_succ])
  (refine held_skip (i := 9) rfl (by kernel_rfl) (by kernel_rfl) (by kernel_rfl) (fun _ _ _ _ h => h) hHeld (by rfl) ?_; try simp only [Act.put, List.setIfInBounds_toArray, List.set_cons_zero, List.set_cons_succ])
  (refine held_skip (i := 10) rfl (by kernel_rfl) (by kernel_rfl) (by kernel_rfl) (fun _ _ _ _ h => h) hHeld (by rfl) ?_; try simp only [Act.put, List.setIfInBounds_toArray, List.set_cons_zero, List.set_cons_succ])
  (refine held_skip (i := 11) rfl (by kernel_rfl) (by kernel_rfl) (by kernel_rfl) (fun _ _ _ _ h => h) hHeld (by rfl) ?_; try simp only [Act.put, List.setIfInBounds_toArray, List.set_cons_zero, List.set_cons_succ])
  (refine held_val (i := 12) rfl (by kernel_rfl) (by kernel_rfl) (by kernel_rfl) (fun _ _ _ _ h => h) hHeld (by rfl) ?_; apply Exists.intro; refine ⟨fun wq hSw => ?_, ?_⟩; ((try dsimp only at hSw); obtain ⟨k1, k2, k3, k4, k5, k6, k7, k8, k9, k10, k11, k12, k13⟩ := hSw; go_simp; try rfl); try simp only [Act.put, List.setIfInBounds_toArray, List.set_cons_zero, List.set_cons_succ])
  (refine held_val (i := 13) rfl (by kernel_rfl) (by kernel_rfl) (by kernel_rfl) (fun _ _ _ _ h => h) hHeld (by rfl) ?_; apply Exists.intro; refine ⟨fun wq hSw => ?_, ?_⟩; ((try dsimp only at hSw); obtain ⟨k1, k2, k3, k4, k5, k6, k7, k8, k9, k10, k11, k12, k13⟩ := hSw; go_simp; try rfl); try simp only [Act.put, List.setIfInBounds_toArray, List.set_cons_zero, List.set_cons_succ])
  (refine held_skip (i := 14) rfl (by kernel_rfl) (by kernel_rfl) (by kernel_rfl) (fun _ _ _ _ h => h) hHeld (by rfl) ?_; try simp only [Act.put, List.setIfInBounds_toArray, List.set_cons_zero, List.set_cons_succ])
  (refine held_skip (i := 15) rfl (by kernel_rfl) (by kernel_rfl) (by kernel_rfl) (fun _ _ _ _ h => h) hHeld (by rfl) ?_; try simp only [Act.put, List.setIfInBounds_toArray, List.set_cons_zero, List.set_cons_succ])
  (refine held_skip (i := 16) rfl (by kernel_rfl) (by kernel_rfl) (by kernel_rfl) (fun _ _ _ _ h => h) hHeld (by rfl) ?_; try simp only [Act.put, List.setIfInBounds_toArray, List.set_cons_zero, List.set_cons_succ])
  (refine held_skip (i := 17) rfl (by kernel_rfl) (by kernel_rfl) (by kernel_rfl) (fun _ _ _ _ h => h) hHeld (by rfl) ?_; try simp only [Act.put, List.setIfInBounds_toArray, List.set_cons_zero, List.set_cons_succ])
  (refine held_skip (i := 18) rfl (by kernel_rfl) (by kernel_rfl) (by kernel_rfl) (fun _ _ _ _ h => h) hHeld (by rfl) ?_; try simp only [Act.put, List.setIfInBounds_toArray, List.set_cons_zero, List.set_cons_succ])
  (refine held_skip (i := 19) rfl (by kernel_rfl) (by kernel_rfl) (by kernel_rfl) (fun _ _ _ _ h => h) hHeld (by rfl) ?_; try simp only [Act.put, List.setIfInBounds_toArray, List.set_cons_zero, List.set_cons_succ])
  (refine held_val (i := 20) rfl (by kernel_rfl) (by kernel_rfl) (by kernel_rfl) (fun _ _ _ _ h => h) hHeld (by rfl) ?_; apply Exists.intro; refine ⟨fun wq hSw => ?_, ?_⟩; ((try dsimp only at hSw); obtain ⟨k1, k2, k3, k4, k5, k6, k7, k8, k9, k10, k11, k12, k13⟩ := hSw; go_simp; try rfl); try simp only [Act.put, List.setIfInBounds_toArray, List.set_cons_zero, List.set_cons_succ])
  refine wpAnyH_done (by kernel_rfl) ?_ _
  go_wp2
  go_ret
  exact ⟨rfl, H2.out.1.trans (((Below.refl _ w2).drew).mono H2.out.1.size)⟩
set_option maxHeartbeats 2000000 in
theorem has_B (n t k q z ones : Nat) (kw ll lh er ec : Int) (r : Bool) (A1 A2 : Option Addr) (n1 c1 n2 c2 : Nat) (w : World)
    (HS : Hid (∀ V, Calls Try.prog 75 #[.int .i64 (n : Int), .int .i64 (t : Int)] V fun e w' => e = .returned (.agg #[.int .i64 (n : Int), .int .i64 (t : Int), .int .i64 (k : Int), .int .i64 0, .slice none 0 0, .int .i64 0, .slice none 0 0]) ∧ Below V.heap.size V w'))
    (HLl : Hid (∀ V, Calls Try.prog 76 #[.agg #[.int .i64 (n : Int), .int .i64 (t : Int), .int .i64 (k : Int), .int .i64 0, .slice none 0 0, .int .i64 0, .slice none 0 0]] V fun e w' => e = .returned (.int .i64 (q : Int)) ∧ Below V.heap.size V w'))
    (HHl : Hid (∀ V, Calls Try.prog 77 #[.agg #[.int .i64 (n : Int), .int .i64 (t : Int), .int .i64 (k : Int), .int .i64 0, .slice none 0 0, .int .i64 0, .slice none 0 0]] V fun e w' => e = .returned (.int .i64 (z : Int)) ∧ Below V.heap.size V w'))
    (HRk : Hid (∀ V, Below w.heap.size w V → Calls Try.prog 35 #[.agg #[.int .i64 lh, .slice A2 n2 c2], .int .i64 lh] V (RkP V ones er)))
    (HCk : Hid (∀ V, Below w.heap.size w V → Calls Try.prog 48 #[.agg #[.int .i64 ll, .slice A1 n1 c1]] V fun e w' => e = .returned (.int .i64 ec) ∧ Below V.heap.size V w')) (tw : kw = (k : Int)) (tl : (ll != (q : Int)) = true) :
    Calls Try.prog 81 #[.agg #[.int .i64 (n : Int), .int .i64 (t : Int), .int .i64 kw, .int .i64 ll, .slice A1 n1 c1, .int .i64 lh, .slice A2 n2 c2]] w fun e w' => e = .returned (.bool false) ∧ Below w.heap.size w w' := by
  subst tw
  go_enter Try.func81, Try.ntmps81
  go_wp2_with fail
  obtain ⟨V0, hV0⟩ : ∃ V0, V0 = w.alloc (.cells #[.int .i64 (n : Int), .int .i64 (t : Int), .int .i64 (k : Int), .int .i64 ll, .slice A1 n1 c1, .int .i64 lh, .slice A2 n2 c2] 70) := ⟨_, rfl⟩
  have H0 : Hid (Below w.heap.size w V0 ∧ V0.heap[w.heap.size]? = some (.cells #[.int .i64 (n : Int), .int .i64 (t : Int), .int .i64 (k : Int), .int .i64 ll, .slice A1 n1 c1, .int .i64 lh, .slice A2 n2 c2] 70 (0, 0)) ∧ w.heap.size < V0.heap.size) := by rw [hV0]; exact ⟨one_below _ _, World.alloc_heap_new _ _, by rw [World.size_alloc]; omega⟩
  rw [← hV0]
  clear hV0
  refine (HS.out V0).mono ?_
  rintro e w1 ⟨rfl, B1⟩
  obtain ⟨X, hX⟩ : ∃ X, X = w1.heap.size := ⟨_, rfl⟩
  obtain ⟨w2, hw2⟩ : ∃ w2, w2 = w1.alloc (.cells #[.int .i64 (n : Int), .int .i64 (t : Int), .int .i64 (k : Int), .int .i64 0, .slice none 0 0, .int .i64 0, .slice none 0 0] 70) := ⟨_, rfl⟩
  have H2 : Hid (Below w.heap.size w w2 ∧ w2.heap[w.heap.size]? = some (.cells #[.int .i64 (n : Int), .int .i64 (t : Int), .int .i64 (k : Int), .int .i64 ll, .slice A1 n1 c1, .int .i64 lh, .slice A2 n2 c2] 70 (0, 0)) ∧ w2.heap[X]? = some (.cells #[.int .i64 (n : Int), .int .i64 (t : Int), .int .i64 (k : Int), .int .i64 0, .slice none 0 0, .int .i64 0, .slice none 0 0] 70 (0, 0)) ∧ w.heap.size < X ∧ X < w2.heap.size) := by
    have h0 := H0.out
    have hs2 := B1.size
    rw [hw2, hX]
    refine ⟨h0.1.trans ((B1.trans ((one_below _ _).mono B1.size)).mono h0.1.size), ?_, World.alloc_heap_new _ _, by omega, by rw [World.size_alloc]; omega⟩
    rw [(one_below _ _).block _ (by omega)]; exact (B1.block _ h0.2.2).trans h0.2.1
  have HK : Hid (∀ w' : World, Below w2.heap.size w2 w' → w'.cell? ⟨w.heap.size, 0, none⟩ = some (.int .i64 (n : Int)) ∧ w'.cell? ⟨w.heap.size, 2, none⟩ = some (.int .i64 (k : Int)) ∧ w'.cell? ⟨w.heap.size, 3, none⟩ = some (.int .i64 ll) ∧ w'.cell? ⟨w.heap.size, 4, none⟩ = some (.slice A1 n1 c1) ∧ w'.cell? ⟨w.heap.size, 5, none⟩ = some (.int .i64 lh) ∧ w'.cell? ⟨w.heap.size, 6, none⟩ = some (.slice A2 n2 c2) ∧ w'.cell? ⟨X, 0, none⟩ = some (.int .i64 (n : Int)) ∧ w'.cell? ⟨X, 1, none⟩ = some (.int .i64 (t : Int)) ∧ w'.cell? ⟨X, 2, none⟩ = some (.int .i64 (k : Int)) ∧ w'.cell? ⟨X, 3, none⟩ = some (.int .i64 0) ∧ w'.cell? ⟨X, 4, none⟩ = some (.slice none 0 0) ∧ w'.cell? ⟨X, 5, none⟩ = some (.int .i64 0) ∧ w'.cell? ⟨X, 6, none⟩ = some (.slice none 0 0)) := fun w' h => by
    obtain ⟨⟨g0, g1, g2, g3, g4, g5, g6⟩, -⟩ := cells7 ((h.block _ (by have := H2.out; omega)).trans H2.out.2.1)
    obtain ⟨⟨d0, d1, d2, d3, d4, d5, d6⟩, -⟩ := cells7 ((h.block _ H2.out.2.2.2.2).trans H2.out.2.2.1)
    exact ⟨g0, g2, g3, g4, g5, g6, d0, d1, d2, d3, d4, d5, d6⟩
  clear B1 H0
  obtain ⟨k1, k2, k3, k4, k5, k6, k7, k8, k9, k10, k11, k12, k13⟩ := HK.out _ (Below.refl _ _)
  go_wp2_with fail
  rw [← hw2, ← hX]
  clear hw2 hX k1 k2 k3 k4 k5 k6 k7 k8 k9 k10 k11 k12 k13
  refine wp_region_held_drew (S := fun w' => w'.cell? ⟨w.heap.size, 0, none⟩ = some (.int .i64 (n : Int)) ∧ w'.cell? ⟨w.heap.size, 2, none⟩ = some (.int .i64 (k : Int)) ∧ w'.cell? ⟨w.heap.size, 3, none⟩ = some (.int .i64 ll) ∧ w'.cell? ⟨w.heap.size, 4, none⟩ = some (.slice A1 n1 c1) ∧ w'.cell? ⟨w.heap.size, 5, none⟩ = some (.int .i64 lh) ∧ w'.cell? ⟨w.heap.size, 6, none⟩ = some (.slice A2 n2 c2) ∧ w'.cell? ⟨X, 0, none⟩ = some (.int .i64 (n : Int)) ∧ w'.cell? ⟨X, 1, none⟩ = some (.int .i64 (t : Int)) ∧ w'.cell? ⟨X, 2, none⟩ = some (.int .i64 (k : Int)) ∧ w'.cell? ⟨X, 3, none⟩ = some (.int .i64 0) ∧ w'.cell? ⟨X, 4, none⟩ = some (.slice none 0 0) ∧ w'.cell? ⟨X, 5, none⟩ = some (.int .i64 0) ∧ w'.cell? ⟨X, 6, none⟩ = some (.slice none 0 0)) (by kernel_rfl) (HK.out _ (Below.refl _ _).drew) (fun hHeld => ?_)
  (refine held_val (i := 0) rfl (by kernel_rfl) (by kernel_rfl) (by kernel_rfl) (fun _ _ _ _ h => h) hHeld (by rfl) ?_; apply Exists.intro; refine ⟨fun wq hSw => ?_, ?_⟩; ((try dsimp only at hSw); obtain ⟨k1, k2, k3, k4, k5, k6, k7, k8, k9, k10, k11, k12, k13⟩ := hSw; go_simp; try rfl); try simp only [Act.put, List.setIfInBounds_toArray, List.set_cons_zero, List.set_cons_succ])
  (refine held_val (i := 1) rfl (by kernel_rfl) (by kernel_rfl) (by kernel_rfl) (fun _ _ _ _ h => h) hHeld (by rfl) ?_; apply Exists.intro; refine ⟨fun wq hSw => ?_, ?_⟩; ((try dsimp only at hSw); obtain ⟨k1, k2, k3, k4, k5, k6, k7, k8, k9, k10, k11, k12, k13⟩ := hSw; go_simp; try rfl); try simp only [Act.put, List.setIfInBounds_toArray, List.set_cons_zero, List.set_cons_succ])
  (refine held_val (i := 2) rfl (by kernel_rfl) (by kernel_rfl) (by kernel_rfl) (fun _ _ _ _ h => h) hHeld (by rfl) ?_; apply Exists.intro; refine ⟨fun wq hSw => ?_, ?_⟩; ((try dsimp only at hSw); obtain ⟨k1, k2, k3, k4, k5, k6, k7, k8, k9, k10, k11, k12, k13⟩ := hSw; go_simp; try rfl); try simp only [Act.put, List.setIfInBounds_toArray, List.set_cons_zero, List.set_cons_succ])
  (refine held_val (i := 3) rfl (by kernel_rfl) (by kernel_rfl) (by kernel_rfl) (fun _ _ _ _ h => h) hHeld (by rfl) ?_; apply Exists.intro; refine ⟨fun wq hSw => ?_, ?_⟩; ((try dsimp only at hSw); obtain ⟨k1, k2, k3, k4, k5, k6, k7, k8, k9, k10, k11, k12, k13⟩ := hSw; go_simp; try rfl); try simp only [Act.put, List.setIfInBounds_toArray, List.set_cons_zero, List.set_cons_succ])
  (refine held_val (i := 4) rfl (by kernel_rfl) (by kernel_rfl) (by kernel_rfl) (fun _ _ _ _ h => h) hHeld (by rfl) ?_; apply Exists.intro; refine ⟨fun wq hSw => ?_, ?_⟩; ((try dsimp only at hSw); obtain ⟨k1, k2, k3, k4, k5, k6, k7, k8, k9, k10, k11, k12, k13⟩ := hSw; go_simp; try rfl); try simp only [Act.put, List.setIfInBounds_toArray, List.set_cons_zero, List.set_cons_succ])
  (refine held_val (i := 5) rfl (by kernel_rfl) (by kernel_rfl) (by kernel_rfl) (fun _ _ _ _ h => h) hHeld (by rfl) ?_; apply Exists.intro; refine ⟨fun wq hSw => ?_, ?_⟩; ((try dsimp only at hSw); obtain ⟨k1, k2, k3, k4, k5, k6, k7, k8, k9, k10, k11, k12, k13⟩ := hSw; go_simp; try rfl); try simp only [Act.put, List.setIfInBounds_toArray, List.set_cons_zero, List.set_cons_succ])
  (refine held_val (i := 6) rfl (by kernel_rfl) (by kernel_rfl) (by kernel_rfl) (fun _ _ _ _ h => h) hHeld (by rfl) ?_; apply Exists.intro; refine ⟨fun wq hSw => ?_, ?_⟩; ((try dsimp only at hSw); obtain ⟨k1, k2, k3, k4, k5, k6, k7, k8, k9, k10, k11, k12, k13⟩ := hSw; go_simp; try rfl); try simp only [Act.put, List.setIfInBounds_toArray, List.set_cons_zero, List.set_cons_succ])
  (refine held_val (i := 7) rfl (by kernel_rfl) (by kernel_rfl) (by kernel_rfl) (fun _ _ _ _ h => h) hHeld (by rfl) ?_; apply Exists.intro; refine ⟨fun wq hSw => ?_, ?_⟩; ((try dsimp only at hSw); obtain ⟨k1, k2, k3, k4, k5, k6, k7, k8, k9, k10, k11, k12, k13⟩ := hSw; go_simp; try rfl); try simp only [Act.put, List.setIfInBounds_toArray, List.set_cons_zero, List.set_cons_succ])
  (refine held_val (i := 8) rfl (by kernel_rfl) (by kernel_rfl) (by kernel_rfl) (fun _ _ _ _ h => h) hHeld (by rfl) ?_; apply Exists.intro; refine ⟨fun wq hSw => ?_, ?_⟩; ((try dsimp only at hSw); obtain ⟨k1, k2, k3, k4, k5, k6, k7, k8, k9, k10, k11, k12, k13⟩ := hSw; go_simp; try rfl); try simp only [Act.put, List.setIfInBounds_toArray, List.set_cons_zero, List.set_cons_succ])
  (refine held_val (i := 9) rfl (by kernel_rfl) (by kernel_rfl) (by kernel_rfl) (fun _ _ _ _ h => h) hHeld (by rfl) ?_; apply Exists.intro; refine ⟨fun wq hSw => ?_, ?_⟩; ((try dsimp only at hSw); obtain ⟨k1, k2, k3, k4, k5, k6, k7, k8, k9, k10, k11, k12, k13⟩ := hSw; go_simp; try rfl); try simp only [Act.put, List.setIfInBounds_toArray, List.set_cons_zero, List.set_cons_succ])
  refine wpAnyH_ready (rs := [10]) (by kernel_rfl) (by simp) ?_
  refine AllReadyH.cons (of_drop rfl) (fun K hK => ?_) AllReadyH.nil
  clear hHeld
  go_simp
  (go_at_call 76; refine (HLl.out w2.drew).mono ?_; rintro e w3 ⟨rfl, B3⟩; have hk3 : Hid (Below w2.heap.size w2 w3) := ((Below.refl _ w2).drew).trans B3; clear B3)
  go_wp2_with fail
  refine hK.out _ _ (HK.out _ hk3.out) (fun hHeld => ?_)
  clear hK K
  try simp only [Act.put, List.setIfInBounds_toArray, List.set_cons_zero, List.set_cons_succ]
  (refine held_val (i := 11) rfl (by kernel_rfl) (by kernel_rfl) (by kernel_rfl) (fun _ _ _ _ h => h) hHeld (by rfl) ?_; apply Exists.intro; refine ⟨fun wq hSw => ?_, ?_⟩; ((try dsimp only at hSw); obtain ⟨k1, k2, k3, k4, k5, k6, k7, k8, k9, k10, k11, k12, k13⟩ := hSw; go_simp; try rfl); try simp only [Act.put, List.setIfInBounds_toArray, List.set_cons_zero, List.set_cons_succ])
  (refine held_val (i := 12) rfl (by kernel_rfl) (by kernel_rfl) (by kernel_rfl) (fun _ _ _ _ h => h) hHeld (by rfl) ?_; apply Exists.intro; refine ⟨fun wq hSw => ?_, ?_⟩; ((try dsimp only at hSw); obtain ⟨k1, k2, k3, k4, k5, k6, k7, k8, k9, k10, k11, k12, k13⟩ := hSw; go_simp; try rfl); try simp only [Act.put, List.setIfInBounds_toArray, List.set_cons_zero, List.set_cons_succ])
  (refine held_val (i := 13) rfl (by kernel_rfl) (by kernel_rfl) (by kernel_rfl) (fun _ _ _ _ h => h) hHeld (by rfl) ?_; apply Exists.intro; refine ⟨fun wq hSw => ?_, ?_⟩; ((try dsimp only at hSw); obtain ⟨k1, k2, k3, k4, k5, k6, k7, k8, k9, k10, k11, k12, k13⟩ := hSw; go_simp; try rfl); try simp only [Act.put, List.setIfInBounds_toArray, List.set_cons_zero, List.set_cons_succ])
  (refine held_skip (i := 14) rfl (by kernel_rfl) (by kernel_rfl) (by kernel_rfl) (fun _ _ _ _ h => h) hHeld (by rfl) ?_; try simp only [Act.put, List.setIfInBounds_toArray, List.set_cons_zero, List.set_cons_succ])
  (refine held_skip (i := 15) rfl (by kernel_rfl) (by kernel_rfl) (by kernel_rfl) (fun _ _ _ _ h => h) hHeld (by rfl) ?_; try simp only [Act.put, List.setIfInBounds_toArray, List.set_cons_zero, List.set_cons_succ])
  (refine held_skip (i := 16) rfl (by kernel_rfl) (by kernel_rfl) (by kernel_rfl) (fun _ _ _ _ h => h) hHeld (by rfl) ?_; try simp only [Act.put, List.setIfInBounds_toArray, List.set_cons_zero, List.set_cons_succ])
  (refine held_skip (i := 17) rfl (by kernel_rfl) (by kernel_rfl) (by kernel_rfl) (fun _ _ _ _ h => h) hHeld (by rfl) ?_; try simp only [Act.put, List.setIfInBounds_toArray, List.set_cons_zero, List.set_cons_succ])
  (refine held_skip (i := 18) rfl (by kernel_rfl) (by kernel_rfl) (by kernel_rfl) (fun _ _ _ _ h => h) hHeld (by rfl) ?_; try simp only [Act.put, List.setIfInBounds_toArray, List.set_cons_zero, List.set_cons_succ])
  (refine held_skip (i := 19) rfl (by kernel_rfl) (by kernel_rfl) (by kernel_rfl) (fun _ _ _ _ h => h) hHeld (by rfl) ?_; try simp only [Act.put, List.setIfInBounds_toArray, List.set_cons_zero, List.set_cons_succ])
  (refine held_val (i := 20) rfl (by kernel_rfl) (by kernel_rfl) (by kernel_rfl) (fun _ _ _ _ h => h) hHeld (by rfl) ?_; apply Exists.intro; refine ⟨fun wq hSw => ?_, ?_⟩; ((try dsimp only at hSw); obtain ⟨k1, k2, k3, k4, k5, k6, k7, k8, k9, k10, k11, k12, k13⟩ := hSw; go_simp; try rfl); try simp only [Act.put, List.setIfInBounds_toArray, List.set_cons_zero, List.set_cons_succ])
  refine wpAnyH_done (by kernel_rfl) ?_ _
  go_wp2
  go_ret
  exact ⟨rfl, H2.out.1.trans ((hk3.out).mono H2.out.1.size)⟩
set_option maxHeartbeats 2000000 in
theorem has_C (n t k q z ones : Nat) (kw ll lh er ec : Int) (r : Bool) (A1 A2 : Option Addr) (n1 c1 n2 c2 : Nat) (w : World)
    (HS : Hid (∀ V, Calls Try.prog 75 #[.int .i64 (n : Int), .int .i64 (t : Int)] V fun e w' => e = .returned (.agg #[.int .i64 (n : Int), .int .i64 (t : Int), .int .i64 (k : Int), .int .i64 0, .slice none 0 0, .int .i64 0, .slice none 0 0]) ∧ Below V.heap.size V w'))
    (HLl : Hid (∀ V, Calls Try.prog 76 #[.agg #[.int .i64 (n : Int), .int .i64 (t : Int), .int .i64 (k : Int), .int .i64 0, .slice none 0 0, .int .i64 0, .slice none 0 0]] V fun e w' => e = .returned (.int .i64 (q : Int)) ∧ Below V.heap.size V w'))
    (HHl : Hid (∀ V, Calls Try.prog 77 #[.agg #[.int .i64 (n : Int), .int .i64 (t : Int), .int .i64 (k : Int), .int .i64 0, .slice none 0 0, .int .i64 0, .slice none 0 0]] V fun e w' => e = .returned (.int .i64 (z : Int)) ∧ Below V.heap.size V w'))
    (HRk : Hid (∀ V, Below w.heap.size w V → Calls Try.prog 35 #[.agg #[.int .i64 lh, .slice A2 n2 c2], .int .i64 lh] V (RkP V ones er)))
    (HCk : Hid (∀ V, Below w.heap.size w V → Calls Try.prog 48 #[.agg #[.int .i64 ll, .slice A1 n1 c1]] V fun e w' => e = .returned (.int .i64 ec) ∧ Below V.heap.size V w')) (tw : kw = (k : Int)) (tl : ll = (q : Int)) (th : (lh != (z : Int)) = true) :
    Calls Try.prog 81 #[.agg #[.int .i64 (n : Int), .int .i64 (t : Int), .int .i64 kw, .int .i64 ll, .slice A1 n1 c1, .int .i64 lh, .slice A2 n2 c2]] w fun e w' => e = .returned (.bool false) ∧ Below w.heap.size w w' := by
  subst tw
  subst tl
  go_enter Try.func81, Try.ntmps81
  go_wp2_with fail
  obtain ⟨V0, hV0⟩ : ∃ V0, V0 = w.alloc (.cells #[.int .i64 (n : Int), .int .i64 (t : Int), .int .i64 (k : Int), .int .i64 (q : Int), .slice A1 n1 c1, .int .i64 lh, .slice A2 n2 c2] 70) := ⟨_, rfl⟩
  have H0 : Hid (Below w.heap.size w V0 ∧ V0.heap[w.heap.size]? = some (.cells #[.int .i64 (n : Int), .int .i64 (t : Int), .int .i64 (k : Int), .int .i64 (q : Int), .slice A1 n1 c1, .int .i64 lh, .slice A2 n2 c2] 70 (0, 0)) ∧ w.heap.size < V0.heap.size) := by rw [hV0]; exact ⟨one_below _ _, World.alloc_heap_new _ _, by rw [World.size_alloc]; omega⟩
  rw [← hV0]
  clear hV0
  refine (HS.out V0).mono ?_
  rintro e w1 ⟨rfl, B1⟩
  obtain ⟨X, hX⟩ : ∃ X, X = w1.heap.size := ⟨_, rfl⟩
  obtain ⟨w2, hw2⟩ : ∃ w2, w2 = w1.alloc (.cells #[.int .i64 (n : Int), .int .i64 (t : Int), .int .i64 (k : Int), .int .i64 0, .slice none 0 0, .int .i64 0, .slice none 0 0] 70) := ⟨_, rfl⟩
  have H2 : Hid (Below w.heap.size w w2 ∧ w2.heap[w.heap.size]? = some (.cells #[.int .i64 (n : Int), .int .i64 (t : Int), .int .i64 (k : Int), .int .i64 (q : Int), .slice A1 n1 c1, .int .i64 lh, .slice A2 n2 c2] 70 (0, 0)) ∧ w2.heap[X]? = some (.cells #[.int .i64 (n : Int), .int .i64 (t : Int), .int .i64 (k : Int), .int .i64 0, .slice none 0 0, .int .i64 0, .slice none 0 0] 70 (0, 0)) ∧ w.heap.size < X ∧ X < w2.heap.size) := by
    have h0 := H0.out
    have hs2 := B1.size
    rw [hw2, hX]
    refine ⟨h0.1.trans ((B1.trans ((one_below _ _).mono B1.size)).mono h0.1.size), ?_, World.alloc_heap_new _ _, by omega, by rw [World.size_alloc]; omega⟩
    rw [(one_below _ _).block _ (by omega)]; exact (B1.block _ h0.2.2).trans h0.2.1
  have HK : Hid (∀ w' : World, Below w2.heap.size w2 w' → w'.cell? ⟨w.heap.size, 0, none⟩ = some (.int .i64 (n : Int)) ∧ w'.cell? ⟨w.heap.size, 2, none⟩ = some (.int .i64 (k : Int)) ∧ w'.cell? ⟨w.heap.size, 3, none⟩ = some (.int .i64 (q : Int)) ∧ w'.cell? ⟨w.heap.size, 4, none⟩ = some (.slice A1 n1 c1) ∧ w'.cell? ⟨w.heap.size, 5, none⟩ = some (.int .i64 lh) ∧ w'.cell? ⟨w.heap.size, 6, none⟩ = some (.slice A2 n2 c2) ∧ w'.cell? ⟨X, 0, none⟩ = some (.int .i64 (n : Int)) ∧ w'.cell? ⟨X, 1, none⟩ = some (.int .i64 (t : Int)) ∧ w'.cell? ⟨X, 2, none⟩ = some (.int .i64 (k : Int)) ∧ w'.cell? ⟨X, 3, none⟩ = some (.int .i64 0) ∧ w'.cell? ⟨X, 4, none⟩ = some (.slice none 0 0) ∧ w'.cell? ⟨X, 5, none⟩ = some (.int .i64 0) ∧ w'.cell? ⟨X, 6, none⟩ = some (.slice none 0 0)) := fun w' h => by
    obtain ⟨⟨g0, g1, g2, g3, g4, g5, g6⟩, -⟩ := cells7 ((h.block _ (by have := H2.out; omega)).trans H2.out.2.1)
    obtain ⟨⟨d0, d1, d2, d3, d4, d5, d6⟩, -⟩ := cells7 ((h.block _ H2.out.2.2.2.2).trans H2.out.2.2.1)
    exact ⟨g0, g2, g3, g4, g5, g6, d0, d1, d2, d3, d4, d5, d6⟩
  clear B1 H0
  obtain ⟨k1, k2, k3, k4, k5, k6, k7, k8, k9, k10, k11, k12, k13⟩ := HK.out _ (Below.refl _ _)
  go_wp2_with fail
  rw [← hw2, ← hX]
  clear hw2 hX k1 k2 k3 k4 k5 k6 k7 k8 k9 k10 k11 k12 k13
  refine wp_region_held_drew (S := fun w' => w'.cell? ⟨w.heap.size, 0, none⟩ = some (.int .i64 (n : Int)) ∧ w'.cell? ⟨w.heap.size, 2, none⟩ = some (.int .i64 (k : Int)) ∧ w'.cell? ⟨w.heap.size, 3, none⟩ = some (.int .i64 (q : Int)) ∧ w'.cell? ⟨w.heap.size, 4, none⟩ = some (.slice A1 n1 c1) ∧ w'.cell? ⟨w.heap.size, 5, none⟩ = some (.int .i64 lh) ∧ w'.cell? ⟨w.heap.size, 6, none⟩ = some (.slice A2 n2 c2) ∧ w'.cell? ⟨X, 0, none⟩ = some (.int .i64 (n : Int)) ∧ w'.cell? ⟨X, 1, none⟩ = some (.int .i64 (t : Int)) ∧ w'.cell? ⟨X, 2, none⟩ = some (.int .i64 (k : Int)) ∧ w'.cell? ⟨X, 3, none⟩ = some (.int .i64 0) ∧ w'.cell? ⟨X, 4, none⟩ = some (.slice none 0 0) ∧ w'.cell? ⟨X, 5, none⟩ = some (.int .i64 0) ∧ w'.cell? ⟨X, 6, none⟩ = some (.slice none 0 0)) (by kernel_rfl) (HK.out _ (Below.refl _ _).drew) (fun hHeld => ?_)
  (refine held_val (i := 0) rfl (by kernel_rfl) (by kernel_rfl) (by kernel_rfl) (fun _ _ _ _ h => h) hHeld (by rfl) ?_; apply Exists.intro; refine ⟨fun wq hSw => ?_, ?_⟩; ((try dsimp only at hSw); obtain ⟨k1, k2, k3, k4, k5, k6, k7, k8, k9, k10, k11, k12, k13⟩ := hSw; go_simp; try rfl); try simp only [Act.put, List.setIfInBounds_toArray, List.set_cons_zero, List.set_cons_succ])
  (refine held_val (i := 1) rfl (by kernel_rfl) (by kernel_rfl) (by kernel_rfl) (fun _ _ _ _ h => h) hHeld (by rfl) ?_; apply Exists.intro; refine ⟨fun wq hSw => ?_, ?_⟩; ((try dsimp only at hSw); obtain ⟨k1, k2, k3, k4, k5, k6, k7, k8, k9, k10, k11, k12, k13⟩ := hSw; go_simp; try rfl); try simp only [Act.put, List.setIfInBounds_toArray, List.set_cons_zero, List.set_cons_succ])
  (refine held_val (i := 2) rfl (by kernel_rfl) (by kernel_rfl) (by kernel_rfl) (fun _ _ _ _ h => h) hHeld (by rfl) ?_; apply Exists.intro; refine ⟨fun wq hSw => ?_, ?_⟩; ((try dsimp only at hSw); obtain ⟨k1, k2, k3, k4, k5, k6, k7, k8, k9, k10, k11, k12, k13⟩ := hSw; go_simp; try rfl); try simp only [Act.put, List.setIfInBounds_toArray, List.set_cons_zero, List.set_cons_succ])
  (refine held_val (i := 3) rfl (by kernel_rfl) (by kernel_rfl) (by kernel_rfl) (fun _ _ _ _ h => h) hHeld (by rfl) ?_; apply Exists.intro; refine ⟨fun wq hSw => ?_, ?_⟩; ((try dsimp only at hSw); obtain ⟨k1, k2, k3, k4, k5, k6, k7, k8, k9, k10, k11, k12, k13⟩ := hSw; go_simp; try rfl); try simp only [Act.put, List.setIfInBounds_toArray, List.set_cons_zero, List.set_cons_succ])
  (refine held_val (i := 4) rfl (by kernel_rfl) (by kernel_rfl) (by kernel_rfl) (fun _ _ _ _ h => h) hHeld (by rfl) ?_; apply Exists.intro; refine ⟨fun wq hSw => ?_, ?_⟩; ((try dsimp only at hSw); obtain ⟨k1, k2, k3, k4, k5, k6, k7, k8, k9, k10, k11, k12, k13⟩ := hSw; go_simp; try rfl); try simp only [Act.put, List.setIfInBounds_toArray, List.set_cons_zero, List.set_cons_succ])
  (refine held_val (i := 5) rfl (by kernel_rfl) (by kernel_rfl) (by kernel_rfl) (fun _ _ _ _ h => h) hHeld (by rfl) ?_; apply Exists.intro; refine ⟨fun wq hSw => ?_, ?_⟩; ((try dsimp only at hSw); obtain ⟨k1, k2, k3, k4, k5, k6, k7, k8, k9, k10, k11, k12, k13⟩ := hSw; go_simp; try rfl); try simp only [Act.put, List.setIfInBounds_toArray, List.set_cons_zero, List.set_cons_succ])
  (refine held_val (i := 6) rfl (by kernel_rfl) (by kernel_rfl) (by kernel_rfl) (fun _ _ _ _ h => h) hHeld (by rfl) ?_; apply Exists.intro; refine ⟨fun wq hSw => ?_, ?_⟩; ((try dsimp only at hSw); obtain ⟨k1, k2, k3, k4, k5, k6, k7, k8, k9, k10, k11, k12, k13⟩ := hSw; go_simp; try rfl); try simp only [Act.put, List.setIfInBounds_toArray, List.set_cons_zero, List.set_cons_succ])
  (refine held_val (i := 7) rfl (by kernel_rfl) (by kernel_rfl) (by kernel_rfl) (fun _ _ _ _ h => h) hHeld (by rfl) ?_; apply Exists.intro; refine ⟨fun wq hSw => ?_, ?_⟩; ((try dsimp only at hSw); obtain ⟨k1, k2, k3, k4, k5, k6, k7, k8, k9, k10, k11, k12, k13⟩ := hSw; go_simp; try rfl); try simp only [Act.put, List.setIfInBounds_toArray, List.set_cons_zero, List.set_cons_succ])
  (refine held_val (i := 8) rfl (by kernel_rfl) (by kernel_rfl) (by kernel_rfl) (fun _ _ _ _ h => h) hHeld (by rfl) ?_; apply Exists.intro; refine ⟨fun wq hSw => ?_, ?_⟩; ((try dsimp only at hSw); obtain ⟨k1, k2, k3, k4, k5, k6, k7, k8, k9, k10, k11, k12, k13⟩ := hSw; go_simp; try rfl); try simp only [Act.put, List.setIfInBounds_toArray, List.set_cons_zero, List.set_cons_succ])
  (refine held_val (i := 9) rfl (by kernel_rfl) (by kernel_rfl) (by kernel_rfl) (fun _ _ _ _ h => h) hHeld (by rfl) ?_; apply Exists.intro; refine ⟨fun wq hSw => ?_, ?_⟩; ((try dsimp only at hSw); obtain ⟨k1, k2, k3, k4, k5, k6, k7, k8, k9, k10, k11, k12, k13⟩ := hSw; go_simp; try rfl); try simp only [Act.put, List.setIfInBounds_toArray, List.set_cons_zero, List.set_cons_succ])
  refine wpAnyH_ready (rs := [10]) (by kernel_rfl) (by simp) ?_
  refine AllReadyH.cons (of_drop rfl) (fun K hK => ?_) AllReadyH.nil
  clear hHeld
  go_simp
  (go_at_call 76; refine (HLl.out w2.drew).mono ?_; rintro e w3 ⟨rfl, B3⟩; have hk3 : Hid (Below w2.heap.size w2 w3) := ((Below.refl _ w2).drew).trans B3; clear B3)
  go_wp2_with fail
  refine hK.out _ _ (HK.out _ hk3.out) (fun hHeld => ?_)
  clear hK K
  try simp only [Act.put, List.setIfInBounds_toArray, List.set_cons_zero, List.set_cons_succ]
  (refine held_val (i := 11) rfl (by kernel_rfl) (by kernel_rfl) (by kernel_rfl) (fun _ _ _ _ h => h) hHeld (by rfl) ?_; apply Exists.intro; refine ⟨fun wq hSw => ?_, ?_⟩; ((try dsimp only at hSw); obtain ⟨k1, k2, k3, k4, k5, k6, k7, k8, k9, k10, k11, k12, k13⟩ := hSw; go_simp; try rfl); try simp only [Act.put, List.setIfInBounds_toArray, List.set_cons_zero, List.set_cons_succ])
  (refine held_val (i := 12) rfl (by kernel_rfl) (by kernel_rfl) (by kernel_rfl) (fun _ _ _ _ h => h) hHeld (by rfl) ?_; apply Exists.intro; refine ⟨fun wq hSw => ?_, ?_⟩; ((try dsimp only at hSw); obtain ⟨k1, k2, k3, k4, k5, k6, k7, k8, k9, k10, k11, k12, k13⟩ := hSw; go_simp; try rfl); try simp only [Act.put, List.setIfInBounds_toArray, List.set_cons_zero, List.set_cons_succ])
  (refine held_val (i := 13) rfl (by kernel_rfl) (by kernel_rfl) (by kernel_rfl) (fun _ _ _ _ h => h) hHeld (by rfl) ?_; apply Exists.intro; refine ⟨fun wq hSw => ?_, ?_⟩; ((try dsimp only at hSw); obtain ⟨k1, k2, k3, k4, k5, k6, k7, k8, k9, k10, k11, k12, k13⟩ := hSw; go_simp; try rfl); try simp only [Act.put, List.setIfInBounds_toArray, List.set_cons_zero, List.set_cons_succ])
  (refine held_val (i := 14) rfl (by kernel_rfl) (by kernel_rfl) (by kernel_rfl) (fun _ _ _ _ h => h) hHeld (by rfl) ?_; apply Exists.intro; refine ⟨fun wq hSw => ?_, ?_⟩; ((try dsimp only at hSw); obtain ⟨k1, k2, k3, k4, k5, k6, k7, k8, k9, k10, k11, k12, k13⟩ := hSw; go_simp; try rfl); try simp only [Act.put, List.setIfInBounds_toArray, List.set_cons_zero, List.set_cons_succ])
  (refine held_val (i := 15) rfl (by kernel_rfl) (by kernel_rfl) (by kernel_rfl) (fun _ _ _ _ h => h) hHeld (by rfl) ?_; apply Exists.intro; refine ⟨fun wq hSw => ?_, ?_⟩; ((try dsimp only at hSw); obtain ⟨k1, k2, k3, k4, k5, k6, k7, k8, k9, k10, k11, k12, k13⟩ := hSw; go_simp; try rfl); try simp only [Act.put, List.setIfInBounds_toArray, List.set_cons_zero, List.set_cons_succ])
  (refine held_val (i := 16) rfl (by kernel_rfl) (by kernel_rfl) (by kernel_rfl) (fun _ _ _ _ h => h) hHeld (by rfl) ?_; apply Exists.intro; refine ⟨fun wq hSw => ?_, ?_⟩; ((try dsimp only at hSw); obtain ⟨k1, k2, k3, k4, k5, k6, k7, k8, k9, k10, k11, k12, k13⟩ := hSw; go_simp; try rfl); try simp only [Act.put, List.setIfInBounds_toArray, List.set_cons_zero, List.set_cons_succ])
  (refine held_val (i := 17) rfl (by kernel_rfl) (by kernel_rfl) (by kernel_rfl) (fun _ _ _ _ h => h) hHeld (by rfl) ?_; apply Exists.intro; refine ⟨fun wq hSw => ?_, ?_⟩; ((try dsimp only at hSw); obtain ⟨k1, k2, k3, k4, k5, k6, k7, k8, k9, k10, k11, k12, k13⟩ := hSw; go_simp; try rfl); try simp only [Act.put, List.setIfInBounds_toArray, List.set_cons_zero, List.set_cons_succ])
  refine wpAnyH_ready (rs := [18]) (by kernel_rfl) (by simp) ?_
  refine AllReadyH.cons (of_drop rfl) (fun K hK => ?_) AllReadyH.nil
  clear hHeld
  go_simp
  (go_at_call 77; refine (HHl.out w3).mono ?_; rintro e w4 ⟨rfl, B4⟩; have hk4 : Hid (Below w2.heap.size w2 w4) := hk3.out.trans (B4.mono hk3.out.size); clear B4)
  go_wp2_with fail
  refine hK.out _ _ (HK.out _ hk4.out) (fun hHeld => ?_)
  clear hK K
  try simp only [Act.put, List.setIfInBounds_toArray, List.set_cons_zero, List.set_cons_succ]
  (refine held_val (i := 19) rfl (by kernel_rfl) (by kernel_rfl) (by kernel_rfl) (fun _ _ _ _ h => h) hHeld (by rfl) ?_; apply Exists.intro; refine ⟨fun wq hSw => ?_, ?_⟩; ((try dsimp only at hSw); obtain ⟨k1, k2, k3, k4, k5, k6, k7, k8, k9, k10, k11, k12, k13⟩ := hSw; go_simp; try rfl); try simp only [Act.put, List.setIfInBounds_toArray, List.set_cons_zero, List.set_cons_succ])
  (refine held_val (i := 20) rfl (by kernel_rfl) (by kernel_rfl) (by kernel_rfl) (fun _ _ _ _ h => h) hHeld (by rfl) ?_; apply Exists.intro; refine ⟨fun wq hSw => ?_, ?_⟩; ((try dsimp only at hSw); obtain ⟨k1, k2, k3, k4, k5, k6, k7, k8, k9, k10, k11, k12, k13⟩ := hSw; go_simp; try rfl); try simp only [Act.put, List.setIfInBounds_toArray, List.set_cons_zero, List.set_cons_succ])
  refine wpAnyH_done (by kernel_rfl) ?_ _
  go_wp2
  go_ret
  exact ⟨rfl, H2.out.1.trans ((hk4.out).mono H2.out.1.size)⟩
set_option maxHeartbeats 2000000 in
theorem has_D (n t k q z ones : Nat) (kw ll lh er ec : Int) (r : Bool) (A1 A2 : Option Addr) (n1 c1 n2 c2 : Nat) (w : World)
    (HS : Hid (∀ V, Calls Try.prog 75 #[.int .i64 (n : Int), .int .i64 (t : Int)] V fun e w' => e = .returned (.agg #[.int .i64 (n : Int), .int .i64 (t : Int), .int .i64 (k : Int), .int .i64 0, .slice none 0 0, .int .i64 0, .slice none 0 0]) ∧ Below V.heap.size V w'))
    (HLl : Hid (∀ V, Calls Try.prog 76 #[.agg #[.int .i64 (n : Int), .int .i64 (t : Int), .int .i64 (k : Int), .int .i64 0, .slice none 0 0, .int .i64 0, .slice none 0 0]] V fun e w' => e = .returned (.int .i64 (q : Int)) ∧ Below V.heap.size V w'))
    (HHl : Hid (∀ V, Calls Try.prog 77 #[.agg #[.int .i64 (n : Int), .int .i64 (t : Int), .int .i64 (k : Int), .int .i64 0, .slice none 0 0, .int .i64 0, .slice none 0 0]] V fun e w' => e = .returned (.int .i64 (z : Int)) ∧ Below V.heap.size V w'))
    (HRk : Hid (∀ V, Below w.heap.size w V → Calls Try.prog 35 #[.agg #[.int .i64 lh, .slice A2 n2 c2], .int .i64 lh] V (RkP V ones er)))
    (HCk : Hid (∀ V, Below w.heap.size w V → Calls Try.prog 48 #[.agg #[.int .i64 ll, .slice A1 n1 c1]] V fun e w' => e = .returned (.int .i64 ec) ∧ Below V.heap.size V w')) (tw : kw = (k : Int)) (tl : ll = (q : Int)) (th : lh = (z : Int)) (te : (er == 0) = false) :
    Calls Try.prog 81 #[.agg #[.int .i64 (n : Int), .int .i64 (t : Int), .int .i64 kw, .int .i64 ll, .slice A1 n1 c1, .int .i64 lh, .slice A2 n2 c2]] w fun e w' => e = .returned (.bool false) ∧ Below w.heap.size w w' := by
  subst tw
  subst tl
  subst th
  go_enter Try.func81, Try.ntmps81
  go_wp2_with fail
  obtain ⟨V0, hV0⟩ : ∃ V0, V0 = w.alloc (.cells #[.int .i64 (n : Int), .int .i64 (t : Int), .int .i64 (k : Int), .int .i64 (q : Int), .slice A1 n1 c1, .int .i64 (z : Int), .slice A2 n2 c2] 70) := ⟨_, rfl⟩
  have H0 : Hid (Below w.heap.size w V0 ∧ V0.heap[w.heap.size]? = some (.cells #[.int .i64 (n : Int), .int .i64 (t : Int), .int .i64 (k : Int), .int .i64 (q : Int), .slice A1 n1 c1, .int .i64 (z : Int), .slice A2 n2 c2] 70 (0, 0)) ∧ w.heap.size < V0.heap.size) := by rw [hV0]; exact ⟨one_below _ _, World.alloc_heap_new _ _, by rw [World.size_alloc]; omega⟩
  rw [← hV0]
  clear hV0
  refine (HS.out V0).mono ?_
  rintro e w1 ⟨rfl, B1⟩
  obtain ⟨X, hX⟩ : ∃ X, X = w1.heap.size := ⟨_, rfl⟩
  obtain ⟨w2, hw2⟩ : ∃ w2, w2 = w1.alloc (.cells #[.int .i64 (n : Int), .int .i64 (t : Int), .int .i64 (k : Int), .int .i64 0, .slice none 0 0, .int .i64 0, .slice none 0 0] 70) := ⟨_, rfl⟩
  have H2 : Hid (Below w.heap.size w w2 ∧ w2.heap[w.heap.size]? = some (.cells #[.int .i64 (n : Int), .int .i64 (t : Int), .int .i64 (k : Int), .int .i64 (q : Int), .slice A1 n1 c1, .int .i64 (z : Int), .slice A2 n2 c2] 70 (0, 0)) ∧ w2.heap[X]? = some (.cells #[.int .i64 (n : Int), .int .i64 (t : Int), .int .i64 (k : Int), .int .i64 0, .slice none 0 0, .int .i64 0, .slice none 0 0] 70 (0, 0)) ∧ w.heap.size < X ∧ X < w2.heap.size) := by
    have h0 := H0.out
    have hs2 := B1.size
    rw [hw2, hX]
    refine ⟨h0.1.trans ((B1.trans ((one_below _ _).mono B1.size)).mono h0.1.size), ?_, World.alloc_heap_new _ _, by omega, by rw [World.size_alloc]; omega⟩
    rw [(one_below _ _).block _ (by omega)]; exact (B1.block _ h0.2.2).trans h0.2.1
  have HK : Hid (∀ w' : World, Below w2.heap.size w2 w' → w'.cell? ⟨w.heap.size, 0, none⟩ = some (.int .i64 (n : Int)) ∧ w'.cell? ⟨w.heap.size, 2, none⟩ = some (.int .i64 (k : Int)) ∧ w'.cell? ⟨w.heap.size, 3, none⟩ = some (.int .i64 (q : Int)) ∧ w'.cell? ⟨w.heap.size, 4, none⟩ = some (.slice A1 n1 c1) ∧ w'.cell? ⟨w.heap.size, 5, none⟩ = some (.int .i64 (z : Int)) ∧ w'.cell? ⟨w.heap.size, 6, none⟩ = some (.slice A2 n2 c2) ∧ w'.cell? ⟨X, 0, none⟩ = some (.int .i64 (n : Int)) ∧ w'.cell? ⟨X, 1, none⟩ = some (.int .i64 (t : Int)) ∧ w'.cell? ⟨X, 2, none⟩ = some (.int .i64 (k : Int)) ∧ w'.cell? ⟨X, 3, none⟩ = some (.int .i64 0) ∧ w'.cell? ⟨X, 4, none⟩ = some (.slice none 0 0) ∧ w'.cell? ⟨X, 5, none⟩ = some (.int .i64 0) ∧ w'.cell? ⟨X, 6, none⟩ = some (.slice none 0 0)) := fun w' h => by
    obtain ⟨⟨g0, g1, g2, g3, g4, g5, g6⟩, -⟩ := cells7 ((h.block _ (by have := H2.out; omega)).trans H2.out.2.1)
    obtain ⟨⟨d0, d1, d2, d3, d4, d5, d6⟩, -⟩ := cells7 ((h.block _ H2.out.2.2.2.2).trans H2.out.2.2.1)
    exact ⟨g0, g2, g3, g4, g5, g6, d0, d1, d2, d3, d4, d5, d6⟩
  clear B1 H0
  obtain ⟨k1, k2, k3, k4, k5, k6, k7, k8, k9, k10, k11, k12, k13⟩ := HK.out _ (Below.refl _ _)
  go_wp2_with fail
  rw [← hw2, ← hX]
  clear hw2 hX k1 k2 k3 k4 k5 k6 k7 k8 k9 k10 k11 k12 k13
  refine wp_region_held_drew (S := fun w' => w'.cell? ⟨w.heap.size, 0, none⟩ = some (.int .i64 (n : Int)) ∧ w'.cell? ⟨w.heap.size, 2, none⟩ = some (.int .i64 (k : Int)) ∧ w'.cell? ⟨w.heap.size, 3, none⟩ = some (.int .i64 (q : Int)) ∧ w'.cell? ⟨w.heap.size, 4, none⟩ = some (.slice A1 n1 c1) ∧ w'.cell? ⟨w.heap.size, 5, none⟩ = some (.int .i64 (z : Int)) ∧ w'.cell? ⟨w.heap.size, 6, none⟩ = some (.slice A2 n2 c2) ∧ w'.cell? ⟨X, 0, none⟩ = some (.int .i64 (n : Int)) ∧ w'.cell? ⟨X, 1, none⟩ = some (.int .i64 (t : Int)) ∧ w'.cell? ⟨X, 2, none⟩ = some (.int .i64 (k : Int)) ∧ w'.cell? ⟨X, 3, none⟩ = some (.int .i64 0) ∧ w'.cell? ⟨X, 4, none⟩ = some (.slice none 0 0) ∧ w'.cell? ⟨X, 5, none⟩ = some (.int .i64 0) ∧ w'.cell? ⟨X, 6, none⟩ = some (.slice none 0 0)) (by kernel_rfl) (HK.out _ (Below.refl _ _).drew) (fun hHeld => ?_)
  (refine held_val (i := 0) rfl (by kernel_rfl) (by kernel_rfl) (by kernel_rfl) (fun _ _ _ _ h => h) hHeld (by rfl) ?_; apply Exists.intro; refine ⟨fun wq hSw => ?_, ?_⟩; ((try dsimp only at hSw); obtain ⟨k1, k2, k3, k4, k5, k6, k7, k8, k9, k10, k11, k12, k13⟩ := hSw; go_simp; try rfl); try simp only [Act.put, List.setIfInBounds_toArray, List.set_cons_zero, List.set_cons_succ])
  (refine held_val (i := 1) rfl (by kernel_rfl) (by kernel_rfl) (by kernel_rfl) (fun _ _ _ _ h => h) hHeld (by rfl) ?_; apply Exists.intro; refine ⟨fun wq hSw => ?_, ?_⟩; ((try dsimp only at hSw); obtain ⟨k1, k2, k3, k4, k5, k6, k7, k8, k9, k10, k11, k12, k13⟩ := hSw; go_simp; try rfl); try simp only [Act.put, List.setIfInBounds_toArray, List.set_cons_zero, List.set_cons_succ])
  (refine held_val (i := 2) rfl (by kernel_rfl) (by kernel_rfl) (by kernel_rfl) (fun _ _ _ _ h => h) hHeld (by rfl) ?_; apply Exists.intro; refine ⟨fun wq hSw => ?_, ?_⟩; ((try dsimp only at hSw); obtain ⟨k1, k2, k3, k4, k5, k6, k7, k8, k9, k10, k11, k12, k13⟩ := hSw; go_simp; try rfl); try simp only [Act.put, List.setIfInBounds_toArray, List.set_cons_zero, List.set_cons_succ])
  (refine held_val (i := 3) rfl (by kernel_rfl) (by kernel_rfl) (by kernel_rfl) (fun _ _ _ _ h => h) hHeld (by rfl) ?_; apply Exists.intro; refine ⟨fun wq hSw => ?_, ?_⟩; ((try dsimp only at hSw); obtain ⟨k1, k2, k3, k4, k5, k6, k7, k8, k9, k10, k11, k12, k13⟩ := hSw; go_simp; try rfl); try simp only [Act.put, List.setIfInBounds_toArray, List.set_cons_zero, List.set_cons_succ])
  (refine held_val (i := 4) rfl (by kernel_rfl) (by kernel_rfl) (by kernel_rfl) (fun _ _ _ _ h => h) hHeld (by rfl) ?_; apply Exists.intro; refine ⟨fun wq hSw => ?_, ?_⟩; ((try dsimp only at hSw); obtain ⟨k1, k2, k3, k4, k5, k6, k7, k8, k9, k10, k11, k12, k13⟩ := hSw; go_simp; try rfl); try simp only [Act.put, List.setIfInBounds_toArray, List.set_cons_zero, List.set_cons_succ])
  (refine held_val (i := 5) rfl (by kernel_rfl) (by kernel_rfl) (by kernel_rfl) (fun _ _ _ _ h => h) hHeld (by rfl) ?_; apply Exists.intro; refine ⟨fun wq hSw => ?_, ?_⟩; ((try dsimp only at hSw); obtain ⟨k1, k2, k3, k4, k5, k6, k7, k8, k9, k10, k11, k12, k13⟩ := hSw; go_simp; try rfl); try simp only [Act.put, List.setIfInBounds_toArray, List.set_cons_zero, List.set_cons_succ])
  (refine held_val (i := 6) rfl (by kernel_rfl) (by kernel_rfl) (by kernel_rfl) (fun _ _ _ _ h => h) hHeld (by rfl) ?_; apply Exists.intro; refine ⟨fun wq hSw => ?_, ?_⟩; ((try dsimp only at hSw); obtain ⟨k1, k2, k3, k4, k5, k6, k7, k8, k9, k10, k11, k12, k13⟩ := hSw; go_simp; try rfl); try simp only [Act.put, List.setIfInBounds_toArray, List.set_cons_zero, List.set_cons_succ])
  (refine held_val (i := 7) rfl (by kernel_rfl) (by kernel_rfl) (by kernel_rfl) (fun _ _ _ _ h => h) hHeld (by rfl) ?_; apply Exists.intro; refine ⟨fun wq hSw => ?_, ?_⟩; ((try dsimp only at hSw); obtain ⟨k1, k2, k3, k4, k5, k6, k7, k8, k9, k10, k11, k12, k13⟩ := hSw; go_simp; try rfl); try simp only [Act.put, List.setIfInBounds_toArray, List.set_cons_zero, List.set_cons_succ])
  (refine held_val (i := 8) rfl (by kernel_rfl) (by kernel_rfl) (by kernel_rfl) (fun _ _ _ _ h => h) hHeld (by rfl) ?_; apply Exists.intro; refine ⟨fun wq hSw => ?_, ?_⟩; ((try dsimp only at hSw); obtain ⟨k1, k2, k3, k4, k5, k6, k7, k8, k9, k10, k11, k12, k13⟩ := hSw; go_simp; try rfl); try simp only [Act.put, List.setIfInBounds_toArray, List.set_cons_zero, List.set_cons_succ])
  (refine held_val (i := 9) rfl (by kernel_rfl) (by kernel_rfl) (by kernel_rfl) (fun _ _ _ _ h => h) hHeld (by rfl) ?_; apply Exists.intro; refine ⟨fun wq hSw => ?_, ?_⟩; ((try dsimp only at hSw); obtain ⟨k1, k2, k3, k4, k5, k6, k7, k8, k9, k10, k11, k12, k13⟩ := hSw; go_simp; try rfl); try simp only [Act.put, List.setIfInBounds_toArray, List.set_cons_zero, List.set_cons_succ])
  refine wpAnyH_ready (rs := [10]) (by kernel_rfl) (by simp) ?_
  refine AllReadyH.cons (of_drop rfl) (fun K hK => ?_) AllReadyH.nil
  clear hHeld
  go_simp
  (go_at_call 76; refine (HLl.out w2.drew).mono ?_; rintro e w3 ⟨rfl, B3⟩; have hk3 : Hid (Below w2.heap.size w2 w3) := ((Below.refl _ w2).drew).trans B3; clear B3)
  go_wp2_with fail
  refine hK.out _ _ (HK.out _ hk3.out) (fun hHeld => ?_)
  clear hK K
  try simp only [Act.put, List.setIfInBounds_toArray, List.set_cons_zero, List.set_cons_succ]
  (refine held_val (i := 11) rfl (by kernel_rfl) (by kernel_rfl) (by kernel_rfl) (fun _ _ _ _ h => h) hHeld (by rfl) ?_; apply Exists.intro; refine ⟨fun wq hSw => ?_, ?_⟩; ((try dsimp only at hSw); obtain ⟨k1, k2, k3, k4, k5, k6, k7, k8, k9, k10, k11, k12, k13⟩ := hSw; go_simp; try rfl); try simp only [Act.put, List.setIfInBounds_toArray, List.set_cons_zero, List.set_cons_succ])
  (refine held_val (i := 12) rfl (by kernel_rfl) (by kernel_rfl) (by kernel_rfl) (fun _ _ _ _ h => h) hHeld (by rfl) ?_; apply Exists.intro; refine ⟨fun wq hSw => ?_, ?_⟩; ((try dsimp only at hSw); obtain ⟨k1, k2, k3, k4, k5, k6, k7, k8, k9, k10, k11, k12, k13⟩ := hSw; go_simp; try rfl); try simp only [Act.put, List.setIfInBounds_toArray, List.set_cons_zero, List.set_cons_succ])
  (refine held_val (i := 13) rfl (by kernel_rfl) (by kernel_rfl) (by kernel_rfl) (fun _ _ _ _ h => h) hHeld (by rfl) ?_; apply Exists.intro; refine ⟨fun wq hSw => ?_, ?_⟩; ((try dsimp only at hSw); obtain ⟨k1, k2, k3, k4, k5, k6, k7, k8, k9, k10, k11, k12, k13⟩ := hSw; go_simp; try rfl); try simp only [Act.put, List.setIfInBounds_toArray, List.set_cons_zero, List.set_cons_succ])
  (refine held_val (i := 14) rfl (by kernel_rfl) (by kernel_rfl) (by kernel_rfl) (fun _ _ _ _ h => h) hHeld (by rfl) ?_; apply Exists.intro; refine ⟨fun wq hSw => ?_, ?_⟩; ((try dsimp only at hSw); obtain ⟨k1, k2, k3, k4, k5, k6, k7, k8, k9, k10, k11, k12, k13⟩ := hSw; go_simp; try rfl); try simp only [Act.put, List.setIfInBounds_toArray, List.set_cons_zero, List.set_cons_succ])
  (refine held_val (i := 15) rfl (by kernel_rfl) (by kernel_rfl) (by kernel_rfl) (fun _ _ _ _ h => h) hHeld (by rfl) ?_; apply Exists.intro; refine ⟨fun wq hSw => ?_, ?_⟩; ((try dsimp only at hSw); obtain ⟨k1, k2, k3, k4, k5, k6, k7, k8, k9, k10, k11, k12, k13⟩ := hSw; go_simp; try rfl); try simp only [Act.put, List.setIfInBounds_toArray, List.set_cons_zero, List.set_cons_succ])
  (refine held_val (i := 16) rfl (by kernel_rfl) (by kernel_rfl) (by kernel_rfl) (fun _ _ _ _ h => h) hHeld (by rfl) ?_; apply Exists.intro; refine ⟨fun wq hSw => ?_, ?_⟩; ((try dsimp only at hSw); obtain ⟨k1, k2, k3, k4, k5, k6, k7, k8, k9, k10, k11, k12, k13⟩ := hSw; go_simp; try rfl); try simp only [Act.put, List.setIfInBounds_toArray, List.set_cons_zero, List.set_cons_succ])
  (refine held_val (i := 17) rfl (by kernel_rfl) (by kernel_rfl) (by kernel_rfl) (fun _ _ _ _ h => h) hHeld (by rfl) ?_; apply Exists.intro; refine ⟨fun wq hSw => ?_, ?_⟩; ((try dsimp only at hSw); obtain ⟨k1, k2, k3, k4, k5, k6, k7, k8, k9, k10, k11, k12, k13⟩ := hSw; go_simp; try rfl); try simp only [Act.put, List.setIfInBounds_toArray, List.set_cons_zero, List.set_cons_succ])
  refine wpAnyH_ready (rs := [18]) (by kernel_rfl) (by simp) ?_
  refine AllReadyH.cons (of_drop rfl) (fun K hK => ?_) AllReadyH.nil
  clear hHeld
  go_simp
  (go_at_call 77; refine (HHl.out w3).mono ?_; rintro e w4 ⟨rfl, B4⟩; have hk4 : Hid (Below w2.heap.size w2 w4) := hk3.out.trans (B4.mono hk3.out.size); clear B4)
  go_wp2_with fail
  refine hK.out _ _ (HK.out _ hk4.out) (fun hHeld => ?_)
  clear hK K
  try simp only [Act.put, List.setIfInBounds_toArray, List.set_cons_zero, List.set_cons_succ]
  (refine held_val (i := 19) rfl (by kernel_rfl) (by kernel_rfl) (by kernel_rfl) (fun _ _ _ _ h => h) hHeld (by rfl) ?_; apply Exists.intro; refine ⟨fun wq hSw => ?_, ?_⟩; ((try dsimp only at hSw); obtain ⟨k1, k2, k3, k4, k5, k6, k7, k8, k9, k10, k11, k12, k13⟩ := hSw; go_simp; try rfl); try simp only [Act.put, List.setIfInBounds_toArray, List.set_cons_zero, List.set_cons_succ])
  (refine held_val (i := 20) rfl (by kernel_rfl) (by kernel_rfl) (by kernel_rfl) (fun _ _ _ _ h => h) hHeld (by rfl) ?_; apply Exists.intro; refine ⟨fun wq hSw => ?_, ?_⟩; ((try dsimp only at hSw); obtain ⟨k1, k2, k3, k4, k5, k6, k7, k8, k9, k10, k11, k12, k13⟩ := hSw; go_simp; try rfl); try simp only [Act.put, List.setIfInBounds_toArray, List.set_cons_zero, List.set_cons_succ])
  refine wpAnyH_done (by kernel_rfl) ?_ _
  obtain ⟨k1, k2, k3, k4, k5, k6, -⟩ := HK.out _ hk4.out
  have HB4 : Hid (Below w.heap.size w w4) := H2.out.1.trans (hk4.out.mono H2.out.1.size)
  have HK4 : Hid (∀ w' : World, Below w4.heap.size w4 w' → w'.cell? ⟨w.heap.size, 0, none⟩ = some (.int .i64 (n : Int)) ∧ w'.cell? ⟨w.heap.size, 3, none⟩ = some (.int .i64 (q : Int)) ∧ w'.cell? ⟨w.heap.size, 4, none⟩ = some (.slice A1 n1 c1)) := fun w' h => by
    obtain ⟨g1, g2, g3, g4, -⟩ := HK.out w' (hk4.out.trans (h.mono hk4.out.size))
    exact ⟨g1, g3, g4⟩
  clear HK hk4 hk3 hHeld
  go_wp2_with fail
  refine (HRk.out w4 HB4.out).mono ?_
  rintro e w5 ⟨rfl, B5⟩
  have HB5 : Hid (Below w.heap.size w w5) := HB4.out.trans (B5.mono HB4.out.size)
  clear k1 k2 k3 k4 k5 k6
  obtain ⟨k1, k2, k3⟩ := HK4.out _ B5
  clear B5
  go_wp2
  go_ret
  exact ⟨rfl, HB5.out⟩
set_option maxHeartbeats 2000000 in
theorem has_E (n t k q z ones : Nat) (kw ll lh er ec : Int) (r : Bool) (A1 A2 : Option Addr) (n1 c1 n2 c2 : Nat) (w : World)
    (HS : Hid (∀ V, Calls Try.prog 75 #[.int .i64 (n : Int), .int .i64 (t : Int)] V fun e w' => e = .returned (.agg #[.int .i64 (n : Int), .int .i64 (t : Int), .int .i64 (k : Int), .int .i64 0, .slice none 0 0, .int .i64 0, .slice none 0 0]) ∧ Below V.heap.size V w'))
    (HLl : Hid (∀ V, Calls Try.prog 76 #[.agg #[.int .i64 (n : Int), .int .i64 (t : Int), .int .i64 (k : Int), .int .i64 0, .slice none 0 0, .int .i64 0, .slice none 0 0]] V fun e w' => e = .returned (.int .i64 (q : Int)) ∧ Below V.heap.size V w'))
    (HHl : Hid (∀ V, Calls Try.prog 77 #[.agg #[.int .i64 (n : Int), .int .i64 (t : Int), .int .i64 (k : Int), .int .i64 0, .slice none 0 0, .int .i64 0, .slice none 0 0]] V fun e w' => e = .returned (.int .i64 (z : Int)) ∧ Below V.heap.size V w'))
    (HRk : Hid (∀ V, Below w.heap.size w V → Calls Try.prog 35 #[.agg #[.int .i64 lh, .slice A2 n2 c2], .int .i64 lh] V (RkP V ones er)))
    (HCk : Hid (∀ V, Below w.heap.size w V → Calls Try.prog 48 #[.agg #[.int .i64 ll, .slice A1 n1 c1]] V fun e w' => e = .returned (.int .i64 ec) ∧ Below V.heap.size V w')) (tw : kw = (k : Int)) (tl : ll = (q : Int)) (th : lh = (z : Int)) (te : er = 0) (to : ((ones : Int) == (n : Int)) = false) :
    Calls Try.prog 81 #[.agg #[.int .i64 (n : Int), .int .i64 (t : Int), .int .i64 kw, .int .i64 ll, .slice A1 n1 c1, .int .i64 lh, .slice A2 n2 c2]] w fun e w' => e = .returned (.bool false) ∧ Below w.heap.size w w' := by
  subst tw
  subst tl
  subst th
  subst te
  go_enter Try.func81, Try.ntmps81
  go_wp2_with fail
  obtain ⟨V0, hV0⟩ : ∃ V0, V0 = w.alloc (.cells #[.int .i64 (n : Int), .int .i64 (t : Int), .int .i64 (k : Int), .int .i64 (q : Int), .slice A1 n1 c1, .int .i64 (z : Int), .slice A2 n2 c2] 70) := ⟨_, rfl⟩
  have H0 : Hid (Below w.heap.size w V0 ∧ V0.heap[w.heap.size]? = some (.cells #[.int .i64 (n : Int), .int .i64 (t : Int), .int .i64 (k : Int), .int .i64 (q : Int), .slice A1 n1 c1, .int .i64 (z : Int), .slice A2 n2 c2] 70 (0, 0)) ∧ w.heap.size < V0.heap.size) := by rw [hV0]; exact ⟨one_below _ _, World.alloc_heap_new _ _, by rw [World.size_alloc]; omega⟩
  rw [← hV0]
  clear hV0
  refine (HS.out V0).mono ?_
  rintro e w1 ⟨rfl, B1⟩
  obtain ⟨X, hX⟩ : ∃ X, X = w1.heap.size := ⟨_, rfl⟩
  obtain ⟨w2, hw2⟩ : ∃ w2, w2 = w1.alloc (.cells #[.int .i64 (n : Int), .int .i64 (t : Int), .int .i64 (k : Int), .int .i64 0, .slice none 0 0, .int .i64 0, .slice none 0 0] 70) := ⟨_, rfl⟩
  have H2 : Hid (Below w.heap.size w w2 ∧ w2.heap[w.heap.size]? = some (.cells #[.int .i64 (n : Int), .int .i64 (t : Int), .int .i64 (k : Int), .int .i64 (q : Int), .slice A1 n1 c1, .int .i64 (z : Int), .slice A2 n2 c2] 70 (0, 0)) ∧ w2.heap[X]? = some (.cells #[.int .i64 (n : Int), .int .i64 (t : Int), .int .i64 (k : Int), .int .i64 0, .slice none 0 0, .int .i64 0, .slice none 0 0] 70 (0, 0)) ∧ w.heap.size < X ∧ X < w2.heap.size) := by
    have h0 := H0.out
    have hs2 := B1.size
    rw [hw2, hX]
    refine ⟨h0.1.trans ((B1.trans ((one_below _ _).mono B1.size)).mono h0.1.size), ?_, World.alloc_heap_new _ _, by omega, by rw [World.size_alloc]; omega⟩
    rw [(one_below _ _).block _ (by omega)]; exact (B1.block _ h0.2.2).trans h0.2.1
  have HK : Hid (∀ w' : World, Below w2.heap.size w2 w' → w'.cell? ⟨w.heap.size, 0, none⟩ = some (.int .i64 (n : Int)) ∧ w'.cell? ⟨w.heap.size, 2, none⟩ = some (.int .i64 (k : Int)) ∧ w'.cell? ⟨w.heap.size, 3, none⟩ = some (.int .i64 (q : Int)) ∧ w'.cell? ⟨w.heap.size, 4, none⟩ = some (.slice A1 n1 c1) ∧ w'.cell? ⟨w.heap.size, 5, none⟩ = some (.int .i64 (z : Int)) ∧ w'.cell? ⟨w.heap.size, 6, none⟩ = some (.slice A2 n2 c2) ∧ w'.cell? ⟨X, 0, none⟩ = some (.int .i64 (n : Int)) ∧ w'.cell? ⟨X, 1, none⟩ = some (.int .i64 (t : Int)) ∧ w'.cell? ⟨X, 2, none⟩ = some (.int .i64 (k : Int)) ∧ w'.cell? ⟨X, 3, none⟩ = some (.int .i64 0) ∧ w'.cell? ⟨X, 4, none⟩ = some (.slice none 0 0) ∧ w'.cell? ⟨X, 5, none⟩ = some (.int .i64 0) ∧ w'.cell? ⟨X, 6, none⟩ = some (.slice none 0 0)) := fun w' h => by
    obtain ⟨⟨g0, g1, g2, g3, g4, g5, g6⟩, -⟩ := cells7 ((h.block _ (by have := H2.out; omega)).trans H2.out.2.1)
    obtain ⟨⟨d0, d1, d2, d3, d4, d5, d6⟩, -⟩ := cells7 ((h.block _ H2.out.2.2.2.2).trans H2.out.2.2.1)
    exact ⟨g0, g2, g3, g4, g5, g6, d0, d1, d2, d3, d4, d5, d6⟩
  clear B1 H0
  obtain ⟨k1, k2, k3, k4, k5, k6, k7, k8, k9, k10, k11, k12, k13⟩ := HK.out _ (Below.refl _ _)
  go_wp2_with fail
  rw [← hw2, ← hX]
  clear hw2 hX k1 k2 k3 k4 k5 k6 k7 k8 k9 k10 k11 k12 k13
  refine wp_region_held_drew (S := fun w' => w'.cell? ⟨w.heap.size, 0, none⟩ = some (.int .i64 (n : Int)) ∧ w'.cell? ⟨w.heap.size, 2, none⟩ = some (.int .i64 (k : Int)) ∧ w'.cell? ⟨w.heap.size, 3, none⟩ = some (.int .i64 (q : Int)) ∧ w'.cell? ⟨w.heap.size, 4, none⟩ = some (.slice A1 n1 c1) ∧ w'.cell? ⟨w.heap.size, 5, none⟩ = some (.int .i64 (z : Int)) ∧ w'.cell? ⟨w.heap.size, 6, none⟩ = some (.slice A2 n2 c2) ∧ w'.cell? ⟨X, 0, none⟩ = some (.int .i64 (n : Int)) ∧ w'.cell? ⟨X, 1, none⟩ = some (.int .i64 (t : Int)) ∧ w'.cell? ⟨X, 2, none⟩ = some (.int .i64 (k : Int)) ∧ w'.cell? ⟨X, 3, none⟩ = some (.int .i64 0) ∧ w'.cell? ⟨X, 4, none⟩ = some (.slice none 0 0) ∧ w'.cell? ⟨X, 5, none⟩ = some (.int .i64 0) ∧ w'.cell? ⟨X, 6, none⟩ = some (.slice none 0 0)) (by kernel_rfl) (HK.out _ (Below.refl _ _).drew) (fun hHeld => ?_)
  (refine held_val (i := 0) rfl (by kernel_rfl) (by kernel_rfl) (by kernel_rfl) (fun _ _ _ _ h => h) hHeld (by rfl) ?_; apply Exists.intro; refine ⟨fun wq hSw => ?_, ?_⟩; ((try dsimp only at hSw); obtain ⟨k1, k2, k3, k4, k5, k6, k7, k8, k9, k10, k11, k12, k13⟩ := hSw; go_simp; try rfl); try simp only [Act.put, List.setIfInBounds_toArray, List.set_cons_zero, List.set_cons_succ])
  (refine held_val (i := 1) rfl (by kernel_rfl) (by kernel_rfl) (by kernel_rfl) (fun _ _ _ _ h => h) hHeld (by rfl) ?_; apply Exists.intro; refine ⟨fun wq hSw => ?_, ?_⟩; ((try dsimp only at hSw); obtain ⟨k1, k2, k3, k4, k5, k6, k7, k8, k9, k10, k11, k12, k13⟩ := hSw; go_simp; try rfl); try simp only [Act.put, List.setIfInBounds_toArray, List.set_cons_zero, List.set_cons_succ])
  (refine held_val (i := 2) rfl (by kernel_rfl) (by kernel_rfl) (by kernel_rfl) (fun _ _ _ _ h => h) hHeld (by rfl) ?_; apply Exists.intro; refine ⟨fun wq hSw => ?_, ?_⟩; ((try dsimp only at hSw); obtain ⟨k1, k2, k3, k4, k5, k6, k7, k8, k9, k10, k11, k12, k13⟩ := hSw; go_simp; try rfl); try simp only [Act.put, List.setIfInBounds_toArray, List.set_cons_zero, List.set_cons_succ])
  (refine held_val (i := 3) rfl (by kernel_rfl) (by kernel_rfl) (by kernel_rfl) (fun _ _ _ _ h => h) hHeld (by rfl) ?_; apply Exists.intro; refine ⟨fun wq hSw => ?_, ?_⟩; ((try dsimp only at hSw); obtain ⟨k1, k2, k3, k4, k5, k6, k7, k8, k9, k10, k11, k12, k13⟩ := hSw; go_simp; try rfl); try simp only [Act.put, List.setIfInBounds_toArray, List.set_cons_zero, List.set_cons_succ])
  (refine held_val (i := 4) rfl (by kernel_rfl) (by kernel_rfl) (by kernel_rfl) (fun _ _ _ _ h => h) hHeld (by rfl) ?_; apply Exists.intro; refine ⟨fun wq hSw => ?_, ?_⟩; ((try dsimp only at hSw); obtain ⟨k1, k2, k3, k4, k5, k6, k7, k8, k9, k10, k11, k12, k13⟩ := hSw; go_simp; try rfl); try simp only [Act.put, List.setIfInBounds_toArray, List.set_cons_zero, List.set_cons_succ])
  (refine held_val (i := 5) rfl (by kernel_rfl) (by kernel_rfl) (by kernel_rfl) (fun _ _ _ _ h => h) hHeld (by rfl) ?_; apply Exists.intro; refine ⟨fun wq hSw => ?_, ?_⟩; ((try dsimp only at hSw); obtain ⟨k1, k2, k3, k4, k5, k6, k7, k8, k9, k10, k11, k12, k13⟩ := hSw; go_simp; try rfl); try simp only [Act.put, List.setIfInBounds_toArray, List.set_cons_zero, List.set_cons_succ])
  (refine held_val (i := 6) rfl (by kernel_rfl) (by kernel_rfl) (by kernel_rfl) (fun _ _ _ _ h => h) hHeld (by rfl) ?_; apply Exists.intro; refine ⟨fun wq hSw => ?_, ?_⟩; ((try dsimp only at hSw); obtain ⟨k1, k2, k3, k4, k5, k6, k7, k8, k9, k10, k11, k12, k13⟩ := hSw; go_simp; try rfl); try simp only [Act.put, List.setIfInBounds_toArray, List.set_cons_zero, List.set_cons_succ])
  (refine held_val (i := 7) rfl (by kernel_rfl) (by kernel_rfl) (by kernel_rfl) (fun _ _ _ _ h => h) hHeld (by rfl) ?_; apply Exists.intro; refine ⟨fun wq hSw => ?_, ?_⟩; ((try dsimp only at hSw); obtain ⟨k1, k2, k3, k4, k5, k6, k7, k8, k9, k10, k11, k12, k13⟩ := hSw; go_simp; try rfl); try simp only [Act.put, List.setIfInBounds_toArray, List.set_cons_zero, List.set_cons_succ])
  (refine held_val (i := 8) rfl (by kernel_rfl) (by kernel_rfl) (by kernel_rfl) (fun _ _ _ _ h => h) hHeld (by rfl) ?_; apply Exists.intro; refine ⟨fun wq hSw => ?_, ?_⟩; ((try dsimp only at hSw); obtain ⟨k1, k2, k3, k4, k5, k6, k7, k8, k9, k10, k11, k12, k13⟩ := hSw; go_simp; try rfl); try simp only [Act.put, List.setIfInBounds_toArray, List.set_cons_zero, List.set_cons_succ])
  (refine held_val (i := 9) rfl (by kernel_rfl) (by kernel_rfl) (by kernel_rfl) (fun _ _ _ _ h => h) hHeld (by rfl) ?_; apply Exists.intro; refine ⟨fun wq hSw => ?_, ?_⟩; ((try dsimp only at hSw); obtain ⟨k1, k2, k3, k4, k5, k6, k7, k8, k9, k10, k11, k12, k13⟩ := hSw; go_simp; try rfl); try simp only [Act.put, List.setIfInBounds_toArray, List.set_cons_zero, List.set_cons_succ])
  refine wpAnyH_ready (rs := [10]) (by kernel_rfl) (by simp) ?_
  refine AllReadyH.cons (of_drop rfl) (fun K hK => ?_) AllReadyH.nil
  clear hHeld
  go_simp
  (go_at_call 76; refine (HLl.out w2.drew).mono ?_; rintro e w3 ⟨rfl, B3⟩; have hk3 : Hid (Below w2.heap.size w2 w3) := ((Below.refl _ w2).drew).trans B3; clear B3)
  go_wp2_with fail
  refine hK.out _ _ (HK.out _ hk3.out) (fun hHeld => ?_)
  clear hK K
  try simp only [Act.put, List.setIfInBounds_toArray, List.set_cons_zero, List.set_cons_succ]
  (refine held_val (i := 11) rfl (by kernel_rfl) (by kernel_rfl) (by kernel_rfl) (fun _ _ _ _ h => h) hHeld (by rfl) ?_; apply Exists.intro; refine ⟨fun wq hSw => ?_, ?_⟩; ((try dsimp only at hSw); obtain ⟨k1, k2, k3, k4, k5, k6, k7, k8, k9, k10, k11, k12, k13⟩ := hSw; go_simp; try rfl); try simp only [Act.put, List.setIfInBounds_toArray, List.set_cons_zero, List.set_cons_succ])
  (refine held_val (i := 12) rfl (by kernel_rfl) (by kernel_rfl) (by kernel_rfl) (fun _ _ _ _ h => h) hHeld (by rfl) ?_; apply Exists.intro; refine ⟨fun wq hSw => ?_, ?_⟩; ((try dsimp only at hSw); obtain ⟨k1, k2, k3, k4, k5, k6, k7, k8, k9, k10, k11, k12, k13⟩ := hSw; go_simp; try rfl); try simp only [Act.put, List.setIfInBounds_toArray, List.set_cons_zero, List.set_cons_succ])
  (refine held_val (i := 13) rfl (by kernel_rfl) (by kernel_rfl) (by kernel_rfl) (fun _ _ _ _ h => h) hHeld (by rfl) ?_; apply Exists.intro; refine ⟨fun wq hSw => ?_, ?_⟩; ((try dsimp only at hSw); obtain ⟨k1, k2, k3, k4, k5, k6, k7, k8, k9, k10, k11, k12, k13⟩ := hSw; go_simp; try rfl); try simp only [Act.put, List.setIfInBounds_toArray, List.set_cons_zero, List.set_cons_succ])
  (refine held_val (i := 14) rfl (by kernel_rfl) (by kernel_rfl) (by kernel_rfl) (fun _ _ _ _ h => h) hHeld (by rfl) ?_; apply Exists.intro; refine ⟨fun wq hSw => ?_, ?_⟩; ((try dsimp only at hSw); obtain ⟨k1, k2, k3, k4, k5, k6, k7, k8, k9, k10, k11, k12, k13⟩ := hSw; go_simp; try rfl); try simp only [Act.put, List.setIfInBounds_toArray, List.set_cons_zero, List.set_cons_succ])
  (refine held_val (i := 15) rfl (by kernel_rfl) (by kernel_rfl) (by kernel_rfl) (fun _ _ _ _ h => h) hHeld (by rfl) ?_; apply Exists.intro; refine ⟨fun wq hSw => ?_, ?_⟩; ((try dsimp only at hSw); obtain ⟨k1, k2, k3, k4, k5, k6, k7, k8, k9, k10, k11, k12, k13⟩ := hSw; go_simp; try rfl); try simp only [Act.put, List.setIfInBounds_toArray, List.set_cons_zero, List.set_cons_succ])
  (refine held_val (i := 16) rfl (by kernel_rfl) (by kernel_rfl) (by kernel_rfl) (fun _ _ _ _ h => h) hHeld (by rfl) ?_; apply Exists.intro; refine ⟨fun wq hSw => ?_, ?_⟩; ((try dsimp only at hSw); obtain ⟨k1, k2, k3, k4, k5, k6, k7, k8, k9, k10, k11, k12, k13⟩ := hSw; go_simp; try rfl); try simp only [Act.put, List.setIfInBounds_toArray, List.set_cons_zero, List.set_cons_succ])
  (refine held_val (i := 17) rfl (by kernel_rfl) (by kernel_rfl) (by kernel_rfl) (fun _ _ _ _ h => h) hHeld (by rfl) ?_; apply Exists.intro; refine ⟨fun wq hSw => ?_, ?_⟩; ((try dsimp only at hSw); obtain ⟨k1, k2, k3, k4, k5, k6, k7, k8, k9, k10, k11, k12, k13⟩ := hSw; go_simp; try rfl); try simp only [Act.put, List.setIfInBounds_toArray, List.set_cons_zero, List.set_cons_succ])
  refine wpAnyH_ready (rs := [18]) (by kernel_rfl) (by simp) ?_
  refine AllReadyH.cons (of_drop rfl) (fun K hK => ?_) AllReadyH.nil
  clear hHeld
  go_simp
  (go_at_call 77; refine (HHl.out w3).mono ?_; rintro e w4 ⟨rfl, B4⟩; have hk4 : Hid (Below w2.heap.size w2 w4) := hk3.out.trans (B4.mono hk3.out.size); clear B4)
  go_wp2_with fail
  refine hK.out _ _ (HK.out _ hk4.out) (fun hHeld => ?_)
  clear hK K
  try simp only [Act.put, List.setIfInBounds_toArray, List.set_cons_zero, List.set_cons_succ]
  (refine held_val (i := 19) rfl (by kernel_rfl) (by kernel_rfl) (by kernel_rfl) (fun _ _ _ _ h => h) hHeld (by rfl) ?_; apply Exists.intro; refine ⟨fun wq hSw => ?_, ?_⟩; ((try dsimp only at hSw); obtain ⟨k1, k2, k3, k4, k5, k6, k7, k8, k9, k10, k11, k12, k13⟩ := hSw; go_simp; try rfl); try simp only [Act.put, List.setIfInBounds_toArray, List.set_cons_zero, List.set_cons_succ])
  (refine held_val (i := 20) rfl (by kernel_rfl) (by kernel_rfl) (by kernel_rfl) (fun _ _ _ _ h => h) hHeld (by rfl) ?_; apply Exists.intro; refine ⟨fun wq hSw => ?_, ?_⟩; ((try dsimp only at hSw); obtain ⟨k1, k2, k3, k4, k5, k6, k7, k8, k9, k10, k11, k12, k13⟩ := hSw; go_simp; try rfl); try simp only [Act.put, List.setIfInBounds_toArray, List.set_cons_zero, List.set_cons_succ])
  refine wpAnyH_done (by kernel_rfl) ?_ _
  obtain ⟨k1, k2, k3, k4, k5, k6, -⟩ := HK.out _ hk4.out
  have HB4 : Hid (Below w.heap.size w w4) := H2.out.1.trans (hk4.out.mono H2.out.1.size)
  have HK4 : Hid (∀ w' : World, Below w4.heap.size w4 w' → w'.cell? ⟨w.heap.size, 0, none⟩ = some (.int .i64 (n : Int)) ∧ w'.cell? ⟨w.heap.size, 3, none⟩ = some (.int .i64 (q : Int)) ∧ w'.cell? ⟨w.heap.size, 4, none⟩ = some (.slice A1 n1 c1)) := fun w' h => by
    obtain ⟨g1, g2, g3, g4, -⟩ := HK.out w' (hk4.out.trans (h.mono hk4.out.size))
    exact ⟨g1, g3, g4⟩
  clear HK hk4 hk3 hHeld
  go_wp2_with fail
  refine (HRk.out w4 HB4.out).mono ?_
  rintro e w5 ⟨rfl, B5⟩
  have HB5 : Hid (Below w.heap.size w w5) := HB4.out.trans (B5.mono HB4.out.size)
  clear k1 k2 k3 k4 k5 k6
  obtain ⟨k1, k2, k3⟩ := HK4.out _ B5
  clear B5
  go_wp2
  go_ret
  exact ⟨rfl, HB5.out⟩
set_option maxHeartbeats 2000000 in
theorem has_F (n t k q z ones : Nat) (kw ll lh er ec : Int) (r : Bool) (A1 A2 : Option Addr) (n1 c1 n2 c2 : Nat) (w : World)
    (HS : Hid (∀ V, Calls Try.prog 75 #[.int .i64 (n : Int), .int .i64 (t : Int)] V fun e w' => e = .returned (.agg #[.int .i64 (n : Int), .int .i64 (t : Int), .int .i64 (k : Int), .int .i64 0, .slice none 0 0, .int .i64 0, .slice none 0 0]) ∧ Below V.heap.size V w'))
    (HLl : Hid (∀ V, Calls Try.prog 76 #[.agg #[.int .i64 (n : Int), .int .i64 (t : Int), .int .i64 (k : Int), .int .i64 0, .slice none 0 0, .int .i64 0, .slice none 0 0]] V fun e w' => e = .returned (.int .i64 (q : Int)) ∧ Below V.heap.size V w'))
    (HHl : Hid (∀ V, Calls Try.prog 77 #[.agg #[.int .i64 (n : Int), .int .i64 (t : Int), .int .i64 (k : Int), .int .i64 0, .slice none 0 0, .int .i64 0, .slice none 0 0]] V fun e w' => e = .returned (.int .i64 (z : Int)) ∧ Below V.heap.size V w'))
    (HRk : Hid (∀ V, Below w.heap.size w V → Calls Try.prog 35 #[.agg #[.int .i64 lh, .slice A2 n2 c2], .int .i64 lh] V (RkP V ones er)))
    (HCk : Hid (∀ V, Below w.heap.size w V → Calls Try.prog 48 #[.agg #[.int .i64 ll, .slice A1 n1 c1]] V fun e w' => e = .returned (.int .i64 ec) ∧ Below V.heap.size V w')) (tw : kw = (k : Int)) (tl : ll = (q : Int)) (th : lh = (z : Int)) (te : er = 0) (to : (ones : Int) = (n : Int)) (tc : (ec == 0) = r) :
    Calls Try.prog 81 #[.agg #[.int .i64 (n : Int), .int .i64 (t : Int), .int .i64 kw, .int .i64 ll, .slice A1 n1 c1, .int .i64 lh, .slice A2 n2 c2]] w fun e w' => e = .returned (.bool r) ∧ Below w.heap.size w w' := by
  subst tw
  subst tl
  subst th
  subst te
  go_enter Try.func81, Try.ntmps81
  go_wp2_with fail
  obtain ⟨V0, hV0⟩ : ∃ V0, V0 = w.alloc (.cells #[.int .i64 (n : Int), .int .i64 (t : Int), .int .i64 (k : Int), .int .i64 (q : Int), .slice A1 n1 c1, .int .i64 (z : Int), .slice A2 n2 c2] 70) := ⟨_, rfl⟩
  have H0 : Hid (Below w.heap.size w V0 ∧ V0.heap[w.heap.size]? = some (.cells #[.int .i64 (n : Int), .int .i64 (t : Int), .int .i64 (k : Int), .int .i64 (q : Int), .slice A1 n1 c1, .int .i64 (z : Int), .slice A2 n2 c2] 70 (0, 0)) ∧ w.heap.size < V0.heap.size) := by rw [hV0]; exact ⟨one_below _ _, World.alloc_heap_new _ _, by rw [World.size_alloc]; omega⟩
  rw [← hV0]
  clear hV0
  refine (HS.out V0).mono ?_
  rintro e w1 ⟨rfl, B1⟩
  obtain ⟨X, hX⟩ : ∃ X, X = w1.heap.size := ⟨_, rfl⟩
  obtain ⟨w2, hw2⟩ : ∃ w2, w2 = w1.alloc (.cells #[.int .i64 (n : Int), .int .i64 (t : Int), .int .i64 (k : Int), .int .i64 0, .slice none 0 0, .int .i64 0, .slice none 0 0] 70) := ⟨_, rfl⟩
  have H2 : Hid (Below w.heap.size w w2 ∧ w2.heap[w.heap.size]? = some (.cells #[.int .i64 (n : Int), .int .i64 (t : Int), .int .i64 (k : Int), .int .i64 (q : Int), .slice A1 n1 c1, .int .i64 (z : Int), .slice A2 n2 c2] 70 (0, 0)) ∧ w2.heap[X]? = some (.cells #[.int .i64 (n : Int), .int .i64 (t : Int), .int .i64 (k : Int), .int .i64 0, .slice none 0 0, .int .i64 0, .slice none 0 0] 70 (0, 0)) ∧ w.heap.size < X ∧ X < w2.heap.size) := by
    have h0 := H0.out
    have hs2 := B1.size
    rw [hw2, hX]
    refine ⟨h0.1.trans ((B1.trans ((one_below _ _).mono B1.size)).mono h0.1.size), ?_, World.alloc_heap_new _ _, by omega, by rw [World.size_alloc]; omega⟩
    rw [(one_below _ _).block _ (by omega)]; exact (B1.block _ h0.2.2).trans h0.2.1
  have HK : Hid (∀ w' : World, Below w2.heap.size w2 w' → w'.cell? ⟨w.heap.size, 0, none⟩ = some (.int .i64 (n : Int)) ∧ w'.cell? ⟨w.heap.size, 2, none⟩ = some (.int .i64 (k : Int)) ∧ w'.cell? ⟨w.heap.size, 3, none⟩ = some (.int .i64 (q : Int)) ∧ w'.cell? ⟨w.heap.size, 4, none⟩ = some (.slice A1 n1 c1) ∧ w'.cell? ⟨w.heap.size, 5, none⟩ = some (.int .i64 (z : Int)) ∧ w'.cell? ⟨w.heap.size, 6, none⟩ = some (.slice A2 n2 c2) ∧ w'.cell? ⟨X, 0, none⟩ = some (.int .i64 (n : Int)) ∧ w'.cell? ⟨X, 1, none⟩ = some (.int .i64 (t : Int)) ∧ w'.cell? ⟨X, 2, none⟩ = some (.int .i64 (k : Int)) ∧ w'.cell? ⟨X, 3, none⟩ = some (.int .i64 0) ∧ w'.cell? ⟨X, 4, none⟩ = some (.slice none 0 0) ∧ w'.cell? ⟨X, 5, none⟩ = some (.int .i64 0) ∧ w'.cell? ⟨X, 6, none⟩ = some (.slice none 0 0)) := fun w' h => by
    obtain ⟨⟨g0, g1, g2, g3, g4, g5, g6⟩, -⟩ := cells7 ((h.block _ (by have := H2.out; omega)).trans H2.out.2.1)
    obtain ⟨⟨d0, d1, d2, d3, d4, d5, d6⟩, -⟩ := cells7 ((h.block _ H2.out.2.2.2.2).trans H2.out.2.2.1)
    exact ⟨g0, g2, g3, g4, g5, g6, d0, d1, d2, d3, d4, d5, d6⟩
  clear B1 H0
  obtain ⟨k1, k2, k3, k4, k5, k6, k7, k8, k9, k10, k11, k12, k13⟩ := HK.out _ (Below.refl _ _)
  go_wp2_with fail
  rw [← hw2, ← hX]
  clear hw2 hX k1 k2 k3 k4 k5 k6 k7 k8 k9 k10 k11 k12 k13
  refine wp_region_held_drew (S := fun w' => w'.cell? ⟨w.heap.size, 0, none⟩ = some (.int .i64 (n : Int)) ∧ w'.cell? ⟨w.heap.size, 2, none⟩ = some (.int .i64 (k : Int)) ∧ w'.cell? ⟨w.heap.size, 3, none⟩ = some (.int .i64 (q : Int)) ∧ w'.cell? ⟨w.heap.size, 4, none⟩ = some (.slice A1 n1 c1) ∧ w'.cell? ⟨w.heap.size, 5, none⟩ = some (.int .i64 (z : Int)) ∧ w'.cell? ⟨w.heap.size, 6, none⟩ = some (.slice A2 n2 c2) ∧ w'.cell? ⟨X, 0, none⟩ = some (.int .i64 (n : Int)) ∧ w'.cell? ⟨X, 1, none⟩ = some (.int .i64 (t : Int)) ∧ w'.cell? ⟨X, 2, none⟩ = some (.int .i64 (k : Int)) ∧ w'.cell? ⟨X, 3, none⟩ = some (.int .i64 0) ∧ w'.cell? ⟨X, 4, none⟩ = some (.slice none 0 0) ∧ w'.cell? ⟨X, 5, none⟩ = some (.int .i64 0) ∧ w'.cell? ⟨X, 6, none⟩ = some (.slice none 0 0)) (by kernel_rfl) (HK.out _ (Below.refl _ _).drew) (fun hHeld => ?_)
  (refine held_val (i := 0) rfl (by kernel_rfl) (by kernel_rfl) (by kernel_rfl) (fun _ _ _ _ h => h) hHeld (by rfl) ?_; apply Exists.intro; refine ⟨fun wq hSw => ?_, ?_⟩; ((try dsimp only at hSw); obtain ⟨k1, k2, k3, k4, k5, k6, k7, k8, k9, k10, k11, k12, k13⟩ := hSw; go_simp; try rfl); try simp only [Act.put, List.setIfInBounds_toArray, List.set_cons_zero, List.set_cons_succ])
  (refine held_val (i := 1) rfl (by kernel_rfl) (by kernel_rfl) (by kernel_rfl) (fun _ _ _ _ h => h) hHeld (by rfl) ?_; apply Exists.intro; refine ⟨fun wq hSw => ?_, ?_⟩; ((try dsimp only at hSw); obtain ⟨k1, k2, k3, k4, k5, k6, k7, k8, k9, k10, k11, k12, k13⟩ := hSw; go_simp; try rfl); try simp only [Act.put, List.setIfInBounds_toArray, List.set_cons_zero, List.set_cons_succ])
  (refine held_val (i := 2) rfl (by kernel_rfl) (by kernel_rfl) (by kernel_rfl) (fun _ _ _ _ h => h) hHeld (by rfl) ?_; apply Exists.intro; refine ⟨fun wq hSw => ?_, ?_⟩; ((try dsimp only at hSw); obtain ⟨k1, k2, k3, k4, k5, k6, k7, k8, k9, k10, k11, k12, k13⟩ := hSw; go_simp; try rfl); try simp only [Act.put, List.setIfInBounds_toArray, List.set_cons_zero, List.set_cons_succ])
  (refine held_val (i := 3) rfl (by kernel_rfl) (by kernel_rfl) (by kernel_rfl) (fun _ _ _ _ h => h) hHeld (by rfl) ?_; apply Exists.intro; refine ⟨fun wq hSw => ?_, ?_⟩; ((try dsimp only at hSw); obtain ⟨k1, k2, k3, k4, k5, k6, k7, k8, k9, k10, k11, k12, k13⟩ := hSw; go_simp; try rfl); try simp only [Act.put, List.setIfInBounds_toArray, List.set_cons_zero, List.set_cons_succ])
  (refine held_val (i := 4) rfl (by kernel_rfl) (by kernel_rfl) (by kernel_rfl) (fun _ _ _ _ h => h) hHeld (by rfl) ?_; apply Exists.intro; refine ⟨fun wq hSw => ?_, ?_⟩; ((try dsimp only at hSw); obtain ⟨k1, k2, k3, k4, k5, k6, k7, k8, k9, k10, k11, k12, k13⟩ := hSw; go_simp; try rfl); try simp only [Act.put, List.setIfInBounds_toArray, List.set_cons_zero, List.set_cons_succ])
  (refine held_val (i := 5) rfl (by kernel_rfl) (by kernel_rfl) (by kernel_rfl) (fun _ _ _ _ h => h) hHeld (by rfl) ?_; apply Exists.intro; refine ⟨fun wq hSw => ?_, ?_⟩; ((try dsimp only at hSw); obtain ⟨k1, k2, k3, k4, k5, k6, k7, k8, k9, k10, k11, k12, k13⟩ := hSw; go_simp; try rfl); try simp only [Act.put, List.setIfInBounds_toArray, List.set_cons_zero, List.set_cons_succ])
  (refine held_val (i := 6) rfl (by kernel_rfl) (by kernel_rfl) (by kernel_rfl) (fun _ _ _ _ h => h) hHeld (by rfl) ?_; apply Exists.intro; refine ⟨fun wq hSw => ?_, ?_⟩; ((try dsimp only at hSw); obtain ⟨k1, k2, k3, k4, k5, k6, k7, k8, k9, k10, k11, k12, k13⟩ := hSw; go_simp; try rfl); try simp only [Act.put, List.setIfInBounds_toArray, List.set_cons_zero, List.set_cons_succ])
  (refine held_val (i := 7) rfl (by kernel_rfl) (by kernel_rfl) (by kernel_rfl) (fun _ _ _ _ h => h) hHeld (by rfl) ?_; apply Exists.intro; refine ⟨fun wq hSw => ?_, ?_⟩; ((try dsimp only at hSw); obtain ⟨k1, k2, k3, k4, k5, k6, k7, k8, k9, k10, k11, k12, k13⟩ := hSw; go_simp; try rfl); try simp only [Act.put, List.setIfInBounds_toArray, List.set_cons_zero, List.set_cons_succ])
  (refine held_val (i := 8) rfl (by kernel_rfl) (by kernel_rfl) (by kernel_rfl) (fun _ _ _ _ h => h) hHeld (by rfl) ?_; apply Exists.intro; refine ⟨fun wq hSw => ?_, ?_⟩; ((try dsimp only at hSw); obtain ⟨k1, k2, k3, k4, k5, k6, k7, k8, k9, k10, k11, k12, k13⟩ := hSw; go_simp; try rfl); try simp only [Act.put, List.setIfInBounds_toArray, List.set_cons_zero, List.set_cons_succ])
  (refine held_val (i := 9) rfl (by kernel_rfl) (by kernel_rfl) (by kernel_rfl) (fun _ _ _ _ h => h) hHeld (by rfl) ?_; apply Exists.intro; refine ⟨fun wq hSw => ?_, ?_⟩; ((try dsimp only at hSw); obtain ⟨k1, k2, k3, k4, k5, k6, k7, k8, k9, k10, k11, k12, k13⟩ := hSw; go_simp; try rfl); try simp only [Act.put, List.setIfInBounds_toArray, List.set_cons_zero, List.set_cons_succ])
  refine wpAnyH_ready (rs := [10]) (by kernel_rfl) (by simp) ?_
  refine AllReadyH.cons (of_drop rfl) (fun K hK => ?_) AllReadyH.nil
  clear hHeld
  go_simp
  (go_at_call 76; refine (HLl.out w2.drew).mono ?_; rintro e w3 ⟨rfl, B3⟩; have hk3 : Hid (Below w2.heap.size w2 w3) := ((Below.refl _ w2).drew).trans B3; clear B3)
  go_wp2_with fail
  refine hK.out _ _ (HK.out _ hk3.out) (fun hHeld => ?_)
  clear hK K
  try simp only [Act.put, List.setIfInBounds_toArray, List.set_cons_zero, List.set_cons_succ]
  (refine held_val (i := 11) rfl (by kernel_rfl) (by kernel_rfl) (by kernel_rfl) (fun _ _ _ _ h => h) hHeld (by rfl) ?_; apply Exists.intro; refine ⟨fun wq hSw => ?_, ?_⟩; ((try dsimp only at hSw); obtain ⟨k1, k2, k3, k4, k5, k6, k7, k8, k9, k10, k11, k12, k13⟩ := hSw; go_simp; try rfl); try simp only [Act.put, List.setIfInBounds_toArray, List.set_cons_zero, List.set_cons_succ])
  (refine held_val (i := 12) rfl (by kernel_rfl) (by kernel_rfl) (by kernel_rfl) (fun _ _ _ _ h => h) hHeld (by rfl) ?_; apply Exists.intro; refine ⟨fun wq hSw => ?_, ?_⟩; ((try dsimp only at hSw); obtain ⟨k1, k2, k3, k4, k5, k6, k7, k8, k9, k10, k11, k12, k13⟩ := hSw; go_simp; try rfl); try simp only [Act.put, List.setIfInBounds_toArray, List.set_cons_zero, List.set_cons_succ])
  (refine held_val (i := 13) rfl (by kernel_rfl) (by kernel_rfl) (by kernel_rfl) (fun _ _ _ _ h => h) hHeld (by rfl) ?_; apply Exists.intro; refine ⟨fun wq hSw => ?_, ?_⟩; ((try dsimp only at hSw); obtain ⟨k1, k2, k3, k4, k5, k6, k7, k8, k9, k10, k11, k12, k13⟩ := hSw; go_simp; try rfl); try simp only [Act.put, List.setIfInBounds_toArray, List.set_cons_zero, List.set_cons_succ])
  (refine held_val (i := 14) rfl (by kernel_rfl) (by kernel_rfl) (by kernel_rfl) (fun _ _ _ _ h => h) hHeld (by rfl) ?_; apply Exists.intro; refine ⟨fun wq hSw => ?_, ?_⟩; ((try dsimp only at hSw); obtain ⟨k1, k2, k3, k4, k5, k6, k7, k8, k9, k10, k11, k12, k13⟩ := hSw; go_simp; try rfl); try simp only [Act.put, List.setIfInBounds_toArray, List.set_cons_zero, List.set_cons_succ])
  (refine held_val (i := 15) rfl (by kernel_rfl) (by kernel_rfl) (by kernel_rfl) (fun _ _ _ _ h => h) hHeld (by rfl) ?_; apply Exists.intro; refine ⟨fun wq hSw => ?_, ?_⟩; ((try dsimp only at hSw); obtain ⟨k1, k2, k3, k4, k5, k6, k7, k8, k9, k10, k11, k12, k13⟩ := hSw; go_simp; try rfl); try simp only [Act.put, List.setIfInBounds_toArray, List.set_cons_zero, List.set_cons_succ])
  (refine held_val (i := 16) rfl (by kernel_rfl) (by kernel_rfl) (by kernel_rfl) (fun _ _ _ _ h => h) hHeld (by rfl) ?_; apply Exists.intro; refine ⟨fun wq hSw => ?_, ?_⟩; ((try dsimp only at hSw); obtain ⟨k1, k2, k3, k4, k5, k6, k7, k8, k9, k10, k11, k12, k13⟩ := hSw; go_simp; try rfl); try simp only [Act.put, List.setIfInBounds_toArray, List.set_cons_zero, List.set_cons_succ])
  (refine held_val (i := 17) rfl (by kernel_rfl) (by kernel_rfl) (by kernel_rfl) (fun _ _ _ _ h => h) hHeld (by rfl) ?_; apply Exists.intro; refine ⟨fun wq hSw => ?_, ?_⟩; ((try dsimp only at hSw); obtain ⟨k1, k2, k3, k4, k5, k6, k7, k8, k9, k10, k11, k12, k13⟩ := hSw; go_simp; try rfl); try simp only [Act.put, List.setIfInBounds_toArray, List.set_cons_zero, List.set_cons_succ])
  refine wpAnyH_ready (rs := [18]) (by kernel_rfl) (by simp) ?_
  refine AllReadyH.cons (of_drop rfl) (fun K hK => ?_) AllReadyH.nil
  clear hHeld
  go_simp
  (go_at_call 77; refine (HHl.out w3).mono ?_; rintro e w4 ⟨rfl, B4⟩; have hk4 : Hid (Below w2.heap.size w2 w4) := hk3.out.trans (B4.mono hk3.out.size); clear B4)
  go_wp2_with fail
  refine hK.out _ _ (HK.out _ hk4.out) (fun hHeld => ?_)
  clear hK K
  try simp only [Act.put, List.setIfInBounds_toArray, List.set_cons_zero, List.set_cons_succ]
  (refine held_val (i := 19) rfl (by kernel_rfl) (by kernel_rfl) (by kernel_rfl) (fun _ _ _ _ h => h) hHeld (by rfl) ?_; apply Exists.intro; refine ⟨fun wq hSw => ?_, ?_⟩; ((try dsimp only at hSw); obtain ⟨k1, k2, k3, k4, k5, k6, k7, k8, k9, k10, k11, k12, k13⟩ := hSw; go_simp; try rfl); try simp only [Act.put, List.setIfInBounds_toArray, List.set_cons_zero, List.set_cons_succ])
  (refine held_val (i := 20) rfl (by kernel_rfl) (by kernel_rfl) (by kernel_rfl) (fun _ _ _ _ h => h) hHeld (by rfl) ?_; apply Exists.intro; refine ⟨fun wq hSw => ?_, ?_⟩; ((try dsimp only at hSw); obtain ⟨k1, k2, k3, k4, k5, k6, k7, k8, k9, k10, k11, k12, k13⟩ := hSw; go_simp; try rfl); try simp only [Act.put, List.setIfInBounds_toArray, List.set_cons_zero, List.set_cons_succ])
  refine wpAnyH_done (by kernel_rfl) ?_ _
  obtain ⟨k1, k2, k3, k4, k5, k6, -⟩ := HK.out _ hk4.out
  have HB4 : Hid (Below w.heap.size w w4) := H2.out.1.trans (hk4.out.mono H2.out.1.size)
  have HK4 : Hid (∀ w' : World, Below w4.heap.size w4 w' → w'.cell? ⟨w.heap.size, 0, none⟩ = some (.int .i64 (n : Int)) ∧ w'.cell? ⟨w.heap.size, 3, none⟩ = some (.int .i64 (q : Int)) ∧ w'.cell? ⟨w.heap.size, 4, none⟩ = some (.slice A1 n1 c1)) := fun w' h => by
    obtain ⟨g1, g2, g3, g4, -⟩ := HK.out w' (hk4.out.trans (h.mono hk4.out.size))
    exact ⟨g1, g3, g4⟩
  clear HK hk4 hk3 hHeld
  go_wp2_with fail
  refine (HRk.out w4 HB4.out).mono ?_
  rintro e w5 ⟨rfl, B5⟩
  have HB5 : Hid (Below w.heap.size w w5) := HB4.out.trans (B5.mono HB4.out.size)
  clear k1 k2 k3 k4 k5 k6
  obtain ⟨k1, k2, k3⟩ := HK4.out _ B5
  clear B5
  have to2 : ((ones : Int) == (n : Int)) = true := by simpa using to
  clear to
  go_wp2_with fail
  refine (HCk.out w5 HB5.out).mono ?_
  rintro e w6 ⟨rfl, B6⟩
  have HB6 : Hid (Below w.heap.size w w6) := HB5.out.trans (B6.mono HB5.out.size)
  clear B6
  cases r
  · go_wp2
    go_ret
    exact ⟨rfl, HB6.out⟩
  · go_wp2
    go_ret
    exact ⟨rfl, HB6.out⟩
end Go.Proofs.Ytkbelhclcpepaaa
