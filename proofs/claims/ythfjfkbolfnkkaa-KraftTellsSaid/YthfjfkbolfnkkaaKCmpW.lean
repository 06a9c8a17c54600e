/- The orders that are asked for of words and of groups: what the two closures answer, in whatever world. -/
import Derived.Test.YthfjfkbolfnkkaaKCmp
import Derived.Deep.RegionHeld3
import Derived.Sort.Grow
namespace Go.Proofs.Ythfjfkbolfnkkaa
set_option maxRecDepth 100000
set_option linter.unusedVariables false
open Go.RowKit Go.Shelf Go.Sort

theorem cell_at {w : World} {W : Nat} {t : TypeId} {cs : Array Value} (h : w.heap[W]? = some (.cells cs t (0, 0))) (i : Nat) : w.cell? ⟨W, i, none⟩ = cs[i]? := by simp [World.cell?, h]
theorem orI_new (a b : Int) (w : World) (B : Nat) (e : w.heap[B]? = some (.cells #[.int .i64 a, .int .i64 b] 3 (0, 0))) :
    Calls Try.prog 43 #[.slice (some ⟨B, 0, none⟩) 2 2] w fun x w' => x = .returned (.int .i64 (orI a b)) ∧ w' = w :=
  orI_any a b _ _ (by rw [cell_at e 0]; rfl) (by rw [cell_at e (0 + 1)]; rfl)
set_option maxHeartbeats 4000000 in
theorem closW (x0 x1 x2 y0 y1 y2 : Int) (W : World) : Calls Try.prog 85 #[.agg #[.int .i64 x0, .int .i64 x1, .int .u64 x2], .agg #[.int .i64 y0, .int .i64 y1, .int .u64 y2]] W fun e w' => e = .returned (.int .i64 (orI (Lib.compareInt x1 y1) (Lib.compareInt x0 y0))) ∧ ∃ q os', w' = grow (W.drewN q) os' := by
  have C1 := Lib.hid (cmpI x1 y1)
  have C2 := Lib.hid (cmpI x0 y0)
  have HO := Lib.hid (orI_new (Lib.compareInt x1 y1) (Lib.compareInt x0 y0))
  show Calls _ _ _ _ fun e w' => e = .returned (.int .i64 (orI (Lib.compareInt x1 y1) (Lib.compareInt x0 y0))) ∧ ∃ q os', w' = grow (W.drewN q) os'
  generalize Lib.compareInt x1 y1 = a at *
  generalize Lib.compareInt x0 y0 = b at *
  generalize orI a b = r at *
  go_enter Try.func85, Try.ntmps85
  go_wp2_with fail
  generalize hV : (W.alloc (.cells #[.int .i64 x0, .int .i64 x1, .int .u64 x2] 60)).alloc (.cells #[.int .i64 y0, .int .i64 y1, .int .u64 y2] 60) = V0
  have HV : Hid (V0 = (W.alloc (.cells #[.int .i64 x0, .int .i64 x1, .int .u64 x2] 60)).alloc (.cells #[.int .i64 y0, .int .i64 y1, .int .u64 y2] 60)) := hV.symm
  have HK : Hid (∀ w' : World, Below V0.heap.size V0 w' → w'.cell? ⟨W.heap.size, 1, none⟩ = some (.int .i64 x1) ∧ w'.cell? ⟨W.heap.size + 1, 1, none⟩ = some (.int .i64 y1) ∧ w'.cell? ⟨W.heap.size, 0, none⟩ = some (.int .i64 x0) ∧ w'.cell? ⟨W.heap.size + 1, 0, none⟩ = some (.int .i64 y0)) := by
    subst hV
    intro w' h
    have n0 := World.alloc_heap_new W (.cells #[.int .i64 x0, .int .i64 x1, .int .u64 x2] 60)
    have n1 := World.alloc_heap_new (W.alloc (.cells #[.int .i64 x0, .int .i64 x1, .int .u64 x2] 60)) (.cells #[.int .i64 y0, .int .i64 y1, .int .u64 y2] 60)
    have k0 := (h.block W.heap.size (by simp only [World.size_alloc]; omega)).trans ((Below.heap_alloc _ _ _ (by simp)).trans n0)
    have k1 := (h.block (W.alloc (.cells #[.int .i64 x0, .int .i64 x1, .int .u64 x2] 60)).heap.size (by simp)).trans n1
    rw [World.size_alloc] at k1
    exact ⟨(cell_at k0 _).trans rfl, (cell_at k1 _).trans rfl, (cell_at k0 _).trans rfl, (cell_at k1 _).trans rfl⟩
  clear hV
  have hk0 := HK.out V0 (Below.refl _ _)
  go_region_held3 (fun w' => w'.cell? ⟨W.heap.size, 1, none⟩ = some (.int .i64 x1) ∧ w'.cell? ⟨W.heap.size + 1, 1, none⟩ = some (.int .i64 y1) ∧ w'.cell? ⟨W.heap.size, 0, none⟩ = some (.int .i64 x0) ∧ w'.cell? ⟨W.heap.size + 1, 0, none⟩ = some (.int .i64 y0))
    ((refine HK.out _ ?_; first | exact (Below.refl _ _).drew | exact ((Below.refl _ _).drew).alloc (Nat.le_refl _) _ | exact ((Below.refl _ _).alloc (Nat.le_refl _) _).drew))
    (first
      | (go_at_call 45; refine (C1.out _).mono ?_; clear C1; rintro e w1 ⟨rfl, rfl⟩)
      | (go_at_call 45; refine (C2.out _).mono ?_; rintro e w1 ⟨rfl, rfl⟩)
      | (go_at_call 43; refine (HO.out (V0.alloc (.cells #[.int .i64 a, .int .i64 b] 3)).drew _ (World.alloc_heap_new V0 (.cells #[.int .i64 a, .int .i64 b] 3))).mono ?_; rintro e w1 ⟨rfl, rfl⟩))
  all_goals (
    go_wp2
    go_ret
    exact ⟨rfl, 1, _, by rw [HV.out, alloc_eq_grow, alloc_eq_grow, alloc_eq_grow, grow_grow, grow_grow, drew_grow]; rfl⟩)
set_option maxHeartbeats 4000000 in
theorem closG (x0 x1 y0 y1 : Int) (x2 y2 : Value) (W : World) : Calls Try.prog 81 #[.agg #[.int .i64 x0, .int .i64 x1, x2], .agg #[.int .i64 y0, .int .i64 y1, y2]] W fun e w' => e = .returned (.int .i64 (orI (Lib.compareInt x0 y0) (Lib.compareInt x1 y1))) ∧ ∃ q os', w' = grow (W.drewN q) os' := by
  have C1 := Lib.hid (cmpI x0 y0)
  have C2 := Lib.hid (cmpI x1 y1)
  have HO := Lib.hid (orI_new (Lib.compareInt x0 y0) (Lib.compareInt x1 y1))
  show Calls _ _ _ _ fun e w' => e = .returned (.int .i64 (orI (Lib.compareInt x0 y0) (Lib.compareInt x1 y1))) ∧ ∃ q os', w' = grow (W.drewN q) os'
  generalize Lib.compareInt x0 y0 = a at *
  generalize Lib.compareInt x1 y1 = b at *
  generalize orI a b = r at *
  go_enter Try.func81, Try.ntmps81
  go_wp2_with fail
  generalize hV : (W.alloc (.cells #[.int .i64 x0, .int .i64 x1, x2] 104)).alloc (.cells #[.int .i64 y0, .int .i64 y1, y2] 104) = V0
  have HV : Hid (V0 = (W.alloc (.cells #[.int .i64 x0, .int .i64 x1, x2] 104)).alloc (.cells #[.int .i64 y0, .int .i64 y1, y2] 104)) := hV.symm
  have HK : Hid (∀ w' : World, Below V0.heap.size V0 w' → w'.cell? ⟨W.heap.size, 0, none⟩ = some (.int .i64 x0) ∧ w'.cell? ⟨W.heap.size + 1, 0, none⟩ = some (.int .i64 y0) ∧ w'.cell? ⟨W.heap.size, 1, none⟩ = some (.int .i64 x1) ∧ w'.cell? ⟨W.heap.size + 1, 1, none⟩ = some (.int .i64 y1)) := by
    subst hV
    intro w' h
    have n0 := World.alloc_heap_new W (.cells #[.int .i64 x0, .int .i64 x1, x2] 104)
    have n1 := World.alloc_heap_new (W.alloc (.cells #[.int .i64 x0, .int .i64 x1, x2] 104)) (.cells #[.int .i64 y0, .int .i64 y1, y2] 104)
    have k0 := (h.block W.heap.size (by simp only [World.size_alloc]; omega)).trans ((Below.heap_alloc _ _ _ (by simp)).trans n0)
    have k1 := (h.block (W.alloc (.cells #[.int .i64 x0, .int .i64 x1, x2] 104)).heap.size (by simp)).trans n1
    rw [World.size_alloc] at k1
    exact ⟨(cell_at k0 _).trans rfl, (cell_at k1 _).trans rfl, (cell_at k0 _).trans rfl, (cell_at k1 _).trans rfl⟩
  clear hV
  have hk0 := HK.out V0 (Below.refl _ _)
  go_region_held3 (fun w' => w'.cell? ⟨W.heap.size, 0, none⟩ = some (.int .i64 x0) ∧ w'.cell? ⟨W.heap.size + 1, 0, none⟩ = some (.int .i64 y0) ∧ w'.cell? ⟨W.heap.size, 1, none⟩ = some (.int .i64 x1) ∧ w'.cell? ⟨W.heap.size + 1, 1, none⟩ = some (.int .i64 y1))
    ((refine HK.out _ ?_; first | exact (Below.refl _ _).drew | exact ((Below.refl _ _).drew).alloc (Nat.le_refl _) _ | exact ((Below.refl _ _).alloc (Nat.le_refl _) _).drew))
    (first
      | (go_at_call 45; refine (C1.out _).mono ?_; clear C1; rintro e w1 ⟨rfl, rfl⟩)
      | (go_at_call 45; refine (C2.out _).mono ?_; rintro e w1 ⟨rfl, rfl⟩)
      | (go_at_call 43; refine (HO.out (V0.alloc (.cells #[.int .i64 a, .int .i64 b] 3)).drew _ (World.alloc_heap_new V0 (.cells #[.int .i64 a, .int .i64 b] 3))).mono ?_; rintro e w1 ⟨rfl, rfl⟩))
  all_goals (
    go_wp2
    go_ret
    exact ⟨rfl, 1, _, by rw [HV.out, alloc_eq_grow, alloc_eq_grow, alloc_eq_grow, grow_grow, grow_grow, drew_grow]; rfl⟩)
end Go.Proofs.Ythfjfkbolfnkkaa
