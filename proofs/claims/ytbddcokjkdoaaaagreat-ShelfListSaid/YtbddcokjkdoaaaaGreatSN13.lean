/- Texts of this proof, one behind the other; each fact names its conditions. -/
import Derived.Test.YtbddcokjkdoaaaaGreatSN7
import Derived.Test.YtbddcokjkdoaaaaGreatSN12
import Derived.Lib.MinMax
namespace Go.Proofs.YtbddcokjkdoaaaaGreat
set_option maxRecDepth 100000
set_option linter.unusedVariables false
open Go.RowKit Go.Shelf
set_option maxHeartbeats 2000000 in
theorem with_any (b s k r : Int) (w : World) : Calls Tryz.prog 167 #[.agg #[.int .i64 b, .int .i64 s, .int .i64 k], .int .i64 r] w fun e w' => e = .returned (.agg #[.int .i64 r, .int .i64 s, .int .i64 k]) ∧ Below w.heap.size w w' := by
  go_enter Tryz.func167, Tryz.ntmps167
  go_wp2
  have b1 := one_below w (.cells #[.int .i64 r, .int .i64 s, .int .i64 k] 24)
  have s1 : (w.alloc (.cells #[.int .i64 r, .int .i64 s, .int .i64 k] 24)).heap.size = w.heap.size + 1 := World.size_alloc _ _
  generalize w.alloc (.cells #[.int .i64 r, .int .i64 s, .int .i64 k] 24) = w1 at *
  have kn := World.alloc_heap_new w1 (.cells #[.int .i64 r, .int .i64 s, .int .i64 k] 24)
  have b2 := one_below w1 (.cells #[.int .i64 r, .int .i64 s, .int .i64 k] 24)
  rw [s1] at kn
  have k0 := (cell_at kn 0).trans rfl
  have k1 := (cell_at kn 1).trans rfl
  have k2 := (cell_at kn 2).trans rfl
  refine bodyPost_ret (v := .agg #[.int .i64 r, .int .i64 s, .int .i64 k]) (by simp [results, Tryz.results167, go_sem, k0, k1, k2]) rfl ?_
  exact ⟨rfl, b1.trans (b2.mono (by omega))⟩
set_option maxHeartbeats 2000000 in
theorem farthest_any (b s k i : Int) (w : World) : Calls Tryz.prog 198 #[.agg #[.int .i64 b, .int .i64 s, .int .i64 k], .int .i64 i] w fun e w' => e = .returned (.int .i64 (min b i)) ∧ Below w.heap.size w w' := by
  go_enter Tryz.func198, Tryz.ntmps198
  go_wp2
  go_ret
  exact ⟨rfl, one_below _ _⟩
set_option maxHeartbeats 2000000 in
theorem refer_any (R : List Rw) (N : Nat) (hN : R.length = N) (hN2 : N ≤ 100) (A : Option Addr) (c i r : Nat) (hi : i < N) (hr : r ≤ i) (w : World) (h : RdG w w.heap.size A R) :
    Calls Tryz.prog 235 #[.int .i64 (i : Int), .int .i64 (r : Int), .slice A N c] w fun e w' => e = .returned (if r = 0 then .slice none 0 0 else sl (R[i - r]?.getD (none, 0, []))) ∧ w' = w := by
  by_cases h0 : r = 0
  · rw [if_pos h0]
    have t1 : ((r : Int) == 0) = true := by simp; omega
    go_enter Tryz.func235, Tryz.ntmps235
    go_wp2
    go_ret
    exact ⟨rfl, rfl⟩
  · rw [if_neg h0]
    have t1 : ((r : Int) == 0) = false := by simp; omega
    have hc : ∃ b off, A = some ⟨b, off, none⟩ ∧ w.cell? ⟨b, off + (i - r), none⟩ = some (sl (R[i - r]?.getD (none, 0, []))) := by
      rcases h.1 with e | ⟨b, off, e, hb, hc⟩
      · have := congrArg List.length e
        rw [rcl_length, List.length_nil] at this; omega
      · exact ⟨b, off, e, hc _ _ (rcl_get R (i - r) (by omega))⟩
    obtain ⟨b, off, rfl, hc⟩ := hc
    have e1 : (i : Int) - (r : Int) = ((i - r : Nat) : Int) := by omega
    have e2 : IntKind.i64.wrap ((i : Int) - (r : Int)) = ((i - r : Nat) : Int) := by rw [IntWalk.i64_in _ (by omega)]; omega
    unfold sl at hc ⊢
    generalize R[i - r]?.getD (none, 0, []) = q at hc ⊢
    obtain ⟨A1, c1, xs⟩ := q
    go_enter Tryz.func235, Tryz.ntmps235
    go_wp2
    go_ret
    exact ⟨rfl, rfl⟩
end Go.Proofs.YtbddcokjkdoaaaaGreat
