/- What is read of a list of runs that is handed in. -/
import Derived.Test.YthldcdcpflamaaaJGNOpen
import Derived.Test.YthldcdcpflamaaaJGRN5
import Derived.Deep.SlicePairs
namespace Go.Proofs.Ythldcdcpflamaaa
open Go.ChangeShapes Go.WideShapes Go.ChangeAt Go.RowKit Go.Joins Go.Deep

theorem cellsRun : Try.prog.cellsOf 60 = 2 := by kernel_rfl
theorem add_plO (b off k : Nat) : (⟨b, off, none⟩ : Addr).add k = ⟨b, off + k, none⟩ := by unfold Addr.add; split <;> simp_all

set_option maxRecDepth 100000 in
/-- Runs that were handed in. -/
theorem open_rl {H : Type} {enc : TypeId × Value → H} {W : World} {base : Nat} {v : Value} {d : DataW H} {p : List MemPlace}
    (hv : Value.okWide Try.prog W .any base 49 v) (h : DataW.Trod enc Try.prog W 0 (fun _ => true) true 49 v d p) :
    ∃ (A : Option Addr) (c : Nat) (rs : List Ri), v = .slice A rs.length c ∧ rs.length ≤ c ∧ (A = none → c = 0) ∧ RdV W W.heap.size A (rcs rs) ∧ (∀ x ∈ rs, (-9223372036854775808 ≤ x.1 ∧ x.1 ≤ 9223372036854775807) ∧ (-9223372036854775808 ≤ x.2 ∧ x.2 ≤ 9223372036854775807)) ∧ rs.length ≤ 9223372036854775807 := by
  obtain ⟨a0, len0, cap0, rfl⟩ := okWide_slice Try.underlying49 hv
  obtain ⟨fuel, hf⟩ := h
  rcases open_slice_pairs Try.underlying49 Try.underlying60 cellsRun rfl rfl cells3i cells3i hf with ⟨hcs, _⟩ | ⟨a, len, cap, m, n, V0, V1, D0, D1, P0, P1, hcs, _, hl, hm, hmm, _, hx⟩
  · simp [Value.cells] at hcs
    obtain ⟨rfl, rfl, rfl⟩ := hcs
    exact ⟨none, 0, [], rfl, by simp, fun _ => rfl, .inl rfl, by simp, by simp⟩
  · simp [Value.cells] at hcs
    obtain ⟨rfl, rfl, rfl⟩ := hcs
    have hlm : len0 ≤ m := by rw [hmm]; simp; exact hl
    have each : ∀ i, i < len0 → ∃ x : Ri, W.cell? (a.add (i * 2)) = some (.int .i64 x.1) ∧ W.cell? (a.add (i * 2 + 1)) = some (.int .i64 x.2) ∧ (-9223372036854775808 ≤ x.1 ∧ x.1 ≤ 9223372036854775807) ∧ (-9223372036854775808 ≤ x.2 ∧ x.2 ≤ 9223372036854775807) := by
      intro i hi
      obtain ⟨k0, k1, t0, t1⟩ := hx i (by omega)
      obtain ⟨z, e0, _, w0⟩ := DataW.trod_int Try.underlying3 t0
      obtain ⟨y, e1, _, w1⟩ := DataW.trod_int Try.underlying3 t1
      simp at e0 e1
      rw [e0] at k0
      rw [e1] at k1
      exact ⟨(z, y), k0, k1, bounds_i64 w0, bounds_i64 w1⟩
    obtain ⟨q, hq⟩ := choose_lt each
    have hrl : ((List.range len0).map q).length = len0 := by simp
    have hqi : ∀ i, i < len0 → ((List.range len0).map q)[i]?.getD (0, 0) = q i := fun i hi => by rw [List.getElem?_map, List.getElem?_range hi]; rfl
    refine ⟨some a, cap0, (List.range len0).map q, by rw [hrl], by rw [hrl]; exact hl, (fun h => by cases h), ?_, ?_, by rw [hrl]; unfold maxLen at hm; omega⟩
    · rcases Nat.eq_zero_or_pos len0 with h0 | h0
      · left; rw [h0]; rfl
      · obtain ⟨b, off, spot⟩ := a
        have hspot : spot = none := by simpa [Addr.add] using World.cell?_spot (hq 0 h0).1
        subst hspot
        refine .inr ⟨b, off, rfl, ?_, fun i v hi => ?_⟩
        · have := (hq 0 h0).1
          exact lt_of_cell (p := ⟨b, off + 0 * 2, none⟩) (by rw [← add_plO]; exact this)
        · have hil : i < len0 * 2 := by have := (List.getElem?_eq_some_iff.1 hi).1; rwa [rcs_length, hrl] at this
          obtain ⟨g0, g1, _⟩ := hq (i / 2) (by omega)
          obtain ⟨r0, r1⟩ := rcs_at ((List.range len0).map q) (i / 2) (by rw [hrl]; omega)
          rw [hqi _ (by omega)] at r0 r1
          rw [add_plO] at g0 g1
          rcases (show i = i / 2 * 2 ∨ i = i / 2 * 2 + 1 by omega) with e | e
          · rw [← e] at r0 g0
            rw [r0] at hi; cases hi
            exact g0
          · rw [← e] at r1 g1
            rw [r1] at hi; cases hi
            exact g1
    · intro x hx'
      obtain ⟨i, hi, rfl⟩ := List.mem_map.1 hx'
      exact (hq i (List.mem_range.1 hi)).2.2
end Go.Proofs.Ythldcdcpflamaaa
