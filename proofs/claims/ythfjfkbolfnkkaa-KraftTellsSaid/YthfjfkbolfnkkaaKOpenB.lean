/- What is read of a list of bits that is handed in. -/
import Derived.Test.YthfjfkbolfnkkaaKOpen
import Derived.Deep.SlicePairs
namespace Go.Proofs.Ythfjfkbolfnkkaa
open Go.ChangeShapes Go.WideShapes Go.ChangeAt Go.RowKit Go.Joins Go.Deep

theorem cells26 : Try.prog.cellsOf 26 = 2 := by kernel_rfl
theorem cellsInt : Try.prog.cellsOf 3 = 1 := by kernel_rfl
theorem cellsBs : Try.prog.cellsOf 24 = 1 := by kernel_rfl

set_option maxRecDepth 100000 in
/-- A list of bits that was handed in. -/
theorem open_bl {H : Type} {enc : TypeId × Value → H} {W : World} {base : Nat} {v : Value} {d : DataW H} {p : List MemPlace}
    (hv : Value.okWide Try.prog W .any base 23 v) (h : DataW.Trod enc Try.prog W 0 (fun _ => true) true 23 v d p) :
    ∃ (A : Option Addr) (c : Nat) (rs : List Rx), v = .slice A rs.length c ∧ RdR W W.heap.size A rs ∧ (∀ x ∈ rs, ∀ b ∈ x.2.2.2, b < 256) ∧ rs.length ≤ 9223372036854775807 := by
  obtain ⟨a0, len0, cap0, rfl⟩ := okWide_slice Try.underlying23 hv
  obtain ⟨fuel, hf⟩ := h
  rcases open_slice_pairs Try.underlying23 Try.underlying26 cells26 rfl rfl cellsInt cellsBs hf with ⟨hcs, _⟩ | ⟨a, len, cap, m, n, V0, V1, D0, D1, P0, P1, hcs, _, hl, hm, hmm, _, hx⟩
  · simp [Value.cells] at hcs
    obtain ⟨rfl, rfl, rfl⟩ := hcs
    exact ⟨none, 0, [], rfl, .inl rfl, by simp, by simp⟩
  · simp [Value.cells] at hcs
    obtain ⟨rfl, rfl, rfl⟩ := hcs
    have hlm : len0 ≤ m := by rw [hmm]; simp; exact hl
    have each : ∀ i, i < len0 → ∃ x : Rx, W.cell? (a.add (i * 2)) = some (.int .i64 x.1) ∧ W.cell? (a.add (i * 2 + 1)) = some (.slice x.2.1 x.2.2.2.length x.2.2.1) ∧ Rd W W.heap.size x.2.1 x.2.2.2 ∧ ∀ b ∈ x.2.2.2, b < 256 := by
      intro i hi
      obtain ⟨k0, k1, t0, t1⟩ := hx i (by omega)
      obtain ⟨z, e0, _, _⟩ := DataW.trod_int Try.underlying3 t0
      simp at e0
      rw [e0] at k0
      rcases open_ints Try.underlying24 Try.underlying5 cells5 t1 with ⟨hcs, _⟩ | ⟨x, l, c, zs, hcs, _, hl2, hm2, hz, _, hcell, hwz⟩
      · simp at hcs
        rw [hcs] at k1
        exact ⟨(z, none, 0, []), k0, k1, .inl rfl, by simp⟩
      · simp at hcs
        rw [hcs] at k1
        have hzc : zs.length = c := by simpa using hz
        have hbl : ((zs.take l).map Int.toNat).length = l := by rw [List.length_map, List.length_take]; omega
        refine ⟨(z, some x, c, (zs.take l).map Int.toNat), k0, by rw [hbl]; exact k1, ?_, ?_⟩
        · rcases Nat.eq_zero_or_pos l with h0 | h0
          · left; rw [h0]; rfl
          · obtain ⟨b, off, rfl, hc⟩ := ints_at hcell (by omega)
            refine .inr ⟨b, off, rfl, lt_of_cell (hc 0 (by omega)), fun j hj => ?_⟩
            have hjl : j < l := by rw [hbl] at hj; exact hj
            rw [hc j (by omega)]
            have hz0 : zs.getD j 0 = zs[j]'(by omega) := by rw [List.getD_eq_getElem?_getD, List.getElem?_eq_getElem (by omega)]; rfl
            have hw := bounds_u8 (hwz _ (List.getElem_mem (show j < zs.length by omega)))
            have e1 : ((zs.take l).map Int.toNat)[j]?.getD 0 = (zs[j]'(by omega)).toNat := by
              rw [List.getElem?_map, List.getElem?_take_of_lt hjl, List.getElem?_eq_getElem (by omega)]; rfl
            rw [e1, hz0]
            congr 2
            omega
        · intro b hb
          simp only [List.mem_map] at hb
          obtain ⟨z', hz1, rfl⟩ := hb
          have hw := bounds_u8 (hwz z' (List.mem_of_mem_take hz1))
          omega
    obtain ⟨q, hq⟩ := choose_lt each
    have hrl : ((List.range len0).map q).length = len0 := by simp
    unfold maxLen at hm
    refine ⟨some a, cap0, (List.range len0).map q, by rw [hrl], ?_, ?_, by rw [hrl]; omega⟩
    · rcases Nat.eq_zero_or_pos len0 with h0 | h0
      · left; rw [h0]; rfl
      · obtain ⟨b, off, spot⟩ := a
        have hspot : spot = none := by simpa [Addr.add] using World.cell?_spot (hq 0 h0).1
        subst hspot
        refine .inr ⟨b, off, rfl, ?_, fun i x hi => ?_⟩
        · have := (hq 0 h0).1
          exact lt_of_cell (p := ⟨b, off + 0 * 2, none⟩) (by rw [← add_plain]; exact this)
        · rw [List.getElem?_map] at hi
          obtain ⟨j, hj, rfl⟩ := Option.map_eq_some_iff.1 hi
          have hjl : i < len0 := by have := (List.getElem?_eq_some_iff.1 hj).1; simpa using this
          rw [List.getElem?_range hjl] at hj
          cases hj
          obtain ⟨g0, g1, g2, _⟩ := hq i hjl
          rw [add_plain] at g0 g1
          exact ⟨g0, g1, g2⟩
    · intro x hx'
      obtain ⟨i, hi, rfl⟩ := List.mem_map.1 hx'
      exact (hq i (List.mem_range.1 hi)).2.2.2
end Go.Proofs.Ythfjfkbolfnkkaa
