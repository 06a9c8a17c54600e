/- What is read of what FANO made, where it is handed in. -/
import Derived.Test.YtkbelhclcpepaaaJY2
import Derived.Test.YtkbelhclcpepaaaJYNOpen
namespace Go.Proofs.Ytkbelhclcpepaaa
open Go.ChangeShapes Go.WideShapes Go.ChangeAt Go.RowKit Go.Joins

theorem cellsF : Try.prog.cellsOf 70 = 7 := by kernel_rfl
theorem array7 {α : Type} {cs : Array α} (h : cs.size = 7) : ∃ c0 c1 c2 c3 c4 c5 c6, cs = #[c0, c1, c2, c3, c4, c5, c6] := by
  obtain ⟨l⟩ := cs
  match l, h with
  | [c0, c1, c2, c3, c4, c5, c6], _ => exact ⟨c0, c1, c2, c3, c4, c5, c6, rfl⟩
set_option maxRecDepth 100000 in
/-- Bits in two cells. -/
theorem bits_two {H : Type} {enc : TypeId × Value → H} {W : World} {n : Nat} {v0 v1 : Value} {y : DataW H × List MemPlace}
    (h : DataW.trod enc Try.prog W 0 (fun _ => true) true n 25 [v0, v1] = some y) :
    ∃ (len : Int) (A : Option Addr) (c : Nat) (bs : List Nat), v0 = .int .i64 len ∧ v1 = .slice A bs.length c ∧ Rd W W.heap.size A bs ∧ (∀ b ∈ bs, b < 256) ∧ (Lit.int .i64 len).wf = true := by
  obtain ⟨y0, y1, m, _, _, hy0, hy1⟩ := trod_struct2 Try.underlying25 h
  have hy0' : DataW.trod enc Try.prog W 0 (fun _ => true) true m 3 [v0] = some y0 := hy0
  have hy1' : DataW.trod enc Try.prog W 0 (fun _ => true) true m 23 [v1] = some y1 := hy1
  obtain ⟨a, e0, _, wa⟩ := DataW.trod_int Try.underlying3 hy0'
  simp at e0
  subst e0
  rcases open_ints Try.underlying23 Try.underlying5 cells5 hy1' with ⟨hcs, _⟩ | ⟨x, l, c, zs, hcs, _, hl, hm, hz, _, hcell, hwz⟩
  · simp at hcs
    subst hcs
    exact ⟨a, none, 0, [], rfl, rfl, .inl rfl, by simp, wa⟩
  · simp at hcs
    subst hcs
    have hzc : zs.length = c := by simpa using hz
    refine ⟨a, some x, c, (zs.take l).map Int.toNat, rfl, ?_, ?_, ?_, wa⟩
    · have : ((zs.take l).map Int.toNat).length = l := by rw [List.length_map, List.length_take]; omega
      rw [this]
    · rcases Nat.eq_zero_or_pos l with h0 | h0
      · left; rw [h0]; rfl
      · obtain ⟨b, off, rfl, hc⟩ := ints_at hcell (by omega)
        refine .inr ⟨b, off, rfl, ?_, fun i hi => ?_⟩
        · exact lt_of_cell (hc 0 (by omega))
        · have hil : i < l := by rw [List.length_map, List.length_take] at hi; omega
          rw [hc i (by omega)]
          have hz0 : zs.getD i 0 = zs[i]'(by omega) := by rw [List.getD_eq_getElem?_getD, List.getElem?_eq_getElem (by omega)]; rfl
          have hw := bounds_u8 (hwz _ (List.getElem_mem (show i < zs.length by omega)))
          have e1 : ((zs.take l).map Int.toNat)[i]?.getD 0 = (zs[i]'(by omega)).toNat := by
            rw [List.getElem?_map, List.getElem?_take_of_lt hil, List.getElem?_eq_getElem (by omega)]; rfl
          rw [e1, hz0]
          congr 2
          omega
    · intro b hb
      simp only [List.mem_map] at hb
      obtain ⟨z, hz1, rfl⟩ := hb
      have hw := bounds_u8 (hwz z (List.mem_of_mem_take hz1))
      omega
set_option maxRecDepth 100000 in
/-- A FANO that was handed in. -/
theorem open_fano {H : Type} {enc : TypeId × Value → H} {W : World} {base : Nat} {v : Value} {d : DataW H} {p : List MemPlace}
    (hv : Value.okWide Try.prog W .any base 70 v) (h : DataW.Trod enc Try.prog W 0 (fun _ => true) true 70 v d p) :
    ∃ (N T k ll : Int) (A1 : Option Addr) (c1 : Nat) (bs1 : List Nat) (lh : Int) (A2 : Option Addr) (c2 : Nat) (bs2 : List Nat), v = .agg #[.int .i64 N, .int .i64 T, .int .i64 k, .int .i64 ll, .slice A1 bs1.length c1, .int .i64 lh, .slice A2 bs2.length c2] ∧
      Rd W W.heap.size A1 bs1 ∧ (∀ b ∈ bs1, b < 256) ∧ Rd W W.heap.size A2 bs2 ∧ (∀ b ∈ bs2, b < 256) ∧ (-9223372036854775808 ≤ N ∧ N ≤ 9223372036854775807) ∧ (-9223372036854775808 ≤ T ∧ T ≤ 9223372036854775807) := by
  obtain ⟨cs, rfl, hsz⟩ := okWide_struct Try.underlying70 hv
  obtain ⟨v0, v1, v2, v3, v4, v5, v6, rfl⟩ := array7 (hsz.trans cellsF)
  obtain ⟨fuel, hf⟩ := h
  obtain ⟨xs, n, _, _, _, hlen, hall⟩ := DataW.trod_struct Try.underlying70 hf
  match xs, hlen with
  | [y0, y1, y2, y3, y4], _ =>
    have h0 : DataW.trod enc Try.prog W 0 (fun _ => true) true n 3 [v0] = some y0 := by simpa [cells3i, cells24, Value.cells] using hall 0 _ rfl
    have h1 : DataW.trod enc Try.prog W 0 (fun _ => true) true n 3 [v1] = some y1 := by simpa [cells3i, cells24, Value.cells] using hall 1 _ rfl
    have h2 : DataW.trod enc Try.prog W 0 (fun _ => true) true n 3 [v2] = some y2 := by simpa [cells3i, cells24, Value.cells] using hall 2 _ rfl
    have h3 : DataW.trod enc Try.prog W 0 (fun _ => true) true n 25 [v3, v4] = some y3 := by simpa [cells3i, cells24, Value.cells] using hall 3 _ rfl
    have h4 : DataW.trod enc Try.prog W 0 (fun _ => true) true n 25 [v5, v6] = some y4 := by simpa [cells3i, cells24, Value.cells] using hall 4 _ rfl
    obtain ⟨a, e0, _, wa⟩ := DataW.trod_int Try.underlying3 h0
    obtain ⟨b, e1, _, wb⟩ := DataW.trod_int Try.underlying3 h1
    obtain ⟨c, e2, _, wc⟩ := DataW.trod_int Try.underlying3 h2
    obtain ⟨ll, A1, c1, bs1, rfl, rfl, r1, b1, _⟩ := bits_two h3
    obtain ⟨lh, A2, c2, bs2, rfl, rfl, r2, b2, _⟩ := bits_two h4
    simp at e0 e1 e2
    subst e0; subst e1; subst e2
    exact ⟨a, b, c, ll, A1, c1, bs1, lh, A2, c2, bs2, rfl, r1, b1, r2, b2, bounds_i64 wa, bounds_i64 wb⟩
end Go.Proofs.Ytkbelhclcpepaaa
