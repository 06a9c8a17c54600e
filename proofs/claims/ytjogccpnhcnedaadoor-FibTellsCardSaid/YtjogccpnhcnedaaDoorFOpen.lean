/- The table of fib, as the program's text lays it; and lists of ints that are handed in. -/
import Derived.Test.YtjogccpnhcnedaaDoorFNum
import Derived.Test.YtjogccpnhcnedaaDoorTie
import Derived.Test.YtjogccpnhcnedaaDoorCards
import Derived.LaidMore
import Derived.Stop.Joined
import Derived.SevenTiedAt
namespace Go.Proofs.YtjogccpnhcnedaaDoor
set_option maxRecDepth 100000
set_option linter.unusedVariables false
open Go.ChangeShapes Go.WideShapes Go.ChangeAt Go.WideMaps Go.WideElems Go.RowKit Go.Joins

/-- What is laid. -/
def flaid : List (String × DataW Unit) := [("lampwright/fib.numbers", Rows.laid_lampwright_fib_numbers)]
theorem fdatum : (Rows.laid_lampwright_fib_numbers : DataW Unit) = .agg (fnums.map fun (n : Nat) => .lit (.int .u64 (n : Int))) := rfl
theorem gNums : Tryd.prog.globalNamed "lampwright/fib.numbers" = some 0 := by kernel_rfl
theorem tNums : (Tryd.prog.globals[0]?).map (·.type) = some 57 := by kernel_rfl
theorem c57 : Tryd.prog.cellsOf 57 = 64 := by kernel_rfl
theorem c22 : Tryd.prog.cellsOf 22 = 1 := by kernel_rfl

/-- The door's own heap meets the condition. -/
theorem door_met (os : Os) (args : Array Value) : laidMetH Tryd.prog flaid ((World.doorLaid Tryd.prog 14 os).forCall (fun _ _ => 0) ⟨#[], args, []⟩).memory :=
  laidMetH_of_parts3 (fuel := 8) (laidMet_of_run' 8 (by kernel_rfl) (by kernel_rfl)) (by kernel_rfl) (by kernel_rfl)

theorem nm_of_laid {W : World} (h : laidMetH Tryd.prog flaid W) : Nm W := by
  rw [MakeChecks.laidMetH_plain _ _ _ (by kernel_rfl)] at h
  obtain ⟨ps, ⟨g0, t0, cs0, f0, p0, q0, hg0, ht0, hv0, hd0, _, _⟩, _, _⟩ := h
  obtain rfl := Option.some.inj (gNums.symm.trans hg0)
  obtain rfl := Option.some.inj (tNums.symm.trans ht0)
  obtain ⟨xs, m1, rfl, hx1, hlen, hn3, hel⟩ := DataW.trod_array Tryd.underlying57 hd0
  intro i hi
  rw [fdatum] at hx1
  simp only [Prod.mk.injEq, DataW.agg.injEq] at hx1
  have h0 := hel i hi
  have hxi : i < xs.length := by omega
  rw [List.getElem?_eq_getElem hxi] at h0
  obtain ⟨k, e1, e2, _⟩ := DataW.trod_int Tryd.underlying22 h0
  have hk : k = (fb i : Int) := by
    have := congrArg (fun l => l[i]?) hx1.1
    simp only [List.getElem?_map] at this
    rw [List.getElem?_eq_getElem hxi, fnums_at ⟨i, hi⟩, e2] at this
    simpa using this.symm
  rw [World.var?_cell hg0 hv0 i]
  rw [c22, Nat.mul_one] at e1
  have h3 : (cs0.toList.drop i).take 1 = [Value.int .u64 k] := e1
  have h4 : cs0.toList[i]? = some (.int .u64 k) := by
    have := congrArg (fun l => l[0]?) h3
    simpa using this
  rw [← hk]
  simpa using h4

theorem cells3 : Tryd.prog.cellsOf 3 = 1 := by kernel_rfl
/-- Ints that were handed in. -/
theorem open_zs {H : Type} {enc : TypeId × Value → H} {W : World} {base : Nat} {v : Value} {d : DataW H} {p : List MemPlace}
    (hv : Value.okWide Tryd.prog W .any base 23 v) (h : DataW.Trod enc Tryd.prog W 0 (fun _ => true) true 23 v d p) :
    ∃ (A : Option Addr) (c : Nat) (l : List Int), v = .slice A l.length c ∧ RdV W W.heap.size A (zc l) ∧ l.length ≤ 9223372036854775807 := by
  obtain ⟨a0, len0, cap0, rfl⟩ := okWide_slice Tryd.underlying23 hv
  obtain ⟨fuel, hf⟩ := h
  rcases open_ints Tryd.underlying23 Tryd.underlying3 cells3 hf with ⟨hcs, _⟩ | ⟨x, l, c, zs, hcs, _, hl, hm, hz, _, hcell, hwz⟩
  · simp [Value.cells] at hcs
    obtain ⟨rfl, rfl, rfl⟩ := hcs
    exact ⟨none, 0, [], rfl, .inl rfl, by simp⟩
  · simp [Value.cells] at hcs
    obtain ⟨rfl, rfl, rfl⟩ := hcs
    have hzc : zs.length = cap0 := by simpa using hz
    have hlen : (zs.take len0).length = len0 := by rw [List.length_take]; omega
    unfold maxLen at hm
    refine ⟨some x, cap0, zs.take len0, by rw [hlen], ?_, by rw [hlen]; omega⟩
    rcases Nat.eq_zero_or_pos len0 with h0 | h0
    · left; rw [h0]; rfl
    · obtain ⟨b, off, rfl, hc⟩ := ints_at hcell (by omega)
      refine .inr ⟨b, off, rfl, lt_of_cell (hc 0 (by omega)), fun i v hi => ?_⟩
      have hil : i < len0 := by
        rcases Nat.lt_or_ge i len0 with h | h
        · exact h
        · rw [List.getElem?_eq_none (by rw [zc_length, hlen]; exact h)] at hi; cases hi
      rw [zc_get _ i (by rw [hlen]; exact hil)] at hi
      cases hi
      rw [hc i (by omega), List.getD_eq_getElem?_getD, List.getElem?_take_of_lt hil]
end Go.Proofs.YtjogccpnhcnedaaDoor
