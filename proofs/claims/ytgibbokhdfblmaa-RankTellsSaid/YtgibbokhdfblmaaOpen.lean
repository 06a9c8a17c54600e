/- What is read of bits, and of lists of numbers, that are handed in. -/
import Derived.Test.YtgibbokhdfblmaaBegun
import Derived.ProofKit
import Derived.OpenShut
import Derived.ShutString
import Derived.ChangeOld
import Derived.Lib.SmallJoins
namespace Go.Proofs.Ytgibbokhdfblmaa
open Go.ChangeShapes Go.WideShapes Go.ChangeAt Go.RowKit Go.Joins

theorem own : ownKnob Try.prog.godebug = none := by kernel_rfl
theorem laidOut : laidOutB Try.prog = true := by kernel_rfl
theorem cells24 : Try.prog.cellsOf 25 = 2 := by kernel_rfl
theorem cells5 : Try.prog.cellsOf 5 = 1 := by kernel_rfl

theorem lt_of_cell {w : World} {p : Addr} {v : Value} (h : w.cell? p = some v) : p.block < w.heap.size := by
  rcases Nat.lt_or_ge p.block w.heap.size with hlt | hge
  · exact hlt
  · simp [World.cell?, Array.getElem?_eq_none hge] at h

set_option maxRecDepth 100000 in
/-- Bits that were handed in. -/
theorem open_bits {H : Type} {enc : TypeId × Value → H} {W : World} {base : Nat} {v : Value} {d : DataW H} {p : List MemPlace}
    (hv : Value.okWide Try.prog W .any base 25 v) (h : DataW.Trod enc Try.prog W 0 (fun _ => true) true 25 v d p) :
    ∃ (len : Int) (A : Option Addr) (c : Nat) (bs : List Nat), v = .agg #[.int .i64 len, .slice A bs.length c] ∧ Rd W W.heap.size A bs ∧ (∀ b ∈ bs, b < 256) ∧ (Lit.int .i64 len).wf = true := by
  obtain ⟨c0, c1, y0, y1, m, rfl, rfl, rfl, hy0, hy1⟩ := open_agg2 Try.underlying25 (by kernel_rfl) cells24 hv h
  obtain ⟨a, e0, rfl, wa⟩ := DataW.trod_int Try.underlying3 hy0
  simp at e0
  subst e0
  rcases open_ints Try.underlying23 Try.underlying5 cells5 hy1 with ⟨hcs, _⟩ | ⟨x, l, c, zs, hcs, _, hl, hm, hz, _, hcell, hwz⟩
  · simp at hcs
    subst hcs
    exact ⟨a, none, 0, [], rfl, .inl rfl, by simp, wa⟩
  · simp at hcs
    subst hcs
    have hzc : zs.length = c := by simpa using hz
    refine ⟨a, some x, c, (zs.take l).map Int.toNat, ?_, ?_, ?_, wa⟩
    · have : ((zs.take l).map Int.toNat).length = l := by rw [List.length_map, List.length_take]; omega
      rw [this]
    · rcases Nat.eq_zero_or_pos l with h0 | h0
      · left; rw [h0]; rfl
      · obtain ⟨b, off, rfl, hc⟩ := ints_at hcell (by omega)
        refine .inr ⟨b, off, rfl, ?_, fun i hi => ?_⟩
        · exact lt_of_cell (hc 0 (by omega))
        · have hil : i < l := by rw [List.length_map, List.length_take] at hi; omega
          rw [hc i (by omega)]
          have hz0 : zs.getD i 0 = zs[i]'(by omega) := by rw [List.getD_eq_getElem?_getD, List.getElem?_eq_getElem (by omega)]; rfl
          have hw := bounds_u8 (hwz _ (List.getElem_mem (show i < zs.length by omega)))
          have e1 : ((zs.take l).map Int.toNat)[i]?.getD 0 = (zs[i]'(by omega)).toNat := by
            rw [List.getElem?_map, List.getElem?_take_of_lt hil, List.getElem?_eq_getElem (by omega)]; rfl
          rw [e1, hz0]
          congr 2
          omega
    · intro b hb
      simp only [List.mem_map] at hb
      obtain ⟨z, hz1, rfl⟩ := hb
      have hw := bounds_u8 (hwz z (List.mem_of_mem_take hz1))
      omega
end Go.Proofs.Ytgibbokhdfblmaa
