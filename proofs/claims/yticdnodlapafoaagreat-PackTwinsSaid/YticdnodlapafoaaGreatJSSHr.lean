/- When what was written stands in the bits: plain. -/
import Derived.Test.YticdnodlapafoaaGreatJSSTa
namespace Go.Proofs.YticdnodlapafoaaGreat
set_option maxRecDepth 100000
set_option linter.unusedVariables false
open Go.RowKit Go.Shelf
theorem cutE_pack (L : List Bool) (hL : L.length ≤ 8192) (fr to : Int) : cutE (L.length : Int) (pack L) fr to = if fr < 0 ∨ to < fr ∨ (L.length : Int) < to then 3 else 0 := by
  unfold cutE
  rw [chk_pack L hL]
  simp
theorem stands_res (L : List Bool) (hL : L.length ≤ 8192) (l b : List Bool) (e : Int) (s : Nat) (hs : s ≤ L.length) (hcase : (l.length ≤ 8192 ∧ b = l ∧ e = 0) ∨ (8192 < l.length ∧ e = 8)) (C : List Bool) (er : Int)
    (hC : C = (if cutE (L.length : Int) (pack L) (s : Int) (IntKind.i64.wrap ((s : Int) + (b.length : Int))) = 0 then ((unpack (L.length : Int).toNat (pack L)).drop (s : Int).toNat).take ((IntKind.i64.wrap ((s : Int) + (b.length : Int))).toNat - (s : Int).toNat) else []) ∧ er = cutE (L.length : Int) (pack L) (s : Int) (IntKind.i64.wrap ((s : Int) + (b.length : Int)))) :
    (e = 0 → er = 0 → decide (pack C = pack b) = decide ((L.drop s).take l.length = l)) ∧ (e = 0 → er ≠ 0 → decide ((L.drop s).take l.length = l) = false) ∧ (e ≠ 0 → decide ((L.drop s).take l.length = l) = false) := by
  obtain ⟨hC, he⟩ := hC
  rcases hcase with ⟨hl, rfl, rfl⟩ | ⟨hl, rfl⟩
  · have hw : IntKind.i64.wrap ((s : Int) + (b.length : Int)) = ((s + b.length : Nat) : Int) := by
      rw [← Int.natCast_add]; exact IntWalk.i64_in _ (by omega)
    rw [hw] at hC he
    rw [cutE_pack L hL] at hC he
    refine ⟨fun _ h => ?_, fun _ h => ?_, fun h => absurd rfl h⟩
    · rw [h] at he
      have hle : s + b.length ≤ L.length := by
        by_cases hx : ((s : Int) < 0 ∨ ((s + b.length : Nat) : Int) < (s : Int) ∨ (L.length : Int) < ((s + b.length : Nat) : Int))
        · rw [if_pos hx] at he; cases he
        · omega
      have hx : ¬ ((s : Int) < 0 ∨ ((s + b.length : Nat) : Int) < (s : Int) ∨ (L.length : Int) < ((s + b.length : Nat) : Int)) := by omega
      rw [if_neg hx, if_pos rfl] at hC
      simp only [Int.toNat_natCast, unpack_pack] at hC
      rw [show s + b.length - s = b.length by omega] at hC
      have hlen : C.length = b.length := by rw [hC, List.length_take, List.length_drop]; omega
      rw [← hC]
      by_cases hq : C = b
      · rw [hq]; simp
      · rw [decide_eq_false hq, decide_eq_false (fun h => hq (pack_inj hlen h))]
    · have hx : (L.length : Int) < ((s + b.length : Nat) : Int) := by
        by_cases hx : ((s : Int) < 0 ∨ ((s + b.length : Nat) : Int) < (s : Int) ∨ (L.length : Int) < ((s + b.length : Nat) : Int))
        · omega
        · rw [if_neg hx] at he; exact absurd he h
      refine decide_eq_false (fun hq => ?_)
      have := congrArg List.length hq
      rw [List.length_take, List.length_drop] at this
      omega
  · refine ⟨fun h => absurd h (by decide), fun h => absurd h (by decide), fun _ => decide_eq_false (fun hq => ?_)⟩
    have := congrArg List.length hq
    rw [List.length_take, List.length_drop] at this
    omega
end Go.Proofs.YticdnodlapafoaaGreat
