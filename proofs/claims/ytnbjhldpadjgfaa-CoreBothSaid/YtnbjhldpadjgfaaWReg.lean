/- A region that draws its order, inside a round: what is shown of it outside of it, with the cells that it loads held, holds there too, where no operation of it defers. -/
import Derived.Test.YtnbjhldpadjgfaaMem
import Derived.Deep.RegionHeld3
import Derived.OrdersIn
import Derived.RangeFuncCalls
import Derived.OwnWalkIn
import Derived.Stop.RegionWithIn
namespace Go.Proofs.Ytnbjhldpadjgfaa
set_option linter.unusedVariables false
open Go.RowKit

/-- A way out that is no jump. -/
def OnlyN (Q : Exit → Act → World → Prop) : Exit → Act → World → Prop := fun e a w => e = .normal ∧ Q .normal a w
theorem onlyN_out {Q : Exit → Act → World → Prop} : ¬ LetsOut (OnlyN Q) := fun ⟨a, w, h, _⟩ => by cases h
theorem gop_round {n l : Nat} {P : Program} {o : Oper} {a : Act} {w : World} {K : Act → World → Prop} {Q : Exit → Act → World → Prop} (hnd : ∀ c, o.op ≠ .defer c) (h : Oper.wp P o a w K (OnlyN Q)) : Oper.wpIn (Fence.wide.inRound l) n P o a w K Q := by
  refine ⟨fun f _ => trivial, ?_⟩
  rw [Oper.semAt_plain _ _ _ hnd]
  unfold Oper.wp at h
  generalize (execOp a.eval o).run P w = r at *
  cases r with
  | ok x w' =>
    cases x with
    | value v => exact h
    | skip => exact h
    | defer d => exact h
    | enter f args =>
      refine ⟨fun h => (by cases h), (CallsIn.inRound l (callsIn_wide.2 (Calls.mono h (fun e w'' he => ?_))))⟩
      cases e with
      | returned v => exact he
      | panicked c => cases he.1
      | outgrown => exact absurd he onlyN_out
    | row row args => exact ⟨fun q => (by cases q), fun c cs _ => by obtain ⟨v, w2, r, s⟩ := h c cs; exact ⟨v, w2, r, stepsIn_wide.2 s⟩⟩
    | _ => exact h.elim
  | halt x w' =>
    cases x with
    | panic v => cases h.1
    | _ => exact h.elim
theorem gany_round {n l : Nat} {P : Program} {md : Region.Mode} {ops : Array Oper} {Q : Exit → Act → World → Prop} (hnd : ∀ (j : Nat) (o : Oper), ops[j]? = some o → ∀ c, o.op ≠ .defer c) :
    ∀ (fuel : Nat) (listed : Array Bool) (a : Act) (w : World), wpAny P md ops (OnlyN Q) fuel listed a w → wpAnyIn (Fence.wide.inRound l) n P md ops Q fuel listed a w
  | 0, _, _, _, h => ⟨h.1, h.2.2⟩
  | fuel + 1, listed, a, w, h => by
    refine ⟨fun q => (h.1 q).2, fun i hi => ?_⟩
    have h3 := wpOp_mono (fun a w h => gany_round (n := n) (l := l) (Q := Q) hnd fuel _ a w h) (h.2 i hi)
    unfold wpOp at h3
    unfold wpOpIn
    cases ho : ops[i]? with
    | none => simpa [ho] using h3
    | some o =>
      simp only [ho] at h3 ⊢
      split
      · rename_i hw
        simp only [hw, if_true] at h3
        rcases h3 with h3 | h3
        · exact gop_round (hnd i o ho) h3
        · exact absurd h3.2 onlyN_out
      · rename_i hw
        simp only [hw] at h3
        exact ⟨fun f _ => trivial, h3⟩
/-- Does no operation defer? -/
def gnoDef (ops : Array Oper) : Bool := ops.all fun o => match o.op with | .defer _ => false | _ => true
theorem gnoDef_spec {ops : Array Oper} (h : gnoDef ops = true) : ∀ (j : Nat) (o : Oper), ops[j]? = some o → ∀ c, o.op ≠ .defer c := by
  intro j o ho c e
  unfold gnoDef at h
  rw [Array.all_eq_true] at h
  obtain ⟨hj, hjo⟩ := Array.getElem?_eq_some_iff.1 ho
  have := h j hj
  rw [hjo, e] at this
  cases this
/-- The region, inside a round. -/
theorem region_round {n lp id : Nat} {P : Program} {l : List Oper} {Q : Exit → Act → World → Prop} {S : World → Prop} {a : Act} {w : World} (hm : P.follows .mixedOrders = true) (hnd : gnoDef l.toArray = true) (hS : S w.drew)
    (h : S w.drew → wpAnyH P .any l.toArray (OnlyN Q) S l.toArray.size (Array.replicate l.toArray.size false) a w.drew) : (Code.region id l.toArray true).wpIn (Fence.wide.inRound lp) n P Q a w :=
  wpIn_region_any hm (gany_round (gnoDef_spec hnd) _ _ _ _ (wpAny_of_held _ _ _ _ (h hS)))
theorem gof_drop {l : List Oper} {i : Nat} {oi : Oper} {rest : List Oper} (h : l.drop i = oi :: rest) : l.toArray[i]? = some oi := by
  rw [List.getElem?_toArray, ← List.head?_drop, h]; rfl
theorem gheld_val {P : Program} {md : Region.Mode} {l : List Oper} {Q : Exit → Act → World → Prop} {S : World → Prop} {i : Nat} {oi : Oper} {rest : List Oper} {fuel : Nat} {listed : Array Bool} {a : Act} {w : World} (hi : l.drop i = oi :: rest)
    (hs : Region.noSelect l.toArray = true) (hf : Region.free md l.toArray listed i = true) (hr : (Region.ready md l.toArray listed).contains i = true) (hS : S w) (hw : Region.wanted oi (yielded l.toArray a.tmps) = true)
    (h : ∃ v, (∀ w, S w → (execOp a.eval oi).run P w = .ok (.value v) w) ∧ wpAnyH P md l.toArray (OnlyN Q) S fuel (listed.setIfInBounds i true) (a.put oi.dst v) w) : wpAnyH P md l.toArray (OnlyN Q) S (fuel + 1) listed a w :=
  let ⟨v, h1, h2⟩ := h
  wpAnyH_take (gof_drop hi) hs hf hr (fun c a w q => by cases q.1) (.inl ⟨hw, h1⟩) hS h2
end Go.Proofs.Ytnbjhldpadjgfaa
