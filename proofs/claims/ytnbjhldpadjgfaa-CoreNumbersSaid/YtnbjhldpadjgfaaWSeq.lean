/- A visit that another visit makes: the one that asks for it tells it, too, that what it laid itself for its own book stays; and a loop over such a visit. -/
import Derived.Test.YtnbjhldpadjgfaaMem
import Derived.RangeFuncNested
import Derived.RangeFuncBound
import Derived.RangeFuncCalls
import Derived.RangeFuncLeaves
import Derived.OwnWalkIn
import Derived.LoopIn
namespace Go.Proofs.Ytnbjhldpadjgfaa
set_option linter.unusedVariables false
open Go.RowKit

/-- Whatever was laid since a block, but cells of a type, stays. -/
def KeepT (T : TypeId) (B : Nat) (W W' : World) : Prop := W.heap.size ≤ W'.heap.size ∧ ∀ (k : Nat) (o : Obj), B ≤ k → W.heap[k]? = some o → (∀ cs fr, o ≠ .cells cs T fr) → W'.heap[k]? = some o
theorem KeepT.refl (T : TypeId) (B : Nat) (W : World) : KeepT T B W W := ⟨Nat.le_refl _, fun _ _ _ h _ => h⟩
theorem KeepT.trans {T : TypeId} {B : Nat} {X Y Z : World} (h : KeepT T B X Y) (k : KeepT T B Y Z) : KeepT T B X Z := ⟨Nat.le_trans h.1 k.1, fun i o hB hi ho => k.2 i o hB (h.2 i o hB hi ho) ho⟩
theorem KeepT.mono {T : TypeId} {B B' : Nat} {W W' : World} (h : KeepT T B W W') (hB : B ≤ B') : KeepT T B' W W' := ⟨h.1, fun k o hk => h.2 k o (by omega)⟩
theorem KeepT.from {T : TypeId} {B : Nat} {W W' : World} (h : KeepT T B W W') : KeepsFrom B W W' := ⟨h.1, fun k o hk h1 h2 => h.2 k o hk h1 (fun cs fr e => by rw [e] at h2; cases h2)⟩
theorem KeepT.put {T : TypeId} {B l : Nat} (W : World) (o : Obj) (hl : l < B) : KeepT T B W (W.putObj l o) :=
  ⟨by simp, fun k o' hk h _ => (World.putObj_heap_other (by omega)).trans h⟩
theorem KeepT.below {T : TypeId} {B : Nat} {W W' : World} (h : Below W.heap.size W W') : KeepT T B W W' := ⟨h.size, fun k o _ h1 _ => (h.block k (Array.getElem?_eq_some_iff.1 h1).1).trans h1⟩
/-- A visit's contract, whose rounds keep whatever was laid since the visit began, but cells of a type. -/
def SeqStrong {α : Type} (T : TypeId) (F : Fence) (n : Nat) (P : Program) (g : Nat) (lb : Array Value) (encs : α → Array Value) (Kp : World → World → Prop) (S Sp : List α → Prop) (N : Nat) (w : World) : Prop :=
  ∀ (l : Nat) (J Jx : List α → World → Prop) (W : World), Below w.heap.size w W → OwnFrom W.heap.size J → OwnFrom W.heap.size Jx →
    (∀ pre x V, J pre V → pre.length < N → YieldAt F (n - 1) P l (encs x) V fun e V' => KeepT T W.heap.size V V' ∧
      ((e = .returned (.bool true) ∧ J (pre ++ [x]) V' ∧ Kp V V') ∨ (e = .returned (.bool false) ∧ Jx (pre ++ [x]) V'))) →
    J [] W →
    CallsIn F n P g (#[.func (.yield l) #[] #[]] ++ lb) W fun e V => (∃ v, e = .returned v) ∧ ((∃ xs, S xs ∧ J xs V) ∨ (∃ pre, Sp pre ∧ Jx pre V))
theorem own_abides {β : Type} {B : Nat} {J : β → World → Prop} (h : OwnFrom B J) : AbidesFrom B J := fun s W W' row hs hg hr => h s W W' row hs hg (fun r e => by obtain ⟨q1, o, q2, q3⟩ := hr r e; exact ⟨q1, o, q2, Obj.not_cells_of_walk q3⟩)
theorem SeqStrong.of_K {α : Type} {T : TypeId} {F : Fence} {n : Nat} {P : Program} {g : Nat} {lb : Array Value} {encs : α → Array Value} {Kp Kq : World → World → Prop} {S Sp : List α → Prop} {N : Nat} {w : World} (hk : ∀ A B, Kq A B → Kp A B)
    (h : SeqStopsK F n P g lb encs Kp S Sp N w) : SeqStrong T F n P g lb encs Kq S Sp N w := fun l J Jx W hW hJ hJx hY h0 =>
  h l J Jx W hW (own_abides hJ) (own_abides hJx) (fun pre x V hj hl => (hY pre x V hj hl).mono fun e V' q => q.2.imp (fun r => ⟨r.1, r.2.1, hk _ _ r.2.2⟩) id) h0
/-- How a round's body ends that never leaves its loop. -/
def postS {α : Type} (T : TypeId) (B : Nat) (Kp : World → World → Prop) (I : List α → World → Prop) (xs : List α) (W : World) : Exit → Act → World → Prop
  | .normal, _, W' => KeepT T B W W' ∧ Kp W W' ∧ I xs W'
  | _, _, _ => False

section
variable {F : Fence} {n : Nat} {P : Program}
set_option maxHeartbeats 1000000 in
/-- A loop over such a visit, which its body never leaves. -/
theorem rangeS {α : Type} {T : TypeId} {g : Operand} {ps : Array Tmp} {assign body : Code} {Q : Exit → Act → World → Prop} {a : Act} {w : World}
    (hro : F.round = none) (h1 : 1 ≤ n) {gf : Nat} {lb : Array Value} (hg : a.eval g = .func (.func gf) #[] lb) (hFg : F.fn gf) (eg : ∀ args w, (callFunc gf args).run P w = .ok (.enter gf args) w)
    {encs : α → Array Value} {Kp : World → World → Prop} {S Sp : List α → Prop} {N : Nat} {w0 : World} (hseq : SeqStrong T F (n - 1) P gf lb encs Kp S Sp N w0)
    (hKt : ∀ {A B C : World}, Kp A B → Kp B C → Kp A C) (hKb : ∀ (W : World) (l : Nat) (o o' : Obj), w.heap.size ≤ l → W.heap[l]? = some o → o.isCells = false → o.isWalk = false → Kp W (W.putObj l o')) (hb0 : Below w0.heap.size w0 w) (hps : ∀ x, (encs x).size = ps.size)
    (I : List α → World → Prop) (hI : OwnFrom w.heap.size I) (h0 : I [] w) (Ax : α → Act → World → Prop) (hAx : ∀ x a', OwnFrom w.heap.size (fun (_ : Unit) W => Ax x a' W))
    (hassign : ∀ (l : Nat) (pre : List α) (x : α) (W : World) (K : Act → World → Prop), I pre W → (∀ a' W', KeepT T w.heap.size W W' → Kp W W' → I pre W' → Ax x a' W' → K a' W') →
      assign.wpIn (F.inRound l) (n - 1 - 1) P (Exit.then K (fun _ _ _ => False)) { tmps := (ps.zip (encs x)).foldl (fun t (p, v) => t.setIfInBounds p v) a.tmps, defers := [] } W)
    (hbody : ∀ (l : Nat) (pre : List α) (x : α) (a' : Act) (W : World), w.heap.size ≤ l → I pre W → Ax x a' W → pre.length < N → body.wpIn (F.inRound l) (n - 1 - 1) P (postS T w.heap.size Kp I (pre ++ [x]) W) a' W)
    (hdone : ∀ (D : Nat) (xs : List α) (W : World), w.heap.size ≤ D → S xs → I xs W → W.heap[D]? = some (.deferred (some [])) → Q .normal { a with defers := { target := .collected D, args := #[] } :: a.defers } W) :
    (Code.rangeFunc g ps assign body).wpIn F n P Q a w := by
  refine wpIn_rangeFunc ?_
  intro fn hfn
  rw [hro]
  -- the book of the loop: its record, and the block for what its rounds defer
  obtain ⟨bk, hbk⟩ : ∃ bk : LoopState → Option Code → Loop, bk = fun s p => { state := s, pending := p, fn, tmps := a.tmps, params := ps, assign, body, defers := w.heap.size } := ⟨_, rfl⟩
  obtain ⟨V, hV⟩ : ∃ V, (w.alloc (.deferred (some []))).alloc (.loop (bk .ready none)) = V := ⟨_, rfl⟩
  have hz : V.heap.size = w.heap.size + 2 := by rw [← hV, World.size_alloc, World.size_alloc]
  have hL : V.heap[w.heap.size + 1]? = some (.loop (bk .ready none)) := by
    have := World.alloc_heap_new (w.alloc (.deferred (some []))) (.loop (bk .ready none))
    rw [World.size_alloc] at this; rw [← hV]; exact this
  have hD : V.heap[w.heap.size]? = some (.deferred (some [])) := by
    rw [← hV, Below.heap_alloc _ _ _ (by rw [World.size_alloc]; omega)]; exact World.alloc_heap_new w _
  have hIV : I [] V := by rw [← hV]; exact hI.alloc _ (hI.alloc _ h0)
  have hbV : Below w0.heap.size w0 V := by rw [← hV]; exact hb0.trans ((((Below.refl _ w).alloc (Nat.le_refl _) _).alloc (by rw [World.size_alloc]; omega) _).mono hb0.size)
  refine ⟨w.heap.size + 1, [{ target := .collected w.heap.size, args := #[] }], V, { target := .fn (.func gf) lb, args := #[.func (.yield (w.heap.size + 1)) #[] #[]] }, V, gf, #[.func (.yield (w.heap.size + 1)) #[] #[]] ++ lb, V, ?_, ?_, ?_, ?_, fun _ => h1, ?_⟩
  · rw [← hV, hbk]; exact run_enterLoop_outer _ _ _ _ _
  · simp only [resolve, hg]; simp [go_sem]
  · intro f' hf'; simp [Target.leads] at hf'; subst hf'; exact hFg
  · simp [invoke, go_sem, eg]
  · refine (hseq (w.heap.size + 1) (fun pre W => I pre W ∧ W.heap[w.heap.size + 1]? = some (.loop (bk .ready none)) ∧ W.heap[w.heap.size]? = some (.deferred (some []))) (fun _ _ => False) V hbV ?_ (fun _ _ _ _ hs => hs.elim) ?_ ⟨hIV, hL, hD⟩).mono ?_
    · intro s A B row hs hg' hr
      have hne : ∀ k, k < V.heap.size → some k ≠ row := fun k hk e => by have := (hr k e.symm).1; omega
      exact ⟨hI s A B row hs.1 hg' (fun r e => ⟨by have := (hr r e).1; omega, (hr r e).2⟩), (hg'.block _ (Array.getElem?_eq_some_iff.1 hs.2.1).1 (hne _ (by omega))).trans hs.2.1, (hg'.block _ (Array.getElem?_eq_some_iff.1 hs.2.2).1 (hne _ (by omega))).trans hs.2.2⟩
    · rintro pre x W ⟨hi, hl, hd⟩ hlen
      have hy := run_yield (P := P) (args := encs x) hl (by rw [hbk]; exact hps x)
      rw [hbk] at hy
      refine ⟨fn, _, assign, body, hy, roundIn_of_wpIn hfn (hassign _ pre x W _ hi fun a' X kf kp hi' hax => ?_)⟩
      clear hy
      have hlX := kf.from.same _ _ (by omega) hl rfl
      have hdX := kf.from.same _ _ (Nat.le_refl _) hd rfl
      have hlt : w.heap.size + 1 < X.heap.size := (Array.getElem?_eq_some_iff.1 hlX).1
      refine ⟨_, run_beginRound hlX (by rw [hbk]), ?_⟩
      obtain ⟨Y, hY⟩ : ∃ Y, X.putObj (w.heap.size + 1) (.loop { bk .ready none with state := .busy }) = Y := ⟨_, rfl⟩
      have hlY : Y.heap[w.heap.size + 1]? = some (.loop { bk .ready none with state := .busy }) := by rw [← hY]; exact World.putObj_heap_same hlt
      have hdY : Y.heap[w.heap.size]? = some (.deferred (some [])) := by rw [← hY]; exact (World.putObj_heap_other (by omega)).trans hdX
      have kpY : Kp X Y := by rw [← hY]; exact hKb _ _ _ _ (by omega) hlX rfl rfl
      have kfY : KeepT T V.heap.size X Y := by rw [← hY]; exact KeepT.put _ _ (by omega)
      have hiY : I pre Y := by rw [← hY]; exact hI.putObj _ hi' (by omega) hlX rfl
      have haY : Ax x a' Y := by rw [← hY]; exact (hAx x a').putObj (s := ()) _ hax (by omega) hlX rfl
      rw [hY]
      refine wpIn_mono (hbody _ pre x a' Y (by omega) hiY haY hlen) ?_
      rintro e a3 Z hp
      cases e with
      | normal =>
        obtain ⟨kfZ, kpZ, hiZ⟩ := hp
        have hlZ := kfZ.from.same _ _ (by omega) hlY rfl
        have hdZ := kfZ.from.same _ _ (Nat.le_refl _) hdY rfl
        have hr := run_endRound (P := P) none hlZ
        rw [hbk] at hr
        refine ⟨_, _, hr, ⟨((kf.mono (by omega)).trans kfY).trans ((kfZ.mono (by omega)).trans (KeepT.put _ _ (by omega))), .inl ⟨rfl, ⟨hI.putObj _ hiZ (by omega) hlZ rfl, ?_, ?_⟩, ?_⟩⟩⟩
        · rw [hbk]; exact World.putObj_heap_same (Array.getElem?_eq_some_iff.1 hlZ).1
        · exact (World.putObj_heap_other (by omega)).trans hdZ
        · exact hKt kp (hKt (hKt kpY kpZ) (hKb _ _ _ _ (by omega) hlZ rfl rfl))
      | ret => exact hp.elim
      | exit id => exact hp.elim
      | goto t => exact hp.elim
      | panic ch => exact hp.elim
      | outgrown => exact hp.elim
    · rintro e Z ⟨⟨v, rfl⟩, (⟨xs, hS, hi, hl, hd⟩ | ⟨pre, _, h⟩)⟩
      · refine ⟨none, _, by have := run_endLoop (P := P) hl (by rw [hbk]; simp); rw [hbk] at this; exact this, hdone _ xs _ (Nat.le_refl _) hS (hI.putObj _ hi (by omega) hl rfl) ((World.putObj_heap_other (by omega)).trans hd)⟩
      · exact h.elim
end
end Go.Proofs.Ytnbjhldpadjgfaa
