/- Sets of arcs: a map of the call's own, keyed by arcs; each fact with its conditions. -/
import Derived.Test.YtnbjhldpadjgfaaWCol
import Derived.Maps.OwnSet
import Derived.Maps.Range
import Derived.WideKeyElems3
import Derived.DeepKeys4
namespace Go.Proofs.Ytnbjhldpadjgfaa
set_option maxRecDepth 100000
set_option linter.unusedVariables false
open Go.RowKit Go.Shelf
open Go.Maps (Keyed IsMap Tidy)

theorem arc_laid : laidOutB Try.prog = true := by kernel_rfl
theorem arc_row : (36 : TypeId) < Try.prog.types.size := of_decide_eq_true (by kernel_rfl)
theorem arc_wide : (match Try.prog.underlying 36 with | some (.array _ _) | some (.struct _) => true | _ => false) = true := by kernel_rfl
theorem arc_law : Keyed Try.prog 36 := Keyed.of_law (deep_law_laid arc_laid (m := 2) (by omega) arc_row (by kernel_rfl) arc_wide)
theorem arc_cells : Try.prog.cellsOf 36 = 2 := by kernel_rfl
theorem int_cells : Try.prog.cellsOf 3 = 1 := by kernel_rfl
theorem arc_keyType : Try.prog.keyType 36 = true := by kernel_rfl
/-- An arc as a value, and as a key. -/
def vA (a : Ar) : Value := .agg #[.int .i64 (a.1 : Int), .int .i64 (a.2 : Int)]
def klA (a : Ar) : Lit := .string (keyBytes [.int .i64 (a.1 : Int), .int .i64 (a.2 : Int)])
def SmA (a : Ar) : Prop := a.1 < 1000 ∧ a.2 < 1000
theorem key_arc (a : Ar) (h : SmA a) : keyOf Try.prog 36 (vA a) = some (klA a) := by
  obtain ⟨m, hm⟩ : ∃ m, Try.prog.types.size = m + 1 := ⟨Try.prog.types.size - 1, (Nat.succ_pred_eq_of_pos (Nat.lt_of_le_of_lt (Nat.zero_le _) arc_row)).symm⟩
  have w1 : (Lit.int .i64 (a.1 : Int)).wf = true := WalkArith.wf_i64 (by have := h.1; omega)
  have w2 : (Lit.int .i64 (a.2 : Int)).wf = true := WalkArith.wf_i64 (by have := h.2; omega)
  have hf : (vA a).formed Try.prog 36 = true := by simp [vA, Value.formed, Try.underlying36, arc_cells]
  have hl : Try.prog.keyLits (Try.prog.types.size + 1) 36 [.int .i64 (a.1 : Int), .int .i64 (a.2 : Int)] = some [.int .i64 (a.1 : Int), .int .i64 (a.2 : Int)] := by
    rw [hm]
    simp [Program.keyLits, Try.underlying36, Try.underlying3, arc_cells, int_cells, w1, w2]
  unfold keyOf
  rw [Try.underlying36]
  simp only [arc_keyType, hf, Bool.and_self, if_true]
  rw [show (vA a).cells.toList = [.int .i64 (a.1 : Int), .int .i64 (a.2 : Int)] from rfl, hl]
  rfl
theorem vA_inj {a b : Ar} (h : vA a = vA b) : a = b := by
  simp only [vA, Value.agg.injEq] at h
  have h1 := congrArg Array.toList h
  simp at h1
  exact Prod.ext (by have := h1.1; omega) (by have := h1.2; omega)
theorem klA_inj {a b : Ar} (ha : SmA a) (hb : SmA b) (h : klA a = klA b) : a = b := vA_inj (arc_law.inj (key_arc a ha) (by rw [h]; exact key_arc b hb))
theorem klA_key {a : Ar} (ha : SmA a) : WideAt.IsKeyLit (klA a) := arc_law.key (key_arc a ha)

/-- Block b holds a map of the call's own whose keys are just these arcs, with true; at most so many stores have made it. -/
structure ASet (w : World) (b n : Nat) (S : List Ar) : Prop where
  sm : ∀ a ∈ S, SmA a
  nd : S.Nodup
  own : ∃ D : DataW Unit, w.ownsMap Try.prog 36 (plainElem Try.prog 4) b n D ∧ (∀ kl, Maps.has D kl = true ↔ ∃ a ∈ S, kl = klA a) ∧ (∀ a ∈ S, ∀ z, D.atKey (klA a) z = .lit (.bool true)) ∧ Maps.size D = S.length
theorem ASet.made (w : World) : ASet (w.alloc (.map #[] 0)) w.heap.size 0 [] :=
  ⟨by simp, by simp, .map [], World.ownsMap_made w _ _ _, by simp [Maps.has], by simp, rfl⟩
theorem ASet.mono {w : World} {b n m : Nat} {S : List Ar} (h : ASet w b n S) (hm : n ≤ m) : ASet w b m S :=
  ⟨h.sm, h.nd, by obtain ⟨D, h1, h2⟩ := h.own; exact ⟨D, h1.mono hm, h2⟩⟩
theorem ASet.kept {w w' : World} {row : Option Nat} {b n : Nat} {S : List Ar} (h : ASet w b n S) (hg : w.grownBy w' row) (hne : some b ≠ row) : ASet w' b n S :=
  ⟨h.sm, h.nd, by obtain ⟨D, h1, h2⟩ := h.own; exact ⟨D, h1.kept hg hne, h2⟩⟩
theorem ASet.lt {w : World} {b n : Nat} {S : List Ar} (h : ASet w b n S) : b < w.heap.size := by obtain ⟨D, h1, h2⟩ := h.own; exact h1.lt
theorem ASet.block {w : World} {b n : Nat} {S : List Ar} (h : ASet w b n S) : ∃ o : Obj, w.heap[b]? = some o ∧ o.isCells = false := by
  obtain ⟨D, ⟨es, clock, hb, _⟩, h2⟩ := h.own
  exact ⟨_, hb, rfl⟩
theorem ASet.below {w w' : World} {b n B : Nat} {S : List Ar} (h : ASet w b n S) (hb : Below B w w') (hlt : b < B) : ASet w' b n S :=
  ⟨h.sm, h.nd, by
    obtain ⟨D, ⟨es, clock, h0, h1⟩, h2⟩ := h.own
    exact ⟨D, ⟨es, clock, (hb.block b hlt).trans h0, h1⟩, h2⟩⟩
theorem bool_zero (w : World) : (zeroValue 4).run Try.prog w = .ok (.bool false) w := Try.zeroValue4 w
/-- A look-up. -/
theorem ASet.look {w : World} {b n : Nat} {S : List Ar} (h : ASet w b n S) (a : Ar) (ha : SmA a) :
    (Instr.lookup 100 (.map (some b)) (.agg #[.int .i64 (a.1 : Int), .int .i64 (a.2 : Int)]) false).run Try.prog w = .ok (.bool (decide (a ∈ S))) w := by
  obtain ⟨D, h1, h2, h3, h4⟩ := h.own
  obtain ⟨v, ps, hrun, hv⟩ := h1.lookup (t := 100) (e := 4) arc_law Try.underlying100 (bool_zero w) (plainElem_bool Try.underlying4 false) (key_arc a ha)
  have e : D.atKey (klA a) (.lit (.bool false)) = .lit (.bool (decide (a ∈ S))) := by
    by_cases hm : a ∈ S
    · rw [h3 a hm, decide_eq_true hm]
    · have hn : Maps.has D (klA a) = false := by
        rw [Bool.eq_false_iff]
        intro q
        obtain ⟨c, hc, e⟩ := (h2 _).1 q
        exact hm ((klA_inj ha (h.sm c hc) e) ▸ hc)
      rw [Maps.atKey_of_not_has hn, decide_eq_false hm]
  rw [e] at hv
  have hv2 : v = .bool (decide (a ∈ S)) := by
    unfold plainElem at hv
    rw [Try.underlying4] at hv
    cases v <;> simp at hv
    rw [hv.1]
  rw [hv2] at hrun
  exact hrun
/-- A store. -/
theorem ASet.put {w : World} {b n : Nat} {S : List Ar} (h : ASet w b n S) (hn : n < 1000000) (a : Ar) (ha : SmA a) :
    ∃ w', (Instr.mapUpdate 100 (.map (some b)) (.agg #[.int .i64 (a.1 : Int), .int .i64 (a.2 : Int)]) (.bool true)).run Try.prog w = .ok () w' ∧ ASet w' b (n + 1) (ains S a) ∧ w.grownBy w' (some b) := by
  obtain ⟨D, h1, h2, h3, h4⟩ := h.own
  obtain ⟨w', hrun, h5, h6⟩ := h1.update (t := 100) (e := 4) arc_law Try.underlying100 (by unfold maxLen; omega) (key_arc a ha) (plainElem_bool Try.underlying4 true)
  refine ⟨w', hrun, ⟨?_, ains_nodup h.nd a, D.put (klA a) (.lit (.bool true)), h5, ?_, ?_, ?_⟩, h6⟩
  · intro c hc
    rcases (ains_mem S a c).1 hc with q | rfl
    · exact h.sm c q
    · exact ha
  · intro kl
    by_cases hk : kl = klA a
    · subst hk
      rw [Maps.has_put_same h1.isMap (klA_key ha)]
      exact ⟨fun _ => ⟨a, (ains_mem S a a).2 (.inr rfl), rfl⟩, fun _ => rfl⟩
    · rw [Maps.has_put_other hk, h2 kl]
      constructor
      · rintro ⟨c, hc, e⟩; exact ⟨c, (ains_mem S a c).2 (.inl hc), e⟩
      · rintro ⟨c, hc, e⟩
        rcases (ains_mem S a c).1 hc with q | rfl
        · exact ⟨c, q, e⟩
        · exact absurd e hk
  · intro c hc z
    by_cases hca : c = a
    · subst hca; exact Maps.atKey_put_same h1.isMap (klA_key ha) _ _
    · rcases (ains_mem S a c).1 hc with q | q
      · rw [Maps.atKey_put_other (fun e => hca (klA_inj (h.sm c q) ha e))]; exact h3 c q z
      · exact absurd q hca
  · rw [Maps.size_put (h1.tidy arc_law)]
    by_cases hm : a ∈ S
    · rw [(h2 _).2 ⟨a, hm, rfl⟩, if_pos rfl, h4]; unfold ains; rw [if_pos hm]
    · have hnh : Maps.has D (klA a) = false := by
        rw [Bool.eq_false_iff]
        intro q
        obtain ⟨c, hc, e⟩ := (h2 _).1 q
        exact hm ((klA_inj ha (h.sm c hc) e) ▸ hc)
      rw [hnh, if_neg (by simp), h4]; unfold ains; rw [if_neg hm]; simp
theorem ASet.len {w : World} {b n : Nat} {S : List Ar} (h : ASet w b n S) (ty : TypeId) : (Builtin.len_ #[100] ty #[.map (some b)]).run Try.prog w = .ok (.int .i64 (S.length : Int)) w := by
  obtain ⟨D, h1, h2, h3, h4⟩ := h.own
  rw [h1.len Try.underlying100 ty, h4]
end Go.Proofs.Ytnbjhldpadjgfaa
