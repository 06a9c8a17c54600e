/- What slices.AppendSeq makes of the numbers of a run, behind a row of the call's own. -/
import Derived.Test.YthldcdcpflamaaaJGRN1
namespace Go.Proofs.Ythldcdcpflamaaa
set_option linter.unusedVariables false
open Go.RowKit Go.Shelf

attribute [local go_sem] Oper.semAt_some

/-- The blocks that are kept: those below a block, and those of cells that are no whole numbers. -/
def SI (base : Nat) (w : World) (j : Nat) : Prop := (j < base ∨ ∃ cs t fr, w.heap[j]? = some (.cells cs t fr) ∧ t ≠ 3) ∧ j < w.heap.size
theorem si_row {base base2 : Nat} {w X : World} {v : Value} {n : Nat} {xs : List Value} (hb : base ≤ base2) (h : X.ownsRow base2 3 1 v n xs) (hk : ∀ j, SI base w j → X.heap[j]? = w.heap[j]?) : ∀ g, v.ownBlock = some g → ¬ SI base w g := by
  rintro g hg ⟨hj, hlt⟩
  rcases h.2 with ⟨rfl, _⟩ | ⟨g', cap, cur, rfl, hbg, hh, _⟩
  · simp [Value.ownBlock] at hg
  · have : g' = g := by simpa [Value.ownBlock] using hg
    subst this
    rcases hj with h1 | ⟨cs, t, fr, h1, h2⟩
    · omega
    · have := hk g' ⟨.inr ⟨cs, t, fr, h1, h2⟩, hlt⟩
      rw [hh, h1] at this
      simp at this
      exact h2 this.2.1.symm
theorem fr_putD {S : Nat → Prop} {w X : World} (h : Fr S w X) (hS : ∀ k, S k → k < w.heap.size) (D : Nat) (hD : w.heap.size ≤ D) (o : Obj) : Fr S w (X.putObj D o) :=
  ⟨h.os, h.tape, h.output, by simpa using h.size, fun k hk => (World.putObj_heap_other (by have := hS k hk; omega)).trans (h.block k hk), fun k o' ho hc => (World.putObj_heap_other (by have := (Array.getElem?_eq_some_iff.1 ho).1; omega)).trans (h.same k o' ho hc)⟩
/-- The list so far, in its box. -/
def SRow (X : World) (B2 base k : Nat) (xs : List Value) (pre : List Nat) : Prop :=
  ∃ v, Boxed X B2 22 v ∧ X.ownsRow base 3 1 v (k + pre.length) (xs ++ zc (ns pre))
theorem sRow_own (B2 base k : Nat) (xs : List Value) : Own (fun (pre : List Nat) X => SRow X B2 base k xs pre) := by
  rintro pre X Y row ⟨v, hb, ho⟩ hg hr
  refine ⟨v, box_own B2 22 (fun _ : Unit => v) () X Y row hb hg hr, ho.kept hg ?_⟩
  rcases ho.2 with ⟨rfl, _⟩ | ⟨g, cap, cur, rfl, _, hgb, _⟩
  · exact .inl rfl
  · refine .inr fun e' => ?_
    obtain ⟨o, h1, h2⟩ := hr g (by simpa [Value.ownBlock] using e'.symm)
    rw [hgb] at h1; cases h1; cases h2
/-- One number more: behind the append, and behind the store. -/
theorem app_step {w0 w1 X w3 : World} {B2 base k g' cap' : Nat} {Av : Option Addr} {cv : Nat} {xs ys : List Value} {tmp : Obj}
    (hbv : Boxed X B2 22 (.slice Av k cv)) (hrow : X.ownsRow base 3 1 (.slice Av k cv) k xs)
    (hgrow : (X.alloc tmp).grownBy w3 (Value.slice Av k cv).ownBlock) (hown' : w3.ownsRow base 3 1 (.slice (some ⟨g', 0, none⟩) (k + 1) cap') (k + 1) ys)
    (h1 : w0.heap.size ≤ w1.heap.size) (h1b : ∀ j, SI base w0 j → w1.heap[j]? = w0.heap[j]?) (hfr : Fr (SI base w0) w1 X) (hB2 : w0.heap.size ≤ B2) :
    w3.cell? ⟨B2, 0, none⟩ = some (.slice Av k cv) ∧ w3.frozen? ⟨B2, 0, none⟩ = false ∧
    Hid (Boxed (w3.setCell ⟨B2, 0, none⟩ (.slice (some ⟨g', 0, none⟩) (k + 1) cap')) B2 22 (.slice (some ⟨g', 0, none⟩) (k + 1) cap') ∧
      (w3.setCell ⟨B2, 0, none⟩ (.slice (some ⟨g', 0, none⟩) (k + 1) cap')).ownsRow base 3 1 (.slice (some ⟨g', 0, none⟩) (k + 1) cap') (k + 1) ys ∧
      Fr (SI base w0) X (w3.setCell ⟨B2, 0, none⟩ (.slice (some ⟨g', 0, none⟩) (k + 1) cap'))) := by
  have hv1 : Boxed w3 B2 22 (.slice Av k cv) := (hbv.alloc tmp).kept hgrow (hbv.not_row (by decide) hrow)
  have hne : some B2 ≠ (Value.slice (some ⟨g', 0, none⟩) (k + 1) cap').ownBlock := hv1.not_row (by decide) hown'
  refine ⟨hv1.cell, hv1.frozen, hv1.set _, hown'.kept (grownBy_setCell' w3 B2 _) (.inr hne.symm), ?_⟩
  have hlt : ∀ j, SI base w0 j → j < X.heap.size := fun j hj => by have := hj.2; have := hfr.size; omega
  refine (((Fr.refl (SI base w0) X).alloc hlt tmp).grown hgrow (fun j hj => by have := hlt j hj; simp; omega) (fun j hj => si_row (Nat.le_refl _) hrow (fun i hi => (hfr.block i hi).trans (h1b i hi)) j hj) (fun j o hj ho => own_cells (hrow.alloc tmp) j o hj ho)).setCell (p := ⟨B2, 0, none⟩) (fun h => by have := h.2; simp only at this; omega) _

set_option maxRecDepth 100000 in
set_option maxHeartbeats 2000000 in
theorem appseq_in (f m : Nat) (hf : f ≤ 1048576) (hm : m ≤ 300) (Br base : Nat) (v : Value) (k : Nat) (hk : k ≤ 1000000) (xs : List Value) (w : World) (hrow : w.ownsRow base 3 1 v k xs)
    (hBr : w.heap[Br]? = some (.cells #[.int .i64 (f : Int), .int .i64 (m : Int)] 60 (0, 0))) (hbase : base ≤ w.heap.size) :
    Calls Try.prog 64 #[v, .func (.func 84) #[] #[.pointer (some ⟨Br, 0, none⟩)]] w fun e w' => ∃ v', e = .returned v' ∧ w'.ownsRow base 3 1 v' (k + m) (xs ++ zc (ns (List.range' f m))) ∧ Fr (SI base w) w w' := by
  obtain ⟨i0, hi, hz0, hz1, hz2⟩ := info_parts info3
  have hBw : Br < w.heap.size := (Array.getElem?_eq_some_iff.1 hBr).1
  have hQB : SI base w Br := ⟨.inr ⟨_, _, _, hBr, by decide⟩, hBw⟩
  refine (callsIn_wide (n := 4)).1 ?_
  refine callsIn_of_wp_marks Try.func64 rfl trivial ?_ rfl
  simp only [Try.ntmps64, List.size_toArray, List.length_cons, List.length_nil, Nat.reduceAdd, Nat.reduceSub, Array.replicate_succ, Array.replicate_zero, List.push_toArray, List.append_toArray, List.nil_append, List.cons_append]
  obtain ⟨A0, c0, rfl⟩ := own_slice3 hrow
  gi_wp2
  have hnew := World.alloc_heap_new w (.cells #[.slice A0 k c0] 22)
  have hold : ∀ j, SI base w j → (w.alloc (.cells #[.slice A0 k c0] 22)).heap[j]? = w.heap[j]? := fun j hj => Below.heap_alloc _ _ _ hj.2
  have hBr1 := (hold Br hQB).trans hBr
  have hrow1 := hrow.alloc (.cells #[.slice A0 k c0] 22)
  have hs1 : (w.alloc (.cells #[.slice A0 k c0] 22)).heap.size = w.heap.size + 1 := World.size_alloc _ _
  have hfr0 : Fr (SI base w) w (w.alloc (.cells #[.slice A0 k c0] 22)) := (Fr.refl _ _).alloc (fun j hj => hj.2) _
  generalize w.alloc (.cells #[.slice A0 k c0] 22) = w1 at *
  have hvis : ∀ j, SI base w j → j < w1.heap.size := fun j hj => by have := hj.2; omega
  refine wpIn_rangeFunc_ownG rfl (by decide) (gf := 84) (lb := #[.pointer (some ⟨Br, 0, none⟩)]) rfl trivial (enters_of Try.func84 (by kernel_rfl) rfl)
    (nums_stops 3 (by decide) Br (SI base w) f m hf hm hQB w1 (hvis Br hQB) hBr1)
    (fun h k => keepS_t h k) (keepS_b hvis) (Below.refl _ _) (fun _ => rfl)
    (fun pre X => SRow X w.heap.size base k xs pre ∧ (Fr (SI base w) w1 X ∧ w1.heap.size ≤ X.heap.size))
    (fun _ _ _ => False)
    (OwnFrom.and (Own.from (sRow_own w.heap.size base k xs) _) (fr_own _ w1 w1.heap.size (Nat.le_refl _) hvis))
    (fun _ _ _ _ _ hs _ _ => hs)
    ⟨⟨.slice A0 k c0, hnew, by simpa [ns, zc] using hrow1⟩, Fr.refl _ _, Nat.le_refl _⟩
    ?a1 ?assign ?body ?done ?stop
  case assign =>
    intro lp x X K hK
    gi_wp2
    exact hK
  case body =>
    rintro lp pre x X ⟨⟨v, hbv, hrow⟩, hfr, hzz⟩ hlt
    obtain ⟨Av, cv, rfl⟩ := own_slice3 hrow
    have cv1 := hbv.cell
    have fv1 := hbv.frozen
    gi_wp2_with (gi_at_builtin; refine wpListIn_append_own _ rfl _ _ 22 rfl base 3 i0 (.int .i64 0) 1 8 Try.underlying22 hi hz0 hz1 hz2 rfl (by decide) _ _ _ rfl (hrow.alloc _) ⟨X.heap.size, 0, none⟩ 1 1 [.int .i64 (x : Int)] rfl rfl (cell_one_new _ _ _) (by simp [Value.oneCell']) (by unfold maxLen; omega) (by omega) (by simp; omega) ?_; intro v' w3 hown' hgrow _; obtain ⟨g', cap', rfl⟩ := ownsRow_succ hown'; obtain ⟨e1, e2, HE⟩ := app_step hbv hrow hgrow hown' hfr0.size hold hfr (Nat.le_refl _); clear hgrow)
    obtain ⟨E1, E2, E3⟩ := HE.out
    refine ⟨E3.others.from _, ⟨E3.block, E3.size⟩, ⟨⟨_, E1, ?_⟩, hfr.trans E3, Nat.le_trans hzz E3.size⟩⟩
    rw [List.length_append, ns_append, zc_append, ← List.append_assoc]
    exact E2
  case done =>
    rintro D ys X hD rfl ⟨⟨v, hbv, hrow⟩, hfr, hzz⟩ hK
    obtain ⟨Av, cv, rfl⟩ := own_slice3 hrow
    have cv1 := hbv.cell
    have HR3 := Lib.hid (ownsRow_putObj hrow (.deferred none) hK rfl)
    have HF := Lib.hid (hfr0.trans (fr_putD hfr hvis D hD (.deferred none)))
    rw [List.length_range'] at HR3
    simp only [List.length_range'] at cv1
    clear hrow hbv hfr
    gi_wp2
    refine ⟨by simp, .inl ⟨_, _, rfl, run_takeDeferred hK, ?_⟩⟩
    exact ⟨_, results_tmp rfl _ _ _, .slice Av (k + m) cv, rfl, HR3.out, HF.out⟩
  case stop =>
    rintro D cd pre X hD hpre h hK
    exact h.elim
end Go.Proofs.Ythldcdcpflamaaa
