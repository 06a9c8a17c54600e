/- What All answers: all numbers of bytes from the beginning, for whatever bytes. -/
import Derived.Test.YtjogccpnhcnedaaVVis
import Derived.Test.YtjogccpnhcnedaaVWrite
namespace Go.Proofs.Ytjogccpnhcnedaa
set_option maxRecDepth 100000
set_option linter.unusedVariables false
open Go.RowKit Go.Shelf

attribute [local go_sem] Oper.semAt_some

/-- Numbers and an error come back. -/
def AllP (w : World) (ns : List Nat) (err : Int) (e : Ending) (w' : World) : Prop :=
  ∃ A c, e = .returned (.tuple #[.slice A ns.length c, .int .i64 err]) ∧ (A = none → c = 0) ∧ RdV w' w'.heap.size A (nc ns) ∧ Below w.heap.size w w'

/-- The blocks that All's visit keeps: all that were there, and the box of the bytes. -/
def akept (N : Nat) (k : Nat) : Prop := k < N ∨ k = N + 3
/-- The list so far, in its box. -/
def ARow (X : World) (N : Nat) (ns : List Nat) : Prop :=
  ∃ v, Boxed X (N + 2) 46 v ∧ X.ownsRow (N + 2) 22 1 v ns.length (nc ns)
theorem aRow_own (N : Nat) : Own (fun (pre : List (Nat × Int)) X => ARow X N (pre.map (·.1))) := by
  rintro pre X Y row ⟨v, hb, ho⟩ hg hr
  refine ⟨v, box_own (N + 2) 46 (fun _ : Unit => v) () X Y row hb hg hr, ho.kept hg ?_⟩
  rcases ho.2 with ⟨rfl, _⟩ | ⟨g, cap, cur, rfl, _, hgb, _⟩
  · exact .inl rfl
  · refine .inr fun e' => ?_
    obtain ⟨o, h1, h2⟩ := hr g (by simpa [Value.ownBlock] using e'.symm)
    rw [hgb] at h1; cases h1; cases h2

/-- One number more: behind the append, and behind the store. -/
theorem all_step {X w3 w5 : World} {N k g' cap' : Nat} {Av : Option Addr} {cv : Nat} {xs ys : List Value} {tmp : Obj}
    (hbv : Boxed X (N + 2) 46 (.slice Av k cv)) (hb0 : Boxed X N 46 (.slice none 0 0)) (hb1 : Boxed X (N + 1) 26 (.int .i64 0)) (hrow : X.ownsRow (N + 2) 22 1 (.slice Av k cv) k xs)
    (hgrow : (X.alloc tmp).grownBy w3 (Value.slice Av k cv).ownBlock) (hown' : w3.ownsRow (N + 2) 22 1 (.slice (some ⟨g', 0, none⟩) (k + 1) cap') (k + 1) ys)
    (h3 : ∃ cs, w5.heap[N + 3]? = some (.cells cs 23 (0, 0)))
    (hfr : Fr (akept N) w5 X) (hz : N + 4 ≤ w5.heap.size) (hzz : w5.heap.size ≤ X.heap.size) :
    w3.cell? ⟨N + 2, 0, none⟩ = some (.slice Av k cv) ∧ w3.frozen? ⟨N + 2, 0, none⟩ = false ∧
    Hid (Boxed (w3.setCell ⟨N + 2, 0, none⟩ (.slice (some ⟨g', 0, none⟩) (k + 1) cap')) (N + 2) 46 (.slice (some ⟨g', 0, none⟩) (k + 1) cap') ∧
      (w3.setCell ⟨N + 2, 0, none⟩ (.slice (some ⟨g', 0, none⟩) (k + 1) cap')).ownsRow (N + 2) 22 1 (.slice (some ⟨g', 0, none⟩) (k + 1) cap') (k + 1) ys ∧
      Boxed (w3.setCell ⟨N + 2, 0, none⟩ (.slice (some ⟨g', 0, none⟩) (k + 1) cap')) N 46 (.slice none 0 0) ∧
      Boxed (w3.setCell ⟨N + 2, 0, none⟩ (.slice (some ⟨g', 0, none⟩) (k + 1) cap')) (N + 1) 26 (.int .i64 0) ∧
      Fr (akept N) X (w3.setCell ⟨N + 2, 0, none⟩ (.slice (some ⟨g', 0, none⟩) (k + 1) cap'))) := by
  have hv1 : Boxed w3 (N + 2) 46 (.slice Av k cv) := (hbv.alloc tmp).kept hgrow (hbv.not_row (by decide) hrow)
  have hv0 : Boxed w3 N 46 (.slice none 0 0) := (hb0.alloc tmp).kept hgrow (hb0.not_row (by decide) hrow)
  have hve : Boxed w3 (N + 1) 26 (.int .i64 0) := (hb1.alloc tmp).kept hgrow (hb1.not_row (by decide) hrow)
  have hne : some (N + 2) ≠ (Value.slice (some ⟨g', 0, none⟩) (k + 1) cap').ownBlock := hv1.not_row (by decide) hown'
  refine ⟨hv1.cell, hv1.frozen, hv1.set _, hown'.kept (grownBy_setCell' w3 (N + 2) _) (.inr hne.symm), hv0.other (by omega) _, hve.other (by omega) _, ?_⟩
  have nN : ¬ akept N (N + 2) := by rintro (h | h) <;> omega
  refine (((Fr.refl (akept N) X).alloc ?_ tmp).grown hgrow ?_ ?_ ?_).setCell (p := ⟨N + 2, 0, none⟩) nN _
  · rintro j (h | h) <;> omega
  · rintro j (h | h) <;> simp <;> omega
  · intro j hj hk
    rcases hk with h | h
    · have := (hrow.lt j hj).1; omega
    · obtain ⟨cs, hcs⟩ := h3
      exact row_ne25 ((hfr.block (N + 3) (.inr rfl)).trans hcs) (by decide) hrow j hj h
  · intro j o hj ho
    exact own_cells (hrow.alloc tmp) j o hj ho

theorem all_fail {X w5 : World} {N : Nat} {e : Int} (hb0 : Boxed X N 46 (.slice none 0 0)) (hb1 : Boxed X (N + 1) 26 (.int .i64 0)) :
    Boxed ((X.setCell ⟨N, 0, none⟩ (.slice none 0 0)).setCell ⟨N + 1, 0, none⟩ (.int .i64 e)) N 46 (.slice none 0 0) ∧
    Boxed ((X.setCell ⟨N, 0, none⟩ (.slice none 0 0)).setCell ⟨N + 1, 0, none⟩ (.int .i64 e)) (N + 1) 26 (.int .i64 e) ∧
    Fr (akept N) X ((X.setCell ⟨N, 0, none⟩ (.slice none 0 0)).setCell ⟨N + 1, 0, none⟩ (.int .i64 e)) := by
  have nN : ¬ akept N N := by rintro (h | h) <;> omega
  have nN1 : ¬ akept N (N + 1) := by rintro (h | h) <;> omega
  exact ⟨(hb0.set _).other (by omega) _, ((hb1.other (by omega) _).set _), ((Fr.refl (akept N) X).setCell (p := ⟨N, 0, none⟩) nN _).setCell (p := ⟨N + 1, 0, none⟩) nN1 _⟩

theorem all_last {X : World} {N D k : Nat} {Av : Option Addr} {cv : Nat} {xs : List Value} {e : Int} (hb0 : Boxed X N 46 (.slice none 0 0)) (hb1 : Boxed X (N + 1) 26 (.int .i64 0))
    (hD : N + 2 ≤ D) (hK : X.heap[D]? = some (.deferred (some []))) (hrd : RdV X X.heap.size Av xs) (hne : ∀ b o, Av = some ⟨b, o, none⟩ → N + 2 ≤ b ∧ b ≠ D) :
    ((X.setCell ⟨N, 0, none⟩ (.slice Av k cv)).setCell ⟨N + 1, 0, none⟩ (.int .i64 e)).heap[D]? = some (.deferred (some [])) ∧
    (((X.setCell ⟨N, 0, none⟩ (.slice Av k cv)).setCell ⟨N + 1, 0, none⟩ (.int .i64 e)).putObj D (.deferred none)).cell? ⟨N, 0, none⟩ = some (.slice Av k cv) ∧
    (((X.setCell ⟨N, 0, none⟩ (.slice Av k cv)).setCell ⟨N + 1, 0, none⟩ (.int .i64 e)).putObj D (.deferred none)).cell? ⟨N + 1, 0, none⟩ = some (.int .i64 e) ∧
    RdV (((X.setCell ⟨N, 0, none⟩ (.slice Av k cv)).setCell ⟨N + 1, 0, none⟩ (.int .i64 e)).putObj D (.deferred none)) (((X.setCell ⟨N, 0, none⟩ (.slice Av k cv)).setCell ⟨N + 1, 0, none⟩ (.int .i64 e)).putObj D (.deferred none)).heap.size Av xs ∧
    Below N X (((X.setCell ⟨N, 0, none⟩ (.slice Av k cv)).setCell ⟨N + 1, 0, none⟩ (.int .i64 e)).putObj D (.deferred none)) := by
  have h0 := (hb0.set (.slice Av k cv)).other (B' := N + 1) (by omega) (.int .i64 e)
  have h1 := (hb1.other (B' := N) (by omega) (.slice Av k cv)).set (.int .i64 e)
  have hot : ∀ j, N + 2 ≤ j → ((X.setCell ⟨N, 0, none⟩ (.slice Av k cv)).setCell ⟨N + 1, 0, none⟩ (.int .i64 e)).heap[j]? = X.heap[j]? := fun j hj =>
    (Below.heap_setCell _ _ _ j (by simp; omega)).trans (Below.heap_setCell _ _ _ j (by simp; omega))
  have hz : ((X.setCell ⟨N, 0, none⟩ (.slice Av k cv)).setCell ⟨N + 1, 0, none⟩ (.int .i64 e)).heap.size = X.heap.size := by simp [World.setCell]
  refine ⟨(hot D hD).trans hK, ?_, ?_, ?_, ?_⟩
  · exact box_cell ((World.putObj_heap_other (by omega)).trans h0)
  · exact box_cell ((World.putObj_heap_other (by omega)).trans h1)
  · rcases hrd with h | ⟨b, off, rfl, hb, hc⟩
    · exact .inl h
    · have hn := hne b off rfl
      refine .inr ⟨b, off, rfl, by rw [World.putObj_size, hz]; exact hb, fun i v hv => ?_⟩
      exact (World.cell?_of_block (w := X) (a := ⟨b, off + i, none⟩) ((World.putObj_heap_other hn.2).trans (hot b hn.1))).trans (hc i v hv)
  · have hlo : ∀ j, j < N → ((X.setCell ⟨N, 0, none⟩ (.slice Av k cv)).setCell ⟨N + 1, 0, none⟩ (.int .i64 e)).heap[j]? = X.heap[j]? := fun j hj =>
      (Below.heap_setCell _ _ _ j (by simp; omega)).trans (Below.heap_setCell _ _ _ j (by simp; omega))
    exact ⟨rfl, rfl, rfl, by rw [World.putObj_size, hz]; exact Nat.le_refl _, fun j hj => (World.putObj_heap_other (by omega)).trans (hlo j hj)⟩

set_option maxHeartbeats 2000000 in
theorem all_any (bs : List Nat) (m : Nat) (hm : bs.length = m) (hm2 : m ≤ 9223372036854775807) (hb : ∀ b ∈ bs, b < 256) (A : Option Addr) (c : Nat) (hc : m ≤ c) (w : World) (h : Rd w w.heap.size A bs) (rn : List Nat) (re : Int) (hr : allR bs = (rn, re)) :
    Calls Try.prog 29 #[.slice A m c] w (AllP w rn re) := by
  have hvis0 := vis_all bs hb
  rw [hr] at hvis0
  have hlen : bs.length = m := hm
  rw [hlen] at hvis0
  have HV := Lib.hid hvis0; clear hvis0 hlen hr
  have HR := Lib.hid h; clear h
  have HM := Lib.hid hm; clear hm
  have HBy := Lib.hid hb; clear hb
  obtain ⟨i0, hi, hz0, hz1, hz2⟩ := info_parts info25
  refine (callsIn_wide (n := 4)).1 ?_
  refine callsIn_of_wp_marks Try.func29 rfl trivial ?_ rfl
  simp only [Try.ntmps29, List.size_toArray, List.length_cons, List.length_nil, Nat.reduceAdd, Nat.reduceSub, Array.replicate_succ, Array.replicate_zero, List.push_toArray, List.append_toArray, List.nil_append, List.cons_append]
  gi_wp2_with (refine ⟨trivial, ?_⟩; gi_at_call 63; refine (nums_in 3 _ _ _ _).mono ?_; rintro e w' ⟨rfl, rfl⟩)
  simp only [Nat.add_assoc, Nat.reduceAdd]
  obtain ⟨hz, a0, a1, a2, a3⟩ := four w (.cells #[.slice none 0 0] 46) (.cells #[.int .i64 0] 26) (.cells #[.slice none 0 0] 46) (.cells #[.slice A m c] 23)
  have hlow : Below w.heap.size w ((((w.alloc (.cells #[.slice none 0 0] 46)).alloc (.cells #[.int .i64 0] 26)).alloc (.cells #[.slice none 0 0] 46)).alloc (.cells #[.slice A m c] 23)) := ((up2 w _ _).alloc (by simp only [World.size_alloc]; omega) _).alloc (by simp only [World.size_alloc]; omega) _
  generalize ((((w.alloc (.cells #[.slice none 0 0] 46)).alloc (.cells #[.int .i64 0] 26)).alloc (.cells #[.slice none 0 0] 46)).alloc (.cells #[.slice A m c] 23)) = w5 at *
  have hvis : ∀ k, akept w.heap.size k → k < w5.heap.size := by rintro k (h | h) <;> omega
  refine wpIn_rangeFunc_ownG rfl (by decide) (gf := 74) (lb := #[.pointer (some ⟨w.heap.size + 3, 0, none⟩)]) rfl trivial (enters_of Try.func74 (by kernel_rfl) rfl)
    (nums_stops 3 (by decide) (w.heap.size + 3) w.heap.size m c A (akept w.heap.size) bs HM.out hm2 HBy.out hc (.inr rfl) (fun k hk => .inl (by omega)) w5 hvis (by omega)
      (box_cell a3) (HR.out.below hlow (Nat.le_refl _)))
    (fun h k => keepS_t h k) (keepS_b hvis) (Below.refl _ _) (fun _ => rfl)
    (fun pre X => ((∀ x ∈ pre, x.2 = 0) ∧ ARow X w.heap.size (pre.map (·.1)) ∧ Boxed X w.heap.size 46 (.slice none 0 0) ∧ Boxed X (w.heap.size + 1) 26 (.int .i64 0)) ∧ (Fr (akept w.heap.size) w5 X ∧ w5.heap.size ≤ X.heap.size))
    (fun cd pre X => (cd = .ret ∧ ∃ p0 x, pre = p0 ++ [x] ∧ x.2 ≠ 0 ∧ Boxed X w.heap.size 46 (.slice none 0 0) ∧ Boxed X (w.heap.size + 1) 26 (.int .i64 x.2)) ∧ (Fr (akept w.heap.size) w5 X ∧ w5.heap.size ≤ X.heap.size))
    (OwnFrom.and (Own.from (fun s X Y row hs hg hr => ⟨hs.1, aRow_own _ s X Y row hs.2.1 hg hr, box_own _ 46 (fun _ : List (Nat × Int) => .slice none 0 0) s X Y row hs.2.2.1 hg hr, box_own _ 26 (fun _ : List (Nat × Int) => .int .i64 0) s X Y row hs.2.2.2 hg hr⟩) _) (fr_own _ w5 w5.heap.size (Nat.le_refl _) hvis))
    (fun cd => OwnFrom.and (Own.from (fun s X Y row hs hg hr => by
      obtain ⟨h1, p0, x, h2, h3, h4, h5⟩ := hs
      exact ⟨h1, p0, x, h2, h3, box_own _ 46 (fun _ : List (Nat × Int) => .slice none 0 0) p0 X Y row h4 hg hr, box_own _ 26 (fun _ : List (Nat × Int) => .int .i64 x.2) p0 X Y row h5 hg hr⟩) _) (fr_own _ w5 w5.heap.size (Nat.le_refl _) hvis))
    ⟨⟨fun x hx => (by cases hx), ⟨.slice none 0 0, a2, ⟨rfl, .inl ⟨rfl, rfl⟩⟩⟩, a0, a1⟩, Fr.refl _ _, Nat.le_refl _⟩
    ?a1 ?assign ?body ?done ?stop
  case assign =>
    intro lp x X K hK
    gi_wp2
    exact hK
  case body =>
    rintro lp pre x X ⟨⟨hok, ⟨v, hbv, hrow⟩, hb0, hb1⟩, hfr, hzz⟩ hlt
    obtain ⟨Av, cv, rfl⟩ := own_slice25 hrow
    obtain ⟨xv, xe⟩ := x
    have cv1 := hbv.cell
    have fv1 := hbv.frozen
    have c01 := hb0.cell
    have f01 := hb0.frozen
    have c11 := hb1.cell
    have f11 := hb1.frozen
    by_cases he : xe = 0
    · subst he
      have hlen0 : (pre.map (·.1)).length = pre.length := by simp
      generalize hps : pre.map (·.1) = ps at *
      have HPS := Lib.hid hps; clear hps
      have hpl : ps.length < 5000 := by omega
      clear hlen0
      gi_wp2_with (gi_at_builtin; refine wpListIn_append_own _ rfl _ _ 46 rfl (w.heap.size + 2) 22 i0 (.int .u64 0) 1 8 Try.underlying46 hi hz0 hz1 hz2 rfl (by decide) _ _ _ rfl (hrow.alloc _) ⟨X.heap.size, 0, none⟩ 1 1 [.int .u64 (xv : Int)] rfl rfl (cell_one_new _ _ _) (by simp [Value.oneCell']) (by unfold maxLen; omega) (by omega) (by simp; omega) ?_; intro v' w3 hown' hgrow _; obtain ⟨g', cap', rfl⟩ := ownsRow_succ hown'; obtain ⟨e1, e2, HE⟩ := all_step hbv hb0 hb1 hrow hgrow hown' ⟨_, a3⟩ hfr (by omega) hzz; clear hgrow)
      obtain ⟨E1, E2, E3, E4, E5⟩ := HE.out
      refine ⟨E5.others.from _, ⟨E5.block, E5.size⟩, ⟨?_, ⟨_, E1, ?_⟩, E3, E4⟩, hfr.trans E5, Nat.le_trans hzz E5.size⟩
      · intro x hx
        rcases List.mem_append.1 hx with hx | hx
        · exact hok x hx
        · simp at hx; rw [hx]
      · rw [List.map_append, HPS.out, nc_append, List.length_append]
        exact E2
    · have t1 : (xe != 0) = true := by simpa using he
      have HE := Lib.hid he; clear he
      gi_wp2
      obtain ⟨E1, E2, E3⟩ := all_fail (w5 := w5) (e := xe) hb0 hb1
      exact ⟨E3.others.from _, ⟨rfl, pre, (xv, xe), rfl, HE.out, E1, E2⟩, hfr.trans E3, Nat.le_trans hzz E3.size⟩
  case done =>
    rintro D ys X hD rfl ⟨⟨hok, ⟨v, hbv, hrow⟩, hb0, hb1⟩, hfr, hzz⟩ hK
    obtain ⟨Av, cv, rfl⟩ := own_slice25 hrow
    have HL : Hid (Below w.heap.size w X) := hlow.trans (hfr.below (fun j hj => .inl hj))
    rcases HV.out with ⟨h1, h2⟩ | ⟨pre, e, h1, h2, h3, h4⟩
    · simp only [Prod.mk.injEq] at h2
      obtain ⟨rfl, rfl⟩ := h2
      have HRV := Lib.hid (own_rdv hrow)
      have HNil := Lib.hid (own_none hrow)
      clear h1
      generalize (vis m bs 0).map (·.1) = L at *
      have cv1 := hbv.cell
      have fv1 := hbv.frozen
      have c01 := hb0.cell
      have f01 := hb0.frozen
      have c11 := hb1.cell
      have f11 := hb1.frozen
      have hne : ∀ b o, Av = some ⟨b, o, none⟩ → w.heap.size + 2 ≤ b ∧ b ≠ D := by
        rintro b o rfl
        have hob : (Value.slice (some ⟨b, o, none⟩) L.length cv).ownBlock = some b := rfl
        exact ⟨(hrow.lt b hob).1, fun e => by
          obtain ⟨o', ho', hc'⟩ : ∃ o', X.heap[b]? = some o' ∧ o'.isCells = true := by
            rcases hrow.2 with ⟨h, _⟩ | ⟨g, cap, cur, h, _, hg, _⟩
            · cases h
            · simp only [Value.slice.injEq, Option.some.injEq, Addr.mk.injEq] at h
              obtain ⟨⟨rfl, _, _⟩, _⟩ := h
              exact ⟨_, hg, rfl⟩
          rw [e, hK] at ho'
          cases ho'
          cases hc'⟩
      obtain ⟨k1, k2, k3, k4, k5⟩ := all_last (k := L.length) (cv := cv) (e := 0) hb0 hb1 (by omega) hK HRV.out hne
      have K4 := Lib.hid k4; have K5 := Lib.hid k5; have K1 := Lib.hid k1
      clear k4 k5 k1 hrow hbv hb0 hb1 hok hK hne
      gi_wp2
      refine ⟨by simp, .inl ⟨_, _, rfl, run_takeDeferred K1.out, ?_⟩⟩
      refine ⟨.tuple #[.slice Av L.length cv, .int .i64 0], ?_, Av, cv, rfl, HNil.out, K4.out, HL.out.trans (K5.out)⟩
      simp [results, Try.results29, go_sem, k2, k3]
    · exact absurd (hok (0, e) (by rw [h1]; simp)) h3
  case stop =>
    rintro D cd pre X hD hpre ⟨⟨rfl, p0, x, rfl, hx0, hb0, hb1⟩, hfr, hzz⟩ hK
    have HL : Hid (Below w.heap.size w X) := hlow.trans (hfr.below (fun j hj => .inl hj))
    rcases HV.out with ⟨h1, h2⟩ | ⟨q, e, h1, h2, h3, h4⟩
    · exact absurd (h1 x (hpre.subset (by simp))) hx0
    · have hxe : x = (0, e) := by
        rw [h1] at hpre
        rcases List.prefix_concat_iff.1 (by simpa using hpre) with h | h
        · have := List.append_inj_right' h rfl
          simpa using this
        · exact absurd (h2 x (h.subset (by simp))) hx0
      subst hxe
      simp only [Prod.mk.injEq] at h4
      obtain ⟨rfl, rfl⟩ := h4
      have e0 : (X.putObj D (.deferred none)).cell? ⟨w.heap.size, 0, none⟩ = some (.slice none 0 0) := box_cell ((World.putObj_heap_other (by omega)).trans hb0)
      have e1 : (X.putObj D (.deferred none)).cell? ⟨w.heap.size + 1, 0, none⟩ = some (.int .i64 re) := box_cell ((World.putObj_heap_other (by omega)).trans hb1)
      have HB := Lib.hid (belowK_b (n₀ := w.heap.size) (w := w5) (by omega) X D (.deferred (some [])) (.deferred none) hD hK rfl rfl)
      have HK := Lib.hid hK
      clear hb0 hb1 hpre hx0 h1 h2 h3 hK
      gi_wp2
      refine ⟨by simp, .inl ⟨_, _, rfl, run_takeDeferred HK.out, ?_⟩⟩
      refine ⟨.tuple #[.slice none 0 0, .int .i64 re], ?_, none, 0, rfl, fun _ => rfl, .inl rfl, HL.out.trans HB.out⟩
      simp [results, Try.results29, go_sem, e0, e1]
end Go.Proofs.Ytjogccpnhcnedaa
