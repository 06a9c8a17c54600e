/- What slices.Collect makes of a visit of arcs; and what graph.Arcs answers, for whatever it is handed. -/
import Derived.Test.YtnbjhldpadjgfaaWArc
import Derived.Test.YtnbjhldpadjgfaaRN5
import Derived.RangeFuncNested
import Derived.Maps.OwnIn
namespace Go.Proofs.Ytnbjhldpadjgfaa
set_option linter.unusedVariables false
open Go.RowKit Go.Shelf

attribute [local go_sem] Oper.semAt_some

theorem info_arc : (Try.prog.info? 36).map (fun i => (i.zero, i.size, i.bytes)) = some (some (.agg #[.int .i64 0, .int .i64 0]), 2, 16) := by kernel_rfl
/-- Cells of arcs. -/
def acs (L : List Ar) : List Value := rcs (rz L)
theorem acs_length (L : List Ar) : (acs L).length = L.length * 2 := by unfold acs; rw [rcs_length]; simp [rz]
theorem acs_snoc (L : List Ar) (a : Ar) : acs (L ++ [a]) = acs L ++ [.int .i64 (a.1 : Int), .int .i64 (a.2 : Int)] := by
  unfold acs rz; rw [List.map_append, rcs_append]; rfl
theorem encC_eq (L : List Ar) (x : Ar) : encC L x = #[.agg #[.int .i64 ((clp L x).1 : Int), .int .i64 ((clp L x).2 : Int)]] := rfl
/-- An arc in a block. -/
def ArcAt (W : World) (B : Nat) (a : Ar) : Prop := W.heap[B]? = some (.cells #[.int .i64 (a.1 : Int), .int .i64 (a.2 : Int)] 36 (0, 0))
theorem arcAt_own (B : Nat) (a : Ar) : Own (fun (_ : Unit) W => ArcAt W B a) := fun s X Y row hs hg hr => by
  unfold ArcAt at hs
  show Y.heap[B]? = _
  rw [hg.block B (Array.getElem?_eq_some_iff.1 hs).1 (fun e => by obtain ⟨o, h1, h2⟩ := hr B e.symm; rw [hs] at h1; cases h1; cases h2)]
  exact hs
theorem ArcAt.cells {W : World} {B : Nat} {a : Ar} (h : ArcAt W B a) : W.cell? ⟨B, 0, none⟩ = some (.int .i64 (a.1 : Int)) ∧ W.cell? ⟨B, 1, none⟩ = some (.int .i64 (a.2 : Int)) := ⟨(cell_at h 0).trans rfl, (cell_at h 1).trans rfl⟩

set_option maxRecDepth 100000 in
set_option maxHeartbeats 2000000 in
/-- A visit of arcs, collected. -/
theorem appseqA_in (gf : Nat) (lb : Array Value) (L : List Ar) (hL : L.length ≤ 100000) (w : World) (eg : ∀ args w, (callFunc gf args).run Try.prog w = .ok (.enter gf args) w) (Sp : List Ar → Prop)
    (hseq : ∀ V, Below w.heap.size w V → w.heap.size ≤ V.heap.size → SeqStopsK Fence.wide 3 Try.prog gf lb (encC L) (Below w.heap.size) (fun ys => ys = L) Sp L.length V) :
    Calls Try.prog 75 #[.slice none 0 0, .func (.func gf) #[] lb] w fun e w' => ∃ v, e = .returned v ∧ w'.ownsRow w.heap.size 36 2 v L.length (acs L) ∧ Below w.heap.size w w' := by
  obtain ⟨i0, hi, hz0, hz1, hz2⟩ := info_parts info_arc
  refine (callsIn_wide (n := 4)).1 ?_
  refine callsIn_of_wp_marks Try.func75 rfl trivial ?_ rfl
  simp only [Try.ntmps75, List.size_toArray, List.length_cons, List.length_nil, Nat.reduceAdd, Nat.reduceSub, Array.replicate_succ, Array.replicate_zero, List.push_toArray, List.append_toArray, List.nil_append, List.cons_append]
  gi_wp2
  have hnew := Boxed.new w 30 (.slice none 0 0)
  have hB1 := one_below w (.cells #[.slice none 0 0] 30)
  have hs1 : (w.alloc (.cells #[.slice none 0 0] 30)).heap.size = w.heap.size + 1 := World.size_alloc _ _
  obtain ⟨w1, hw1⟩ : ∃ w1, w1 = w.alloc (.cells #[.slice none 0 0] 30) := ⟨_, rfl⟩
  rw [← hw1] at hnew hB1 hs1 ⊢
  clear hw1
  refine wpIn_rangeFunc_ownH rfl (by decide) (gf := gf) (lb := lb) rfl trivial eg
    (hseq w1 hB1 (by omega)) belowK_t (belowK_b (by omega)) (Below.refl _ _) (fun _ => rfl)
    (fun (pre : List Ar) X => (∃ v, Boxed X w.heap.size 30 v ∧ X.ownsRow w.heap.size 36 2 v pre.length (acs (pre.map (clp L))) ∧ True) ∧ Below w.heap.size w X)
    (fun _ _ _ => False)
    (OwnFrom.and (Own.from (holdsRow_own w.heap.size w.heap.size 30 36 2 (fun (pre : List Ar) => pre.length) (fun (pre : List Ar) => acs (pre.map (clp L))) (fun _ _ => True)) _) (ownFrom_below (by omega) (by omega)))
    (fun _ _ _ _ _ hs _ _ => hs)
    ⟨⟨.slice none 0 0, hnew, ⟨rfl, .inl ⟨rfl, rfl⟩⟩, trivial⟩, hB1⟩
    (fun x a' W => ∃ Bx, w.heap.size < Bx ∧ ArcAt W Bx (clp L x) ∧ a' = { tmps := #[.slice none 0 0, .func (.func gf) #[] lb, .pointer (some ⟨w.heap.size, 0, none⟩), undef, .slice none 0 0, .pointer (some ⟨Bx, 0, none⟩), .func (.func gf) #[] lb, .agg #[.int .i64 ((clp L x).1 : Int), .int .i64 ((clp L x).2 : Int)], undef, undef, undef, undef, undef], defers := [] })
    ?a1 ?assign ?body ?done ?stop
  case a1 => exact fun x a' s X Y row ⟨Bx, h1, h2, h3⟩ hg hr => ⟨Bx, h1, (Own.from (arcAt_own Bx (clp L x)) _) () X Y row h2 hg hr, h3⟩
  case assign =>
    rintro lp pre x X K hI hK
    rw [encC_eq]
    obtain ⟨a, ha⟩ : ∃ a, clp L x = a := ⟨_, rfl⟩
    rw [ha] at hK ⊢
    have HI := Lib.hid hI
    have HK := Lib.hid hK
    clear hI hK ha
    gi_wp2
    refine HK.out _ _ ((KeepsOthers.alloc _ _).from _) ((Below.refl _ X).alloc HI.out.2.size _) ⟨?_, HI.out.2.alloc ?_ _⟩ ⟨X.heap.size, ?_, World.alloc_heap_new X _, rfl⟩
    · obtain ⟨⟨v, hv, hr, -⟩, -⟩ := HI.out
      exact ⟨v, hv.alloc _, hr.alloc _, trivial⟩
    · have := HI.out.2.size; omega
    · obtain ⟨⟨v, hv, hr, -⟩, -⟩ := HI.out
      exact hv.lt
  case body =>
    rintro lp pre x a' X hlp hr ⟨⟨v, hbv, hrow, -⟩, hbel⟩ ⟨Bx, hBx, hA, rfl⟩ hlt
    obtain ⟨Av, cv, rfl⟩ := own_sliceT hrow
    obtain ⟨k0, k1⟩ := hA.cells
    have cv1 := hbv.cell
    have fv1 := hbv.frozen
    have hle : w.heap.size ≤ X.heap.size := Nat.le_trans (by omega) hbel.size
    have hm : pre.length + 1 ≤ 100001 := by omega
    have HL : Hid (acs ((pre ++ [x]).map (clp L)) = acs (pre.map (clp L)) ++ [.int .i64 ((clp L x).1 : Int), .int .i64 ((clp L x).2 : Int)]) := by
      show _ = _
      rw [List.map_append, List.map_cons, List.map_nil, acs_snoc]
    have HB := Lib.hid hbel
    clear hbel hA hr hlt
    generalize clp L x = a at *
    gi_wp2_with (gi_at_builtin; refine wpListIn_append_own _ rfl _ _ 30 rfl w.heap.size 36 i0 (.agg #[.int .i64 0, .int .i64 0]) 2 16 Try.underlying30 hi hz0 hz1 hz2 rfl (by decide) _ _ _ rfl (hrow.alloc _) ⟨X.heap.size, 0, none⟩ 1 1 [.int .i64 (a.1 : Int), .int .i64 (a.2 : Int)] rfl rfl (news_row X [.int .i64 (a.1 : Int), .int .i64 (a.2 : Int)] _) (by simp [Value.oneCell']) (by unfold maxLen; omega) (by omega) (by simp; omega) ?_; intro v' w3 hown' hgrow _; obtain ⟨g', cap', rfl⟩ := ownsRow_succ hown'; obtain ⟨hv1, hv2, hr2, hk2, hb2⟩ := hbv.appended (by decide) hrow hle (Nat.le_refl _) hown' hgrow; have hc1 := hv1.cell; have hf1 := hv1.frozen; have HE := Lib.hid (⟨hv2, hr2, hk2, hb2⟩ : _ ∧ _ ∧ _ ∧ _); clear hgrow hv1 hv2 hr2 hk2 hb2 hown')
    obtain ⟨E1, E2, E3, E4⟩ := HE.out
    refine ⟨E3.from _, E4, ⟨_, E1, ?_, trivial⟩, HB.out.trans E4⟩
    rw [HL.out, List.length_append]
    exact E2
  case done =>
    rintro D ys X hD rfl ⟨⟨v, hbv, hrow, -⟩, hbel⟩ hK
    obtain ⟨Av, cv, rfl⟩ := own_sliceT hrow
    have cv1 := hbv.cell
    rw [clp_map (fun x hx => hx)] at hrow
    have HR3 := Lib.hid (ownsRow_putObj hrow (.deferred none) hK rfl)
    have HF : Hid (Below w.heap.size w (X.putObj D (.deferred none))) := hbel.trans (belowK_b (w := w) (Nat.le_refl _) X D _ _ (by omega) hK rfl rfl)
    clear hrow hbv hbel
    gi_wp2
    refine ⟨by simp, .inl ⟨_, _, rfl, run_takeDeferred hK, ?_⟩⟩
    exact ⟨_, results_tmp rfl _ _ _, .slice Av _ cv, rfl, HR3.out, HF.out⟩
  case stop =>
    rintro D cd pre X hD hpre h hK
    exact h.elim

theorem entersAppA : ∀ args w, (callFunc 75 args).run Try.prog w = .ok (.enter 75 args) w := enters_of Try.func75 (by kernel_rfl) rfl
set_option maxHeartbeats 1000000 in
theorem collectA_in (gf : Nat) (lb : Array Value) (L : List Ar) (hL : L.length ≤ 100000) (w : World) (eg : ∀ args w, (callFunc gf args).run Try.prog w = .ok (.enter gf args) w) (Sp : List Ar → Prop)
    (hseq : ∀ V, Below w.heap.size w V → w.heap.size ≤ V.heap.size → SeqStopsK Fence.wide 3 Try.prog gf lb (encC L) (Below w.heap.size) (fun ys => ys = L) Sp L.length V) :
    Calls Try.prog 39 #[.func (.func gf) #[] lb] w fun e w' => ∃ v, e = .returned v ∧ w'.ownsRow w.heap.size 36 2 v L.length (acs L) ∧ Below w.heap.size w w' := by
  have HA := Lib.hid (appseqA_in gf lb L hL w eg Sp hseq)
  clear hseq eg
  go_enter Try.func39, Try.ntmps39
  go_wp2_with fail
  refine HA.out.mono ?_
  rintro e w1 ⟨v, rfl, hr, hb⟩
  obtain ⟨Av, cv, rfl⟩ := own_sliceT hr
  have HE := Lib.hid (⟨hr, hb⟩ : _ ∧ _)
  clear hr hb
  go_wp2
  go_ret
  exact ⟨_, rfl, HE.out.1, HE.out.2⟩
/-- Arcs and an error come back. -/
def ArcsP (w : World) (L : List Ar) (err : Int) (e : Ending) (w' : World) : Prop :=
  ∃ A c, e = .returned (.tuple #[.slice A L.length c, .int .i64 err]) ∧ (L.length ≤ c ∧ (A = none → c = 0)) ∧ RdV w' w'.heap.size A (acs L) ∧ Below w.heap.size w w'
theorem own_capA {w : World} {base size : Nat} {e : TypeId} {A : Option Addr} {n c : Nat} {vs : List Value} (h : w.ownsRow base e size (.slice A n c) n vs) : n ≤ c ∧ (A = none → c = 0) := by
  rcases h.2 with ⟨h, h2⟩ | ⟨g, cap, cur, h, _, _, h2, _⟩
  · simp only [Value.slice.injEq] at h
    exact ⟨by omega, fun _ => h.2.2⟩
  · simp only [Value.slice.injEq] at h
    exact ⟨by omega, fun hA => by rw [hA] at h; cases h.1⟩
theorem own_rdvA {w : World} {base size : Nat} {e : TypeId} {A : Option Addr} {n c : Nat} {vs : List Value} (h : w.ownsRow base e size (.slice A n c) n vs) : RdV w w.heap.size A vs := by
  rcases h.2 with ⟨_, h0⟩ | ⟨g, cap, cur, he, _, hg, _⟩
  · have := h.1
    rw [h0, Nat.zero_mul] at this
    exact .inl (List.eq_nil_of_length_eq_zero this)
  · simp only [Value.slice.injEq] at he
    obtain ⟨rfl, _, _⟩ := he
    refine .inr ⟨g, 0, rfl, (Array.getElem?_eq_some_iff.1 hg).1, fun i v hi => ?_⟩
    have hh := h.cells (g := g) rfl i v hi
    have ha : (⟨g, 0, none⟩ : Addr).add i = ⟨g, 0 + i, none⟩ := by unfold Addr.add; split <;> simp_all
    rw [ha] at hh
    exact hh
set_option maxHeartbeats 1000000 in
theorem garcs_e (R : List Rw) (N : Nat) (hN : R.length = N) (hN2 : N ≤ 140737488355328) (e0 : Int) (he : grE (gs R) = e0) (h0 : e0 ≠ 0) (A : Option Addr) (c : Nat) (w : World) (h : RdG w w.heap.size A R) :
    Calls Try.prog 16 #[.agg #[.slice A N c]] w (ArcsP w [] e0) := by
  have HC : Hid (∀ V, Below w.heap.size w V → Calls Try.prog 38 #[.agg #[.slice A N c]] V fun e w' => e = .returned (.int .i64 e0) ∧ Below V.heap.size V w') := fun V hV => by
    have := gchk_any R N hN hN2 A c V (h.on hV)
    rwa [he] at this
  have t0 : (e0 == 0) = false := by simpa using h0
  clear he h hN h0
  go_enter Try.func16, Try.ntmps16
  go_wp2_with fail
  refine (HC.out _ (one_below w _)).mono ?_
  rintro e w1 ⟨rfl, b1⟩
  have HB : Hid (Below w.heap.size w w1) := (one_below w _).trans (b1.mono (by simp))
  clear b1
  go_wp2
  go_ret2
  exact ⟨none, 0, rfl, ⟨Nat.le_refl _, fun _ => rfl⟩, .inl rfl, HB.out⟩
set_option maxHeartbeats 1000000 in
theorem garcs_ok (R : List Rw) (g : List (List Nat)) (hg : gs R = g.map ns) (hok : GOk g) (N : Nat) (hN : R.length = N) (h0 : grE (gs R) = 0) (A : Option Addr) (c : Nat) (w : World) (h : RdG w w.heap.size A R) :
    Calls Try.prog 16 #[.agg #[.slice A N c]] w (ArcsP w (arcs 0 g) 0) := by
  have hN1 : N ≤ 100 := by have := hok.nodes; have := congrArg List.length hg; rw [gs_length, List.length_map] at this; omega
  have HC : Hid (∀ V, Below w.heap.size w V → Calls Try.prog 38 #[.agg #[.slice A N c]] V fun e w' => e = .returned (.int .i64 0) ∧ Below V.heap.size V w') := fun V hV => by
    have := gchk_any R N hN (by omega) A c V (h.on hV)
    rwa [h0] at this
  have HH := Lib.hid (⟨hg, hN, h⟩ : gs R = g.map ns ∧ R.length = N ∧ RdG w w.heap.size A R)
  have h600 := hok.many
  clear hg hN h h0 hok
  go_enter Try.func16, Try.ntmps16
  go_wp2_with fail
  have HB0 : Hid (Below w.heap.size w (w.alloc (.cells #[.slice A N c] 24))) := one_below w _
  have HN0 : Hid ((w.alloc (.cells #[.slice A N c] 24)).heap[w.heap.size]? = some (.cells #[.slice A N c] 24 (0, 0))) := World.alloc_heap_new w _
  refine (HC.out _ HB0.out).mono ?_
  rintro e w1 ⟨rfl, b1⟩
  have hz := b1.size
  have HB1 : Hid (Below w.heap.size w w1) := HB0.out.trans (b1.mono (by simp))
  have hn1 := (b1.block _ (by simp)).trans HN0.out
  have kg : w1.cell? ⟨w.heap.size, 0, none⟩ = some (.slice A N c) := (cell_at hn1 _).trans rfl
  clear b1 HB0 HN0 hn1 hz
  go_wp2_with fail
  refine (callsIn_wide.1 (arcsOf_in 3 A N c w1)).mono ?_
  rintro e w2 ⟨rfl, rfl⟩
  have HB2 : Hid (Below w.heap.size w (w1.alloc (.cells #[.slice A N c] 24))) := HB1.out.trans ((one_below w1 _).mono HB1.out.size)
  have hA2 := HH.out.2.2.on HB2.out
  have HA := Lib.hid (collectA_in 76 #[.pointer (some ⟨w1.heap.size, 0, none⟩)] (arcs 0 g) (by omega) (w1.alloc (.cells #[.slice A N c] 24)) entersArcs1 (fun pre => pre <+: arcs 0 g)
    (fun V hV hVs => arcs_stops 3 (by omega) w1.heap.size (w1.alloc (.cells #[.slice A N c] 24)).heap.size N c A R g HH.out.1 HH.out.2.1 hN1 V hVs (by simp) ((hV.block _ (by simp)).trans (World.alloc_heap_new w1 _)) (hA2.below hV (Nat.le_refl _))))
  clear hA2
  go_wp2_with fail
  refine HA.out.mono ?_
  rintro e w3 ⟨v, rfl, hr, hb⟩
  obtain ⟨Av, cv, rfl⟩ := own_sliceT hr
  have HE : Hid (RdV w3 w3.heap.size Av (acs (arcs 0 g)) ∧ ((arcs 0 g).length ≤ cv ∧ (Av = none → cv = 0)) ∧ Below w.heap.size w w3) := ⟨own_rdvA hr, own_capA hr, HB2.out.trans (hb.mono HB2.out.size)⟩
  clear hr hb
  go_wp2
  go_ret2
  exact ⟨Av, cv, rfl, HE.out.2.1, HE.out.1, HE.out.2.2⟩
end Go.Proofs.Ytnbjhldpadjgfaa
