/- What graph.Degrees answers, for whatever it is handed. -/
import Derived.Test.YtnbjhldpadjgfaaWBth
namespace Go.Proofs.Ytnbjhldpadjgfaa
set_option maxRecDepth 100000
set_option linter.unusedVariables false
open Go.RowKit Go.Shelf

attribute [local go_sem] Oper.semAt_some

theorem info_intW : (Try.prog.info? 3).map (fun i => (i.zero, i.size, i.bytes)) = some (some (.int .i64 0), 1, 8) := by kernel_rfl
/-- Two lists of numbers and an error come back. -/
def DegP (w : World) (f t : List Nat) (err : Int) (e : Ending) (w' : World) : Prop :=
  ∃ A c A2 c2, e = .returned (.tuple #[.slice A f.length c, .slice A2 t.length c2, .int .i64 err]) ∧ RdV w' w'.heap.size A (zc (ns f)) ∧ RdV w' w'.heap.size A2 (zc (ns t)) ∧ Below w.heap.size w w'
/-- The two lists lie in rows of the call's own. -/
def DegW (w : World) (N : Nat) (f t : List Nat) (e : Ending) (w' : World) : Prop :=
  ∃ b3 b7, e = .returned (.tuple #[.slice (some ⟨b3, 0, none⟩) N N, .slice (some ⟨b7, 0, none⟩) N N, .int .i64 0]) ∧ w'.heap[b3]? = some (.cells (zc (ns f)).toArray 3 (0, 0)) ∧ w'.heap[b7]? = some (.cells (zc (ns t)).toArray 3 (0, 0)) ∧ (w.heap.size ≤ b3 ∧ w.heap.size ≤ b7) ∧ f.length = N ∧ t.length = N ∧ Below w.heap.size w w'
theorem DegW.deg {w : World} {N : Nat} {f t : List Nat} {e : Ending} {w' : World} (h : DegW w N f t e w') : DegP w f t 0 e w' := by
  obtain ⟨b3, b7, h1, h2, h3, _, h5, h6, h7⟩ := h
  refine ⟨some ⟨b3, 0, none⟩, N, some ⟨b7, 0, none⟩, N, by rw [h5, h6]; exact h1, .inr ⟨b3, 0, rfl, (Array.getElem?_eq_some_iff.1 h2).1, fun i v hi => (cell_at h2 _).trans (by rw [Nat.zero_add, List.getElem?_toArray]; exact hi)⟩, .inr ⟨b7, 0, rfl, (Array.getElem?_eq_some_iff.1 h3).1, fun i v hi => (cell_at h3 _).trans (by rw [Nat.zero_add, List.getElem?_toArray]; exact hi)⟩, h7⟩
/-- How many arcs lead from each, and to each. -/
def dFrom (n : Nat) (L : List Ar) : List Nat := (List.range n).map fun i => (tos L i).length
def dTo (n : Nat) (L : List Ar) : List Nat := dFrom n (L.map rev)
set_option maxHeartbeats 1000000 in
theorem gdeg_e (R : List Rw) (N : Nat) (hN : R.length = N) (hN2 : N ≤ 140737488355328) (e0 : Int) (he : grE (gs R) = e0) (h0 : e0 ≠ 0) (A : Option Addr) (c : Nat) (w : World) (h : RdG w w.heap.size A R) :
    Calls Try.prog 47 #[.agg #[.slice A N c]] w (DegP w [] [] e0) := by
  have HC : Hid (∀ V, Below w.heap.size w V → Calls Try.prog 38 #[.agg #[.slice A N c]] V fun e w' => e = .returned (.int .i64 e0) ∧ Below V.heap.size V w') := fun V hV => by
    have := gchk_any R N hN hN2 A c V (h.on hV)
    rwa [he] at this
  have t0 : (e0 == 0) = false := by simpa using h0
  clear he h hN h0
  go_enter Try.func47, Try.ntmps47
  go_wp2_with fail
  refine (HC.out _ (one_below w _)).mono ?_
  rintro e w1 ⟨rfl, b1⟩
  have HB : Hid (Below w.heap.size w w1) := (one_below w _).trans (b1.mono (by simp))
  clear b1
  go_wp2
  go_ret3
  exact ⟨none, 0, none, 0, rfl, .inl rfl, .inl rfl, HB.out⟩
/-- The four blocks that graph.Degrees makes: two lists, and a box for each. -/
structure DS (w1 W : World) (N b3 b7 b8 b9 : Nat) (f t : List Nat) : Prop where
  low : Below w1.heap.size w1 W
  ge : w1.heap.size ≤ b3 ∧ w1.heap.size ≤ b7 ∧ w1.heap.size ≤ b8 ∧ w1.heap.size ≤ b9
  ne : b3 ≠ b7 ∧ b3 ≠ b8 ∧ b3 ≠ b9 ∧ b7 ≠ b8 ∧ b7 ≠ b9 ∧ b8 ≠ b9
  h3 : W.heap[b3]? = some (.cells (zc (ns f)).toArray 3 (0, 0))
  h7 : W.heap[b7]? = some (.cells (zc (ns t)).toArray 3 (0, 0))
  h8 : W.heap[b8]? = some (.cells #[.slice (some ⟨b3, 0, none⟩) N N] 25 (0, 0))
  h9 : W.heap[b9]? = some (.cells #[.slice (some ⟨b7, 0, none⟩) N N] 25 (0, 0))
theorem DS.lt {w1 W : World} {N b3 b7 b8 b9 : Nat} {f t : List Nat} (h : DS w1 W N b3 b7 b8 b9 f t) : b3 < W.heap.size ∧ b7 < W.heap.size ∧ b8 < W.heap.size ∧ b9 < W.heap.size :=
  ⟨(Array.getElem?_eq_some_iff.1 h.h3).1, (Array.getElem?_eq_some_iff.1 h.h7).1, (Array.getElem?_eq_some_iff.1 h.h8).1, (Array.getElem?_eq_some_iff.1 h.h9).1⟩
theorem DS.same {w1 W X : World} {N b3 b7 b8 b9 : Nat} {f t : List Nat} (h : DS w1 W N b3 b7 b8 b9 f t) (hl : Below w1.heap.size w1 X) (hk : ∀ b, b = b3 ∨ b = b7 ∨ b = b8 ∨ b = b9 → X.heap[b]? = W.heap[b]?) : DS w1 X N b3 b7 b8 b9 f t :=
  ⟨hl, h.ge, h.ne, (hk _ (.inl rfl)).trans h.h3, (hk _ (.inr (.inl rfl))).trans h.h7, (hk _ (.inr (.inr (.inl rfl)))).trans h.h8, (hk _ (.inr (.inr (.inr rfl)))).trans h.h9⟩
theorem DS.on {w1 W X : World} {N b3 b7 b8 b9 : Nat} {f t : List Nat} (h : DS w1 W N b3 b7 b8 b9 f t) (hb : Below W.heap.size W X) : DS w1 X N b3 b7 b8 b9 f t :=
  h.same (h.low.trans (hb.mono h.low.size)) (fun b e => hb.block b (by have := h.lt; omega))
theorem DS.grown {w1 W X : World} {N b3 b7 b8 b9 B : Nat} {f t : List Nat} {row : Option Nat} (h : DS w1 W N b3 b7 b8 b9 f t) (hg : W.grownBy X row) (hB : b3 < B ∧ b7 < B ∧ b8 < B ∧ b9 < B) (hr : ∀ r, row = some r → B ≤ r) : DS w1 X N b3 b7 b8 b9 f t :=
  h.same (h.low.grown hg h.low.size (fun k e => by have := hr k e; have := h.ge; omega)) (fun b e => hg.block b (by have := h.lt; omega) (fun q => by have := hr b q.symm; omega))
theorem DS.inc3 {w1 W : World} {N b3 b7 b8 b9 : Nat} {f t : List Nat} (h : DS w1 W N b3 b7 b8 b9 f t) (i x : Nat) : DS w1 (W.setCell ⟨b3, i, none⟩ (.int .i64 (x : Int))) N b3 b7 b8 b9 (f.set i x) t := by
  have hk : ∀ b, b ≠ b3 → (W.setCell ⟨b3, i, none⟩ (.int .i64 (x : Int))).heap[b]? = W.heap[b]? := fun b e => Below.heap_setCell _ _ _ _ e
  obtain ⟨n1, n2, n3, n4, n5, n6⟩ := h.ne
  refine ⟨h.low.setCell (p := ⟨b3, i, none⟩) h.ge.1 _, h.ge, h.ne, ?_, (hk _ (by omega)).trans h.h7, (hk _ (by omega)).trans h.h8, (hk _ (by omega)).trans h.h9⟩
  rw [heap_set_same _ _ _ _ _ _ h.h3, List.setIfInBounds_toArray]
  unfold zc ns
  rw [List.map_set, List.map_set]
theorem DS.inc7 {w1 W : World} {N b3 b7 b8 b9 : Nat} {f t : List Nat} (h : DS w1 W N b3 b7 b8 b9 f t) (i x : Nat) : DS w1 (W.setCell ⟨b7, i, none⟩ (.int .i64 (x : Int))) N b3 b7 b8 b9 f (t.set i x) := by
  have hk : ∀ b, b ≠ b7 → (W.setCell ⟨b7, i, none⟩ (.int .i64 (x : Int))).heap[b]? = W.heap[b]? := fun b e => Below.heap_setCell _ _ _ _ e
  obtain ⟨n1, n2, n3, n4, n5, n6⟩ := h.ne
  refine ⟨h.low.setCell (p := ⟨b7, i, none⟩) h.ge.2.1 _, h.ge, h.ne, (hk _ (by omega)).trans h.h3, ?_, (hk _ (by omega)).trans h.h8, (hk _ (by omega)).trans h.h9⟩
  rw [heap_set_same _ _ _ _ _ _ h.h7, List.setIfInBounds_toArray]
  unfold zc ns
  rw [List.map_set, List.map_set]
theorem zc_getN (l : List Nat) (i x : Nat) (h : l[i]? = some x) : (zc (ns l))[i]? = some (.int .i64 (x : Int)) := by
  unfold zc ns
  rw [List.getElem?_map, List.getElem?_map, h]; rfl
theorem DS.cells {w1 W : World} {N b3 b7 b8 b9 : Nat} {f t : List Nat} (h : DS w1 W N b3 b7 b8 b9 f t) (i x j y : Nat) (hi : f[i]? = some x) (hj : t[j]? = some y) :
    W.cell? ⟨b3, 0 + i, none⟩ = some (.int .i64 (x : Int)) ∧ W.frozen? ⟨b3, 0 + i, none⟩ = false ∧ W.cell? ⟨b7, 0 + j, none⟩ = some (.int .i64 (y : Int)) ∧ W.frozen? ⟨b7, 0 + j, none⟩ = false ∧ W.cell? ⟨b8, 0, none⟩ = some (.slice (some ⟨b3, 0, none⟩) N N) ∧ W.cell? ⟨b9, 0, none⟩ = some (.slice (some ⟨b7, 0, none⟩) N N) := by
  refine ⟨(cell_at h.h3 _).trans ?_, frz_at h.h3 _, (cell_at h.h7 _).trans ?_, frz_at h.h7 _, (cell_at h.h8 0).trans rfl, (cell_at h.h9 0).trans rfl⟩
  · rw [Nat.zero_add, List.getElem?_toArray]; exact zc_getN _ _ _ hi
  · rw [Nat.zero_add, List.getElem?_toArray]; exact zc_getN _ _ _ hj
theorem dFrom_length (n : Nat) (L : List Ar) : (dFrom n L).length = n := by simp [dFrom]
theorem dFrom_get (n : Nat) (L : List Ar) (i : Nat) (h : i < n) : (dFrom n L)[i]? = some (tos L i).length := by
  unfold dFrom; rw [List.getElem?_map, List.getElem?_range h]; rfl
theorem dFrom_snoc (n : Nat) (L : List Ar) (a : Ar) (h : a.1 < n) : dFrom n (L ++ [a]) = (dFrom n L).set a.1 ((tos L a.1).length + 1) := by
  apply List.ext_getElem?
  intro i
  by_cases hi : i < n
  · rw [dFrom_get n _ i hi, List.getElem?_set, dFrom_length, dFrom_get n L i hi, tos_snoc]
    by_cases e : a.1 = i
    · subst e; simp [hi]
    · simp [e]
  · rw [List.getElem?_eq_none (by rw [dFrom_length]; omega), List.getElem?_eq_none (by rw [List.length_set, dFrom_length]; omega)]
theorem dFrom_nil (n : Nat) : zc (ns (dFrom n [])) = (madeCells #[Value.int .i64 0] n).toList := by
  rw [toList_madeCells_one]
  unfold zc ns dFrom
  simp [tos, List.map_const']
theorem OnlyN.imp {Q : Exit → Act → World → Prop} : ∀ (e : Exit) (a : Act) (w : World), OnlyN Q e a w → Q e a w := fun e a w h => by obtain ⟨rfl, h⟩ := h; exact h
set_option maxHeartbeats 4000000 in
theorem gdeg_okW (R : List Rw) (g : List (List Nat)) (hg : gs R = g.map ns) (hok : GOk g) (N : Nat) (hN : R.length = N) (A : Option Addr) (c : Nat) (w : World) (h : RdG w w.heap.size A R) :
    Calls Try.prog 47 #[.agg #[.slice A N c]] w (DegW w N (dFrom N (arcs 0 g)) (dTo N (arcs 0 g))) := by
  have hgl : g.length = N := by have := congrArg List.length hg; rw [gs_length, List.length_map] at this; omega
  have hN1 : N ≤ 100 := by have := hok.nodes; omega
  have h600 := hok.many
  have HC : Hid (∀ V, Below w.heap.size w V → Calls Try.prog 38 #[.agg #[.slice A N c]] V fun e w' => e = .returned (.int .i64 0) ∧ Below V.heap.size V w') := fun V hV => by
    have := gchk_any R N hN (by omega) A c V (h.on hV)
    rwa [hg, grE_ok g hok] at this
  obtain ⟨DF, hDF⟩ : ∃ x, dFrom N (arcs 0 g) = x := ⟨_, rfl⟩
  obtain ⟨DT, hDT⟩ : ∃ x, dTo N (arcs 0 g) = x := ⟨_, rfl⟩
  rw [hDF, hDT]
  have HH := Lib.hid (⟨hg, hok, hN, hgl, h⟩ : gs R = g.map ns ∧ GOk g ∧ R.length = N ∧ g.length = N ∧ RdG w w.heap.size A R)
  have HD := Lib.hid (⟨hDF, hDT⟩ : _ ∧ _)
  have HB0 : Hid (Below w.heap.size w (w.alloc (.cells #[.slice A N c] 24))) := one_below w _
  have HN0 : Hid ((w.alloc (.cells #[.slice A N c] 24)).heap[w.heap.size]? = some (.cells #[.slice A N c] 24 (0, 0))) := World.alloc_heap_new w _
  clear hg hok hN hgl h hDF hDT
  refine (callsIn_wide (n := 5)).1 ?_
  refine callsIn_of_wp_marks Try.func47 rfl trivial ?_ rfl
  simp only [Try.ntmps47, List.size_toArray, List.length_cons, List.length_nil, Nat.reduceAdd, Nat.reduceSub, Array.replicate_succ, Array.replicate_zero, List.push_toArray, List.append_toArray, List.nil_append, List.cons_append]
  gi_wp2_with fail
  refine ⟨trivial, ?_⟩
  refine (callsIn_wide.2 (HC.out _ HB0.out)).mono ?_
  rintro e w1 ⟨rfl, b1⟩
  have HB1 : Hid (Below w.heap.size w w1) := HB0.out.trans (b1.mono (by simp))
  have HN1 : Hid (w1.heap[w.heap.size]? = some (.cells #[.slice A N c] 24 (0, 0))) := (b1.block _ (by simp)).trans HN0.out
  have kg : w1.cell? ⟨w.heap.size, 0, none⟩ = some (.slice A N c) := (cell_at HN1.out _).trans rfl
  have hzw := (Array.getElem?_eq_some_iff.1 HN1.out).1
  clear b1 HB0 HN0
  gi_wp2_with fail
  refine wpIn_wide.2 ?_
  generalize hQ : Exit.then _ (bodyPostM _ _ _ _ _) = Q
  have HRest : Hid (∀ (W : World) (b3 b7 b8 b9 : Nat), DS w1 W N b3 b7 b8 b9 (dFrom N []) (dFrom N []) → Q .normal { tmps := #[.agg #[.slice A N c], .pointer (some ⟨w.heap.size, 0, none⟩), .slice none 0 0, .slice none 0 0, .int .i64 0, .int .i64 0, .pointer (some ⟨b8, 0, none⟩), .pointer (some ⟨b9, 0, none⟩), undef, .agg #[.slice A N c], .int .i64 0, .int .i64 0, .bool false, undef, .pointer (some ⟨w.heap.size, 0, none⟩), .slice A N c, .int .i64 (N : Int), .slice (some ⟨b3, 0, none⟩) N N, .pointer (some ⟨w.heap.size, 0, none⟩), .slice A N c, .int .i64 (N : Int), .slice (some ⟨b7, 0, none⟩) N N, undef, undef, undef, undef, undef, undef, undef, undef, undef, undef, undef, undef, undef, undef, undef, undef, undef, undef, undef], defers := [] } W) := by
    rintro W b3 b7 b8 b9 hD
    rw [← hQ]
    clear hQ
    obtain ⟨L, hL⟩ : ∃ L, arcs 0 g = L := ⟨_, rfl⟩
    have HLe := Lib.hid hL
    have h6 : L.length ≤ 600 := hL ▸ h600
    have HBd : Hid (∀ a ∈ L, a.1 < N ∧ a.2 < N) := fun a ha => by
      have := arcs_bd HH.out.2.1 a (hL ▸ ha)
      rwa [HH.out.2.2.2.1] at this
    have kg2 : W.cell? ⟨w.heap.size, 0, none⟩ = some (.slice A N c) := (hD.low.cell hzw).trans kg
    obtain ⟨V3, hV3⟩ : ∃ V, W.alloc (.cells #[.slice A N c] 24) = V := ⟨_, rfl⟩
    have hD3 : DS w1 V3 N b3 b7 b8 b9 (dFrom N []) (dFrom N []) := hV3 ▸ hD.on (one_below W _)
    have hgb : V3.heap[W.heap.size]? = some (.cells #[.slice A N c] 24 (0, 0)) := hV3 ▸ World.alloc_heap_new W _
    have hbl := hD3.lt
    have hbg := hD3.ge
    have hbn := hD3.ne
    have hls := hD3.low.size
    have hseqL := arcsB_stops 4 (by omega) W.heap.size w1.heap.size N c A R g HH.out.1 HH.out.2.2.1 (by omega) V3 hls hgb ((HH.out.2.2.2.2.below HB1.out HB1.out.size).below hD3.low (Nat.le_refl _))
    rw [hL] at hseqL
    have HD3 := Lib.hid hD3
    have HV3 := Lib.hid hV3
    clear hV3 hD3 hD hgb hL h600
    gi_wp2_with fail
    refine ⟨trivial, ?_⟩
    refine (arcsOf_in 4 A N c W).mono ?_
    rintro e w2 ⟨rfl, rfl⟩
    rw [HV3.out]
    gi_wp2
    refine wpIn_rangeFunc_ownH rfl (by decide) (gf := 76) (lb := #[.pointer (some ⟨W.heap.size, 0, none⟩)]) rfl trivial entersArcs1
      hseqL belowK_t (belowK_b hls) (Below.refl _ _) (fun _ => rfl)
      (fun (pre : List Ar) X => DS w1 X N b3 b7 b8 b9 (dFrom N (pre.map (clp L))) (dFrom N ((pre.map (clp L)).map rev)))
      (fun _ _ _ => False)
      (fun pre X Y row h hg hr => h.grown hg hbl (fun r e => (hr r e).1))
      (fun _ _ _ _ _ hs _ _ => hs)
      HD3.out
      (fun x a' X => ∃ Bx, Bx ≠ b3 ∧ ArcAt X Bx (clp L x) ∧ a' = { tmps := #[.agg #[.slice A N c], .pointer (some ⟨w.heap.size, 0, none⟩), .slice none 0 0, .slice none 0 0, .int .i64 0, .int .i64 0, .pointer (some ⟨b8, 0, none⟩), .pointer (some ⟨b9, 0, none⟩), .pointer (some ⟨Bx, 0, none⟩), .agg #[.slice A N c], .int .i64 0, .int .i64 0, .bool false, undef, .pointer (some ⟨w.heap.size, 0, none⟩), .slice A N c, .int .i64 (N : Int), .slice (some ⟨b3, 0, none⟩) N N, .pointer (some ⟨w.heap.size, 0, none⟩), .slice A N c, .int .i64 (N : Int), .slice (some ⟨b7, 0, none⟩) N N, .agg #[.slice A N c], .func (.func 76) #[] #[.pointer (some ⟨W.heap.size, 0, none⟩)], .agg #[.int .i64 ((clp L x).1 : Int), .int .i64 ((clp L x).2 : Int)], undef, undef, undef, undef, undef, undef, undef, undef, undef, undef, undef, undef, undef, undef, undef, undef], defers := [] })
      ?a1 ?assign ?body ?done ?stop
    case a1 => exact fun x a' s X Y row ⟨Bx, h1, h2, h3⟩ hg hr => ⟨Bx, h1, (Own.from (arcAt_own Bx (clp L x)) _) () X Y row h2 hg hr, h3⟩
    case assign =>
      rintro lp pre x X K hI hK
      rw [encC_eq]
      obtain ⟨a, ha⟩ : ∃ a, clp L x = a := ⟨_, rfl⟩
      rw [ha] at hK ⊢
      have HI := Lib.hid hI
      have HK := Lib.hid hK
      clear hI hK ha
      gi_wp2
      refine HK.out _ _ ((KeepsOthers.alloc _ _).from _) ((Below.refl _ X).alloc (by have := HI.out.low.size; omega) _) (HI.out.on (one_below X _)) ⟨X.heap.size, ?_, World.alloc_heap_new X _, rfl⟩
      have := HI.out.lt
      omega
    case body =>
      rintro lp pre x a' X hlp hr hI ⟨Bx, hBxn, hA, rfl⟩ hlt
      obtain ⟨ha1, ha2⟩ := HBd.out _ (clp_in (L := L) (by omega) x)
      have hst : (pre ++ [x]).map (clp L) = pre.map (clp L) ++ [clp L x] := by simp
      have hml : (pre.map (clp L)).length ≤ 600 := by rw [List.length_map]; omega
      generalize pre.map (clp L) = M at *
      generalize clp L x = a at *
      obtain ⟨p, hp⟩ : ∃ p, (tos M a.1).length = p := ⟨_, rfl⟩
      obtain ⟨q, hq⟩ : ∃ q, (tos (M.map rev) a.2).length = q := ⟨_, rfl⟩
      have hp6 : p ≤ 600 := by have := tos_length M a.1; omega
      have hq6 : q ≤ 600 := by have := tos_length (M.map rev) a.2; rw [List.length_map] at this; omega
      obtain ⟨k0, k1⟩ := hA.cells
      obtain ⟨c1, c2, c3, c4, c5, c6⟩ := hI.cells a.1 p a.2 q (by rw [dFrom_get _ _ _ ha1, hp]) (by rw [dFrom_get _ _ _ ha2, hq])
      have hI1 := hI.inc3 a.1 (p + 1)
      obtain ⟨-, -, d3, d4, -, d6⟩ := hI1.cells a.1 (p + 1) a.2 q (by rw [List.getElem?_set]; simp [dFrom_length, ha1]) (by rw [dFrom_get _ _ _ ha2, hq])
      have hI2 := hI1.inc7 a.2 (q + 1)
      have d1 : (X.setCell ⟨b3, a.1, none⟩ (.int .i64 ((p + 1 : Nat) : Int))).cell? ⟨Bx, 1, none⟩ = some (.int .i64 (a.2 : Int)) := (World.cell?_of_block (Below.heap_setCell _ _ _ _ hBxn)).trans k1
      have e1 : ((p + 1 : Nat) : Int) = (p : Int) + 1 := by omega
      have e2 : ((q + 1 : Nat) : Int) = (q : Int) + 1 := by omega
      rw [e1] at d1 d3 d4 d6
      rw [Nat.zero_add] at c1 c2 c3 c4 d3 d4
      have HEnd : Hid (DS w1 ((X.setCell ⟨b3, a.1, none⟩ (.int .i64 ((p : Int) + 1))).setCell ⟨b7, a.2, none⟩ (.int .i64 ((q : Int) + 1))) N b3 b7 b8 b9 (dFrom N ((pre ++ [x]).map (clp L))) (dFrom N (((pre ++ [x]).map (clp L)).map rev))) := by
        show DS _ _ _ _ _ _ _ _ _
        rw [hst, List.map_append, dFrom_snoc N M a ha1, List.map_cons, List.map_nil, dFrom_snoc N (M.map rev) (rev a) ha2, hp]
        rw [e1, e2] at hI2
        show DS _ _ _ _ _ _ _ _ ((dFrom N (M.map rev)).set a.2 ((tos (M.map rev) a.2).length + 1))
        rw [hq]
        exact hI2
      have t1 : (0 : Int) ≤ (a.1 : Int) := by omega
      have t2 : (a.1 : Int) < (N : Int) := by omega
      have t3 : (0 : Int) ≤ (a.2 : Int) := by omega
      have t4 : (a.2 : Int) < (N : Int) := by omega
      have w1' : IntKind.i64.wrap ((p : Int) + 1) = (p : Int) + 1 := IntWalk.i64_in _ (by omega)
      have w2' : IntKind.i64.wrap ((q : Int) + 1) = (q : Int) + 1 := IntWalk.i64_in _ (by omega)
      have hle := hI.low.size
      have hbX := hI.lt
      clear hI hI1 hI2 hA hst hp hq e1 e2
      gi_wp2
      refine ⟨((KeepsOthers.setCell _ _ _).trans (KeepsOthers.setCell _ _ _)).from _, ((Below.refl _ X).setCell (p := ⟨b3, a.1, none⟩) hbg.1 _).setCell (p := ⟨b7, a.2, none⟩) hbg.2.1 _, HEnd.out⟩
    case done =>
      rintro D ys X hD hys hI hK
      rw [hys, clp_map (fun x hx => hx)] at hI
      have k8 : X.cell? ⟨b8, 0, none⟩ = some (.slice (some ⟨b3, 0, none⟩) N N) := (cell_at hI.h8 0).trans rfl
      have k9 : X.cell? ⟨b9, 0, none⟩ = some (.slice (some ⟨b7, 0, none⟩) N N) := (cell_at hI.h9 0).trans rfl
      have HI := Lib.hid hI
      have HKD := Lib.hid hK
      clear hI hK hys
      gi_wp2_with fail
      refine wpIn_wide.2 ?_
      go_region_held3 (fun w' => w'.cell? ⟨b8, 0, none⟩ = some (.slice (some ⟨b3, 0, none⟩) N N) ∧ w'.cell? ⟨b9, 0, none⟩ = some (.slice (some ⟨b7, 0, none⟩) N N))
        (exact ⟨k8, k9⟩)
        (fail)
      all_goals (
        gi_wp2
        refine ⟨by simp, .inl ⟨_, _, rfl, run_takeDeferred (w := X.drew) HKD.out, ?_⟩⟩
        have hDX : D < X.heap.size := (Array.getElem?_eq_some_iff.1 HKD.out).1
        have hp : ∀ b, b ≠ D → (X.drew.putObj D (.deferred none)).heap[b]? = X.heap[b]? := fun b e => World.putObj_heap_other e
        have hsz : (X.drew.putObj D (.deferred none)).heap.size = X.heap.size := by show _ = X.drew.heap.size; simp [World.putObj]
        have q3 := (hp b3 (by omega)).trans HI.out.h3
        have q7 := (hp b7 (by omega)).trans HI.out.h7
        have eF : dFrom N L = DF := by rw [← HD.out.1, HLe.out]
        have eT : dFrom N (L.map rev) = DT := by rw [← HD.out.2, HLe.out]; rfl
        have lF : DF.length = N := by rw [← eF, dFrom_length]
        have lT : DT.length = N := by rw [← eT, dFrom_length]
        rw [eF] at q3
        rw [eT] at q7
        refine ⟨.tuple #[.slice (some ⟨b3, 0, none⟩) N N, .slice (some ⟨b7, 0, none⟩) N N, .int .i64 0], ?_, b3, b7, rfl, q3, q7, ⟨by have := HI.out.ge; have := HB1.out.size; omega, by have := HI.out.ge; have := HB1.out.size; omega⟩, lF, lT, ?_⟩
        · simp [results, Try.results47, go_sem]
        · exact HB1.out.trans ((HI.out.low.drew.mono HB1.out.size).trans (belowK_b (w := w) (Nat.le_refl _) _ D _ _ (by have := HB1.out.size; omega) (show X.drew.heap[D]? = _ from HKD.out) rfl rfl)))
    case stop =>
      rintro D cd pre X hD hpre h hK
      exact h.elim
  clear hQ
  have hmk := run_make_row' (P := Try.prog) 25 3 (.int .i64 0) 8 Try.underlying25 info_intW rfl .i64 .i64 N (by omega) (by omega)
  refine Code.wp_mono OnlyN.imp (wp_region_held_drew (S := fun w' => w'.cell? ⟨w.heap.size, 0, none⟩ = some (.slice A N c)) (by kernel_rfl) kg (fun hHeld => ?_))
  have HCell : Hid (∀ W, Below w1.heap.size w1 W → W.cell? ⟨w.heap.size, 0, none⟩ = some (.slice A N c)) := fun W hW => (hW.cell hzw).trans kg
  have lo : Below w1.heap.size w1 w1.drew := (Below.refl _ w1).drew
  obtain ⟨W0, hW0⟩ : ∃ W0, w1.drew = W0 := ⟨_, rfl⟩
  rw [hW0] at hHeld lo ⊢
  clear hW0 kg
  (refine gheld_val (i := 0) rfl (by kernel_rfl) (by kernel_rfl) (by kernel_rfl) hHeld (by rfl) ?_; apply Exists.intro; refine ⟨fun wq hSw => ?_, ?_⟩; ((try dsimp only at hSw); go_simp; try rfl); try simp only [Act.put, List.setIfInBounds_toArray, List.set_cons_zero, List.set_cons_succ])
  (refine gheld_val (i := 1) rfl (by kernel_rfl) (by kernel_rfl) (by kernel_rfl) hHeld (by rfl) ?_; apply Exists.intro; refine ⟨fun wq hSw => ?_, ?_⟩; ((try dsimp only at hSw); go_simp; try rfl); try simp only [Act.put, List.setIfInBounds_toArray, List.set_cons_zero, List.set_cons_succ])
  (refine gheld_val (i := 2) rfl (by kernel_rfl) (by kernel_rfl) (by kernel_rfl) hHeld (by rfl) ?_; apply Exists.intro; refine ⟨fun wq hSw => ?_, ?_⟩; ((try dsimp only at hSw); go_simp; try rfl); try simp only [Act.put, List.setIfInBounds_toArray, List.set_cons_zero, List.set_cons_succ])
  (refine gheld_val (i := 4) rfl (by kernel_rfl) (by kernel_rfl) (by kernel_rfl) hHeld (by rfl) ?_; apply Exists.intro; refine ⟨fun wq hSw => ?_, ?_⟩; ((try dsimp only at hSw); go_simp; try rfl); try simp only [Act.put, List.setIfInBounds_toArray, List.set_cons_zero, List.set_cons_succ])
  (refine gheld_val (i := 5) rfl (by kernel_rfl) (by kernel_rfl) (by kernel_rfl) hHeld (by rfl) ?_; apply Exists.intro; refine ⟨fun wq hSw => ?_, ?_⟩; ((try dsimp only at hSw); go_simp; try rfl); try simp only [Act.put, List.setIfInBounds_toArray, List.set_cons_zero, List.set_cons_succ])
  (refine gheld_val (i := 6) rfl (by kernel_rfl) (by kernel_rfl) (by kernel_rfl) hHeld (by rfl) ?_; apply Exists.intro; refine ⟨fun wq hSw => ?_, ?_⟩; ((try dsimp only at hSw); go_simp; try rfl); try simp only [Act.put, List.setIfInBounds_toArray, List.set_cons_zero, List.set_cons_succ])
  refine wpAnyH_ready (rs := [3, 7, 8, 9]) (by kernel_rfl) (by simp) ?_
  refine AllReadyH.cons (gof_drop rfl) (fun K hK => ?_) (AllReadyH.cons (gof_drop rfl) (fun K hK => ?_) (AllReadyH.cons (gof_drop rfl) (fun K hK => ?_) (AllReadyH.cons (gof_drop rfl) (fun K hK => ?_) AllReadyH.nil)))
  · go_simp
    obtain ⟨V1, hV⟩ : ∃ V, W0.alloc (.cells (madeCells #[.int .i64 0] N) 3) = V := ⟨_, rfl⟩
    have szq : V1.heap.size = W0.heap.size + 1 := by rw [← hV]; exact World.size_alloc _ _
    have sz : V1.heap.size ≤ W0.heap.size + 1 ∧ W0.heap.size + 1 ≤ V1.heap.size := by omega
    clear szq
    have hb : Below W0.heap.size W0 V1 := hV ▸ one_below _ _
    have gz := lo.size
    have lo := lo.trans (hb.mono lo.size)
    have h3 : V1.heap[W0.heap.size]? = some (.cells (madeCells #[.int .i64 0] N) 3 (0, 0)) := hV ▸ World.alloc_heap_new _ _
    rw [hV]
    clear hV
    refine hK.out _ _ (HCell.out _ lo) (fun hHeld => ?_)
    clear hK K
    try simp only [Act.put, List.setIfInBounds_toArray, List.set_cons_zero, List.set_cons_succ]
    refine wpAnyH_ready (rs := [7, 8, 9]) (by kernel_rfl) (by simp) ?_
    refine AllReadyH.cons (gof_drop rfl) (fun K hK => ?_) (AllReadyH.cons (gof_drop rfl) (fun K hK => ?_) (AllReadyH.cons (gof_drop rfl) (fun K hK => ?_) AllReadyH.nil))
    · go_simp
      obtain ⟨V2, hV⟩ : ∃ V, V1.alloc (.cells (madeCells #[.int .i64 0] N) 3) = V := ⟨_, rfl⟩
      have szq : V2.heap.size = V1.heap.size + 1 := by rw [← hV]; exact World.size_alloc _ _
      have sz : V2.heap.size ≤ V1.heap.size + 1 ∧ V1.heap.size + 1 ≤ V2.heap.size := by omega
      clear szq
      have hb : Below V1.heap.size V1 V2 := hV ▸ one_below _ _
      have gz := lo.size
      have lo := lo.trans (hb.mono lo.size)
      have h3 := (hb.block _ (by omega)).trans h3
      have h7 : V2.heap[V1.heap.size]? = some (.cells (madeCells #[.int .i64 0] N) 3 (0, 0)) := hV ▸ World.alloc_heap_new _ _
      rw [hV]
      clear hV
      refine hK.out _ _ (HCell.out _ lo) (fun hHeld => ?_)
      clear hK K
      try simp only [Act.put, List.setIfInBounds_toArray, List.set_cons_zero, List.set_cons_succ]
      refine wpAnyH_ready (rs := [8, 9]) (by kernel_rfl) (by simp) ?_
      refine AllReadyH.cons (gof_drop rfl) (fun K hK => ?_) (AllReadyH.cons (gof_drop rfl) (fun K hK => ?_) AllReadyH.nil)
      · go_simp
        obtain ⟨V3, hV⟩ : ∃ V, V2.alloc (.cells #[.slice none 0 0] 25) = V := ⟨_, rfl⟩
        have szq : V3.heap.size = V2.heap.size + 1 := by rw [← hV]; exact World.size_alloc _ _
        have sz : V3.heap.size ≤ V2.heap.size + 1 ∧ V2.heap.size + 1 ≤ V3.heap.size := by omega
        clear szq
        have hb : Below V2.heap.size V2 V3 := hV ▸ one_below _ _
        have gz := lo.size
        have lo := lo.trans (hb.mono lo.size)
        have h3 := (hb.block _ (by omega)).trans h3
        have h7 := (hb.block _ (by omega)).trans h7
        have h8 : V3.heap[V2.heap.size]? = some (.cells #[.slice none 0 0] 25 (0, 0)) := hV ▸ World.alloc_heap_new _ _
        rw [hV]
        clear hV
        refine hK.out _ _ (HCell.out _ lo) (fun hHeld => ?_)
        clear hK K
        try simp only [Act.put, List.setIfInBounds_toArray, List.set_cons_zero, List.set_cons_succ]
        refine wpAnyH_ready (rs := [9]) (by kernel_rfl) (by simp) ?_
        refine AllReadyH.cons (gof_drop rfl) (fun K hK => ?_) AllReadyH.nil
        · go_simp
          obtain ⟨V4, hV⟩ : ∃ V, V3.alloc (.cells #[.slice none 0 0] 25) = V := ⟨_, rfl⟩
          have szq : V4.heap.size = V3.heap.size + 1 := by rw [← hV]; exact World.size_alloc _ _
          have sz : V4.heap.size ≤ V3.heap.size + 1 ∧ V3.heap.size + 1 ≤ V4.heap.size := by omega
          clear szq
          have hb : Below V3.heap.size V3 V4 := hV ▸ one_below _ _
          have gz := lo.size
          have lo := lo.trans (hb.mono lo.size)
          have h3 := (hb.block _ (by omega)).trans h3
          have h7 := (hb.block _ (by omega)).trans h7
          have h8 := (hb.block _ (by omega)).trans h8
          have h9 : V4.heap[V3.heap.size]? = some (.cells #[.slice none 0 0] 25 (0, 0)) := hV ▸ World.alloc_heap_new _ _
          rw [hV]
          clear hV
          refine hK.out _ _ (HCell.out _ lo) (fun hHeld => ?_)
          clear hK K
          try simp only [Act.put, List.setIfInBounds_toArray, List.set_cons_zero, List.set_cons_succ]
          refine wpAnyH_ready (rs := [10]) (by kernel_rfl) (by simp) ?_
          refine AllReadyH.cons (gof_drop rfl) (fun K hK => ?_) AllReadyH.nil
          · have kf := frz_at h8 0
            have kc : V4.cell? ⟨V2.heap.size, 0, none⟩ = some (.slice none 0 0) := (cell_at h8 0).trans rfl
            go_simp
            clear kf kc
            obtain ⟨V5, hV⟩ : ∃ V, V4.setCell ⟨V2.heap.size, 0, none⟩ (.slice (some ⟨W0.heap.size, 0, none⟩) N N) = V := ⟨_, rfl⟩
            have szq : V5.heap.size = V4.heap.size := by rw [← hV]; simp [World.setCell]
            have sz : V5.heap.size ≤ V4.heap.size ∧ V4.heap.size ≤ V5.heap.size := by omega
            clear szq
            have lo : Below w1.heap.size w1 V5 := hV ▸ lo.setCell (p := ⟨V2.heap.size, 0, none⟩) (by show w1.heap.size ≤ V2.heap.size; omega) _
            have h3 : V5.heap[W0.heap.size]? = _ := (hV ▸ Below.heap_setCell _ _ _ _ (by show W0.heap.size ≠ V2.heap.size; omega)).trans h3
            have h7 : V5.heap[V1.heap.size]? = _ := (hV ▸ Below.heap_setCell _ _ _ _ (by show V1.heap.size ≠ V2.heap.size; omega)).trans h7
            have h8 := heap_set_same _ _ 0 (.slice (some ⟨W0.heap.size, 0, none⟩) N N) _ _ h8
            rw [hV] at h8
            have h9 : V5.heap[V3.heap.size]? = _ := (hV ▸ Below.heap_setCell _ _ _ _ (by show V3.heap.size ≠ V2.heap.size; omega)).trans h9
            rw [hV]
            clear hV
            refine hK.out _ _ (HCell.out _ lo) (fun hHeld => ?_)
            clear hK K
            try simp only [Act.put, List.setIfInBounds_toArray, List.set_cons_zero, List.set_cons_succ]
            refine wpAnyH_ready (rs := [11]) (by kernel_rfl) (by simp) ?_
            refine AllReadyH.cons (gof_drop rfl) (fun K hK => ?_) AllReadyH.nil
            · have kf := frz_at h9 0
              have kc : V5.cell? ⟨V3.heap.size, 0, none⟩ = some (.slice none 0 0) := (cell_at h9 0).trans rfl
              go_simp
              clear kf kc
              obtain ⟨V6, hV⟩ : ∃ V, V5.setCell ⟨V3.heap.size, 0, none⟩ (.slice (some ⟨V1.heap.size, 0, none⟩) N N) = V := ⟨_, rfl⟩
              have szq : V6.heap.size = V5.heap.size := by rw [← hV]; simp [World.setCell]
              have sz : V6.heap.size ≤ V5.heap.size ∧ V5.heap.size ≤ V6.heap.size := by omega
              clear szq
              have lo : Below w1.heap.size w1 V6 := hV ▸ lo.setCell (p := ⟨V3.heap.size, 0, none⟩) (by show w1.heap.size ≤ V3.heap.size; omega) _
              have h3 : V6.heap[W0.heap.size]? = _ := (hV ▸ Below.heap_setCell _ _ _ _ (by show W0.heap.size ≠ V3.heap.size; omega)).trans h3
              have h7 : V6.heap[V1.heap.size]? = _ := (hV ▸ Below.heap_setCell _ _ _ _ (by show V1.heap.size ≠ V3.heap.size; omega)).trans h7
              have h8 : V6.heap[V2.heap.size]? = _ := (hV ▸ Below.heap_setCell _ _ _ _ (by show V2.heap.size ≠ V3.heap.size; omega)).trans h8
              have h9 := heap_set_same _ _ 0 (.slice (some ⟨V1.heap.size, 0, none⟩) N N) _ _ h9
              rw [hV] at h9
              rw [hV]
              clear hV
              refine hK.out _ _ (HCell.out _ lo) (fun hHeld => ?_)
              clear hK K
              try simp only [Act.put, List.setIfInBounds_toArray, List.set_cons_zero, List.set_cons_succ]
              refine wpAnyH_done (by kernel_rfl) ⟨rfl, ?_⟩ _
              exact HRest.out V6 W0.heap.size V1.heap.size V2.heap.size V3.heap.size ⟨lo, by omega, by omega, by rw [dFrom_nil, Array.toArray_toList]; exact h3, by rw [dFrom_nil, Array.toArray_toList]; exact h7, h8, h9⟩
      · go_simp
        obtain ⟨V7, hV⟩ : ∃ V, V2.alloc (.cells #[.slice none 0 0] 25) = V := ⟨_, rfl⟩
        have szq : V7.heap.size = V2.heap.size + 1 := by rw [← hV]; exact World.size_alloc _ _
        have sz : V7.heap.size ≤ V2.heap.size + 1 ∧ V2.heap.size + 1 ≤ V7.heap.size := by omega
        clear szq
        have hb : Below V2.heap.size V2 V7 := hV ▸ one_below _ _
        have gz := lo.size
        have lo := lo.trans (hb.mono lo.size)
        have h3 := (hb.block _ (by omega)).trans h3
        have h7 := (hb.block _ (by omega)).trans h7
        have h9 : V7.heap[V2.heap.size]? = some (.cells #[.slice none 0 0] 25 (0, 0)) := hV ▸ World.alloc_heap_new _ _
        rw [hV]
        clear hV
        refine hK.out _ _ (HCell.out _ lo) (fun hHeld => ?_)
        clear hK K
        try simp only [Act.put, List.setIfInBounds_toArray, List.set_cons_zero, List.set_cons_succ]
        refine wpAnyH_ready (rs := [8]) (by kernel_rfl) (by simp) ?_
        refine AllReadyH.cons (gof_drop rfl) (fun K hK => ?_) AllReadyH.nil
        · go_simp
          obtain ⟨V8, hV⟩ : ∃ V, V7.alloc (.cells #[.slice none 0 0] 25) = V := ⟨_, rfl⟩
          have szq : V8.heap.size = V7.heap.size + 1 := by rw [← hV]; exact World.size_alloc _ _
          have sz : V8.heap.size ≤ V7.heap.size + 1 ∧ V7.heap.size + 1 ≤ V8.heap.size := by omega
          clear szq
          have hb : Below V7.heap.size V7 V8 := hV ▸ one_below _ _
          have gz := lo.size
          have lo := lo.trans (hb.mono lo.size)
          have h3 := (hb.block _ (by omega)).trans h3
          have h7 := (hb.block _ (by omega)).trans h7
          have h9 := (hb.block _ (by omega)).trans h9
          have h8 : V8.heap[V7.heap.size]? = some (.cells #[.slice none 0 0] 25 (0, 0)) := hV ▸ World.alloc_heap_new _ _
          rw [hV]
          clear hV
          refine hK.out _ _ (HCell.out _ lo) (fun hHeld => ?_)
          clear hK K
          try simp only [Act.put, List.setIfInBounds_toArray, List.set_cons_zero, List.set_cons_succ]
          refine wpAnyH_ready (rs := [10]) (by kernel_rfl) (by simp) ?_
          refine AllReadyH.cons (gof_drop rfl) (fun K hK => ?_) AllReadyH.nil
          · have kf := frz_at h8 0
            have kc : V8.cell? ⟨V7.heap.size, 0, none⟩ = some (.slice none 0 0) := (cell_at h8 0).trans rfl
            go_simp
            clear kf kc
            obtain ⟨V9, hV⟩ : ∃ V, V8.setCell ⟨V7.heap.size, 0, none⟩ (.slice (some ⟨W0.heap.size, 0, none⟩) N N) = V := ⟨_, rfl⟩
            have szq : V9.heap.size = V8.heap.size := by rw [← hV]; simp [World.setCell]
            have sz : V9.heap.size ≤ V8.heap.size ∧ V8.heap.size ≤ V9.heap.size := by omega
            clear szq
            have lo : Below w1.heap.size w1 V9 := hV ▸ lo.setCell (p := ⟨V7.heap.size, 0, none⟩) (by show w1.heap.size ≤ V7.heap.size; omega) _
            have h3 : V9.heap[W0.heap.size]? = _ := (hV ▸ Below.heap_setCell _ _ _ _ (by show W0.heap.size ≠ V7.heap.size; omega)).trans h3
            have h7 : V9.heap[V1.heap.size]? = _ := (hV ▸ Below.heap_setCell _ _ _ _ (by show V1.heap.size ≠ V7.heap.size; omega)).trans h7
            have h9 : V9.heap[V2.heap.size]? = _ := (hV ▸ Below.heap_setCell _ _ _ _ (by show V2.heap.size ≠ V7.heap.size; omega)).trans h9
            have h8 := heap_set_same _ _ 0 (.slice (some ⟨W0.heap.size, 0, none⟩) N N) _ _ h8
            rw [hV] at h8
            rw [hV]
            clear hV
            refine hK.out _ _ (HCell.out _ lo) (fun hHeld => ?_)
            clear hK K
            try simp only [Act.put, List.setIfInBounds_toArray, List.set_cons_zero, List.set_cons_succ]
            refine wpAnyH_ready (rs := [11]) (by kernel_rfl) (by simp) ?_
            refine AllReadyH.cons (gof_drop rfl) (fun K hK => ?_) AllReadyH.nil
            · have kf := frz_at h9 0
              have kc : V9.cell? ⟨V2.heap.size, 0, none⟩ = some (.slice none 0 0) := (cell_at h9 0).trans rfl
              go_simp
              clear kf kc
              obtain ⟨V10, hV⟩ : ∃ V, V9.setCell ⟨V2.heap.size, 0, none⟩ (.slice (some ⟨V1.heap.size, 0, none⟩) N N) = V := ⟨_, rfl⟩
              have szq : V10.heap.size = V9.heap.size := by rw [← hV]; simp [World.setCell]
              have sz : V10.heap.size ≤ V9.heap.size ∧ V9.heap.size ≤ V10.heap.size := by omega
              clear szq
              have lo : Below w1.heap.size w1 V10 := hV ▸ lo.setCell (p := ⟨V2.heap.size, 0, none⟩) (by show w1.heap.size ≤ V2.heap.size; omega) _
              have h3 : V10.heap[W0.heap.size]? = _ := (hV ▸ Below.heap_setCell _ _ _ _ (by show W0.heap.size ≠ V2.heap.size; omega)).trans h3
              have h7 : V10.heap[V1.heap.size]? = _ := (hV ▸ Below.heap_setCell _ _ _ _ (by show V1.heap.size ≠ V2.heap.size; omega)).trans h7
              have h9 := heap_set_same _ _ 0 (.slice (some ⟨V1.heap.size, 0, none⟩) N N) _ _ h9
              rw [hV] at h9
              have h8 : V10.heap[V7.heap.size]? = _ := (hV ▸ Below.heap_setCell _ _ _ _ (by show V7.heap.size ≠ V2.heap.size; omega)).trans h8
              rw [hV]
              clear hV
              refine hK.out _ _ (HCell.out _ lo) (fun hHeld => ?_)
              clear hK K
              try simp only [Act.put, List.setIfInBounds_toArray, List.set_cons_zero, List.set_cons_succ]
              refine wpAnyH_done (by kernel_rfl) ⟨rfl, ?_⟩ _
              exact HRest.out V10 W0.heap.size V1.heap.size V7.heap.size V2.heap.size ⟨lo, by omega, by omega, by rw [dFrom_nil, Array.toArray_toList]; exact h3, by rw [dFrom_nil, Array.toArray_toList]; exact h7, h8, h9⟩
    · go_simp
      obtain ⟨V11, hV⟩ : ∃ V, V1.alloc (.cells #[.slice none 0 0] 25) = V := ⟨_, rfl⟩
      have szq : V11.heap.size = V1.heap.size + 1 := by rw [← hV]; exact World.size_alloc _ _
      have sz : V11.heap.size ≤ V1.heap.size + 1 ∧ V1.heap.size + 1 ≤ V11.heap.size := by omega
      clear szq
      have hb : Below V1.heap.size V1 V11 := hV ▸ one_below _ _
      have gz := lo.size
      have lo := lo.trans (hb.mono lo.size)
      have h3 := (hb.block _ (by omega)).trans h3
      have h8 : V11.heap[V1.heap.size]? = some (.cells #[.slice none 0 0] 25 (0, 0)) := hV ▸ World.alloc_heap_new _ _
      rw [hV]
      clear hV
      refine hK.out _ _ (HCell.out _ lo) (fun hHeld => ?_)
      clear hK K
      try simp only [Act.put, List.setIfInBounds_toArray, List.set_cons_zero, List.set_cons_succ]
      refine wpAnyH_ready (rs := [7, 9]) (by kernel_rfl) (by simp) ?_
      refine AllReadyH.cons (gof_drop rfl) (fun K hK => ?_) (AllReadyH.cons (gof_drop rfl) (fun K hK => ?_) AllReadyH.nil)
      · go_simp
        obtain ⟨V12, hV⟩ : ∃ V, V11.alloc (.cells (madeCells #[.int .i64 0] N) 3) = V := ⟨_, rfl⟩
        have szq : V12.heap.size = V11.heap.size + 1 := by rw [← hV]; exact World.size_alloc _ _
        have sz : V12.heap.size ≤ V11.heap.size + 1 ∧ V11.heap.size + 1 ≤ V12.heap.size := by omega
        clear szq
        have hb : Below V11.heap.size V11 V12 := hV ▸ one_below _ _
        have gz := lo.size
        have lo := lo.trans (hb.mono lo.size)
        have h3 := (hb.block _ (by omega)).trans h3
        have h8 := (hb.block _ (by omega)).trans h8
        have h7 : V12.heap[V11.heap.size]? = some (.cells (madeCells #[.int .i64 0] N) 3 (0, 0)) := hV ▸ World.alloc_heap_new _ _
        rw [hV]
        clear hV
        refine hK.out _ _ (HCell.out _ lo) (fun hHeld => ?_)
        clear hK K
        try simp only [Act.put, List.setIfInBounds_toArray, List.set_cons_zero, List.set_cons_succ]
        refine wpAnyH_ready (rs := [9]) (by kernel_rfl) (by simp) ?_
        refine AllReadyH.cons (gof_drop rfl) (fun K hK => ?_) AllReadyH.nil
        · go_simp
          obtain ⟨V13, hV⟩ : ∃ V, V12.alloc (.cells #[.slice none 0 0] 25) = V := ⟨_, rfl⟩
          have szq : V13.heap.size = V12.heap.size + 1 := by rw [← hV]; exact World.size_alloc _ _
          have sz : V13.heap.size ≤ V12.heap.size + 1 ∧ V12.heap.size + 1 ≤ V13.heap.size := by omega
          clear szq
          have hb : Below V12.heap.size V12 V13 := hV ▸ one_below _ _
          have gz := lo.size
          have lo := lo.trans (hb.mono lo.size)
          have h3 := (hb.block _ (by omega)).trans h3
          have h8 := (hb.block _ (by omega)).trans h8
          have h7 := (hb.block _ (by omega)).trans h7
          have h9 : V13.heap[V12.heap.size]? = some (.cells #[.slice none 0 0] 25 (0, 0)) := hV ▸ World.alloc_heap_new _ _
          rw [hV]
          clear hV
          refine hK.out _ _ (HCell.out _ lo) (fun hHeld => ?_)
          clear hK K
          try simp only [Act.put, List.setIfInBounds_toArray, List.set_cons_zero, List.set_cons_succ]
          refine wpAnyH_ready (rs := [10]) (by kernel_rfl) (by simp) ?_
          refine AllReadyH.cons (gof_drop rfl) (fun K hK => ?_) AllReadyH.nil
          · have kf := frz_at h8 0
            have kc : V13.cell? ⟨V1.heap.size, 0, none⟩ = some (.slice none 0 0) := (cell_at h8 0).trans rfl
            go_simp
            clear kf kc
            obtain ⟨V14, hV⟩ : ∃ V, V13.setCell ⟨V1.heap.size, 0, none⟩ (.slice (some ⟨W0.heap.size, 0, none⟩) N N) = V := ⟨_, rfl⟩
            have szq : V14.heap.size = V13.heap.size := by rw [← hV]; simp [World.setCell]
            have sz : V14.heap.size ≤ V13.heap.size ∧ V13.heap.size ≤ V14.heap.size := by omega
            clear szq
            have lo : Below w1.heap.size w1 V14 := hV ▸ lo.setCell (p := ⟨V1.heap.size, 0, none⟩) (by show w1.heap.size ≤ V1.heap.size; omega) _
            have h3 : V14.heap[W0.heap.size]? = _ := (hV ▸ Below.heap_setCell _ _ _ _ (by show W0.heap.size ≠ V1.heap.size; omega)).trans h3
            have h8 := heap_set_same _ _ 0 (.slice (some ⟨W0.heap.size, 0, none⟩) N N) _ _ h8
            rw [hV] at h8
            have h7 : V14.heap[V11.heap.size]? = _ := (hV ▸ Below.heap_setCell _ _ _ _ (by show V11.heap.size ≠ V1.heap.size; omega)).trans h7
            have h9 : V14.heap[V12.heap.size]? = _ := (hV ▸ Below.heap_setCell _ _ _ _ (by show V12.heap.size ≠ V1.heap.size; omega)).trans h9
            rw [hV]
            clear hV
            refine hK.out _ _ (HCell.out _ lo) (fun hHeld => ?_)
            clear hK K
            try simp only [Act.put, List.setIfInBounds_toArray, List.set_cons_zero, List.set_cons_succ]
            refine wpAnyH_ready (rs := [11]) (by kernel_rfl) (by simp) ?_
            refine AllReadyH.cons (gof_drop rfl) (fun K hK => ?_) AllReadyH.nil
            · have kf := frz_at h9 0
              have kc : V14.cell? ⟨V12.heap.size, 0, none⟩ = some (.slice none 0 0) := (cell_at h9 0).trans rfl
              go_simp
              clear kf kc
              obtain ⟨V15, hV⟩ : ∃ V, V14.setCell ⟨V12.heap.size, 0, none⟩ (.slice (some ⟨V11.heap.size, 0, none⟩) N N) = V := ⟨_, rfl⟩
              have szq : V15.heap.size = V14.heap.size := by rw [← hV]; simp [World.setCell]
              have sz : V15.heap.size ≤ V14.heap.size ∧ V14.heap.size ≤ V15.heap.size := by omega
              clear szq
              have lo : Below w1.heap.size w1 V15 := hV ▸ lo.setCell (p := ⟨V12.heap.size, 0, none⟩) (by show w1.heap.size ≤ V12.heap.size; omega) _
              have h3 : V15.heap[W0.heap.size]? = _ := (hV ▸ Below.heap_setCell _ _ _ _ (by show W0.heap.size ≠ V12.heap.size; omega)).trans h3
              have h8 : V15.heap[V1.heap.size]? = _ := (hV ▸ Below.heap_setCell _ _ _ _ (by show V1.heap.size ≠ V12.heap.size; omega)).trans h8
              have h7 : V15.heap[V11.heap.size]? = _ := (hV ▸ Below.heap_setCell _ _ _ _ (by show V11.heap.size ≠ V12.heap.size; omega)).trans h7
              have h9 := heap_set_same _ _ 0 (.slice (some ⟨V11.heap.size, 0, none⟩) N N) _ _ h9
              rw [hV] at h9
              rw [hV]
              clear hV
              refine hK.out _ _ (HCell.out _ lo) (fun hHeld => ?_)
              clear hK K
              try simp only [Act.put, List.setIfInBounds_toArray, List.set_cons_zero, List.set_cons_succ]
              refine wpAnyH_done (by kernel_rfl) ⟨rfl, ?_⟩ _
              exact HRest.out V15 W0.heap.size V11.heap.size V1.heap.size V12.heap.size ⟨lo, by omega, by omega, by rw [dFrom_nil, Array.toArray_toList]; exact h3, by rw [dFrom_nil, Array.toArray_toList]; exact h7, h8, h9⟩
      · go_simp
        obtain ⟨V16, hV⟩ : ∃ V, V11.alloc (.cells #[.slice none 0 0] 25) = V := ⟨_, rfl⟩
        have szq : V16.heap.size = V11.heap.size + 1 := by rw [← hV]; exact World.size_alloc _ _
        have sz : V16.heap.size ≤ V11.heap.size + 1 ∧ V11.heap.size + 1 ≤ V16.heap.size := by omega
        clear szq
        have hb : Below V11.heap.size V11 V16 := hV ▸ one_below _ _
        have gz := lo.size
        have lo := lo.trans (hb.mono lo.size)
        have h3 := (hb.block _ (by omega)).trans h3
        have h8 := (hb.block _ (by omega)).trans h8
        have h9 : V16.heap[V11.heap.size]? = some (.cells #[.slice none 0 0] 25 (0, 0)) := hV ▸ World.alloc_heap_new _ _
        rw [hV]
        clear hV
        refine hK.out _ _ (HCell.out _ lo) (fun hHeld => ?_)
        clear hK K
        try simp only [Act.put, List.setIfInBounds_toArray, List.set_cons_zero, List.set_cons_succ]
        refine wpAnyH_ready (rs := [7, 10]) (by kernel_rfl) (by simp) ?_
        refine AllReadyH.cons (gof_drop rfl) (fun K hK => ?_) (AllReadyH.cons (gof_drop rfl) (fun K hK => ?_) AllReadyH.nil)
        · go_simp
          obtain ⟨V17, hV⟩ : ∃ V, V16.alloc (.cells (madeCells #[.int .i64 0] N) 3) = V := ⟨_, rfl⟩
          have szq : V17.heap.size = V16.heap.size + 1 := by rw [← hV]; exact World.size_alloc _ _
          have sz : V17.heap.size ≤ V16.heap.size + 1 ∧ V16.heap.size + 1 ≤ V17.heap.size := by omega
          clear szq
          have hb : Below V16.heap.size V16 V17 := hV ▸ one_below _ _
          have gz := lo.size
          have lo := lo.trans (hb.mono lo.size)
          have h3 := (hb.block _ (by omega)).trans h3
          have h8 := (hb.block _ (by omega)).trans h8
          have h9 := (hb.block _ (by omega)).trans h9
          have h7 : V17.heap[V16.heap.size]? = some (.cells (madeCells #[.int .i64 0] N) 3 (0, 0)) := hV ▸ World.alloc_heap_new _ _
          rw [hV]
          clear hV
          refine hK.out _ _ (HCell.out _ lo) (fun hHeld => ?_)
          clear hK K
          try simp only [Act.put, List.setIfInBounds_toArray, List.set_cons_zero, List.set_cons_succ]
          refine wpAnyH_ready (rs := [10]) (by kernel_rfl) (by simp) ?_
          refine AllReadyH.cons (gof_drop rfl) (fun K hK => ?_) AllReadyH.nil
          · have kf := frz_at h8 0
            have kc : V17.cell? ⟨V1.heap.size, 0, none⟩ = some (.slice none 0 0) := (cell_at h8 0).trans rfl
            go_simp
            clear kf kc
            obtain ⟨V18, hV⟩ : ∃ V, V17.setCell ⟨V1.heap.size, 0, none⟩ (.slice (some ⟨W0.heap.size, 0, none⟩) N N) = V := ⟨_, rfl⟩
            have szq : V18.heap.size = V17.heap.size := by rw [← hV]; simp [World.setCell]
            have sz : V18.heap.size ≤ V17.heap.size ∧ V17.heap.size ≤ V18.heap.size := by omega
            clear szq
            have lo : Below w1.heap.size w1 V18 := hV ▸ lo.setCell (p := ⟨V1.heap.size, 0, none⟩) (by show w1.heap.size ≤ V1.heap.size; omega) _
            have h3 : V18.heap[W0.heap.size]? = _ := (hV ▸ Below.heap_setCell _ _ _ _ (by show W0.heap.size ≠ V1.heap.size; omega)).trans h3
            have h8 := heap_set_same _ _ 0 (.slice (some ⟨W0.heap.size, 0, none⟩) N N) _ _ h8
            rw [hV] at h8
            have h9 : V18.heap[V11.heap.size]? = _ := (hV ▸ Below.heap_setCell _ _ _ _ (by show V11.heap.size ≠ V1.heap.size; omega)).trans h9
            have h7 : V18.heap[V16.heap.size]? = _ := (hV ▸ Below.heap_setCell _ _ _ _ (by show V16.heap.size ≠ V1.heap.size; omega)).trans h7
            rw [hV]
            clear hV
            refine hK.out _ _ (HCell.out _ lo) (fun hHeld => ?_)
            clear hK K
            try simp only [Act.put, List.setIfInBounds_toArray, List.set_cons_zero, List.set_cons_succ]
            refine wpAnyH_ready (rs := [11]) (by kernel_rfl) (by simp) ?_
            refine AllReadyH.cons (gof_drop rfl) (fun K hK => ?_) AllReadyH.nil
            · have kf := frz_at h9 0
              have kc : V18.cell? ⟨V11.heap.size, 0, none⟩ = some (.slice none 0 0) := (cell_at h9 0).trans rfl
              go_simp
              clear kf kc
              obtain ⟨V19, hV⟩ : ∃ V, V18.setCell ⟨V11.heap.size, 0, none⟩ (.slice (some ⟨V16.heap.size, 0, none⟩) N N) = V := ⟨_, rfl⟩
              have szq : V19.heap.size = V18.heap.size := by rw [← hV]; simp [World.setCell]
              have sz : V19.heap.size ≤ V18.heap.size ∧ V18.heap.size ≤ V19.heap.size := by omega
              clear szq
              have lo : Below w1.heap.size w1 V19 := hV ▸ lo.setCell (p := ⟨V11.heap.size, 0, none⟩) (by show w1.heap.size ≤ V11.heap.size; omega) _
              have h3 : V19.heap[W0.heap.size]? = _ := (hV ▸ Below.heap_setCell _ _ _ _ (by show W0.heap.size ≠ V11.heap.size; omega)).trans h3
              have h8 : V19.heap[V1.heap.size]? = _ := (hV ▸ Below.heap_setCell _ _ _ _ (by show V1.heap.size ≠ V11.heap.size; omega)).trans h8
              have h9 := heap_set_same _ _ 0 (.slice (some ⟨V16.heap.size, 0, none⟩) N N) _ _ h9
              rw [hV] at h9
              have h7 : V19.heap[V16.heap.size]? = _ := (hV ▸ Below.heap_setCell _ _ _ _ (by show V16.heap.size ≠ V11.heap.size; omega)).trans h7
              rw [hV]
              clear hV
              refine hK.out _ _ (HCell.out _ lo) (fun hHeld => ?_)
              clear hK K
              try simp only [Act.put, List.setIfInBounds_toArray, List.set_cons_zero, List.set_cons_succ]
              refine wpAnyH_done (by kernel_rfl) ⟨rfl, ?_⟩ _
              exact HRest.out V19 W0.heap.size V16.heap.size V1.heap.size V11.heap.size ⟨lo, by omega, by omega, by rw [dFrom_nil, Array.toArray_toList]; exact h3, by rw [dFrom_nil, Array.toArray_toList]; exact h7, h8, h9⟩
        · have kf := frz_at h8 0
          have kc : V16.cell? ⟨V1.heap.size, 0, none⟩ = some (.slice none 0 0) := (cell_at h8 0).trans rfl
          go_simp
          clear kf kc
          obtain ⟨V20, hV⟩ : ∃ V, V16.setCell ⟨V1.heap.size, 0, none⟩ (.slice (some ⟨W0.heap.size, 0, none⟩) N N) = V := ⟨_, rfl⟩
          have szq : V20.heap.size = V16.heap.size := by rw [← hV]; simp [World.setCell]
          have sz : V20.heap.size ≤ V16.heap.size ∧ V16.heap.size ≤ V20.heap.size := by omega
          clear szq
          have lo : Below w1.heap.size w1 V20 := hV ▸ lo.setCell (p := ⟨V1.heap.size, 0, none⟩) (by show w1.heap.size ≤ V1.heap.size; omega) _
          have h3 : V20.heap[W0.heap.size]? = _ := (hV ▸ Below.heap_setCell _ _ _ _ (by show W0.heap.size ≠ V1.heap.size; omega)).trans h3
          have h8 := heap_set_same _ _ 0 (.slice (some ⟨W0.heap.size, 0, none⟩) N N) _ _ h8
          rw [hV] at h8
          have h9 : V20.heap[V11.heap.size]? = _ := (hV ▸ Below.heap_setCell _ _ _ _ (by show V11.heap.size ≠ V1.heap.size; omega)).trans h9
          rw [hV]
          clear hV
          refine hK.out _ _ (HCell.out _ lo) (fun hHeld => ?_)
          clear hK K
          try simp only [Act.put, List.setIfInBounds_toArray, List.set_cons_zero, List.set_cons_succ]
          refine wpAnyH_ready (rs := [7]) (by kernel_rfl) (by simp) ?_
          refine AllReadyH.cons (gof_drop rfl) (fun K hK => ?_) AllReadyH.nil
          · go_simp
            obtain ⟨V21, hV⟩ : ∃ V, V20.alloc (.cells (madeCells #[.int .i64 0] N) 3) = V := ⟨_, rfl⟩
            have szq : V21.heap.size = V20.heap.size + 1 := by rw [← hV]; exact World.size_alloc _ _
            have sz : V21.heap.size ≤ V20.heap.size + 1 ∧ V20.heap.size + 1 ≤ V21.heap.size := by omega
            clear szq
            have hb : Below V20.heap.size V20 V21 := hV ▸ one_below _ _
            have gz := lo.size
            have lo := lo.trans (hb.mono lo.size)
            have h3 := (hb.block _ (by omega)).trans h3
            have h8 := (hb.block _ (by omega)).trans h8
            have h9 := (hb.block _ (by omega)).trans h9
            have h7 : V21.heap[V20.heap.size]? = some (.cells (madeCells #[.int .i64 0] N) 3 (0, 0)) := hV ▸ World.alloc_heap_new _ _
            rw [hV]
            clear hV
            refine hK.out _ _ (HCell.out _ lo) (fun hHeld => ?_)
            clear hK K
            try simp only [Act.put, List.setIfInBounds_toArray, List.set_cons_zero, List.set_cons_succ]
            refine wpAnyH_ready (rs := [11]) (by kernel_rfl) (by simp) ?_
            refine AllReadyH.cons (gof_drop rfl) (fun K hK => ?_) AllReadyH.nil
            · have kf := frz_at h9 0
              have kc : V21.cell? ⟨V11.heap.size, 0, none⟩ = some (.slice none 0 0) := (cell_at h9 0).trans rfl
              go_simp
              clear kf kc
              obtain ⟨V22, hV⟩ : ∃ V, V21.setCell ⟨V11.heap.size, 0, none⟩ (.slice (some ⟨V20.heap.size, 0, none⟩) N N) = V := ⟨_, rfl⟩
              have szq : V22.heap.size = V21.heap.size := by rw [← hV]; simp [World.setCell]
              have sz : V22.heap.size ≤ V21.heap.size ∧ V21.heap.size ≤ V22.heap.size := by omega
              clear szq
              have lo : Below w1.heap.size w1 V22 := hV ▸ lo.setCell (p := ⟨V11.heap.size, 0, none⟩) (by show w1.heap.size ≤ V11.heap.size; omega) _
              have h3 : V22.heap[W0.heap.size]? = _ := (hV ▸ Below.heap_setCell _ _ _ _ (by show W0.heap.size ≠ V11.heap.size; omega)).trans h3
              have h8 : V22.heap[V1.heap.size]? = _ := (hV ▸ Below.heap_setCell _ _ _ _ (by show V1.heap.size ≠ V11.heap.size; omega)).trans h8
              have h9 := heap_set_same _ _ 0 (.slice (some ⟨V20.heap.size, 0, none⟩) N N) _ _ h9
              rw [hV] at h9
              have h7 : V22.heap[V20.heap.size]? = _ := (hV ▸ Below.heap_setCell _ _ _ _ (by show V20.heap.size ≠ V11.heap.size; omega)).trans h7
              rw [hV]
              clear hV
              refine hK.out _ _ (HCell.out _ lo) (fun hHeld => ?_)
              clear hK K
              try simp only [Act.put, List.setIfInBounds_toArray, List.set_cons_zero, List.set_cons_succ]
              refine wpAnyH_done (by kernel_rfl) ⟨rfl, ?_⟩ _
              exact HRest.out V22 W0.heap.size V20.heap.size V1.heap.size V11.heap.size ⟨lo, by omega, by omega, by rw [dFrom_nil, Array.toArray_toList]; exact h3, by rw [dFrom_nil, Array.toArray_toList]; exact h7, h8, h9⟩
    · go_simp
      obtain ⟨V23, hV⟩ : ∃ V, V1.alloc (.cells #[.slice none 0 0] 25) = V := ⟨_, rfl⟩
      have szq : V23.heap.size = V1.heap.size + 1 := by rw [← hV]; exact World.size_alloc _ _
      have sz : V23.heap.size ≤ V1.heap.size + 1 ∧ V1.heap.size + 1 ≤ V23.heap.size := by omega
      clear szq
      have hb : Below V1.heap.size V1 V23 := hV ▸ one_below _ _
      have gz := lo.size
      have lo := lo.trans (hb.mono lo.size)
      have h3 := (hb.block _ (by omega)).trans h3
      have h9 : V23.heap[V1.heap.size]? = some (.cells #[.slice none 0 0] 25 (0, 0)) := hV ▸ World.alloc_heap_new _ _
      rw [hV]
      clear hV
      refine hK.out _ _ (HCell.out _ lo) (fun hHeld => ?_)
      clear hK K
      try simp only [Act.put, List.setIfInBounds_toArray, List.set_cons_zero, List.set_cons_succ]
      refine wpAnyH_ready (rs := [7, 8]) (by kernel_rfl) (by simp) ?_
      refine AllReadyH.cons (gof_drop rfl) (fun K hK => ?_) (AllReadyH.cons (gof_drop rfl) (fun K hK => ?_) AllReadyH.nil)
      · go_simp
        obtain ⟨V24, hV⟩ : ∃ V, V23.alloc (.cells (madeCells #[.int .i64 0] N) 3) = V := ⟨_, rfl⟩
        have szq : V24.heap.size = V23.heap.size + 1 := by rw [← hV]; exact World.size_alloc _ _
        have sz : V24.heap.size ≤ V23.heap.size + 1 ∧ V23.heap.size + 1 ≤ V24.heap.size := by omega
        clear szq
        have hb : Below V23.heap.size V23 V24 := hV ▸ one_below _ _
        have gz := lo.size
        have lo := lo.trans (hb.mono lo.size)
        have h3 := (hb.block _ (by omega)).trans h3
        have h9 := (hb.block _ (by omega)).trans h9
        have h7 : V24.heap[V23.heap.size]? = some (.cells (madeCells #[.int .i64 0] N) 3 (0, 0)) := hV ▸ World.alloc_heap_new _ _
        rw [hV]
        clear hV
        refine hK.out _ _ (HCell.out _ lo) (fun hHeld => ?_)
        clear hK K
        try simp only [Act.put, List.setIfInBounds_toArray, List.set_cons_zero, List.set_cons_succ]
        refine wpAnyH_ready (rs := [8]) (by kernel_rfl) (by simp) ?_
        refine AllReadyH.cons (gof_drop rfl) (fun K hK => ?_) AllReadyH.nil
        · go_simp
          obtain ⟨V25, hV⟩ : ∃ V, V24.alloc (.cells #[.slice none 0 0] 25) = V := ⟨_, rfl⟩
          have szq : V25.heap.size = V24.heap.size + 1 := by rw [← hV]; exact World.size_alloc _ _
          have sz : V25.heap.size ≤ V24.heap.size + 1 ∧ V24.heap.size + 1 ≤ V25.heap.size := by omega
          clear szq
          have hb : Below V24.heap.size V24 V25 := hV ▸ one_below _ _
          have gz := lo.size
          have lo := lo.trans (hb.mono lo.size)
          have h3 := (hb.block _ (by omega)).trans h3
          have h9 := (hb.block _ (by omega)).trans h9
          have h7 := (hb.block _ (by omega)).trans h7
          have h8 : V25.heap[V24.heap.size]? = some (.cells #[.slice none 0 0] 25 (0, 0)) := hV ▸ World.alloc_heap_new _ _
          rw [hV]
          clear hV
          refine hK.out _ _ (HCell.out _ lo) (fun hHeld => ?_)
          clear hK K
          try simp only [Act.put, List.setIfInBounds_toArray, List.set_cons_zero, List.set_cons_succ]
          refine wpAnyH_ready (rs := [10]) (by kernel_rfl) (by simp) ?_
          refine AllReadyH.cons (gof_drop rfl) (fun K hK => ?_) AllReadyH.nil
          · have kf := frz_at h8 0
            have kc : V25.cell? ⟨V24.heap.size, 0, none⟩ = some (.slice none 0 0) := (cell_at h8 0).trans rfl
            go_simp
            clear kf kc
            obtain ⟨V26, hV⟩ : ∃ V, V25.setCell ⟨V24.heap.size, 0, none⟩ (.slice (some ⟨W0.heap.size, 0, none⟩) N N) = V := ⟨_, rfl⟩
            have szq : V26.heap.size = V25.heap.size := by rw [← hV]; simp [World.setCell]
            have sz : V26.heap.size ≤ V25.heap.size ∧ V25.heap.size ≤ V26.heap.size := by omega
            clear szq
            have lo : Below w1.heap.size w1 V26 := hV ▸ lo.setCell (p := ⟨V24.heap.size, 0, none⟩) (by show w1.heap.size ≤ V24.heap.size; omega) _
            have h3 : V26.heap[W0.heap.size]? = _ := (hV ▸ Below.heap_setCell _ _ _ _ (by show W0.heap.size ≠ V24.heap.size; omega)).trans h3
            have h9 : V26.heap[V1.heap.size]? = _ := (hV ▸ Below.heap_setCell _ _ _ _ (by show V1.heap.size ≠ V24.heap.size; omega)).trans h9
            have h7 : V26.heap[V23.heap.size]? = _ := (hV ▸ Below.heap_setCell _ _ _ _ (by show V23.heap.size ≠ V24.heap.size; omega)).trans h7
            have h8 := heap_set_same _ _ 0 (.slice (some ⟨W0.heap.size, 0, none⟩) N N) _ _ h8
            rw [hV] at h8
            rw [hV]
            clear hV
            refine hK.out _ _ (HCell.out _ lo) (fun hHeld => ?_)
            clear hK K
            try simp only [Act.put, List.setIfInBounds_toArray, List.set_cons_zero, List.set_cons_succ]
            refine wpAnyH_ready (rs := [11]) (by kernel_rfl) (by simp) ?_
            refine AllReadyH.cons (gof_drop rfl) (fun K hK => ?_) AllReadyH.nil
            · have kf := frz_at h9 0
              have kc : V26.cell? ⟨V1.heap.size, 0, none⟩ = some (.slice none 0 0) := (cell_at h9 0).trans rfl
              go_simp
              clear kf kc
              obtain ⟨V27, hV⟩ : ∃ V, V26.setCell ⟨V1.heap.size, 0, none⟩ (.slice (some ⟨V23.heap.size, 0, none⟩) N N) = V := ⟨_, rfl⟩
              have szq : V27.heap.size = V26.heap.size := by rw [← hV]; simp [World.setCell]
              have sz : V27.heap.size ≤ V26.heap.size ∧ V26.heap.size ≤ V27.heap.size := by omega
              clear szq
              have lo : Below w1.heap.size w1 V27 := hV ▸ lo.setCell (p := ⟨V1.heap.size, 0, none⟩) (by show w1.heap.size ≤ V1.heap.size; omega) _
              have h3 : V27.heap[W0.heap.size]? = _ := (hV ▸ Below.heap_setCell _ _ _ _ (by show W0.heap.size ≠ V1.heap.size; omega)).trans h3
              have h9 := heap_set_same _ _ 0 (.slice (some ⟨V23.heap.size, 0, none⟩) N N) _ _ h9
              rw [hV] at h9
              have h7 : V27.heap[V23.heap.size]? = _ := (hV ▸ Below.heap_setCell _ _ _ _ (by show V23.heap.size ≠ V1.heap.size; omega)).trans h7
              have h8 : V27.heap[V24.heap.size]? = _ := (hV ▸ Below.heap_setCell _ _ _ _ (by show V24.heap.size ≠ V1.heap.size; omega)).trans h8
              rw [hV]
              clear hV
              refine hK.out _ _ (HCell.out _ lo) (fun hHeld => ?_)
              clear hK K
              try simp only [Act.put, List.setIfInBounds_toArray, List.set_cons_zero, List.set_cons_succ]
              refine wpAnyH_done (by kernel_rfl) ⟨rfl, ?_⟩ _
              exact HRest.out V27 W0.heap.size V23.heap.size V24.heap.size V1.heap.size ⟨lo, by omega, by omega, by rw [dFrom_nil, Array.toArray_toList]; exact h3, by rw [dFrom_nil, Array.toArray_toList]; exact h7, h8, h9⟩
      · go_simp
        obtain ⟨V28, hV⟩ : ∃ V, V23.alloc (.cells #[.slice none 0 0] 25) = V := ⟨_, rfl⟩
        have szq : V28.heap.size = V23.heap.size + 1 := by rw [← hV]; exact World.size_alloc _ _
        have sz : V28.heap.size ≤ V23.heap.size + 1 ∧ V23.heap.size + 1 ≤ V28.heap.size := by omega
        clear szq
        have hb : Below V23.heap.size V23 V28 := hV ▸ one_below _ _
        have gz := lo.size
        have lo := lo.trans (hb.mono lo.size)
        have h3 := (hb.block _ (by omega)).trans h3
        have h9 := (hb.block _ (by omega)).trans h9
        have h8 : V28.heap[V23.heap.size]? = some (.cells #[.slice none 0 0] 25 (0, 0)) := hV ▸ World.alloc_heap_new _ _
        rw [hV]
        clear hV
        refine hK.out _ _ (HCell.out _ lo) (fun hHeld => ?_)
        clear hK K
        try simp only [Act.put, List.setIfInBounds_toArray, List.set_cons_zero, List.set_cons_succ]
        refine wpAnyH_ready (rs := [7, 10]) (by kernel_rfl) (by simp) ?_
        refine AllReadyH.cons (gof_drop rfl) (fun K hK => ?_) (AllReadyH.cons (gof_drop rfl) (fun K hK => ?_) AllReadyH.nil)
        · go_simp
          obtain ⟨V29, hV⟩ : ∃ V, V28.alloc (.cells (madeCells #[.int .i64 0] N) 3) = V := ⟨_, rfl⟩
          have szq : V29.heap.size = V28.heap.size + 1 := by rw [← hV]; exact World.size_alloc _ _
          have sz : V29.heap.size ≤ V28.heap.size + 1 ∧ V28.heap.size + 1 ≤ V29.heap.size := by omega
          clear szq
          have hb : Below V28.heap.size V28 V29 := hV ▸ one_below _ _
          have gz := lo.size
          have lo := lo.trans (hb.mono lo.size)
          have h3 := (hb.block _ (by omega)).trans h3
          have h9 := (hb.block _ (by omega)).trans h9
          have h8 := (hb.block _ (by omega)).trans h8
          have h7 : V29.heap[V28.heap.size]? = some (.cells (madeCells #[.int .i64 0] N) 3 (0, 0)) := hV ▸ World.alloc_heap_new _ _
          rw [hV]
          clear hV
          refine hK.out _ _ (HCell.out _ lo) (fun hHeld => ?_)
          clear hK K
          try simp only [Act.put, List.setIfInBounds_toArray, List.set_cons_zero, List.set_cons_succ]
          refine wpAnyH_ready (rs := [10]) (by kernel_rfl) (by simp) ?_
          refine AllReadyH.cons (gof_drop rfl) (fun K hK => ?_) AllReadyH.nil
          · have kf := frz_at h8 0
            have kc : V29.cell? ⟨V23.heap.size, 0, none⟩ = some (.slice none 0 0) := (cell_at h8 0).trans rfl
            go_simp
            clear kf kc
            obtain ⟨V30, hV⟩ : ∃ V, V29.setCell ⟨V23.heap.size, 0, none⟩ (.slice (some ⟨W0.heap.size, 0, none⟩) N N) = V := ⟨_, rfl⟩
            have szq : V30.heap.size = V29.heap.size := by rw [← hV]; simp [World.setCell]
            have sz : V30.heap.size ≤ V29.heap.size ∧ V29.heap.size ≤ V30.heap.size := by omega
            clear szq
            have lo : Below w1.heap.size w1 V30 := hV ▸ lo.setCell (p := ⟨V23.heap.size, 0, none⟩) (by show w1.heap.size ≤ V23.heap.size; omega) _
            have h3 : V30.heap[W0.heap.size]? = _ := (hV ▸ Below.heap_setCell _ _ _ _ (by show W0.heap.size ≠ V23.heap.size; omega)).trans h3
            have h9 : V30.heap[V1.heap.size]? = _ := (hV ▸ Below.heap_setCell _ _ _ _ (by show V1.heap.size ≠ V23.heap.size; omega)).trans h9
            have h8 := heap_set_same _ _ 0 (.slice (some ⟨W0.heap.size, 0, none⟩) N N) _ _ h8
            rw [hV] at h8
            have h7 : V30.heap[V28.heap.size]? = _ := (hV ▸ Below.heap_setCell _ _ _ _ (by show V28.heap.size ≠ V23.heap.size; omega)).trans h7
            rw [hV]
            clear hV
            refine hK.out _ _ (HCell.out _ lo) (fun hHeld => ?_)
            clear hK K
            try simp only [Act.put, List.setIfInBounds_toArray, List.set_cons_zero, List.set_cons_succ]
            refine wpAnyH_ready (rs := [11]) (by kernel_rfl) (by simp) ?_
            refine AllReadyH.cons (gof_drop rfl) (fun K hK => ?_) AllReadyH.nil
            · have kf := frz_at h9 0
              have kc : V30.cell? ⟨V1.heap.size, 0, none⟩ = some (.slice none 0 0) := (cell_at h9 0).trans rfl
              go_simp
              clear kf kc
              obtain ⟨V31, hV⟩ : ∃ V, V30.setCell ⟨V1.heap.size, 0, none⟩ (.slice (some ⟨V28.heap.size, 0, none⟩) N N) = V := ⟨_, rfl⟩
              have szq : V31.heap.size = V30.heap.size := by rw [← hV]; simp [World.setCell]
              have sz : V31.heap.size ≤ V30.heap.size ∧ V30.heap.size ≤ V31.heap.size := by omega
              clear szq
              have lo : Below w1.heap.size w1 V31 := hV ▸ lo.setCell (p := ⟨V1.heap.size, 0, none⟩) (by show w1.heap.size ≤ V1.heap.size; omega) _
              have h3 : V31.heap[W0.heap.size]? = _ := (hV ▸ Below.heap_setCell _ _ _ _ (by show W0.heap.size ≠ V1.heap.size; omega)).trans h3
              have h9 := heap_set_same _ _ 0 (.slice (some ⟨V28.heap.size, 0, none⟩) N N) _ _ h9
              rw [hV] at h9
              have h8 : V31.heap[V23.heap.size]? = _ := (hV ▸ Below.heap_setCell _ _ _ _ (by show V23.heap.size ≠ V1.heap.size; omega)).trans h8
              have h7 : V31.heap[V28.heap.size]? = _ := (hV ▸ Below.heap_setCell _ _ _ _ (by show V28.heap.size ≠ V1.heap.size; omega)).trans h7
              rw [hV]
              clear hV
              refine hK.out _ _ (HCell.out _ lo) (fun hHeld => ?_)
              clear hK K
              try simp only [Act.put, List.setIfInBounds_toArray, List.set_cons_zero, List.set_cons_succ]
              refine wpAnyH_done (by kernel_rfl) ⟨rfl, ?_⟩ _
              exact HRest.out V31 W0.heap.size V28.heap.size V23.heap.size V1.heap.size ⟨lo, by omega, by omega, by rw [dFrom_nil, Array.toArray_toList]; exact h3, by rw [dFrom_nil, Array.toArray_toList]; exact h7, h8, h9⟩
        · have kf := frz_at h8 0
          have kc : V28.cell? ⟨V23.heap.size, 0, none⟩ = some (.slice none 0 0) := (cell_at h8 0).trans rfl
          go_simp
          clear kf kc
          obtain ⟨V32, hV⟩ : ∃ V, V28.setCell ⟨V23.heap.size, 0, none⟩ (.slice (some ⟨W0.heap.size, 0, none⟩) N N) = V := ⟨_, rfl⟩
          have szq : V32.heap.size = V28.heap.size := by rw [← hV]; simp [World.setCell]
          have sz : V32.heap.size ≤ V28.heap.size ∧ V28.heap.size ≤ V32.heap.size := by omega
          clear szq
          have lo : Below w1.heap.size w1 V32 := hV ▸ lo.setCell (p := ⟨V23.heap.size, 0, none⟩) (by show w1.heap.size ≤ V23.heap.size; omega) _
          have h3 : V32.heap[W0.heap.size]? = _ := (hV ▸ Below.heap_setCell _ _ _ _ (by show W0.heap.size ≠ V23.heap.size; omega)).trans h3
          have h9 : V32.heap[V1.heap.size]? = _ := (hV ▸ Below.heap_setCell _ _ _ _ (by show V1.heap.size ≠ V23.heap.size; omega)).trans h9
          have h8 := heap_set_same _ _ 0 (.slice (some ⟨W0.heap.size, 0, none⟩) N N) _ _ h8
          rw [hV] at h8
          rw [hV]
          clear hV
          refine hK.out _ _ (HCell.out _ lo) (fun hHeld => ?_)
          clear hK K
          try simp only [Act.put, List.setIfInBounds_toArray, List.set_cons_zero, List.set_cons_succ]
          refine wpAnyH_ready (rs := [7]) (by kernel_rfl) (by simp) ?_
          refine AllReadyH.cons (gof_drop rfl) (fun K hK => ?_) AllReadyH.nil
          · go_simp
            obtain ⟨V33, hV⟩ : ∃ V, V32.alloc (.cells (madeCells #[.int .i64 0] N) 3) = V := ⟨_, rfl⟩
            have szq : V33.heap.size = V32.heap.size + 1 := by rw [← hV]; exact World.size_alloc _ _
            have sz : V33.heap.size ≤ V32.heap.size + 1 ∧ V32.heap.size + 1 ≤ V33.heap.size := by omega
            clear szq
            have hb : Below V32.heap.size V32 V33 := hV ▸ one_below _ _
            have gz := lo.size
            have lo := lo.trans (hb.mono lo.size)
            have h3 := (hb.block _ (by omega)).trans h3
            have h9 := (hb.block _ (by omega)).trans h9
            have h8 := (hb.block _ (by omega)).trans h8
            have h7 : V33.heap[V32.heap.size]? = some (.cells (madeCells #[.int .i64 0] N) 3 (0, 0)) := hV ▸ World.alloc_heap_new _ _
            rw [hV]
            clear hV
            refine hK.out _ _ (HCell.out _ lo) (fun hHeld => ?_)
            clear hK K
            try simp only [Act.put, List.setIfInBounds_toArray, List.set_cons_zero, List.set_cons_succ]
            refine wpAnyH_ready (rs := [11]) (by kernel_rfl) (by simp) ?_
            refine AllReadyH.cons (gof_drop rfl) (fun K hK => ?_) AllReadyH.nil
            · have kf := frz_at h9 0
              have kc : V33.cell? ⟨V1.heap.size, 0, none⟩ = some (.slice none 0 0) := (cell_at h9 0).trans rfl
              go_simp
              clear kf kc
              obtain ⟨V34, hV⟩ : ∃ V, V33.setCell ⟨V1.heap.size, 0, none⟩ (.slice (some ⟨V32.heap.size, 0, none⟩) N N) = V := ⟨_, rfl⟩
              have szq : V34.heap.size = V33.heap.size := by rw [← hV]; simp [World.setCell]
              have sz : V34.heap.size ≤ V33.heap.size ∧ V33.heap.size ≤ V34.heap.size := by omega
              clear szq
              have lo : Below w1.heap.size w1 V34 := hV ▸ lo.setCell (p := ⟨V1.heap.size, 0, none⟩) (by show w1.heap.size ≤ V1.heap.size; omega) _
              have h3 : V34.heap[W0.heap.size]? = _ := (hV ▸ Below.heap_setCell _ _ _ _ (by show W0.heap.size ≠ V1.heap.size; omega)).trans h3
              have h9 := heap_set_same _ _ 0 (.slice (some ⟨V32.heap.size, 0, none⟩) N N) _ _ h9
              rw [hV] at h9
              have h8 : V34.heap[V23.heap.size]? = _ := (hV ▸ Below.heap_setCell _ _ _ _ (by show V23.heap.size ≠ V1.heap.size; omega)).trans h8
              have h7 : V34.heap[V32.heap.size]? = _ := (hV ▸ Below.heap_setCell _ _ _ _ (by show V32.heap.size ≠ V1.heap.size; omega)).trans h7
              rw [hV]
              clear hV
              refine hK.out _ _ (HCell.out _ lo) (fun hHeld => ?_)
              clear hK K
              try simp only [Act.put, List.setIfInBounds_toArray, List.set_cons_zero, List.set_cons_succ]
              refine wpAnyH_done (by kernel_rfl) ⟨rfl, ?_⟩ _
              exact HRest.out V34 W0.heap.size V32.heap.size V23.heap.size V1.heap.size ⟨lo, by omega, by omega, by rw [dFrom_nil, Array.toArray_toList]; exact h3, by rw [dFrom_nil, Array.toArray_toList]; exact h7, h8, h9⟩
  · go_simp
    obtain ⟨V35, hV⟩ : ∃ V, W0.alloc (.cells (madeCells #[.int .i64 0] N) 3) = V := ⟨_, rfl⟩
    have szq : V35.heap.size = W0.heap.size + 1 := by rw [← hV]; exact World.size_alloc _ _
    have sz : V35.heap.size ≤ W0.heap.size + 1 ∧ W0.heap.size + 1 ≤ V35.heap.size := by omega
    clear szq
    have hb : Below W0.heap.size W0 V35 := hV ▸ one_below _ _
    have gz := lo.size
    have lo := lo.trans (hb.mono lo.size)
    have h7 : V35.heap[W0.heap.size]? = some (.cells (madeCells #[.int .i64 0] N) 3 (0, 0)) := hV ▸ World.alloc_heap_new _ _
    rw [hV]
    clear hV
    refine hK.out _ _ (HCell.out _ lo) (fun hHeld => ?_)
    clear hK K
    try simp only [Act.put, List.setIfInBounds_toArray, List.set_cons_zero, List.set_cons_succ]
    refine wpAnyH_ready (rs := [3, 8, 9]) (by kernel_rfl) (by simp) ?_
    refine AllReadyH.cons (gof_drop rfl) (fun K hK => ?_) (AllReadyH.cons (gof_drop rfl) (fun K hK => ?_) (AllReadyH.cons (gof_drop rfl) (fun K hK => ?_) AllReadyH.nil))
    · go_simp
      obtain ⟨V36, hV⟩ : ∃ V, V35.alloc (.cells (madeCells #[.int .i64 0] N) 3) = V := ⟨_, rfl⟩
      have szq : V36.heap.size = V35.heap.size + 1 := by rw [← hV]; exact World.size_alloc _ _
      have sz : V36.heap.size ≤ V35.heap.size + 1 ∧ V35.heap.size + 1 ≤ V36.heap.size := by omega
      clear szq
      have hb : Below V35.heap.size V35 V36 := hV ▸ one_below _ _
      have gz := lo.size
      have lo := lo.trans (hb.mono lo.size)
      have h7 := (hb.block _ (by omega)).trans h7
      have h3 : V36.heap[V35.heap.size]? = some (.cells (madeCells #[.int .i64 0] N) 3 (0, 0)) := hV ▸ World.alloc_heap_new _ _
      rw [hV]
      clear hV
      refine hK.out _ _ (HCell.out _ lo) (fun hHeld => ?_)
      clear hK K
      try simp only [Act.put, List.setIfInBounds_toArray, List.set_cons_zero, List.set_cons_succ]
      refine wpAnyH_ready (rs := [8, 9]) (by kernel_rfl) (by simp) ?_
      refine AllReadyH.cons (gof_drop rfl) (fun K hK => ?_) (AllReadyH.cons (gof_drop rfl) (fun K hK => ?_) AllReadyH.nil)
      · go_simp
        obtain ⟨V37, hV⟩ : ∃ V, V36.alloc (.cells #[.slice none 0 0] 25) = V := ⟨_, rfl⟩
        have szq : V37.heap.size = V36.heap.size + 1 := by rw [← hV]; exact World.size_alloc _ _
        have sz : V37.heap.size ≤ V36.heap.size + 1 ∧ V36.heap.size + 1 ≤ V37.heap.size := by omega
        clear szq
        have hb : Below V36.heap.size V36 V37 := hV ▸ one_below _ _
        have gz := lo.size
        have lo := lo.trans (hb.mono lo.size)
        have h7 := (hb.block _ (by omega)).trans h7
        have h3 := (hb.block _ (by omega)).trans h3
        have h8 : V37.heap[V36.heap.size]? = some (.cells #[.slice none 0 0] 25 (0, 0)) := hV ▸ World.alloc_heap_new _ _
        rw [hV]
        clear hV
        refine hK.out _ _ (HCell.out _ lo) (fun hHeld => ?_)
        clear hK K
        try simp only [Act.put, List.setIfInBounds_toArray, List.set_cons_zero, List.set_cons_succ]
        refine wpAnyH_ready (rs := [9]) (by kernel_rfl) (by simp) ?_
        refine AllReadyH.cons (gof_drop rfl) (fun K hK => ?_) AllReadyH.nil
        · go_simp
          obtain ⟨V38, hV⟩ : ∃ V, V37.alloc (.cells #[.slice none 0 0] 25) = V := ⟨_, rfl⟩
          have szq : V38.heap.size = V37.heap.size + 1 := by rw [← hV]; exact World.size_alloc _ _
          have sz : V38.heap.size ≤ V37.heap.size + 1 ∧ V37.heap.size + 1 ≤ V38.heap.size := by omega
          clear szq
          have hb : Below V37.heap.size V37 V38 := hV ▸ one_below _ _
          have gz := lo.size
          have lo := lo.trans (hb.mono lo.size)
          have h7 := (hb.block _ (by omega)).trans h7
          have h3 := (hb.block _ (by omega)).trans h3
          have h8 := (hb.block _ (by omega)).trans h8
          have h9 : V38.heap[V37.heap.size]? = some (.cells #[.slice none 0 0] 25 (0, 0)) := hV ▸ World.alloc_heap_new _ _
          rw [hV]
          clear hV
          refine hK.out _ _ (HCell.out _ lo) (fun hHeld => ?_)
          clear hK K
          try simp only [Act.put, List.setIfInBounds_toArray, List.set_cons_zero, List.set_cons_succ]
          refine wpAnyH_ready (rs := [10]) (by kernel_rfl) (by simp) ?_
          refine AllReadyH.cons (gof_drop rfl) (fun K hK => ?_) AllReadyH.nil
          · have kf := frz_at h8 0
            have kc : V38.cell? ⟨V36.heap.size, 0, none⟩ = some (.slice none 0 0) := (cell_at h8 0).trans rfl
            go_simp
            clear kf kc
            obtain ⟨V39, hV⟩ : ∃ V, V38.setCell ⟨V36.heap.size, 0, none⟩ (.slice (some ⟨V35.heap.size, 0, none⟩) N N) = V := ⟨_, rfl⟩
            have szq : V39.heap.size = V38.heap.size := by rw [← hV]; simp [World.setCell]
            have sz : V39.heap.size ≤ V38.heap.size ∧ V38.heap.size ≤ V39.heap.size := by omega
            clear szq
            have lo : Below w1.heap.size w1 V39 := hV ▸ lo.setCell (p := ⟨V36.heap.size, 0, none⟩) (by show w1.heap.size ≤ V36.heap.size; omega) _
            have h7 : V39.heap[W0.heap.size]? = _ := (hV ▸ Below.heap_setCell _ _ _ _ (by show W0.heap.size ≠ V36.heap.size; omega)).trans h7
            have h3 : V39.heap[V35.heap.size]? = _ := (hV ▸ Below.heap_setCell _ _ _ _ (by show V35.heap.size ≠ V36.heap.size; omega)).trans h3
            have h8 := heap_set_same _ _ 0 (.slice (some ⟨V35.heap.size, 0, none⟩) N N) _ _ h8
            rw [hV] at h8
            have h9 : V39.heap[V37.heap.size]? = _ := (hV ▸ Below.heap_setCell _ _ _ _ (by show V37.heap.size ≠ V36.heap.size; omega)).trans h9
            rw [hV]
            clear hV
            refine hK.out _ _ (HCell.out _ lo) (fun hHeld => ?_)
            clear hK K
            try simp only [Act.put, List.setIfInBounds_toArray, List.set_cons_zero, List.set_cons_succ]
            refine wpAnyH_ready (rs := [11]) (by kernel_rfl) (by simp) ?_
            refine AllReadyH.cons (gof_drop rfl) (fun K hK => ?_) AllReadyH.nil
            · have kf := frz_at h9 0
              have kc : V39.cell? ⟨V37.heap.size, 0, none⟩ = some (.slice none 0 0) := (cell_at h9 0).trans rfl
              go_simp
              clear kf kc
              obtain ⟨V40, hV⟩ : ∃ V, V39.setCell ⟨V37.heap.size, 0, none⟩ (.slice (some ⟨W0.heap.size, 0, none⟩) N N) = V := ⟨_, rfl⟩
              have szq : V40.heap.size = V39.heap.size := by rw [← hV]; simp [World.setCell]
              have sz : V40.heap.size ≤ V39.heap.size ∧ V39.heap.size ≤ V40.heap.size := by omega
              clear szq
              have lo : Below w1.heap.size w1 V40 := hV ▸ lo.setCell (p := ⟨V37.heap.size, 0, none⟩) (by show w1.heap.size ≤ V37.heap.size; omega) _
              have h7 : V40.heap[W0.heap.size]? = _ := (hV ▸ Below.heap_setCell _ _ _ _ (by show W0.heap.size ≠ V37.heap.size; omega)).trans h7
              have h3 : V40.heap[V35.heap.size]? = _ := (hV ▸ Below.heap_setCell _ _ _ _ (by show V35.heap.size ≠ V37.heap.size; omega)).trans h3
              have h8 : V40.heap[V36.heap.size]? = _ := (hV ▸ Below.heap_setCell _ _ _ _ (by show V36.heap.size ≠ V37.heap.size; omega)).trans h8
              have h9 := heap_set_same _ _ 0 (.slice (some ⟨W0.heap.size, 0, none⟩) N N) _ _ h9
              rw [hV] at h9
              rw [hV]
              clear hV
              refine hK.out _ _ (HCell.out _ lo) (fun hHeld => ?_)
              clear hK K
              try simp only [Act.put, List.setIfInBounds_toArray, List.set_cons_zero, List.set_cons_succ]
              refine wpAnyH_done (by kernel_rfl) ⟨rfl, ?_⟩ _
              exact HRest.out V40 V35.heap.size W0.heap.size V36.heap.size V37.heap.size ⟨lo, by omega, by omega, by rw [dFrom_nil, Array.toArray_toList]; exact h3, by rw [dFrom_nil, Array.toArray_toList]; exact h7, h8, h9⟩
      · go_simp
        obtain ⟨V41, hV⟩ : ∃ V, V36.alloc (.cells #[.slice none 0 0] 25) = V := ⟨_, rfl⟩
        have szq : V41.heap.size = V36.heap.size + 1 := by rw [← hV]; exact World.size_alloc _ _
        have sz : V41.heap.size ≤ V36.heap.size + 1 ∧ V36.heap.size + 1 ≤ V41.heap.size := by omega
        clear szq
        have hb : Below V36.heap.size V36 V41 := hV ▸ one_below _ _
        have gz := lo.size
        have lo := lo.trans (hb.mono lo.size)
        have h7 := (hb.block _ (by omega)).trans h7
        have h3 := (hb.block _ (by omega)).trans h3
        have h9 : V41.heap[V36.heap.size]? = some (.cells #[.slice none 0 0] 25 (0, 0)) := hV ▸ World.alloc_heap_new _ _
        rw [hV]
        clear hV
        refine hK.out _ _ (HCell.out _ lo) (fun hHeld => ?_)
        clear hK K
        try simp only [Act.put, List.setIfInBounds_toArray, List.set_cons_zero, List.set_cons_succ]
        refine wpAnyH_ready (rs := [8]) (by kernel_rfl) (by simp) ?_
        refine AllReadyH.cons (gof_drop rfl) (fun K hK => ?_) AllReadyH.nil
        · go_simp
          obtain ⟨V42, hV⟩ : ∃ V, V41.alloc (.cells #[.slice none 0 0] 25) = V := ⟨_, rfl⟩
          have szq : V42.heap.size = V41.heap.size + 1 := by rw [← hV]; exact World.size_alloc _ _
          have sz : V42.heap.size ≤ V41.heap.size + 1 ∧ V41.heap.size + 1 ≤ V42.heap.size := by omega
          clear szq
          have hb : Below V41.heap.size V41 V42 := hV ▸ one_below _ _
          have gz := lo.size
          have lo := lo.trans (hb.mono lo.size)
          have h7 := (hb.block _ (by omega)).trans h7
          have h3 := (hb.block _ (by omega)).trans h3
          have h9 := (hb.block _ (by omega)).trans h9
          have h8 : V42.heap[V41.heap.size]? = some (.cells #[.slice none 0 0] 25 (0, 0)) := hV ▸ World.alloc_heap_new _ _
          rw [hV]
          clear hV
          refine hK.out _ _ (HCell.out _ lo) (fun hHeld => ?_)
          clear hK K
          try simp only [Act.put, List.setIfInBounds_toArray, List.set_cons_zero, List.set_cons_succ]
          refine wpAnyH_ready (rs := [10]) (by kernel_rfl) (by simp) ?_
          refine AllReadyH.cons (gof_drop rfl) (fun K hK => ?_) AllReadyH.nil
          · have kf := frz_at h8 0
            have kc : V42.cell? ⟨V41.heap.size, 0, none⟩ = some (.slice none 0 0) := (cell_at h8 0).trans rfl
            go_simp
            clear kf kc
            obtain ⟨V43, hV⟩ : ∃ V, V42.setCell ⟨V41.heap.size, 0, none⟩ (.slice (some ⟨V35.heap.size, 0, none⟩) N N) = V := ⟨_, rfl⟩
            have szq : V43.heap.size = V42.heap.size := by rw [← hV]; simp [World.setCell]
            have sz : V43.heap.size ≤ V42.heap.size ∧ V42.heap.size ≤ V43.heap.size := by omega
            clear szq
            have lo : Below w1.heap.size w1 V43 := hV ▸ lo.setCell (p := ⟨V41.heap.size, 0, none⟩) (by show w1.heap.size ≤ V41.heap.size; omega) _
            have h7 : V43.heap[W0.heap.size]? = _ := (hV ▸ Below.heap_setCell _ _ _ _ (by show W0.heap.size ≠ V41.heap.size; omega)).trans h7
            have h3 : V43.heap[V35.heap.size]? = _ := (hV ▸ Below.heap_setCell _ _ _ _ (by show V35.heap.size ≠ V41.heap.size; omega)).trans h3
            have h9 : V43.heap[V36.heap.size]? = _ := (hV ▸ Below.heap_setCell _ _ _ _ (by show V36.heap.size ≠ V41.heap.size; omega)).trans h9
            have h8 := heap_set_same _ _ 0 (.slice (some ⟨V35.heap.size, 0, none⟩) N N) _ _ h8
            rw [hV] at h8
            rw [hV]
            clear hV
            refine hK.out _ _ (HCell.out _ lo) (fun hHeld => ?_)
            clear hK K
            try simp only [Act.put, List.setIfInBounds_toArray, List.set_cons_zero, List.set_cons_succ]
            refine wpAnyH_ready (rs := [11]) (by kernel_rfl) (by simp) ?_
            refine AllReadyH.cons (gof_drop rfl) (fun K hK => ?_) AllReadyH.nil
            · have kf := frz_at h9 0
              have kc : V43.cell? ⟨V36.heap.size, 0, none⟩ = some (.slice none 0 0) := (cell_at h9 0).trans rfl
              go_simp
              clear kf kc
              obtain ⟨V44, hV⟩ : ∃ V, V43.setCell ⟨V36.heap.size, 0, none⟩ (.slice (some ⟨W0.heap.size, 0, none⟩) N N) = V := ⟨_, rfl⟩
              have szq : V44.heap.size = V43.heap.size := by rw [← hV]; simp [World.setCell]
              have sz : V44.heap.size ≤ V43.heap.size ∧ V43.heap.size ≤ V44.heap.size := by omega
              clear szq
              have lo : Below w1.heap.size w1 V44 := hV ▸ lo.setCell (p := ⟨V36.heap.size, 0, none⟩) (by show w1.heap.size ≤ V36.heap.size; omega) _
              have h7 : V44.heap[W0.heap.size]? = _ := (hV ▸ Below.heap_setCell _ _ _ _ (by show W0.heap.size ≠ V36.heap.size; omega)).trans h7
              have h3 : V44.heap[V35.heap.size]? = _ := (hV ▸ Below.heap_setCell _ _ _ _ (by show V35.heap.size ≠ V36.heap.size; omega)).trans h3
              have h9 := heap_set_same _ _ 0 (.slice (some ⟨W0.heap.size, 0, none⟩) N N) _ _ h9
              rw [hV] at h9
              have h8 : V44.heap[V41.heap.size]? = _ := (hV ▸ Below.heap_setCell _ _ _ _ (by show V41.heap.size ≠ V36.heap.size; omega)).trans h8
              rw [hV]
              clear hV
              refine hK.out _ _ (HCell.out _ lo) (fun hHeld => ?_)
              clear hK K
              try simp only [Act.put, List.setIfInBounds_toArray, List.set_cons_zero, List.set_cons_succ]
              refine wpAnyH_done (by kernel_rfl) ⟨rfl, ?_⟩ _
              exact HRest.out V44 V35.heap.size W0.heap.size V41.heap.size V36.heap.size ⟨lo, by omega, by omega, by rw [dFrom_nil, Array.toArray_toList]; exact h3, by rw [dFrom_nil, Array.toArray_toList]; exact h7, h8, h9⟩
    · go_simp
      obtain ⟨V45, hV⟩ : ∃ V, V35.alloc (.cells #[.slice none 0 0] 25) = V := ⟨_, rfl⟩
      have szq : V45.heap.size = V35.heap.size + 1 := by rw [← hV]; exact World.size_alloc _ _
      have sz : V45.heap.size ≤ V35.heap.size + 1 ∧ V35.heap.size + 1 ≤ V45.heap.size := by omega
      clear szq
      have hb : Below V35.heap.size V35 V45 := hV ▸ one_below _ _
      have gz := lo.size
      have lo := lo.trans (hb.mono lo.size)
      have h7 := (hb.block _ (by omega)).trans h7
      have h8 : V45.heap[V35.heap.size]? = some (.cells #[.slice none 0 0] 25 (0, 0)) := hV ▸ World.alloc_heap_new _ _
      rw [hV]
      clear hV
      refine hK.out _ _ (HCell.out _ lo) (fun hHeld => ?_)
      clear hK K
      try simp only [Act.put, List.setIfInBounds_toArray, List.set_cons_zero, List.set_cons_succ]
      refine wpAnyH_ready (rs := [3, 9]) (by kernel_rfl) (by simp) ?_
      refine AllReadyH.cons (gof_drop rfl) (fun K hK => ?_) (AllReadyH.cons (gof_drop rfl) (fun K hK => ?_) AllReadyH.nil)
      · go_simp
        obtain ⟨V46, hV⟩ : ∃ V, V45.alloc (.cells (madeCells #[.int .i64 0] N) 3) = V := ⟨_, rfl⟩
        have szq : V46.heap.size = V45.heap.size + 1 := by rw [← hV]; exact World.size_alloc _ _
        have sz : V46.heap.size ≤ V45.heap.size + 1 ∧ V45.heap.size + 1 ≤ V46.heap.size := by omega
        clear szq
        have hb : Below V45.heap.size V45 V46 := hV ▸ one_below _ _
        have gz := lo.size
        have lo := lo.trans (hb.mono lo.size)
        have h7 := (hb.block _ (by omega)).trans h7
        have h8 := (hb.block _ (by omega)).trans h8
        have h3 : V46.heap[V45.heap.size]? = some (.cells (madeCells #[.int .i64 0] N) 3 (0, 0)) := hV ▸ World.alloc_heap_new _ _
        rw [hV]
        clear hV
        refine hK.out _ _ (HCell.out _ lo) (fun hHeld => ?_)
        clear hK K
        try simp only [Act.put, List.setIfInBounds_toArray, List.set_cons_zero, List.set_cons_succ]
        refine wpAnyH_ready (rs := [9]) (by kernel_rfl) (by simp) ?_
        refine AllReadyH.cons (gof_drop rfl) (fun K hK => ?_) AllReadyH.nil
        · go_simp
          obtain ⟨V47, hV⟩ : ∃ V, V46.alloc (.cells #[.slice none 0 0] 25) = V := ⟨_, rfl⟩
          have szq : V47.heap.size = V46.heap.size + 1 := by rw [← hV]; exact World.size_alloc _ _
          have sz : V47.heap.size ≤ V46.heap.size + 1 ∧ V46.heap.size + 1 ≤ V47.heap.size := by omega
          clear szq
          have hb : Below V46.heap.size V46 V47 := hV ▸ one_below _ _
          have gz := lo.size
          have lo := lo.trans (hb.mono lo.size)
          have h7 := (hb.block _ (by omega)).trans h7
          have h8 := (hb.block _ (by omega)).trans h8
          have h3 := (hb.block _ (by omega)).trans h3
          have h9 : V47.heap[V46.heap.size]? = some (.cells #[.slice none 0 0] 25 (0, 0)) := hV ▸ World.alloc_heap_new _ _
          rw [hV]
          clear hV
          refine hK.out _ _ (HCell.out _ lo) (fun hHeld => ?_)
          clear hK K
          try simp only [Act.put, List.setIfInBounds_toArray, List.set_cons_zero, List.set_cons_succ]
          refine wpAnyH_ready (rs := [10]) (by kernel_rfl) (by simp) ?_
          refine AllReadyH.cons (gof_drop rfl) (fun K hK => ?_) AllReadyH.nil
          · have kf := frz_at h8 0
            have kc : V47.cell? ⟨V35.heap.size, 0, none⟩ = some (.slice none 0 0) := (cell_at h8 0).trans rfl
            go_simp
            clear kf kc
            obtain ⟨V48, hV⟩ : ∃ V, V47.setCell ⟨V35.heap.size, 0, none⟩ (.slice (some ⟨V45.heap.size, 0, none⟩) N N) = V := ⟨_, rfl⟩
            have szq : V48.heap.size = V47.heap.size := by rw [← hV]; simp [World.setCell]
            have sz : V48.heap.size ≤ V47.heap.size ∧ V47.heap.size ≤ V48.heap.size := by omega
            clear szq
            have lo : Below w1.heap.size w1 V48 := hV ▸ lo.setCell (p := ⟨V35.heap.size, 0, none⟩) (by show w1.heap.size ≤ V35.heap.size; omega) _
            have h7 : V48.heap[W0.heap.size]? = _ := (hV ▸ Below.heap_setCell _ _ _ _ (by show W0.heap.size ≠ V35.heap.size; omega)).trans h7
            have h8 := heap_set_same _ _ 0 (.slice (some ⟨V45.heap.size, 0, none⟩) N N) _ _ h8
            rw [hV] at h8
            have h3 : V48.heap[V45.heap.size]? = _ := (hV ▸ Below.heap_setCell _ _ _ _ (by show V45.heap.size ≠ V35.heap.size; omega)).trans h3
            have h9 : V48.heap[V46.heap.size]? = _ := (hV ▸ Below.heap_setCell _ _ _ _ (by show V46.heap.size ≠ V35.heap.size; omega)).trans h9
            rw [hV]
            clear hV
            refine hK.out _ _ (HCell.out _ lo) (fun hHeld => ?_)
            clear hK K
            try simp only [Act.put, List.setIfInBounds_toArray, List.set_cons_zero, List.set_cons_succ]
            refine wpAnyH_ready (rs := [11]) (by kernel_rfl) (by simp) ?_
            refine AllReadyH.cons (gof_drop rfl) (fun K hK => ?_) AllReadyH.nil
            · have kf := frz_at h9 0
              have kc : V48.cell? ⟨V46.heap.size, 0, none⟩ = some (.slice none 0 0) := (cell_at h9 0).trans rfl
              go_simp
              clear kf kc
              obtain ⟨V49, hV⟩ : ∃ V, V48.setCell ⟨V46.heap.size, 0, none⟩ (.slice (some ⟨W0.heap.size, 0, none⟩) N N) = V := ⟨_, rfl⟩
              have szq : V49.heap.size = V48.heap.size := by rw [← hV]; simp [World.setCell]
              have sz : V49.heap.size ≤ V48.heap.size ∧ V48.heap.size ≤ V49.heap.size := by omega
              clear szq
              have lo : Below w1.heap.size w1 V49 := hV ▸ lo.setCell (p := ⟨V46.heap.size, 0, none⟩) (by show w1.heap.size ≤ V46.heap.size; omega) _
              have h7 : V49.heap[W0.heap.size]? = _ := (hV ▸ Below.heap_setCell _ _ _ _ (by show W0.heap.size ≠ V46.heap.size; omega)).trans h7
              have h8 : V49.heap[V35.heap.size]? = _ := (hV ▸ Below.heap_setCell _ _ _ _ (by show V35.heap.size ≠ V46.heap.size; omega)).trans h8
              have h3 : V49.heap[V45.heap.size]? = _ := (hV ▸ Below.heap_setCell _ _ _ _ (by show V45.heap.size ≠ V46.heap.size; omega)).trans h3
              have h9 := heap_set_same _ _ 0 (.slice (some ⟨W0.heap.size, 0, none⟩) N N) _ _ h9
              rw [hV] at h9
              rw [hV]
              clear hV
              refine hK.out _ _ (HCell.out _ lo) (fun hHeld => ?_)
              clear hK K
              try simp only [Act.put, List.setIfInBounds_toArray, List.set_cons_zero, List.set_cons_succ]
              refine wpAnyH_done (by kernel_rfl) ⟨rfl, ?_⟩ _
              exact HRest.out V49 V45.heap.size W0.heap.size V35.heap.size V46.heap.size ⟨lo, by omega, by omega, by rw [dFrom_nil, Array.toArray_toList]; exact h3, by rw [dFrom_nil, Array.toArray_toList]; exact h7, h8, h9⟩
      · go_simp
        obtain ⟨V50, hV⟩ : ∃ V, V45.alloc (.cells #[.slice none 0 0] 25) = V := ⟨_, rfl⟩
        have szq : V50.heap.size = V45.heap.size + 1 := by rw [← hV]; exact World.size_alloc _ _
        have sz : V50.heap.size ≤ V45.heap.size + 1 ∧ V45.heap.size + 1 ≤ V50.heap.size := by omega
        clear szq
        have hb : Below V45.heap.size V45 V50 := hV ▸ one_below _ _
        have gz := lo.size
        have lo := lo.trans (hb.mono lo.size)
        have h7 := (hb.block _ (by omega)).trans h7
        have h8 := (hb.block _ (by omega)).trans h8
        have h9 : V50.heap[V45.heap.size]? = some (.cells #[.slice none 0 0] 25 (0, 0)) := hV ▸ World.alloc_heap_new _ _
        rw [hV]
        clear hV
        refine hK.out _ _ (HCell.out _ lo) (fun hHeld => ?_)
        clear hK K
        try simp only [Act.put, List.setIfInBounds_toArray, List.set_cons_zero, List.set_cons_succ]
        refine wpAnyH_ready (rs := [3]) (by kernel_rfl) (by simp) ?_
        refine AllReadyH.cons (gof_drop rfl) (fun K hK => ?_) AllReadyH.nil
        · go_simp
          obtain ⟨V51, hV⟩ : ∃ V, V50.alloc (.cells (madeCells #[.int .i64 0] N) 3) = V := ⟨_, rfl⟩
          have szq : V51.heap.size = V50.heap.size + 1 := by rw [← hV]; exact World.size_alloc _ _
          have sz : V51.heap.size ≤ V50.heap.size + 1 ∧ V50.heap.size + 1 ≤ V51.heap.size := by omega
          clear szq
          have hb : Below V50.heap.size V50 V51 := hV ▸ one_below _ _
          have gz := lo.size
          have lo := lo.trans (hb.mono lo.size)
          have h7 := (hb.block _ (by omega)).trans h7
          have h8 := (hb.block _ (by omega)).trans h8
          have h9 := (hb.block _ (by omega)).trans h9
          have h3 : V51.heap[V50.heap.size]? = some (.cells (madeCells #[.int .i64 0] N) 3 (0, 0)) := hV ▸ World.alloc_heap_new _ _
          rw [hV]
          clear hV
          refine hK.out _ _ (HCell.out _ lo) (fun hHeld => ?_)
          clear hK K
          try simp only [Act.put, List.setIfInBounds_toArray, List.set_cons_zero, List.set_cons_succ]
          refine wpAnyH_ready (rs := [10]) (by kernel_rfl) (by simp) ?_
          refine AllReadyH.cons (gof_drop rfl) (fun K hK => ?_) AllReadyH.nil
          · have kf := frz_at h8 0
            have kc : V51.cell? ⟨V35.heap.size, 0, none⟩ = some (.slice none 0 0) := (cell_at h8 0).trans rfl
            go_simp
            clear kf kc
            obtain ⟨V52, hV⟩ : ∃ V, V51.setCell ⟨V35.heap.size, 0, none⟩ (.slice (some ⟨V50.heap.size, 0, none⟩) N N) = V := ⟨_, rfl⟩
            have szq : V52.heap.size = V51.heap.size := by rw [← hV]; simp [World.setCell]
            have sz : V52.heap.size ≤ V51.heap.size ∧ V51.heap.size ≤ V52.heap.size := by omega
            clear szq
            have lo : Below w1.heap.size w1 V52 := hV ▸ lo.setCell (p := ⟨V35.heap.size, 0, none⟩) (by show w1.heap.size ≤ V35.heap.size; omega) _
            have h7 : V52.heap[W0.heap.size]? = _ := (hV ▸ Below.heap_setCell _ _ _ _ (by show W0.heap.size ≠ V35.heap.size; omega)).trans h7
            have h8 := heap_set_same _ _ 0 (.slice (some ⟨V50.heap.size, 0, none⟩) N N) _ _ h8
            rw [hV] at h8
            have h9 : V52.heap[V45.heap.size]? = _ := (hV ▸ Below.heap_setCell _ _ _ _ (by show V45.heap.size ≠ V35.heap.size; omega)).trans h9
            have h3 : V52.heap[V50.heap.size]? = _ := (hV ▸ Below.heap_setCell _ _ _ _ (by show V50.heap.size ≠ V35.heap.size; omega)).trans h3
            rw [hV]
            clear hV
            refine hK.out _ _ (HCell.out _ lo) (fun hHeld => ?_)
            clear hK K
            try simp only [Act.put, List.setIfInBounds_toArray, List.set_cons_zero, List.set_cons_succ]
            refine wpAnyH_ready (rs := [11]) (by kernel_rfl) (by simp) ?_
            refine AllReadyH.cons (gof_drop rfl) (fun K hK => ?_) AllReadyH.nil
            · have kf := frz_at h9 0
              have kc : V52.cell? ⟨V45.heap.size, 0, none⟩ = some (.slice none 0 0) := (cell_at h9 0).trans rfl
              go_simp
              clear kf kc
              obtain ⟨V53, hV⟩ : ∃ V, V52.setCell ⟨V45.heap.size, 0, none⟩ (.slice (some ⟨W0.heap.size, 0, none⟩) N N) = V := ⟨_, rfl⟩
              have szq : V53.heap.size = V52.heap.size := by rw [← hV]; simp [World.setCell]
              have sz : V53.heap.size ≤ V52.heap.size ∧ V52.heap.size ≤ V53.heap.size := by omega
              clear szq
              have lo : Below w1.heap.size w1 V53 := hV ▸ lo.setCell (p := ⟨V45.heap.size, 0, none⟩) (by show w1.heap.size ≤ V45.heap.size; omega) _
              have h7 : V53.heap[W0.heap.size]? = _ := (hV ▸ Below.heap_setCell _ _ _ _ (by show W0.heap.size ≠ V45.heap.size; omega)).trans h7
              have h8 : V53.heap[V35.heap.size]? = _ := (hV ▸ Below.heap_setCell _ _ _ _ (by show V35.heap.size ≠ V45.heap.size; omega)).trans h8
              have h9 := heap_set_same _ _ 0 (.slice (some ⟨W0.heap.size, 0, none⟩) N N) _ _ h9
              rw [hV] at h9
              have h3 : V53.heap[V50.heap.size]? = _ := (hV ▸ Below.heap_setCell _ _ _ _ (by show V50.heap.size ≠ V45.heap.size; omega)).trans h3
              rw [hV]
              clear hV
              refine hK.out _ _ (HCell.out _ lo) (fun hHeld => ?_)
              clear hK K
              try simp only [Act.put, List.setIfInBounds_toArray, List.set_cons_zero, List.set_cons_succ]
              refine wpAnyH_done (by kernel_rfl) ⟨rfl, ?_⟩ _
              exact HRest.out V53 V50.heap.size W0.heap.size V35.heap.size V45.heap.size ⟨lo, by omega, by omega, by rw [dFrom_nil, Array.toArray_toList]; exact h3, by rw [dFrom_nil, Array.toArray_toList]; exact h7, h8, h9⟩
    · go_simp
      obtain ⟨V54, hV⟩ : ∃ V, V35.alloc (.cells #[.slice none 0 0] 25) = V := ⟨_, rfl⟩
      have szq : V54.heap.size = V35.heap.size + 1 := by rw [← hV]; exact World.size_alloc _ _
      have sz : V54.heap.size ≤ V35.heap.size + 1 ∧ V35.heap.size + 1 ≤ V54.heap.size := by omega
      clear szq
      have hb : Below V35.heap.size V35 V54 := hV ▸ one_below _ _
      have gz := lo.size
      have lo := lo.trans (hb.mono lo.size)
      have h7 := (hb.block _ (by omega)).trans h7
      have h9 : V54.heap[V35.heap.size]? = some (.cells #[.slice none 0 0] 25 (0, 0)) := hV ▸ World.alloc_heap_new _ _
      rw [hV]
      clear hV
      refine hK.out _ _ (HCell.out _ lo) (fun hHeld => ?_)
      clear hK K
      try simp only [Act.put, List.setIfInBounds_toArray, List.set_cons_zero, List.set_cons_succ]
      refine wpAnyH_ready (rs := [3, 8]) (by kernel_rfl) (by simp) ?_
      refine AllReadyH.cons (gof_drop rfl) (fun K hK => ?_) (AllReadyH.cons (gof_drop rfl) (fun K hK => ?_) AllReadyH.nil)
      · go_simp
        obtain ⟨V55, hV⟩ : ∃ V, V54.alloc (.cells (madeCells #[.int .i64 0] N) 3) = V := ⟨_, rfl⟩
        have szq : V55.heap.size = V54.heap.size + 1 := by rw [← hV]; exact World.size_alloc _ _
        have sz : V55.heap.size ≤ V54.heap.size + 1 ∧ V54.heap.size + 1 ≤ V55.heap.size := by omega
        clear szq
        have hb : Below V54.heap.size V54 V55 := hV ▸ one_below _ _
        have gz := lo.size
        have lo := lo.trans (hb.mono lo.size)
        have h7 := (hb.block _ (by omega)).trans h7
        have h9 := (hb.block _ (by omega)).trans h9
        have h3 : V55.heap[V54.heap.size]? = some (.cells (madeCells #[.int .i64 0] N) 3 (0, 0)) := hV ▸ World.alloc_heap_new _ _
        rw [hV]
        clear hV
        refine hK.out _ _ (HCell.out _ lo) (fun hHeld => ?_)
        clear hK K
        try simp only [Act.put, List.setIfInBounds_toArray, List.set_cons_zero, List.set_cons_succ]
        refine wpAnyH_ready (rs := [8]) (by kernel_rfl) (by simp) ?_
        refine AllReadyH.cons (gof_drop rfl) (fun K hK => ?_) AllReadyH.nil
        · go_simp
          obtain ⟨V56, hV⟩ : ∃ V, V55.alloc (.cells #[.slice none 0 0] 25) = V := ⟨_, rfl⟩
          have szq : V56.heap.size = V55.heap.size + 1 := by rw [← hV]; exact World.size_alloc _ _
          have sz : V56.heap.size ≤ V55.heap.size + 1 ∧ V55.heap.size + 1 ≤ V56.heap.size := by omega
          clear szq
          have hb : Below V55.heap.size V55 V56 := hV ▸ one_below _ _
          have gz := lo.size
          have lo := lo.trans (hb.mono lo.size)
          have h7 := (hb.block _ (by omega)).trans h7
          have h9 := (hb.block _ (by omega)).trans h9
          have h3 := (hb.block _ (by omega)).trans h3
          have h8 : V56.heap[V55.heap.size]? = some (.cells #[.slice none 0 0] 25 (0, 0)) := hV ▸ World.alloc_heap_new _ _
          rw [hV]
          clear hV
          refine hK.out _ _ (HCell.out _ lo) (fun hHeld => ?_)
          clear hK K
          try simp only [Act.put, List.setIfInBounds_toArray, List.set_cons_zero, List.set_cons_succ]
          refine wpAnyH_ready (rs := [10]) (by kernel_rfl) (by simp) ?_
          refine AllReadyH.cons (gof_drop rfl) (fun K hK => ?_) AllReadyH.nil
          · have kf := frz_at h8 0
            have kc : V56.cell? ⟨V55.heap.size, 0, none⟩ = some (.slice none 0 0) := (cell_at h8 0).trans rfl
            go_simp
            clear kf kc
            obtain ⟨V57, hV⟩ : ∃ V, V56.setCell ⟨V55.heap.size, 0, none⟩ (.slice (some ⟨V54.heap.size, 0, none⟩) N N) = V := ⟨_, rfl⟩
            have szq : V57.heap.size = V56.heap.size := by rw [← hV]; simp [World.setCell]
            have sz : V57.heap.size ≤ V56.heap.size ∧ V56.heap.size ≤ V57.heap.size := by omega
            clear szq
            have lo : Below w1.heap.size w1 V57 := hV ▸ lo.setCell (p := ⟨V55.heap.size, 0, none⟩) (by show w1.heap.size ≤ V55.heap.size; omega) _
            have h7 : V57.heap[W0.heap.size]? = _ := (hV ▸ Below.heap_setCell _ _ _ _ (by show W0.heap.size ≠ V55.heap.size; omega)).trans h7
            have h9 : V57.heap[V35.heap.size]? = _ := (hV ▸ Below.heap_setCell _ _ _ _ (by show V35.heap.size ≠ V55.heap.size; omega)).trans h9
            have h3 : V57.heap[V54.heap.size]? = _ := (hV ▸ Below.heap_setCell _ _ _ _ (by show V54.heap.size ≠ V55.heap.size; omega)).trans h3
            have h8 := heap_set_same _ _ 0 (.slice (some ⟨V54.heap.size, 0, none⟩) N N) _ _ h8
            rw [hV] at h8
            rw [hV]
            clear hV
            refine hK.out _ _ (HCell.out _ lo) (fun hHeld => ?_)
            clear hK K
            try simp only [Act.put, List.setIfInBounds_toArray, List.set_cons_zero, List.set_cons_succ]
            refine wpAnyH_ready (rs := [11]) (by kernel_rfl) (by simp) ?_
            refine AllReadyH.cons (gof_drop rfl) (fun K hK => ?_) AllReadyH.nil
            · have kf := frz_at h9 0
              have kc : V57.cell? ⟨V35.heap.size, 0, none⟩ = some (.slice none 0 0) := (cell_at h9 0).trans rfl
              go_simp
              clear kf kc
              obtain ⟨V58, hV⟩ : ∃ V, V57.setCell ⟨V35.heap.size, 0, none⟩ (.slice (some ⟨W0.heap.size, 0, none⟩) N N) = V := ⟨_, rfl⟩
              have szq : V58.heap.size = V57.heap.size := by rw [← hV]; simp [World.setCell]
              have sz : V58.heap.size ≤ V57.heap.size ∧ V57.heap.size ≤ V58.heap.size := by omega
              clear szq
              have lo : Below w1.heap.size w1 V58 := hV ▸ lo.setCell (p := ⟨V35.heap.size, 0, none⟩) (by show w1.heap.size ≤ V35.heap.size; omega) _
              have h7 : V58.heap[W0.heap.size]? = _ := (hV ▸ Below.heap_setCell _ _ _ _ (by show W0.heap.size ≠ V35.heap.size; omega)).trans h7
              have h9 := heap_set_same _ _ 0 (.slice (some ⟨W0.heap.size, 0, none⟩) N N) _ _ h9
              rw [hV] at h9
              have h3 : V58.heap[V54.heap.size]? = _ := (hV ▸ Below.heap_setCell _ _ _ _ (by show V54.heap.size ≠ V35.heap.size; omega)).trans h3
              have h8 : V58.heap[V55.heap.size]? = _ := (hV ▸ Below.heap_setCell _ _ _ _ (by show V55.heap.size ≠ V35.heap.size; omega)).trans h8
              rw [hV]
              clear hV
              refine hK.out _ _ (HCell.out _ lo) (fun hHeld => ?_)
              clear hK K
              try simp only [Act.put, List.setIfInBounds_toArray, List.set_cons_zero, List.set_cons_succ]
              refine wpAnyH_done (by kernel_rfl) ⟨rfl, ?_⟩ _
              exact HRest.out V58 V54.heap.size W0.heap.size V55.heap.size V35.heap.size ⟨lo, by omega, by omega, by rw [dFrom_nil, Array.toArray_toList]; exact h3, by rw [dFrom_nil, Array.toArray_toList]; exact h7, h8, h9⟩
      · go_simp
        obtain ⟨V59, hV⟩ : ∃ V, V54.alloc (.cells #[.slice none 0 0] 25) = V := ⟨_, rfl⟩
        have szq : V59.heap.size = V54.heap.size + 1 := by rw [← hV]; exact World.size_alloc _ _
        have sz : V59.heap.size ≤ V54.heap.size + 1 ∧ V54.heap.size + 1 ≤ V59.heap.size := by omega
        clear szq
        have hb : Below V54.heap.size V54 V59 := hV ▸ one_below _ _
        have gz := lo.size
        have lo := lo.trans (hb.mono lo.size)
        have h7 := (hb.block _ (by omega)).trans h7
        have h9 := (hb.block _ (by omega)).trans h9
        have h8 : V59.heap[V54.heap.size]? = some (.cells #[.slice none 0 0] 25 (0, 0)) := hV ▸ World.alloc_heap_new _ _
        rw [hV]
        clear hV
        refine hK.out _ _ (HCell.out _ lo) (fun hHeld => ?_)
        clear hK K
        try simp only [Act.put, List.setIfInBounds_toArray, List.set_cons_zero, List.set_cons_succ]
        refine wpAnyH_ready (rs := [3]) (by kernel_rfl) (by simp) ?_
        refine AllReadyH.cons (gof_drop rfl) (fun K hK => ?_) AllReadyH.nil
        · go_simp
          obtain ⟨V60, hV⟩ : ∃ V, V59.alloc (.cells (madeCells #[.int .i64 0] N) 3) = V := ⟨_, rfl⟩
          have szq : V60.heap.size = V59.heap.size + 1 := by rw [← hV]; exact World.size_alloc _ _
          have sz : V60.heap.size ≤ V59.heap.size + 1 ∧ V59.heap.size + 1 ≤ V60.heap.size := by omega
          clear szq
          have hb : Below V59.heap.size V59 V60 := hV ▸ one_below _ _
          have gz := lo.size
          have lo := lo.trans (hb.mono lo.size)
          have h7 := (hb.block _ (by omega)).trans h7
          have h9 := (hb.block _ (by omega)).trans h9
          have h8 := (hb.block _ (by omega)).trans h8
          have h3 : V60.heap[V59.heap.size]? = some (.cells (madeCells #[.int .i64 0] N) 3 (0, 0)) := hV ▸ World.alloc_heap_new _ _
          rw [hV]
          clear hV
          refine hK.out _ _ (HCell.out _ lo) (fun hHeld => ?_)
          clear hK K
          try simp only [Act.put, List.setIfInBounds_toArray, List.set_cons_zero, List.set_cons_succ]
          refine wpAnyH_ready (rs := [10]) (by kernel_rfl) (by simp) ?_
          refine AllReadyH.cons (gof_drop rfl) (fun K hK => ?_) AllReadyH.nil
          · have kf := frz_at h8 0
            have kc : V60.cell? ⟨V54.heap.size, 0, none⟩ = some (.slice none 0 0) := (cell_at h8 0).trans rfl
            go_simp
            clear kf kc
            obtain ⟨V61, hV⟩ : ∃ V, V60.setCell ⟨V54.heap.size, 0, none⟩ (.slice (some ⟨V59.heap.size, 0, none⟩) N N) = V := ⟨_, rfl⟩
            have szq : V61.heap.size = V60.heap.size := by rw [← hV]; simp [World.setCell]
            have sz : V61.heap.size ≤ V60.heap.size ∧ V60.heap.size ≤ V61.heap.size := by omega
            clear szq
            have lo : Below w1.heap.size w1 V61 := hV ▸ lo.setCell (p := ⟨V54.heap.size, 0, none⟩) (by show w1.heap.size ≤ V54.heap.size; omega) _
            have h7 : V61.heap[W0.heap.size]? = _ := (hV ▸ Below.heap_setCell _ _ _ _ (by show W0.heap.size ≠ V54.heap.size; omega)).trans h7
            have h9 : V61.heap[V35.heap.size]? = _ := (hV ▸ Below.heap_setCell _ _ _ _ (by show V35.heap.size ≠ V54.heap.size; omega)).trans h9
            have h8 := heap_set_same _ _ 0 (.slice (some ⟨V59.heap.size, 0, none⟩) N N) _ _ h8
            rw [hV] at h8
            have h3 : V61.heap[V59.heap.size]? = _ := (hV ▸ Below.heap_setCell _ _ _ _ (by show V59.heap.size ≠ V54.heap.size; omega)).trans h3
            rw [hV]
            clear hV
            refine hK.out _ _ (HCell.out _ lo) (fun hHeld => ?_)
            clear hK K
            try simp only [Act.put, List.setIfInBounds_toArray, List.set_cons_zero, List.set_cons_succ]
            refine wpAnyH_ready (rs := [11]) (by kernel_rfl) (by simp) ?_
            refine AllReadyH.cons (gof_drop rfl) (fun K hK => ?_) AllReadyH.nil
            · have kf := frz_at h9 0
              have kc : V61.cell? ⟨V35.heap.size, 0, none⟩ = some (.slice none 0 0) := (cell_at h9 0).trans rfl
              go_simp
              clear kf kc
              obtain ⟨V62, hV⟩ : ∃ V, V61.setCell ⟨V35.heap.size, 0, none⟩ (.slice (some ⟨W0.heap.size, 0, none⟩) N N) = V := ⟨_, rfl⟩
              have szq : V62.heap.size = V61.heap.size := by rw [← hV]; simp [World.setCell]
              have sz : V62.heap.size ≤ V61.heap.size ∧ V61.heap.size ≤ V62.heap.size := by omega
              clear szq
              have lo : Below w1.heap.size w1 V62 := hV ▸ lo.setCell (p := ⟨V35.heap.size, 0, none⟩) (by show w1.heap.size ≤ V35.heap.size; omega) _
              have h7 : V62.heap[W0.heap.size]? = _ := (hV ▸ Below.heap_setCell _ _ _ _ (by show W0.heap.size ≠ V35.heap.size; omega)).trans h7
              have h9 := heap_set_same _ _ 0 (.slice (some ⟨W0.heap.size, 0, none⟩) N N) _ _ h9
              rw [hV] at h9
              have h8 : V62.heap[V54.heap.size]? = _ := (hV ▸ Below.heap_setCell _ _ _ _ (by show V54.heap.size ≠ V35.heap.size; omega)).trans h8
              have h3 : V62.heap[V59.heap.size]? = _ := (hV ▸ Below.heap_setCell _ _ _ _ (by show V59.heap.size ≠ V35.heap.size; omega)).trans h3
              rw [hV]
              clear hV
              refine hK.out _ _ (HCell.out _ lo) (fun hHeld => ?_)
              clear hK K
              try simp only [Act.put, List.setIfInBounds_toArray, List.set_cons_zero, List.set_cons_succ]
              refine wpAnyH_done (by kernel_rfl) ⟨rfl, ?_⟩ _
              exact HRest.out V62 V59.heap.size W0.heap.size V54.heap.size V35.heap.size ⟨lo, by omega, by omega, by rw [dFrom_nil, Array.toArray_toList]; exact h3, by rw [dFrom_nil, Array.toArray_toList]; exact h7, h8, h9⟩
  · go_simp
    obtain ⟨V63, hV⟩ : ∃ V, W0.alloc (.cells #[.slice none 0 0] 25) = V := ⟨_, rfl⟩
    have szq : V63.heap.size = W0.heap.size + 1 := by rw [← hV]; exact World.size_alloc _ _
    have sz : V63.heap.size ≤ W0.heap.size + 1 ∧ W0.heap.size + 1 ≤ V63.heap.size := by omega
    clear szq
    have hb : Below W0.heap.size W0 V63 := hV ▸ one_below _ _
    have gz := lo.size
    have lo := lo.trans (hb.mono lo.size)
    have h8 : V63.heap[W0.heap.size]? = some (.cells #[.slice none 0 0] 25 (0, 0)) := hV ▸ World.alloc_heap_new _ _
    rw [hV]
    clear hV
    refine hK.out _ _ (HCell.out _ lo) (fun hHeld => ?_)
    clear hK K
    try simp only [Act.put, List.setIfInBounds_toArray, List.set_cons_zero, List.set_cons_succ]
    refine wpAnyH_ready (rs := [3, 7, 9]) (by kernel_rfl) (by simp) ?_
    refine AllReadyH.cons (gof_drop rfl) (fun K hK => ?_) (AllReadyH.cons (gof_drop rfl) (fun K hK => ?_) (AllReadyH.cons (gof_drop rfl) (fun K hK => ?_) AllReadyH.nil))
    · go_simp
      obtain ⟨V64, hV⟩ : ∃ V, V63.alloc (.cells (madeCells #[.int .i64 0] N) 3) = V := ⟨_, rfl⟩
      have szq : V64.heap.size = V63.heap.size + 1 := by rw [← hV]; exact World.size_alloc _ _
      have sz : V64.heap.size ≤ V63.heap.size + 1 ∧ V63.heap.size + 1 ≤ V64.heap.size := by omega
      clear szq
      have hb : Below V63.heap.size V63 V64 := hV ▸ one_below _ _
      have gz := lo.size
      have lo := lo.trans (hb.mono lo.size)
      have h8 := (hb.block _ (by omega)).trans h8
      have h3 : V64.heap[V63.heap.size]? = some (.cells (madeCells #[.int .i64 0] N) 3 (0, 0)) := hV ▸ World.alloc_heap_new _ _
      rw [hV]
      clear hV
      refine hK.out _ _ (HCell.out _ lo) (fun hHeld => ?_)
      clear hK K
      try simp only [Act.put, List.setIfInBounds_toArray, List.set_cons_zero, List.set_cons_succ]
      refine wpAnyH_ready (rs := [7, 9]) (by kernel_rfl) (by simp) ?_
      refine AllReadyH.cons (gof_drop rfl) (fun K hK => ?_) (AllReadyH.cons (gof_drop rfl) (fun K hK => ?_) AllReadyH.nil)
      · go_simp
        obtain ⟨V65, hV⟩ : ∃ V, V64.alloc (.cells (madeCells #[.int .i64 0] N) 3) = V := ⟨_, rfl⟩
        have szq : V65.heap.size = V64.heap.size + 1 := by rw [← hV]; exact World.size_alloc _ _
        have sz : V65.heap.size ≤ V64.heap.size + 1 ∧ V64.heap.size + 1 ≤ V65.heap.size := by omega
        clear szq
        have hb : Below V64.heap.size V64 V65 := hV ▸ one_below _ _
        have gz := lo.size
        have lo := lo.trans (hb.mono lo.size)
        have h8 := (hb.block _ (by omega)).trans h8
        have h3 := (hb.block _ (by omega)).trans h3
        have h7 : V65.heap[V64.heap.size]? = some (.cells (madeCells #[.int .i64 0] N) 3 (0, 0)) := hV ▸ World.alloc_heap_new _ _
        rw [hV]
        clear hV
        refine hK.out _ _ (HCell.out _ lo) (fun hHeld => ?_)
        clear hK K
        try simp only [Act.put, List.setIfInBounds_toArray, List.set_cons_zero, List.set_cons_succ]
        refine wpAnyH_ready (rs := [9]) (by kernel_rfl) (by simp) ?_
        refine AllReadyH.cons (gof_drop rfl) (fun K hK => ?_) AllReadyH.nil
        · go_simp
          obtain ⟨V66, hV⟩ : ∃ V, V65.alloc (.cells #[.slice none 0 0] 25) = V := ⟨_, rfl⟩
          have szq : V66.heap.size = V65.heap.size + 1 := by rw [← hV]; exact World.size_alloc _ _
          have sz : V66.heap.size ≤ V65.heap.size + 1 ∧ V65.heap.size + 1 ≤ V66.heap.size := by omega
          clear szq
          have hb : Below V65.heap.size V65 V66 := hV ▸ one_below _ _
          have gz := lo.size
          have lo := lo.trans (hb.mono lo.size)
          have h8 := (hb.block _ (by omega)).trans h8
          have h3 := (hb.block _ (by omega)).trans h3
          have h7 := (hb.block _ (by omega)).trans h7
          have h9 : V66.heap[V65.heap.size]? = some (.cells #[.slice none 0 0] 25 (0, 0)) := hV ▸ World.alloc_heap_new _ _
          rw [hV]
          clear hV
          refine hK.out _ _ (HCell.out _ lo) (fun hHeld => ?_)
          clear hK K
          try simp only [Act.put, List.setIfInBounds_toArray, List.set_cons_zero, List.set_cons_succ]
          refine wpAnyH_ready (rs := [10]) (by kernel_rfl) (by simp) ?_
          refine AllReadyH.cons (gof_drop rfl) (fun K hK => ?_) AllReadyH.nil
          · have kf := frz_at h8 0
            have kc : V66.cell? ⟨W0.heap.size, 0, none⟩ = some (.slice none 0 0) := (cell_at h8 0).trans rfl
            go_simp
            clear kf kc
            obtain ⟨V67, hV⟩ : ∃ V, V66.setCell ⟨W0.heap.size, 0, none⟩ (.slice (some ⟨V63.heap.size, 0, none⟩) N N) = V := ⟨_, rfl⟩
            have szq : V67.heap.size = V66.heap.size := by rw [← hV]; simp [World.setCell]
            have sz : V67.heap.size ≤ V66.heap.size ∧ V66.heap.size ≤ V67.heap.size := by omega
            clear szq
            have lo : Below w1.heap.size w1 V67 := hV ▸ lo.setCell (p := ⟨W0.heap.size, 0, none⟩) (by show w1.heap.size ≤ W0.heap.size; omega) _
            have h8 := heap_set_same _ _ 0 (.slice (some ⟨V63.heap.size, 0, none⟩) N N) _ _ h8
            rw [hV] at h8
            have h3 : V67.heap[V63.heap.size]? = _ := (hV ▸ Below.heap_setCell _ _ _ _ (by show V63.heap.size ≠ W0.heap.size; omega)).trans h3
            have h7 : V67.heap[V64.heap.size]? = _ := (hV ▸ Below.heap_setCell _ _ _ _ (by show V64.heap.size ≠ W0.heap.size; omega)).trans h7
            have h9 : V67.heap[V65.heap.size]? = _ := (hV ▸ Below.heap_setCell _ _ _ _ (by show V65.heap.size ≠ W0.heap.size; omega)).trans h9
            rw [hV]
            clear hV
            refine hK.out _ _ (HCell.out _ lo) (fun hHeld => ?_)
            clear hK K
            try simp only [Act.put, List.setIfInBounds_toArray, List.set_cons_zero, List.set_cons_succ]
            refine wpAnyH_ready (rs := [11]) (by kernel_rfl) (by simp) ?_
            refine AllReadyH.cons (gof_drop rfl) (fun K hK => ?_) AllReadyH.nil
            · have kf := frz_at h9 0
              have kc : V67.cell? ⟨V65.heap.size, 0, none⟩ = some (.slice none 0 0) := (cell_at h9 0).trans rfl
              go_simp
              clear kf kc
              obtain ⟨V68, hV⟩ : ∃ V, V67.setCell ⟨V65.heap.size, 0, none⟩ (.slice (some ⟨V64.heap.size, 0, none⟩) N N) = V := ⟨_, rfl⟩
              have szq : V68.heap.size = V67.heap.size := by rw [← hV]; simp [World.setCell]
              have sz : V68.heap.size ≤ V67.heap.size ∧ V67.heap.size ≤ V68.heap.size := by omega
              clear szq
              have lo : Below w1.heap.size w1 V68 := hV ▸ lo.setCell (p := ⟨V65.heap.size, 0, none⟩) (by show w1.heap.size ≤ V65.heap.size; omega) _
              have h8 : V68.heap[W0.heap.size]? = _ := (hV ▸ Below.heap_setCell _ _ _ _ (by show W0.heap.size ≠ V65.heap.size; omega)).trans h8
              have h3 : V68.heap[V63.heap.size]? = _ := (hV ▸ Below.heap_setCell _ _ _ _ (by show V63.heap.size ≠ V65.heap.size; omega)).trans h3
              have h7 : V68.heap[V64.heap.size]? = _ := (hV ▸ Below.heap_setCell _ _ _ _ (by show V64.heap.size ≠ V65.heap.size; omega)).trans h7
              have h9 := heap_set_same _ _ 0 (.slice (some ⟨V64.heap.size, 0, none⟩) N N) _ _ h9
              rw [hV] at h9
              rw [hV]
              clear hV
              refine hK.out _ _ (HCell.out _ lo) (fun hHeld => ?_)
              clear hK K
              try simp only [Act.put, List.setIfInBounds_toArray, List.set_cons_zero, List.set_cons_succ]
              refine wpAnyH_done (by kernel_rfl) ⟨rfl, ?_⟩ _
              exact HRest.out V68 V63.heap.size V64.heap.size W0.heap.size V65.heap.size ⟨lo, by omega, by omega, by rw [dFrom_nil, Array.toArray_toList]; exact h3, by rw [dFrom_nil, Array.toArray_toList]; exact h7, h8, h9⟩
      · go_simp
        obtain ⟨V69, hV⟩ : ∃ V, V64.alloc (.cells #[.slice none 0 0] 25) = V := ⟨_, rfl⟩
        have szq : V69.heap.size = V64.heap.size + 1 := by rw [← hV]; exact World.size_alloc _ _
        have sz : V69.heap.size ≤ V64.heap.size + 1 ∧ V64.heap.size + 1 ≤ V69.heap.size := by omega
        clear szq
        have hb : Below V64.heap.size V64 V69 := hV ▸ one_below _ _
        have gz := lo.size
        have lo := lo.trans (hb.mono lo.size)
        have h8 := (hb.block _ (by omega)).trans h8
        have h3 := (hb.block _ (by omega)).trans h3
        have h9 : V69.heap[V64.heap.size]? = some (.cells #[.slice none 0 0] 25 (0, 0)) := hV ▸ World.alloc_heap_new _ _
        rw [hV]
        clear hV
        refine hK.out _ _ (HCell.out _ lo) (fun hHeld => ?_)
        clear hK K
        try simp only [Act.put, List.setIfInBounds_toArray, List.set_cons_zero, List.set_cons_succ]
        refine wpAnyH_ready (rs := [7, 10]) (by kernel_rfl) (by simp) ?_
        refine AllReadyH.cons (gof_drop rfl) (fun K hK => ?_) (AllReadyH.cons (gof_drop rfl) (fun K hK => ?_) AllReadyH.nil)
        · go_simp
          obtain ⟨V70, hV⟩ : ∃ V, V69.alloc (.cells (madeCells #[.int .i64 0] N) 3) = V := ⟨_, rfl⟩
          have szq : V70.heap.size = V69.heap.size + 1 := by rw [← hV]; exact World.size_alloc _ _
          have sz : V70.heap.size ≤ V69.heap.size + 1 ∧ V69.heap.size + 1 ≤ V70.heap.size := by omega
          clear szq
          have hb : Below V69.heap.size V69 V70 := hV ▸ one_below _ _
          have gz := lo.size
          have lo := lo.trans (hb.mono lo.size)
          have h8 := (hb.block _ (by omega)).trans h8
          have h3 := (hb.block _ (by omega)).trans h3
          have h9 := (hb.block _ (by omega)).trans h9
          have h7 : V70.heap[V69.heap.size]? = some (.cells (madeCells #[.int .i64 0] N) 3 (0, 0)) := hV ▸ World.alloc_heap_new _ _
          rw [hV]
          clear hV
          refine hK.out _ _ (HCell.out _ lo) (fun hHeld => ?_)
          clear hK K
          try simp only [Act.put, List.setIfInBounds_toArray, List.set_cons_zero, List.set_cons_succ]
          refine wpAnyH_ready (rs := [10]) (by kernel_rfl) (by simp) ?_
          refine AllReadyH.cons (gof_drop rfl) (fun K hK => ?_) AllReadyH.nil
          · have kf := frz_at h8 0
            have kc : V70.cell? ⟨W0.heap.size, 0, none⟩ = some (.slice none 0 0) := (cell_at h8 0).trans rfl
            go_simp
            clear kf kc
            obtain ⟨V71, hV⟩ : ∃ V, V70.setCell ⟨W0.heap.size, 0, none⟩ (.slice (some ⟨V63.heap.size, 0, none⟩) N N) = V := ⟨_, rfl⟩
            have szq : V71.heap.size = V70.heap.size := by rw [← hV]; simp [World.setCell]
            have sz : V71.heap.size ≤ V70.heap.size ∧ V70.heap.size ≤ V71.heap.size := by omega
            clear szq
            have lo : Below w1.heap.size w1 V71 := hV ▸ lo.setCell (p := ⟨W0.heap.size, 0, none⟩) (by show w1.heap.size ≤ W0.heap.size; omega) _
            have h8 := heap_set_same _ _ 0 (.slice (some ⟨V63.heap.size, 0, none⟩) N N) _ _ h8
            rw [hV] at h8
            have h3 : V71.heap[V63.heap.size]? = _ := (hV ▸ Below.heap_setCell _ _ _ _ (by show V63.heap.size ≠ W0.heap.size; omega)).trans h3
            have h9 : V71.heap[V64.heap.size]? = _ := (hV ▸ Below.heap_setCell _ _ _ _ (by show V64.heap.size ≠ W0.heap.size; omega)).trans h9
            have h7 : V71.heap[V69.heap.size]? = _ := (hV ▸ Below.heap_setCell _ _ _ _ (by show V69.heap.size ≠ W0.heap.size; omega)).trans h7
            rw [hV]
            clear hV
            refine hK.out _ _ (HCell.out _ lo) (fun hHeld => ?_)
            clear hK K
            try simp only [Act.put, List.setIfInBounds_toArray, List.set_cons_zero, List.set_cons_succ]
            refine wpAnyH_ready (rs := [11]) (by kernel_rfl) (by simp) ?_
            refine AllReadyH.cons (gof_drop rfl) (fun K hK => ?_) AllReadyH.nil
            · have kf := frz_at h9 0
              have kc : V71.cell? ⟨V64.heap.size, 0, none⟩ = some (.slice none 0 0) := (cell_at h9 0).trans rfl
              go_simp
              clear kf kc
              obtain ⟨V72, hV⟩ : ∃ V, V71.setCell ⟨V64.heap.size, 0, none⟩ (.slice (some ⟨V69.heap.size, 0, none⟩) N N) = V := ⟨_, rfl⟩
              have szq : V72.heap.size = V71.heap.size := by rw [← hV]; simp [World.setCell]
              have sz : V72.heap.size ≤ V71.heap.size ∧ V71.heap.size ≤ V72.heap.size := by omega
              clear szq
              have lo : Below w1.heap.size w1 V72 := hV ▸ lo.setCell (p := ⟨V64.heap.size, 0, none⟩) (by show w1.heap.size ≤ V64.heap.size; omega) _
              have h8 : V72.heap[W0.heap.size]? = _ := (hV ▸ Below.heap_setCell _ _ _ _ (by show W0.heap.size ≠ V64.heap.size; omega)).trans h8
              have h3 : V72.heap[V63.heap.size]? = _ := (hV ▸ Below.heap_setCell _ _ _ _ (by show V63.heap.size ≠ V64.heap.size; omega)).trans h3
              have h9 := heap_set_same _ _ 0 (.slice (some ⟨V69.heap.size, 0, none⟩) N N) _ _ h9
              rw [hV] at h9
              have h7 : V72.heap[V69.heap.size]? = _ := (hV ▸ Below.heap_setCell _ _ _ _ (by show V69.heap.size ≠ V64.heap.size; omega)).trans h7
              rw [hV]
              clear hV
              refine hK.out _ _ (HCell.out _ lo) (fun hHeld => ?_)
              clear hK K
              try simp only [Act.put, List.setIfInBounds_toArray, List.set_cons_zero, List.set_cons_succ]
              refine wpAnyH_done (by kernel_rfl) ⟨rfl, ?_⟩ _
              exact HRest.out V72 V63.heap.size V69.heap.size W0.heap.size V64.heap.size ⟨lo, by omega, by omega, by rw [dFrom_nil, Array.toArray_toList]; exact h3, by rw [dFrom_nil, Array.toArray_toList]; exact h7, h8, h9⟩
        · have kf := frz_at h8 0
          have kc : V69.cell? ⟨W0.heap.size, 0, none⟩ = some (.slice none 0 0) := (cell_at h8 0).trans rfl
          go_simp
          clear kf kc
          obtain ⟨V73, hV⟩ : ∃ V, V69.setCell ⟨W0.heap.size, 0, none⟩ (.slice (some ⟨V63.heap.size, 0, none⟩) N N) = V := ⟨_, rfl⟩
          have szq : V73.heap.size = V69.heap.size := by rw [← hV]; simp [World.setCell]
          have sz : V73.heap.size ≤ V69.heap.size ∧ V69.heap.size ≤ V73.heap.size := by omega
          clear szq
          have lo : Below w1.heap.size w1 V73 := hV ▸ lo.setCell (p := ⟨W0.heap.size, 0, none⟩) (by show w1.heap.size ≤ W0.heap.size; omega) _
          have h8 := heap_set_same _ _ 0 (.slice (some ⟨V63.heap.size, 0, none⟩) N N) _ _ h8
          rw [hV] at h8
          have h3 : V73.heap[V63.heap.size]? = _ := (hV ▸ Below.heap_setCell _ _ _ _ (by show V63.heap.size ≠ W0.heap.size; omega)).trans h3
          have h9 : V73.heap[V64.heap.size]? = _ := (hV ▸ Below.heap_setCell _ _ _ _ (by show V64.heap.size ≠ W0.heap.size; omega)).trans h9
          rw [hV]
          clear hV
          refine hK.out _ _ (HCell.out _ lo) (fun hHeld => ?_)
          clear hK K
          try simp only [Act.put, List.setIfInBounds_toArray, List.set_cons_zero, List.set_cons_succ]
          refine wpAnyH_ready (rs := [7]) (by kernel_rfl) (by simp) ?_
          refine AllReadyH.cons (gof_drop rfl) (fun K hK => ?_) AllReadyH.nil
          · go_simp
            obtain ⟨V74, hV⟩ : ∃ V, V73.alloc (.cells (madeCells #[.int .i64 0] N) 3) = V := ⟨_, rfl⟩
            have szq : V74.heap.size = V73.heap.size + 1 := by rw [← hV]; exact World.size_alloc _ _
            have sz : V74.heap.size ≤ V73.heap.size + 1 ∧ V73.heap.size + 1 ≤ V74.heap.size := by omega
            clear szq
            have hb : Below V73.heap.size V73 V74 := hV ▸ one_below _ _
            have gz := lo.size
            have lo := lo.trans (hb.mono lo.size)
            have h8 := (hb.block _ (by omega)).trans h8
            have h3 := (hb.block _ (by omega)).trans h3
            have h9 := (hb.block _ (by omega)).trans h9
            have h7 : V74.heap[V73.heap.size]? = some (.cells (madeCells #[.int .i64 0] N) 3 (0, 0)) := hV ▸ World.alloc_heap_new _ _
            rw [hV]
            clear hV
            refine hK.out _ _ (HCell.out _ lo) (fun hHeld => ?_)
            clear hK K
            try simp only [Act.put, List.setIfInBounds_toArray, List.set_cons_zero, List.set_cons_succ]
            refine wpAnyH_ready (rs := [11]) (by kernel_rfl) (by simp) ?_
            refine AllReadyH.cons (gof_drop rfl) (fun K hK => ?_) AllReadyH.nil
            · have kf := frz_at h9 0
              have kc : V74.cell? ⟨V64.heap.size, 0, none⟩ = some (.slice none 0 0) := (cell_at h9 0).trans rfl
              go_simp
              clear kf kc
              obtain ⟨V75, hV⟩ : ∃ V, V74.setCell ⟨V64.heap.size, 0, none⟩ (.slice (some ⟨V73.heap.size, 0, none⟩) N N) = V := ⟨_, rfl⟩
              have szq : V75.heap.size = V74.heap.size := by rw [← hV]; simp [World.setCell]
              have sz : V75.heap.size ≤ V74.heap.size ∧ V74.heap.size ≤ V75.heap.size := by omega
              clear szq
              have lo : Below w1.heap.size w1 V75 := hV ▸ lo.setCell (p := ⟨V64.heap.size, 0, none⟩) (by show w1.heap.size ≤ V64.heap.size; omega) _
              have h8 : V75.heap[W0.heap.size]? = _ := (hV ▸ Below.heap_setCell _ _ _ _ (by show W0.heap.size ≠ V64.heap.size; omega)).trans h8
              have h3 : V75.heap[V63.heap.size]? = _ := (hV ▸ Below.heap_setCell _ _ _ _ (by show V63.heap.size ≠ V64.heap.size; omega)).trans h3
              have h9 := heap_set_same _ _ 0 (.slice (some ⟨V73.heap.size, 0, none⟩) N N) _ _ h9
              rw [hV] at h9
              have h7 : V75.heap[V73.heap.size]? = _ := (hV ▸ Below.heap_setCell _ _ _ _ (by show V73.heap.size ≠ V64.heap.size; omega)).trans h7
              rw [hV]
              clear hV
              refine hK.out _ _ (HCell.out _ lo) (fun hHeld => ?_)
              clear hK K
              try simp only [Act.put, List.setIfInBounds_toArray, List.set_cons_zero, List.set_cons_succ]
              refine wpAnyH_done (by kernel_rfl) ⟨rfl, ?_⟩ _
              exact HRest.out V75 V63.heap.size V73.heap.size W0.heap.size V64.heap.size ⟨lo, by omega, by omega, by rw [dFrom_nil, Array.toArray_toList]; exact h3, by rw [dFrom_nil, Array.toArray_toList]; exact h7, h8, h9⟩
    · go_simp
      obtain ⟨V76, hV⟩ : ∃ V, V63.alloc (.cells (madeCells #[.int .i64 0] N) 3) = V := ⟨_, rfl⟩
      have szq : V76.heap.size = V63.heap.size + 1 := by rw [← hV]; exact World.size_alloc _ _
      have sz : V76.heap.size ≤ V63.heap.size + 1 ∧ V63.heap.size + 1 ≤ V76.heap.size := by omega
      clear szq
      have hb : Below V63.heap.size V63 V76 := hV ▸ one_below _ _
      have gz := lo.size
      have lo := lo.trans (hb.mono lo.size)
      have h8 := (hb.block _ (by omega)).trans h8
      have h7 : V76.heap[V63.heap.size]? = some (.cells (madeCells #[.int .i64 0] N) 3 (0, 0)) := hV ▸ World.alloc_heap_new _ _
      rw [hV]
      clear hV
      refine hK.out _ _ (HCell.out _ lo) (fun hHeld => ?_)
      clear hK K
      try simp only [Act.put, List.setIfInBounds_toArray, List.set_cons_zero, List.set_cons_succ]
      refine wpAnyH_ready (rs := [3, 9]) (by kernel_rfl) (by simp) ?_
      refine AllReadyH.cons (gof_drop rfl) (fun K hK => ?_) (AllReadyH.cons (gof_drop rfl) (fun K hK => ?_) AllReadyH.nil)
      · go_simp
        obtain ⟨V77, hV⟩ : ∃ V, V76.alloc (.cells (madeCells #[.int .i64 0] N) 3) = V := ⟨_, rfl⟩
        have szq : V77.heap.size = V76.heap.size + 1 := by rw [← hV]; exact World.size_alloc _ _
        have sz : V77.heap.size ≤ V76.heap.size + 1 ∧ V76.heap.size + 1 ≤ V77.heap.size := by omega
        clear szq
        have hb : Below V76.heap.size V76 V77 := hV ▸ one_below _ _
        have gz := lo.size
        have lo := lo.trans (hb.mono lo.size)
        have h8 := (hb.block _ (by omega)).trans h8
        have h7 := (hb.block _ (by omega)).trans h7
        have h3 : V77.heap[V76.heap.size]? = some (.cells (madeCells #[.int .i64 0] N) 3 (0, 0)) := hV ▸ World.alloc_heap_new _ _
        rw [hV]
        clear hV
        refine hK.out _ _ (HCell.out _ lo) (fun hHeld => ?_)
        clear hK K
        try simp only [Act.put, List.setIfInBounds_toArray, List.set_cons_zero, List.set_cons_succ]
        refine wpAnyH_ready (rs := [9]) (by kernel_rfl) (by simp) ?_
        refine AllReadyH.cons (gof_drop rfl) (fun K hK => ?_) AllReadyH.nil
        · go_simp
          obtain ⟨V78, hV⟩ : ∃ V, V77.alloc (.cells #[.slice none 0 0] 25) = V := ⟨_, rfl⟩
          have szq : V78.heap.size = V77.heap.size + 1 := by rw [← hV]; exact World.size_alloc _ _
          have sz : V78.heap.size ≤ V77.heap.size + 1 ∧ V77.heap.size + 1 ≤ V78.heap.size := by omega
          clear szq
          have hb : Below V77.heap.size V77 V78 := hV ▸ one_below _ _
          have gz := lo.size
          have lo := lo.trans (hb.mono lo.size)
          have h8 := (hb.block _ (by omega)).trans h8
          have h7 := (hb.block _ (by omega)).trans h7
          have h3 := (hb.block _ (by omega)).trans h3
          have h9 : V78.heap[V77.heap.size]? = some (.cells #[.slice none 0 0] 25 (0, 0)) := hV ▸ World.alloc_heap_new _ _
          rw [hV]
          clear hV
          refine hK.out _ _ (HCell.out _ lo) (fun hHeld => ?_)
          clear hK K
          try simp only [Act.put, List.setIfInBounds_toArray, List.set_cons_zero, List.set_cons_succ]
          refine wpAnyH_ready (rs := [10]) (by kernel_rfl) (by simp) ?_
          refine AllReadyH.cons (gof_drop rfl) (fun K hK => ?_) AllReadyH.nil
          · have kf := frz_at h8 0
            have kc : V78.cell? ⟨W0.heap.size, 0, none⟩ = some (.slice none 0 0) := (cell_at h8 0).trans rfl
            go_simp
            clear kf kc
            obtain ⟨V79, hV⟩ : ∃ V, V78.setCell ⟨W0.heap.size, 0, none⟩ (.slice (some ⟨V76.heap.size, 0, none⟩) N N) = V := ⟨_, rfl⟩
            have szq : V79.heap.size = V78.heap.size := by rw [← hV]; simp [World.setCell]
            have sz : V79.heap.size ≤ V78.heap.size ∧ V78.heap.size ≤ V79.heap.size := by omega
            clear szq
            have lo : Below w1.heap.size w1 V79 := hV ▸ lo.setCell (p := ⟨W0.heap.size, 0, none⟩) (by show w1.heap.size ≤ W0.heap.size; omega) _
            have h8 := heap_set_same _ _ 0 (.slice (some ⟨V76.heap.size, 0, none⟩) N N) _ _ h8
            rw [hV] at h8
            have h7 : V79.heap[V63.heap.size]? = _ := (hV ▸ Below.heap_setCell _ _ _ _ (by show V63.heap.size ≠ W0.heap.size; omega)).trans h7
            have h3 : V79.heap[V76.heap.size]? = _ := (hV ▸ Below.heap_setCell _ _ _ _ (by show V76.heap.size ≠ W0.heap.size; omega)).trans h3
            have h9 : V79.heap[V77.heap.size]? = _ := (hV ▸ Below.heap_setCell _ _ _ _ (by show V77.heap.size ≠ W0.heap.size; omega)).trans h9
            rw [hV]
            clear hV
            refine hK.out _ _ (HCell.out _ lo) (fun hHeld => ?_)
            clear hK K
            try simp only [Act.put, List.setIfInBounds_toArray, List.set_cons_zero, List.set_cons_succ]
            refine wpAnyH_ready (rs := [11]) (by kernel_rfl) (by simp) ?_
            refine AllReadyH.cons (gof_drop rfl) (fun K hK => ?_) AllReadyH.nil
            · have kf := frz_at h9 0
              have kc : V79.cell? ⟨V77.heap.size, 0, none⟩ = some (.slice none 0 0) := (cell_at h9 0).trans rfl
              go_simp
              clear kf kc
              obtain ⟨V80, hV⟩ : ∃ V, V79.setCell ⟨V77.heap.size, 0, none⟩ (.slice (some ⟨V63.heap.size, 0, none⟩) N N) = V := ⟨_, rfl⟩
              have szq : V80.heap.size = V79.heap.size := by rw [← hV]; simp [World.setCell]
              have sz : V80.heap.size ≤ V79.heap.size ∧ V79.heap.size ≤ V80.heap.size := by omega
              clear szq
              have lo : Below w1.heap.size w1 V80 := hV ▸ lo.setCell (p := ⟨V77.heap.size, 0, none⟩) (by show w1.heap.size ≤ V77.heap.size; omega) _
              have h8 : V80.heap[W0.heap.size]? = _ := (hV ▸ Below.heap_setCell _ _ _ _ (by show W0.heap.size ≠ V77.heap.size; omega)).trans h8
              have h7 : V80.heap[V63.heap.size]? = _ := (hV ▸ Below.heap_setCell _ _ _ _ (by show V63.heap.size ≠ V77.heap.size; omega)).trans h7
              have h3 : V80.heap[V76.heap.size]? = _ := (hV ▸ Below.heap_setCell _ _ _ _ (by show V76.heap.size ≠ V77.heap.size; omega)).trans h3
              have h9 := heap_set_same _ _ 0 (.slice (some ⟨V63.heap.size, 0, none⟩) N N) _ _ h9
              rw [hV] at h9
              rw [hV]
              clear hV
              refine hK.out _ _ (HCell.out _ lo) (fun hHeld => ?_)
              clear hK K
              try simp only [Act.put, List.setIfInBounds_toArray, List.set_cons_zero, List.set_cons_succ]
              refine wpAnyH_done (by kernel_rfl) ⟨rfl, ?_⟩ _
              exact HRest.out V80 V76.heap.size V63.heap.size W0.heap.size V77.heap.size ⟨lo, by omega, by omega, by rw [dFrom_nil, Array.toArray_toList]; exact h3, by rw [dFrom_nil, Array.toArray_toList]; exact h7, h8, h9⟩
      · go_simp
        obtain ⟨V81, hV⟩ : ∃ V, V76.alloc (.cells #[.slice none 0 0] 25) = V := ⟨_, rfl⟩
        have szq : V81.heap.size = V76.heap.size + 1 := by rw [← hV]; exact World.size_alloc _ _
        have sz : V81.heap.size ≤ V76.heap.size + 1 ∧ V76.heap.size + 1 ≤ V81.heap.size := by omega
        clear szq
        have hb : Below V76.heap.size V76 V81 := hV ▸ one_below _ _
        have gz := lo.size
        have lo := lo.trans (hb.mono lo.size)
        have h8 := (hb.block _ (by omega)).trans h8
        have h7 := (hb.block _ (by omega)).trans h7
        have h9 : V81.heap[V76.heap.size]? = some (.cells #[.slice none 0 0] 25 (0, 0)) := hV ▸ World.alloc_heap_new _ _
        rw [hV]
        clear hV
        refine hK.out _ _ (HCell.out _ lo) (fun hHeld => ?_)
        clear hK K
        try simp only [Act.put, List.setIfInBounds_toArray, List.set_cons_zero, List.set_cons_succ]
        refine wpAnyH_ready (rs := [3]) (by kernel_rfl) (by simp) ?_
        refine AllReadyH.cons (gof_drop rfl) (fun K hK => ?_) AllReadyH.nil
        · go_simp
          obtain ⟨V82, hV⟩ : ∃ V, V81.alloc (.cells (madeCells #[.int .i64 0] N) 3) = V := ⟨_, rfl⟩
          have szq : V82.heap.size = V81.heap.size + 1 := by rw [← hV]; exact World.size_alloc _ _
          have sz : V82.heap.size ≤ V81.heap.size + 1 ∧ V81.heap.size + 1 ≤ V82.heap.size := by omega
          clear szq
          have hb : Below V81.heap.size V81 V82 := hV ▸ one_below _ _
          have gz := lo.size
          have lo := lo.trans (hb.mono lo.size)
          have h8 := (hb.block _ (by omega)).trans h8
          have h7 := (hb.block _ (by omega)).trans h7
          have h9 := (hb.block _ (by omega)).trans h9
          have h3 : V82.heap[V81.heap.size]? = some (.cells (madeCells #[.int .i64 0] N) 3 (0, 0)) := hV ▸ World.alloc_heap_new _ _
          rw [hV]
          clear hV
          refine hK.out _ _ (HCell.out _ lo) (fun hHeld => ?_)
          clear hK K
          try simp only [Act.put, List.setIfInBounds_toArray, List.set_cons_zero, List.set_cons_succ]
          refine wpAnyH_ready (rs := [10]) (by kernel_rfl) (by simp) ?_
          refine AllReadyH.cons (gof_drop rfl) (fun K hK => ?_) AllReadyH.nil
          · have kf := frz_at h8 0
            have kc : V82.cell? ⟨W0.heap.size, 0, none⟩ = some (.slice none 0 0) := (cell_at h8 0).trans rfl
            go_simp
            clear kf kc
            obtain ⟨V83, hV⟩ : ∃ V, V82.setCell ⟨W0.heap.size, 0, none⟩ (.slice (some ⟨V81.heap.size, 0, none⟩) N N) = V := ⟨_, rfl⟩
            have szq : V83.heap.size = V82.heap.size := by rw [← hV]; simp [World.setCell]
            have sz : V83.heap.size ≤ V82.heap.size ∧ V82.heap.size ≤ V83.heap.size := by omega
            clear szq
            have lo : Below w1.heap.size w1 V83 := hV ▸ lo.setCell (p := ⟨W0.heap.size, 0, none⟩) (by show w1.heap.size ≤ W0.heap.size; omega) _
            have h8 := heap_set_same _ _ 0 (.slice (some ⟨V81.heap.size, 0, none⟩) N N) _ _ h8
            rw [hV] at h8
            have h7 : V83.heap[V63.heap.size]? = _ := (hV ▸ Below.heap_setCell _ _ _ _ (by show V63.heap.size ≠ W0.heap.size; omega)).trans h7
            have h9 : V83.heap[V76.heap.size]? = _ := (hV ▸ Below.heap_setCell _ _ _ _ (by show V76.heap.size ≠ W0.heap.size; omega)).trans h9
            have h3 : V83.heap[V81.heap.size]? = _ := (hV ▸ Below.heap_setCell _ _ _ _ (by show V81.heap.size ≠ W0.heap.size; omega)).trans h3
            rw [hV]
            clear hV
            refine hK.out _ _ (HCell.out _ lo) (fun hHeld => ?_)
            clear hK K
            try simp only [Act.put, List.setIfInBounds_toArray, List.set_cons_zero, List.set_cons_succ]
            refine wpAnyH_ready (rs := [11]) (by kernel_rfl) (by simp) ?_
            refine AllReadyH.cons (gof_drop rfl) (fun K hK => ?_) AllReadyH.nil
            · have kf := frz_at h9 0
              have kc : V83.cell? ⟨V76.heap.size, 0, none⟩ = some (.slice none 0 0) := (cell_at h9 0).trans rfl
              go_simp
              clear kf kc
              obtain ⟨V84, hV⟩ : ∃ V, V83.setCell ⟨V76.heap.size, 0, none⟩ (.slice (some ⟨V63.heap.size, 0, none⟩) N N) = V := ⟨_, rfl⟩
              have szq : V84.heap.size = V83.heap.size := by rw [← hV]; simp [World.setCell]
              have sz : V84.heap.size ≤ V83.heap.size ∧ V83.heap.size ≤ V84.heap.size := by omega
              clear szq
              have lo : Below w1.heap.size w1 V84 := hV ▸ lo.setCell (p := ⟨V76.heap.size, 0, none⟩) (by show w1.heap.size ≤ V76.heap.size; omega) _
              have h8 : V84.heap[W0.heap.size]? = _ := (hV ▸ Below.heap_setCell _ _ _ _ (by show W0.heap.size ≠ V76.heap.size; omega)).trans h8
              have h7 : V84.heap[V63.heap.size]? = _ := (hV ▸ Below.heap_setCell _ _ _ _ (by show V63.heap.size ≠ V76.heap.size; omega)).trans h7
              have h9 := heap_set_same _ _ 0 (.slice (some ⟨V63.heap.size, 0, none⟩) N N) _ _ h9
              rw [hV] at h9
              have h3 : V84.heap[V81.heap.size]? = _ := (hV ▸ Below.heap_setCell _ _ _ _ (by show V81.heap.size ≠ V76.heap.size; omega)).trans h3
              rw [hV]
              clear hV
              refine hK.out _ _ (HCell.out _ lo) (fun hHeld => ?_)
              clear hK K
              try simp only [Act.put, List.setIfInBounds_toArray, List.set_cons_zero, List.set_cons_succ]
              refine wpAnyH_done (by kernel_rfl) ⟨rfl, ?_⟩ _
              exact HRest.out V84 V81.heap.size V63.heap.size W0.heap.size V76.heap.size ⟨lo, by omega, by omega, by rw [dFrom_nil, Array.toArray_toList]; exact h3, by rw [dFrom_nil, Array.toArray_toList]; exact h7, h8, h9⟩
    · go_simp
      obtain ⟨V85, hV⟩ : ∃ V, V63.alloc (.cells #[.slice none 0 0] 25) = V := ⟨_, rfl⟩
      have szq : V85.heap.size = V63.heap.size + 1 := by rw [← hV]; exact World.size_alloc _ _
      have sz : V85.heap.size ≤ V63.heap.size + 1 ∧ V63.heap.size + 1 ≤ V85.heap.size := by omega
      clear szq
      have hb : Below V63.heap.size V63 V85 := hV ▸ one_below _ _
      have gz := lo.size
      have lo := lo.trans (hb.mono lo.size)
      have h8 := (hb.block _ (by omega)).trans h8
      have h9 : V85.heap[V63.heap.size]? = some (.cells #[.slice none 0 0] 25 (0, 0)) := hV ▸ World.alloc_heap_new _ _
      rw [hV]
      clear hV
      refine hK.out _ _ (HCell.out _ lo) (fun hHeld => ?_)
      clear hK K
      try simp only [Act.put, List.setIfInBounds_toArray, List.set_cons_zero, List.set_cons_succ]
      refine wpAnyH_ready (rs := [3, 7]) (by kernel_rfl) (by simp) ?_
      refine AllReadyH.cons (gof_drop rfl) (fun K hK => ?_) (AllReadyH.cons (gof_drop rfl) (fun K hK => ?_) AllReadyH.nil)
      · go_simp
        obtain ⟨V86, hV⟩ : ∃ V, V85.alloc (.cells (madeCells #[.int .i64 0] N) 3) = V := ⟨_, rfl⟩
        have szq : V86.heap.size = V85.heap.size + 1 := by rw [← hV]; exact World.size_alloc _ _
        have sz : V86.heap.size ≤ V85.heap.size + 1 ∧ V85.heap.size + 1 ≤ V86.heap.size := by omega
        clear szq
        have hb : Below V85.heap.size V85 V86 := hV ▸ one_below _ _
        have gz := lo.size
        have lo := lo.trans (hb.mono lo.size)
        have h8 := (hb.block _ (by omega)).trans h8
        have h9 := (hb.block _ (by omega)).trans h9
        have h3 : V86.heap[V85.heap.size]? = some (.cells (madeCells #[.int .i64 0] N) 3 (0, 0)) := hV ▸ World.alloc_heap_new _ _
        rw [hV]
        clear hV
        refine hK.out _ _ (HCell.out _ lo) (fun hHeld => ?_)
        clear hK K
        try simp only [Act.put, List.setIfInBounds_toArray, List.set_cons_zero, List.set_cons_succ]
        refine wpAnyH_ready (rs := [7, 10]) (by kernel_rfl) (by simp) ?_
        refine AllReadyH.cons (gof_drop rfl) (fun K hK => ?_) (AllReadyH.cons (gof_drop rfl) (fun K hK => ?_) AllReadyH.nil)
        · go_simp
          obtain ⟨V87, hV⟩ : ∃ V, V86.alloc (.cells (madeCells #[.int .i64 0] N) 3) = V := ⟨_, rfl⟩
          have szq : V87.heap.size = V86.heap.size + 1 := by rw [← hV]; exact World.size_alloc _ _
          have sz : V87.heap.size ≤ V86.heap.size + 1 ∧ V86.heap.size + 1 ≤ V87.heap.size := by omega
          clear szq
          have hb : Below V86.heap.size V86 V87 := hV ▸ one_below _ _
          have gz := lo.size
          have lo := lo.trans (hb.mono lo.size)
          have h8 := (hb.block _ (by omega)).trans h8
          have h9 := (hb.block _ (by omega)).trans h9
          have h3 := (hb.block _ (by omega)).trans h3
          have h7 : V87.heap[V86.heap.size]? = some (.cells (madeCells #[.int .i64 0] N) 3 (0, 0)) := hV ▸ World.alloc_heap_new _ _
          rw [hV]
          clear hV
          refine hK.out _ _ (HCell.out _ lo) (fun hHeld => ?_)
          clear hK K
          try simp only [Act.put, List.setIfInBounds_toArray, List.set_cons_zero, List.set_cons_succ]
          refine wpAnyH_ready (rs := [10]) (by kernel_rfl) (by simp) ?_
          refine AllReadyH.cons (gof_drop rfl) (fun K hK => ?_) AllReadyH.nil
          · have kf := frz_at h8 0
            have kc : V87.cell? ⟨W0.heap.size, 0, none⟩ = some (.slice none 0 0) := (cell_at h8 0).trans rfl
            go_simp
            clear kf kc
            obtain ⟨V88, hV⟩ : ∃ V, V87.setCell ⟨W0.heap.size, 0, none⟩ (.slice (some ⟨V85.heap.size, 0, none⟩) N N) = V := ⟨_, rfl⟩
            have szq : V88.heap.size = V87.heap.size := by rw [← hV]; simp [World.setCell]
            have sz : V88.heap.size ≤ V87.heap.size ∧ V87.heap.size ≤ V88.heap.size := by omega
            clear szq
            have lo : Below w1.heap.size w1 V88 := hV ▸ lo.setCell (p := ⟨W0.heap.size, 0, none⟩) (by show w1.heap.size ≤ W0.heap.size; omega) _
            have h8 := heap_set_same _ _ 0 (.slice (some ⟨V85.heap.size, 0, none⟩) N N) _ _ h8
            rw [hV] at h8
            have h9 : V88.heap[V63.heap.size]? = _ := (hV ▸ Below.heap_setCell _ _ _ _ (by show V63.heap.size ≠ W0.heap.size; omega)).trans h9
            have h3 : V88.heap[V85.heap.size]? = _ := (hV ▸ Below.heap_setCell _ _ _ _ (by show V85.heap.size ≠ W0.heap.size; omega)).trans h3
            have h7 : V88.heap[V86.heap.size]? = _ := (hV ▸ Below.heap_setCell _ _ _ _ (by show V86.heap.size ≠ W0.heap.size; omega)).trans h7
            rw [hV]
            clear hV
            refine hK.out _ _ (HCell.out _ lo) (fun hHeld => ?_)
            clear hK K
            try simp only [Act.put, List.setIfInBounds_toArray, List.set_cons_zero, List.set_cons_succ]
            refine wpAnyH_ready (rs := [11]) (by kernel_rfl) (by simp) ?_
            refine AllReadyH.cons (gof_drop rfl) (fun K hK => ?_) AllReadyH.nil
            · have kf := frz_at h9 0
              have kc : V88.cell? ⟨V63.heap.size, 0, none⟩ = some (.slice none 0 0) := (cell_at h9 0).trans rfl
              go_simp
              clear kf kc
              obtain ⟨V89, hV⟩ : ∃ V, V88.setCell ⟨V63.heap.size, 0, none⟩ (.slice (some ⟨V86.heap.size, 0, none⟩) N N) = V := ⟨_, rfl⟩
              have szq : V89.heap.size = V88.heap.size := by rw [← hV]; simp [World.setCell]
              have sz : V89.heap.size ≤ V88.heap.size ∧ V88.heap.size ≤ V89.heap.size := by omega
              clear szq
              have lo : Below w1.heap.size w1 V89 := hV ▸ lo.setCell (p := ⟨V63.heap.size, 0, none⟩) (by show w1.heap.size ≤ V63.heap.size; omega) _
              have h8 : V89.heap[W0.heap.size]? = _ := (hV ▸ Below.heap_setCell _ _ _ _ (by show W0.heap.size ≠ V63.heap.size; omega)).trans h8
              have h9 := heap_set_same _ _ 0 (.slice (some ⟨V86.heap.size, 0, none⟩) N N) _ _ h9
              rw [hV] at h9
              have h3 : V89.heap[V85.heap.size]? = _ := (hV ▸ Below.heap_setCell _ _ _ _ (by show V85.heap.size ≠ V63.heap.size; omega)).trans h3
              have h7 : V89.heap[V86.heap.size]? = _ := (hV ▸ Below.heap_setCell _ _ _ _ (by show V86.heap.size ≠ V63.heap.size; omega)).trans h7
              rw [hV]
              clear hV
              refine hK.out _ _ (HCell.out _ lo) (fun hHeld => ?_)
              clear hK K
              try simp only [Act.put, List.setIfInBounds_toArray, List.set_cons_zero, List.set_cons_succ]
              refine wpAnyH_done (by kernel_rfl) ⟨rfl, ?_⟩ _
              exact HRest.out V89 V85.heap.size V86.heap.size W0.heap.size V63.heap.size ⟨lo, by omega, by omega, by rw [dFrom_nil, Array.toArray_toList]; exact h3, by rw [dFrom_nil, Array.toArray_toList]; exact h7, h8, h9⟩
        · have kf := frz_at h8 0
          have kc : V86.cell? ⟨W0.heap.size, 0, none⟩ = some (.slice none 0 0) := (cell_at h8 0).trans rfl
          go_simp
          clear kf kc
          obtain ⟨V90, hV⟩ : ∃ V, V86.setCell ⟨W0.heap.size, 0, none⟩ (.slice (some ⟨V85.heap.size, 0, none⟩) N N) = V := ⟨_, rfl⟩
          have szq : V90.heap.size = V86.heap.size := by rw [← hV]; simp [World.setCell]
          have sz : V90.heap.size ≤ V86.heap.size ∧ V86.heap.size ≤ V90.heap.size := by omega
          clear szq
          have lo : Below w1.heap.size w1 V90 := hV ▸ lo.setCell (p := ⟨W0.heap.size, 0, none⟩) (by show w1.heap.size ≤ W0.heap.size; omega) _
          have h8 := heap_set_same _ _ 0 (.slice (some ⟨V85.heap.size, 0, none⟩) N N) _ _ h8
          rw [hV] at h8
          have h9 : V90.heap[V63.heap.size]? = _ := (hV ▸ Below.heap_setCell _ _ _ _ (by show V63.heap.size ≠ W0.heap.size; omega)).trans h9
          have h3 : V90.heap[V85.heap.size]? = _ := (hV ▸ Below.heap_setCell _ _ _ _ (by show V85.heap.size ≠ W0.heap.size; omega)).trans h3
          rw [hV]
          clear hV
          refine hK.out _ _ (HCell.out _ lo) (fun hHeld => ?_)
          clear hK K
          try simp only [Act.put, List.setIfInBounds_toArray, List.set_cons_zero, List.set_cons_succ]
          refine wpAnyH_ready (rs := [7]) (by kernel_rfl) (by simp) ?_
          refine AllReadyH.cons (gof_drop rfl) (fun K hK => ?_) AllReadyH.nil
          · go_simp
            obtain ⟨V91, hV⟩ : ∃ V, V90.alloc (.cells (madeCells #[.int .i64 0] N) 3) = V := ⟨_, rfl⟩
            have szq : V91.heap.size = V90.heap.size + 1 := by rw [← hV]; exact World.size_alloc _ _
            have sz : V91.heap.size ≤ V90.heap.size + 1 ∧ V90.heap.size + 1 ≤ V91.heap.size := by omega
            clear szq
            have hb : Below V90.heap.size V90 V91 := hV ▸ one_below _ _
            have gz := lo.size
            have lo := lo.trans (hb.mono lo.size)
            have h8 := (hb.block _ (by omega)).trans h8
            have h9 := (hb.block _ (by omega)).trans h9
            have h3 := (hb.block _ (by omega)).trans h3
            have h7 : V91.heap[V90.heap.size]? = some (.cells (madeCells #[.int .i64 0] N) 3 (0, 0)) := hV ▸ World.alloc_heap_new _ _
            rw [hV]
            clear hV
            refine hK.out _ _ (HCell.out _ lo) (fun hHeld => ?_)
            clear hK K
            try simp only [Act.put, List.setIfInBounds_toArray, List.set_cons_zero, List.set_cons_succ]
            refine wpAnyH_ready (rs := [11]) (by kernel_rfl) (by simp) ?_
            refine AllReadyH.cons (gof_drop rfl) (fun K hK => ?_) AllReadyH.nil
            · have kf := frz_at h9 0
              have kc : V91.cell? ⟨V63.heap.size, 0, none⟩ = some (.slice none 0 0) := (cell_at h9 0).trans rfl
              go_simp
              clear kf kc
              obtain ⟨V92, hV⟩ : ∃ V, V91.setCell ⟨V63.heap.size, 0, none⟩ (.slice (some ⟨V90.heap.size, 0, none⟩) N N) = V := ⟨_, rfl⟩
              have szq : V92.heap.size = V91.heap.size := by rw [← hV]; simp [World.setCell]
              have sz : V92.heap.size ≤ V91.heap.size ∧ V91.heap.size ≤ V92.heap.size := by omega
              clear szq
              have lo : Below w1.heap.size w1 V92 := hV ▸ lo.setCell (p := ⟨V63.heap.size, 0, none⟩) (by show w1.heap.size ≤ V63.heap.size; omega) _
              have h8 : V92.heap[W0.heap.size]? = _ := (hV ▸ Below.heap_setCell _ _ _ _ (by show W0.heap.size ≠ V63.heap.size; omega)).trans h8
              have h9 := heap_set_same _ _ 0 (.slice (some ⟨V90.heap.size, 0, none⟩) N N) _ _ h9
              rw [hV] at h9
              have h3 : V92.heap[V85.heap.size]? = _ := (hV ▸ Below.heap_setCell _ _ _ _ (by show V85.heap.size ≠ V63.heap.size; omega)).trans h3
              have h7 : V92.heap[V90.heap.size]? = _ := (hV ▸ Below.heap_setCell _ _ _ _ (by show V90.heap.size ≠ V63.heap.size; omega)).trans h7
              rw [hV]
              clear hV
              refine hK.out _ _ (HCell.out _ lo) (fun hHeld => ?_)
              clear hK K
              try simp only [Act.put, List.setIfInBounds_toArray, List.set_cons_zero, List.set_cons_succ]
              refine wpAnyH_done (by kernel_rfl) ⟨rfl, ?_⟩ _
              exact HRest.out V92 V85.heap.size V90.heap.size W0.heap.size V63.heap.size ⟨lo, by omega, by omega, by rw [dFrom_nil, Array.toArray_toList]; exact h3, by rw [dFrom_nil, Array.toArray_toList]; exact h7, h8, h9⟩
      · go_simp
        obtain ⟨V93, hV⟩ : ∃ V, V85.alloc (.cells (madeCells #[.int .i64 0] N) 3) = V := ⟨_, rfl⟩
        have szq : V93.heap.size = V85.heap.size + 1 := by rw [← hV]; exact World.size_alloc _ _
        have sz : V93.heap.size ≤ V85.heap.size + 1 ∧ V85.heap.size + 1 ≤ V93.heap.size := by omega
        clear szq
        have hb : Below V85.heap.size V85 V93 := hV ▸ one_below _ _
        have gz := lo.size
        have lo := lo.trans (hb.mono lo.size)
        have h8 := (hb.block _ (by omega)).trans h8
        have h9 := (hb.block _ (by omega)).trans h9
        have h7 : V93.heap[V85.heap.size]? = some (.cells (madeCells #[.int .i64 0] N) 3 (0, 0)) := hV ▸ World.alloc_heap_new _ _
        rw [hV]
        clear hV
        refine hK.out _ _ (HCell.out _ lo) (fun hHeld => ?_)
        clear hK K
        try simp only [Act.put, List.setIfInBounds_toArray, List.set_cons_zero, List.set_cons_succ]
        refine wpAnyH_ready (rs := [3]) (by kernel_rfl) (by simp) ?_
        refine AllReadyH.cons (gof_drop rfl) (fun K hK => ?_) AllReadyH.nil
        · go_simp
          obtain ⟨V94, hV⟩ : ∃ V, V93.alloc (.cells (madeCells #[.int .i64 0] N) 3) = V := ⟨_, rfl⟩
          have szq : V94.heap.size = V93.heap.size + 1 := by rw [← hV]; exact World.size_alloc _ _
          have sz : V94.heap.size ≤ V93.heap.size + 1 ∧ V93.heap.size + 1 ≤ V94.heap.size := by omega
          clear szq
          have hb : Below V93.heap.size V93 V94 := hV ▸ one_below _ _
          have gz := lo.size
          have lo := lo.trans (hb.mono lo.size)
          have h8 := (hb.block _ (by omega)).trans h8
          have h9 := (hb.block _ (by omega)).trans h9
          have h7 := (hb.block _ (by omega)).trans h7
          have h3 : V94.heap[V93.heap.size]? = some (.cells (madeCells #[.int .i64 0] N) 3 (0, 0)) := hV ▸ World.alloc_heap_new _ _
          rw [hV]
          clear hV
          refine hK.out _ _ (HCell.out _ lo) (fun hHeld => ?_)
          clear hK K
          try simp only [Act.put, List.setIfInBounds_toArray, List.set_cons_zero, List.set_cons_succ]
          refine wpAnyH_ready (rs := [10]) (by kernel_rfl) (by simp) ?_
          refine AllReadyH.cons (gof_drop rfl) (fun K hK => ?_) AllReadyH.nil
          · have kf := frz_at h8 0
            have kc : V94.cell? ⟨W0.heap.size, 0, none⟩ = some (.slice none 0 0) := (cell_at h8 0).trans rfl
            go_simp
            clear kf kc
            obtain ⟨V95, hV⟩ : ∃ V, V94.setCell ⟨W0.heap.size, 0, none⟩ (.slice (some ⟨V93.heap.size, 0, none⟩) N N) = V := ⟨_, rfl⟩
            have szq : V95.heap.size = V94.heap.size := by rw [← hV]; simp [World.setCell]
            have sz : V95.heap.size ≤ V94.heap.size ∧ V94.heap.size ≤ V95.heap.size := by omega
            clear szq
            have lo : Below w1.heap.size w1 V95 := hV ▸ lo.setCell (p := ⟨W0.heap.size, 0, none⟩) (by show w1.heap.size ≤ W0.heap.size; omega) _
            have h8 := heap_set_same _ _ 0 (.slice (some ⟨V93.heap.size, 0, none⟩) N N) _ _ h8
            rw [hV] at h8
            have h9 : V95.heap[V63.heap.size]? = _ := (hV ▸ Below.heap_setCell _ _ _ _ (by show V63.heap.size ≠ W0.heap.size; omega)).trans h9
            have h7 : V95.heap[V85.heap.size]? = _ := (hV ▸ Below.heap_setCell _ _ _ _ (by show V85.heap.size ≠ W0.heap.size; omega)).trans h7
            have h3 : V95.heap[V93.heap.size]? = _ := (hV ▸ Below.heap_setCell _ _ _ _ (by show V93.heap.size ≠ W0.heap.size; omega)).trans h3
            rw [hV]
            clear hV
            refine hK.out _ _ (HCell.out _ lo) (fun hHeld => ?_)
            clear hK K
            try simp only [Act.put, List.setIfInBounds_toArray, List.set_cons_zero, List.set_cons_succ]
            refine wpAnyH_ready (rs := [11]) (by kernel_rfl) (by simp) ?_
            refine AllReadyH.cons (gof_drop rfl) (fun K hK => ?_) AllReadyH.nil
            · have kf := frz_at h9 0
              have kc : V95.cell? ⟨V63.heap.size, 0, none⟩ = some (.slice none 0 0) := (cell_at h9 0).trans rfl
              go_simp
              clear kf kc
              obtain ⟨V96, hV⟩ : ∃ V, V95.setCell ⟨V63.heap.size, 0, none⟩ (.slice (some ⟨V85.heap.size, 0, none⟩) N N) = V := ⟨_, rfl⟩
              have szq : V96.heap.size = V95.heap.size := by rw [← hV]; simp [World.setCell]
              have sz : V96.heap.size ≤ V95.heap.size ∧ V95.heap.size ≤ V96.heap.size := by omega
              clear szq
              have lo : Below w1.heap.size w1 V96 := hV ▸ lo.setCell (p := ⟨V63.heap.size, 0, none⟩) (by show w1.heap.size ≤ V63.heap.size; omega) _
              have h8 : V96.heap[W0.heap.size]? = _ := (hV ▸ Below.heap_setCell _ _ _ _ (by show W0.heap.size ≠ V63.heap.size; omega)).trans h8
              have h9 := heap_set_same _ _ 0 (.slice (some ⟨V85.heap.size, 0, none⟩) N N) _ _ h9
              rw [hV] at h9
              have h7 : V96.heap[V85.heap.size]? = _ := (hV ▸ Below.heap_setCell _ _ _ _ (by show V85.heap.size ≠ V63.heap.size; omega)).trans h7
              have h3 : V96.heap[V93.heap.size]? = _ := (hV ▸ Below.heap_setCell _ _ _ _ (by show V93.heap.size ≠ V63.heap.size; omega)).trans h3
              rw [hV]
              clear hV
              refine hK.out _ _ (HCell.out _ lo) (fun hHeld => ?_)
              clear hK K
              try simp only [Act.put, List.setIfInBounds_toArray, List.set_cons_zero, List.set_cons_succ]
              refine wpAnyH_done (by kernel_rfl) ⟨rfl, ?_⟩ _
              exact HRest.out V96 V93.heap.size V85.heap.size W0.heap.size V63.heap.size ⟨lo, by omega, by omega, by rw [dFrom_nil, Array.toArray_toList]; exact h3, by rw [dFrom_nil, Array.toArray_toList]; exact h7, h8, h9⟩
  · go_simp
    obtain ⟨V97, hV⟩ : ∃ V, W0.alloc (.cells #[.slice none 0 0] 25) = V := ⟨_, rfl⟩
    have szq : V97.heap.size = W0.heap.size + 1 := by rw [← hV]; exact World.size_alloc _ _
    have sz : V97.heap.size ≤ W0.heap.size + 1 ∧ W0.heap.size + 1 ≤ V97.heap.size := by omega
    clear szq
    have hb : Below W0.heap.size W0 V97 := hV ▸ one_below _ _
    have gz := lo.size
    have lo := lo.trans (hb.mono lo.size)
    have h9 : V97.heap[W0.heap.size]? = some (.cells #[.slice none 0 0] 25 (0, 0)) := hV ▸ World.alloc_heap_new _ _
    rw [hV]
    clear hV
    refine hK.out _ _ (HCell.out _ lo) (fun hHeld => ?_)
    clear hK K
    try simp only [Act.put, List.setIfInBounds_toArray, List.set_cons_zero, List.set_cons_succ]
    refine wpAnyH_ready (rs := [3, 7, 8]) (by kernel_rfl) (by simp) ?_
    refine AllReadyH.cons (gof_drop rfl) (fun K hK => ?_) (AllReadyH.cons (gof_drop rfl) (fun K hK => ?_) (AllReadyH.cons (gof_drop rfl) (fun K hK => ?_) AllReadyH.nil))
    · go_simp
      obtain ⟨V98, hV⟩ : ∃ V, V97.alloc (.cells (madeCells #[.int .i64 0] N) 3) = V := ⟨_, rfl⟩
      have szq : V98.heap.size = V97.heap.size + 1 := by rw [← hV]; exact World.size_alloc _ _
      have sz : V98.heap.size ≤ V97.heap.size + 1 ∧ V97.heap.size + 1 ≤ V98.heap.size := by omega
      clear szq
      have hb : Below V97.heap.size V97 V98 := hV ▸ one_below _ _
      have gz := lo.size
      have lo := lo.trans (hb.mono lo.size)
      have h9 := (hb.block _ (by omega)).trans h9
      have h3 : V98.heap[V97.heap.size]? = some (.cells (madeCells #[.int .i64 0] N) 3 (0, 0)) := hV ▸ World.alloc_heap_new _ _
      rw [hV]
      clear hV
      refine hK.out _ _ (HCell.out _ lo) (fun hHeld => ?_)
      clear hK K
      try simp only [Act.put, List.setIfInBounds_toArray, List.set_cons_zero, List.set_cons_succ]
      refine wpAnyH_ready (rs := [7, 8]) (by kernel_rfl) (by simp) ?_
      refine AllReadyH.cons (gof_drop rfl) (fun K hK => ?_) (AllReadyH.cons (gof_drop rfl) (fun K hK => ?_) AllReadyH.nil)
      · go_simp
        obtain ⟨V99, hV⟩ : ∃ V, V98.alloc (.cells (madeCells #[.int .i64 0] N) 3) = V := ⟨_, rfl⟩
        have szq : V99.heap.size = V98.heap.size + 1 := by rw [← hV]; exact World.size_alloc _ _
        have sz : V99.heap.size ≤ V98.heap.size + 1 ∧ V98.heap.size + 1 ≤ V99.heap.size := by omega
        clear szq
        have hb : Below V98.heap.size V98 V99 := hV ▸ one_below _ _
        have gz := lo.size
        have lo := lo.trans (hb.mono lo.size)
        have h9 := (hb.block _ (by omega)).trans h9
        have h3 := (hb.block _ (by omega)).trans h3
        have h7 : V99.heap[V98.heap.size]? = some (.cells (madeCells #[.int .i64 0] N) 3 (0, 0)) := hV ▸ World.alloc_heap_new _ _
        rw [hV]
        clear hV
        refine hK.out _ _ (HCell.out _ lo) (fun hHeld => ?_)
        clear hK K
        try simp only [Act.put, List.setIfInBounds_toArray, List.set_cons_zero, List.set_cons_succ]
        refine wpAnyH_ready (rs := [8]) (by kernel_rfl) (by simp) ?_
        refine AllReadyH.cons (gof_drop rfl) (fun K hK => ?_) AllReadyH.nil
        · go_simp
          obtain ⟨V100, hV⟩ : ∃ V, V99.alloc (.cells #[.slice none 0 0] 25) = V := ⟨_, rfl⟩
          have szq : V100.heap.size = V99.heap.size + 1 := by rw [← hV]; exact World.size_alloc _ _
          have sz : V100.heap.size ≤ V99.heap.size + 1 ∧ V99.heap.size + 1 ≤ V100.heap.size := by omega
          clear szq
          have hb : Below V99.heap.size V99 V100 := hV ▸ one_below _ _
          have gz := lo.size
          have lo := lo.trans (hb.mono lo.size)
          have h9 := (hb.block _ (by omega)).trans h9
          have h3 := (hb.block _ (by omega)).trans h3
          have h7 := (hb.block _ (by omega)).trans h7
          have h8 : V100.heap[V99.heap.size]? = some (.cells #[.slice none 0 0] 25 (0, 0)) := hV ▸ World.alloc_heap_new _ _
          rw [hV]
          clear hV
          refine hK.out _ _ (HCell.out _ lo) (fun hHeld => ?_)
          clear hK K
          try simp only [Act.put, List.setIfInBounds_toArray, List.set_cons_zero, List.set_cons_succ]
          refine wpAnyH_ready (rs := [10]) (by kernel_rfl) (by simp) ?_
          refine AllReadyH.cons (gof_drop rfl) (fun K hK => ?_) AllReadyH.nil
          · have kf := frz_at h8 0
            have kc : V100.cell? ⟨V99.heap.size, 0, none⟩ = some (.slice none 0 0) := (cell_at h8 0).trans rfl
            go_simp
            clear kf kc
            obtain ⟨V101, hV⟩ : ∃ V, V100.setCell ⟨V99.heap.size, 0, none⟩ (.slice (some ⟨V97.heap.size, 0, none⟩) N N) = V := ⟨_, rfl⟩
            have szq : V101.heap.size = V100.heap.size := by rw [← hV]; simp [World.setCell]
            have sz : V101.heap.size ≤ V100.heap.size ∧ V100.heap.size ≤ V101.heap.size := by omega
            clear szq
            have lo : Below w1.heap.size w1 V101 := hV ▸ lo.setCell (p := ⟨V99.heap.size, 0, none⟩) (by show w1.heap.size ≤ V99.heap.size; omega) _
            have h9 : V101.heap[W0.heap.size]? = _ := (hV ▸ Below.heap_setCell _ _ _ _ (by show W0.heap.size ≠ V99.heap.size; omega)).trans h9
            have h3 : V101.heap[V97.heap.size]? = _ := (hV ▸ Below.heap_setCell _ _ _ _ (by show V97.heap.size ≠ V99.heap.size; omega)).trans h3
            have h7 : V101.heap[V98.heap.size]? = _ := (hV ▸ Below.heap_setCell _ _ _ _ (by show V98.heap.size ≠ V99.heap.size; omega)).trans h7
            have h8 := heap_set_same _ _ 0 (.slice (some ⟨V97.heap.size, 0, none⟩) N N) _ _ h8
            rw [hV] at h8
            rw [hV]
            clear hV
            refine hK.out _ _ (HCell.out _ lo) (fun hHeld => ?_)
            clear hK K
            try simp only [Act.put, List.setIfInBounds_toArray, List.set_cons_zero, List.set_cons_succ]
            refine wpAnyH_ready (rs := [11]) (by kernel_rfl) (by simp) ?_
            refine AllReadyH.cons (gof_drop rfl) (fun K hK => ?_) AllReadyH.nil
            · have kf := frz_at h9 0
              have kc : V101.cell? ⟨W0.heap.size, 0, none⟩ = some (.slice none 0 0) := (cell_at h9 0).trans rfl
              go_simp
              clear kf kc
              obtain ⟨V102, hV⟩ : ∃ V, V101.setCell ⟨W0.heap.size, 0, none⟩ (.slice (some ⟨V98.heap.size, 0, none⟩) N N) = V := ⟨_, rfl⟩
              have szq : V102.heap.size = V101.heap.size := by rw [← hV]; simp [World.setCell]
              have sz : V102.heap.size ≤ V101.heap.size ∧ V101.heap.size ≤ V102.heap.size := by omega
              clear szq
              have lo : Below w1.heap.size w1 V102 := hV ▸ lo.setCell (p := ⟨W0.heap.size, 0, none⟩) (by show w1.heap.size ≤ W0.heap.size; omega) _
              have h9 := heap_set_same _ _ 0 (.slice (some ⟨V98.heap.size, 0, none⟩) N N) _ _ h9
              rw [hV] at h9
              have h3 : V102.heap[V97.heap.size]? = _ := (hV ▸ Below.heap_setCell _ _ _ _ (by show V97.heap.size ≠ W0.heap.size; omega)).trans h3
              have h7 : V102.heap[V98.heap.size]? = _ := (hV ▸ Below.heap_setCell _ _ _ _ (by show V98.heap.size ≠ W0.heap.size; omega)).trans h7
              have h8 : V102.heap[V99.heap.size]? = _ := (hV ▸ Below.heap_setCell _ _ _ _ (by show V99.heap.size ≠ W0.heap.size; omega)).trans h8
              rw [hV]
              clear hV
              refine hK.out _ _ (HCell.out _ lo) (fun hHeld => ?_)
              clear hK K
              try simp only [Act.put, List.setIfInBounds_toArray, List.set_cons_zero, List.set_cons_succ]
              refine wpAnyH_done (by kernel_rfl) ⟨rfl, ?_⟩ _
              exact HRest.out V102 V97.heap.size V98.heap.size V99.heap.size W0.heap.size ⟨lo, by omega, by omega, by rw [dFrom_nil, Array.toArray_toList]; exact h3, by rw [dFrom_nil, Array.toArray_toList]; exact h7, h8, h9⟩
      · go_simp
        obtain ⟨V103, hV⟩ : ∃ V, V98.alloc (.cells #[.slice none 0 0] 25) = V := ⟨_, rfl⟩
        have szq : V103.heap.size = V98.heap.size + 1 := by rw [← hV]; exact World.size_alloc _ _
        have sz : V103.heap.size ≤ V98.heap.size + 1 ∧ V98.heap.size + 1 ≤ V103.heap.size := by omega
        clear szq
        have hb : Below V98.heap.size V98 V103 := hV ▸ one_below _ _
        have gz := lo.size
        have lo := lo.trans (hb.mono lo.size)
        have h9 := (hb.block _ (by omega)).trans h9
        have h3 := (hb.block _ (by omega)).trans h3
        have h8 : V103.heap[V98.heap.size]? = some (.cells #[.slice none 0 0] 25 (0, 0)) := hV ▸ World.alloc_heap_new _ _
        rw [hV]
        clear hV
        refine hK.out _ _ (HCell.out _ lo) (fun hHeld => ?_)
        clear hK K
        try simp only [Act.put, List.setIfInBounds_toArray, List.set_cons_zero, List.set_cons_succ]
        refine wpAnyH_ready (rs := [7, 10]) (by kernel_rfl) (by simp) ?_
        refine AllReadyH.cons (gof_drop rfl) (fun K hK => ?_) (AllReadyH.cons (gof_drop rfl) (fun K hK => ?_) AllReadyH.nil)
        · go_simp
          obtain ⟨V104, hV⟩ : ∃ V, V103.alloc (.cells (madeCells #[.int .i64 0] N) 3) = V := ⟨_, rfl⟩
          have szq : V104.heap.size = V103.heap.size + 1 := by rw [← hV]; exact World.size_alloc _ _
          have sz : V104.heap.size ≤ V103.heap.size + 1 ∧ V103.heap.size + 1 ≤ V104.heap.size := by omega
          clear szq
          have hb : Below V103.heap.size V103 V104 := hV ▸ one_below _ _
          have gz := lo.size
          have lo := lo.trans (hb.mono lo.size)
          have h9 := (hb.block _ (by omega)).trans h9
          have h3 := (hb.block _ (by omega)).trans h3
          have h8 := (hb.block _ (by omega)).trans h8
          have h7 : V104.heap[V103.heap.size]? = some (.cells (madeCells #[.int .i64 0] N) 3 (0, 0)) := hV ▸ World.alloc_heap_new _ _
          rw [hV]
          clear hV
          refine hK.out _ _ (HCell.out _ lo) (fun hHeld => ?_)
          clear hK K
          try simp only [Act.put, List.setIfInBounds_toArray, List.set_cons_zero, List.set_cons_succ]
          refine wpAnyH_ready (rs := [10]) (by kernel_rfl) (by simp) ?_
          refine AllReadyH.cons (gof_drop rfl) (fun K hK => ?_) AllReadyH.nil
          · have kf := frz_at h8 0
            have kc : V104.cell? ⟨V98.heap.size, 0, none⟩ = some (.slice none 0 0) := (cell_at h8 0).trans rfl
            go_simp
            clear kf kc
            obtain ⟨V105, hV⟩ : ∃ V, V104.setCell ⟨V98.heap.size, 0, none⟩ (.slice (some ⟨V97.heap.size, 0, none⟩) N N) = V := ⟨_, rfl⟩
            have szq : V105.heap.size = V104.heap.size := by rw [← hV]; simp [World.setCell]
            have sz : V105.heap.size ≤ V104.heap.size ∧ V104.heap.size ≤ V105.heap.size := by omega
            clear szq
            have lo : Below w1.heap.size w1 V105 := hV ▸ lo.setCell (p := ⟨V98.heap.size, 0, none⟩) (by show w1.heap.size ≤ V98.heap.size; omega) _
            have h9 : V105.heap[W0.heap.size]? = _ := (hV ▸ Below.heap_setCell _ _ _ _ (by show W0.heap.size ≠ V98.heap.size; omega)).trans h9
            have h3 : V105.heap[V97.heap.size]? = _ := (hV ▸ Below.heap_setCell _ _ _ _ (by show V97.heap.size ≠ V98.heap.size; omega)).trans h3
            have h8 := heap_set_same _ _ 0 (.slice (some ⟨V97.heap.size, 0, none⟩) N N) _ _ h8
            rw [hV] at h8
            have h7 : V105.heap[V103.heap.size]? = _ := (hV ▸ Below.heap_setCell _ _ _ _ (by show V103.heap.size ≠ V98.heap.size; omega)).trans h7
            rw [hV]
            clear hV
            refine hK.out _ _ (HCell.out _ lo) (fun hHeld => ?_)
            clear hK K
            try simp only [Act.put, List.setIfInBounds_toArray, List.set_cons_zero, List.set_cons_succ]
            refine wpAnyH_ready (rs := [11]) (by kernel_rfl) (by simp) ?_
            refine AllReadyH.cons (gof_drop rfl) (fun K hK => ?_) AllReadyH.nil
            · have kf := frz_at h9 0
              have kc : V105.cell? ⟨W0.heap.size, 0, none⟩ = some (.slice none 0 0) := (cell_at h9 0).trans rfl
              go_simp
              clear kf kc
              obtain ⟨V106, hV⟩ : ∃ V, V105.setCell ⟨W0.heap.size, 0, none⟩ (.slice (some ⟨V103.heap.size, 0, none⟩) N N) = V := ⟨_, rfl⟩
              have szq : V106.heap.size = V105.heap.size := by rw [← hV]; simp [World.setCell]
              have sz : V106.heap.size ≤ V105.heap.size ∧ V105.heap.size ≤ V106.heap.size := by omega
              clear szq
              have lo : Below w1.heap.size w1 V106 := hV ▸ lo.setCell (p := ⟨W0.heap.size, 0, none⟩) (by show w1.heap.size ≤ W0.heap.size; omega) _
              have h9 := heap_set_same _ _ 0 (.slice (some ⟨V103.heap.size, 0, none⟩) N N) _ _ h9
              rw [hV] at h9
              have h3 : V106.heap[V97.heap.size]? = _ := (hV ▸ Below.heap_setCell _ _ _ _ (by show V97.heap.size ≠ W0.heap.size; omega)).trans h3
              have h8 : V106.heap[V98.heap.size]? = _ := (hV ▸ Below.heap_setCell _ _ _ _ (by show V98.heap.size ≠ W0.heap.size; omega)).trans h8
              have h7 : V106.heap[V103.heap.size]? = _ := (hV ▸ Below.heap_setCell _ _ _ _ (by show V103.heap.size ≠ W0.heap.size; omega)).trans h7
              rw [hV]
              clear hV
              refine hK.out _ _ (HCell.out _ lo) (fun hHeld => ?_)
              clear hK K
              try simp only [Act.put, List.setIfInBounds_toArray, List.set_cons_zero, List.set_cons_succ]
              refine wpAnyH_done (by kernel_rfl) ⟨rfl, ?_⟩ _
              exact HRest.out V106 V97.heap.size V103.heap.size V98.heap.size W0.heap.size ⟨lo, by omega, by omega, by rw [dFrom_nil, Array.toArray_toList]; exact h3, by rw [dFrom_nil, Array.toArray_toList]; exact h7, h8, h9⟩
        · have kf := frz_at h8 0
          have kc : V103.cell? ⟨V98.heap.size, 0, none⟩ = some (.slice none 0 0) := (cell_at h8 0).trans rfl
          go_simp
          clear kf kc
          obtain ⟨V107, hV⟩ : ∃ V, V103.setCell ⟨V98.heap.size, 0, none⟩ (.slice (some ⟨V97.heap.size, 0, none⟩) N N) = V := ⟨_, rfl⟩
          have szq : V107.heap.size = V103.heap.size := by rw [← hV]; simp [World.setCell]
          have sz : V107.heap.size ≤ V103.heap.size ∧ V103.heap.size ≤ V107.heap.size := by omega
          clear szq
          have lo : Below w1.heap.size w1 V107 := hV ▸ lo.setCell (p := ⟨V98.heap.size, 0, none⟩) (by show w1.heap.size ≤ V98.heap.size; omega) _
          have h9 : V107.heap[W0.heap.size]? = _ := (hV ▸ Below.heap_setCell _ _ _ _ (by show W0.heap.size ≠ V98.heap.size; omega)).trans h9
          have h3 : V107.heap[V97.heap.size]? = _ := (hV ▸ Below.heap_setCell _ _ _ _ (by show V97.heap.size ≠ V98.heap.size; omega)).trans h3
          have h8 := heap_set_same _ _ 0 (.slice (some ⟨V97.heap.size, 0, none⟩) N N) _ _ h8
          rw [hV] at h8
          rw [hV]
          clear hV
          refine hK.out _ _ (HCell.out _ lo) (fun hHeld => ?_)
          clear hK K
          try simp only [Act.put, List.setIfInBounds_toArray, List.set_cons_zero, List.set_cons_succ]
          refine wpAnyH_ready (rs := [7]) (by kernel_rfl) (by simp) ?_
          refine AllReadyH.cons (gof_drop rfl) (fun K hK => ?_) AllReadyH.nil
          · go_simp
            obtain ⟨V108, hV⟩ : ∃ V, V107.alloc (.cells (madeCells #[.int .i64 0] N) 3) = V := ⟨_, rfl⟩
            have szq : V108.heap.size = V107.heap.size + 1 := by rw [← hV]; exact World.size_alloc _ _
            have sz : V108.heap.size ≤ V107.heap.size + 1 ∧ V107.heap.size + 1 ≤ V108.heap.size := by omega
            clear szq
            have hb : Below V107.heap.size V107 V108 := hV ▸ one_below _ _
            have gz := lo.size
            have lo := lo.trans (hb.mono lo.size)
            have h9 := (hb.block _ (by omega)).trans h9
            have h3 := (hb.block _ (by omega)).trans h3
            have h8 := (hb.block _ (by omega)).trans h8
            have h7 : V108.heap[V107.heap.size]? = some (.cells (madeCells #[.int .i64 0] N) 3 (0, 0)) := hV ▸ World.alloc_heap_new _ _
            rw [hV]
            clear hV
            refine hK.out _ _ (HCell.out _ lo) (fun hHeld => ?_)
            clear hK K
            try simp only [Act.put, List.setIfInBounds_toArray, List.set_cons_zero, List.set_cons_succ]
            refine wpAnyH_ready (rs := [11]) (by kernel_rfl) (by simp) ?_
            refine AllReadyH.cons (gof_drop rfl) (fun K hK => ?_) AllReadyH.nil
            · have kf := frz_at h9 0
              have kc : V108.cell? ⟨W0.heap.size, 0, none⟩ = some (.slice none 0 0) := (cell_at h9 0).trans rfl
              go_simp
              clear kf kc
              obtain ⟨V109, hV⟩ : ∃ V, V108.setCell ⟨W0.heap.size, 0, none⟩ (.slice (some ⟨V107.heap.size, 0, none⟩) N N) = V := ⟨_, rfl⟩
              have szq : V109.heap.size = V108.heap.size := by rw [← hV]; simp [World.setCell]
              have sz : V109.heap.size ≤ V108.heap.size ∧ V108.heap.size ≤ V109.heap.size := by omega
              clear szq
              have lo : Below w1.heap.size w1 V109 := hV ▸ lo.setCell (p := ⟨W0.heap.size, 0, none⟩) (by show w1.heap.size ≤ W0.heap.size; omega) _
              have h9 := heap_set_same _ _ 0 (.slice (some ⟨V107.heap.size, 0, none⟩) N N) _ _ h9
              rw [hV] at h9
              have h3 : V109.heap[V97.heap.size]? = _ := (hV ▸ Below.heap_setCell _ _ _ _ (by show V97.heap.size ≠ W0.heap.size; omega)).trans h3
              have h8 : V109.heap[V98.heap.size]? = _ := (hV ▸ Below.heap_setCell _ _ _ _ (by show V98.heap.size ≠ W0.heap.size; omega)).trans h8
              have h7 : V109.heap[V107.heap.size]? = _ := (hV ▸ Below.heap_setCell _ _ _ _ (by show V107.heap.size ≠ W0.heap.size; omega)).trans h7
              rw [hV]
              clear hV
              refine hK.out _ _ (HCell.out _ lo) (fun hHeld => ?_)
              clear hK K
              try simp only [Act.put, List.setIfInBounds_toArray, List.set_cons_zero, List.set_cons_succ]
              refine wpAnyH_done (by kernel_rfl) ⟨rfl, ?_⟩ _
              exact HRest.out V109 V97.heap.size V107.heap.size V98.heap.size W0.heap.size ⟨lo, by omega, by omega, by rw [dFrom_nil, Array.toArray_toList]; exact h3, by rw [dFrom_nil, Array.toArray_toList]; exact h7, h8, h9⟩
    · go_simp
      obtain ⟨V110, hV⟩ : ∃ V, V97.alloc (.cells (madeCells #[.int .i64 0] N) 3) = V := ⟨_, rfl⟩
      have szq : V110.heap.size = V97.heap.size + 1 := by rw [← hV]; exact World.size_alloc _ _
      have sz : V110.heap.size ≤ V97.heap.size + 1 ∧ V97.heap.size + 1 ≤ V110.heap.size := by omega
      clear szq
      have hb : Below V97.heap.size V97 V110 := hV ▸ one_below _ _
      have gz := lo.size
      have lo := lo.trans (hb.mono lo.size)
      have h9 := (hb.block _ (by omega)).trans h9
      have h7 : V110.heap[V97.heap.size]? = some (.cells (madeCells #[.int .i64 0] N) 3 (0, 0)) := hV ▸ World.alloc_heap_new _ _
      rw [hV]
      clear hV
      refine hK.out _ _ (HCell.out _ lo) (fun hHeld => ?_)
      clear hK K
      try simp only [Act.put, List.setIfInBounds_toArray, List.set_cons_zero, List.set_cons_succ]
      refine wpAnyH_ready (rs := [3, 8]) (by kernel_rfl) (by simp) ?_
      refine AllReadyH.cons (gof_drop rfl) (fun K hK => ?_) (AllReadyH.cons (gof_drop rfl) (fun K hK => ?_) AllReadyH.nil)
      · go_simp
        obtain ⟨V111, hV⟩ : ∃ V, V110.alloc (.cells (madeCells #[.int .i64 0] N) 3) = V := ⟨_, rfl⟩
        have szq : V111.heap.size = V110.heap.size + 1 := by rw [← hV]; exact World.size_alloc _ _
        have sz : V111.heap.size ≤ V110.heap.size + 1 ∧ V110.heap.size + 1 ≤ V111.heap.size := by omega
        clear szq
        have hb : Below V110.heap.size V110 V111 := hV ▸ one_below _ _
        have gz := lo.size
        have lo := lo.trans (hb.mono lo.size)
        have h9 := (hb.block _ (by omega)).trans h9
        have h7 := (hb.block _ (by omega)).trans h7
        have h3 : V111.heap[V110.heap.size]? = some (.cells (madeCells #[.int .i64 0] N) 3 (0, 0)) := hV ▸ World.alloc_heap_new _ _
        rw [hV]
        clear hV
        refine hK.out _ _ (HCell.out _ lo) (fun hHeld => ?_)
        clear hK K
        try simp only [Act.put, List.setIfInBounds_toArray, List.set_cons_zero, List.set_cons_succ]
        refine wpAnyH_ready (rs := [8]) (by kernel_rfl) (by simp) ?_
        refine AllReadyH.cons (gof_drop rfl) (fun K hK => ?_) AllReadyH.nil
        · go_simp
          obtain ⟨V112, hV⟩ : ∃ V, V111.alloc (.cells #[.slice none 0 0] 25) = V := ⟨_, rfl⟩
          have szq : V112.heap.size = V111.heap.size + 1 := by rw [← hV]; exact World.size_alloc _ _
          have sz : V112.heap.size ≤ V111.heap.size + 1 ∧ V111.heap.size + 1 ≤ V112.heap.size := by omega
          clear szq
          have hb : Below V111.heap.size V111 V112 := hV ▸ one_below _ _
          have gz := lo.size
          have lo := lo.trans (hb.mono lo.size)
          have h9 := (hb.block _ (by omega)).trans h9
          have h7 := (hb.block _ (by omega)).trans h7
          have h3 := (hb.block _ (by omega)).trans h3
          have h8 : V112.heap[V111.heap.size]? = some (.cells #[.slice none 0 0] 25 (0, 0)) := hV ▸ World.alloc_heap_new _ _
          rw [hV]
          clear hV
          refine hK.out _ _ (HCell.out _ lo) (fun hHeld => ?_)
          clear hK K
          try simp only [Act.put, List.setIfInBounds_toArray, List.set_cons_zero, List.set_cons_succ]
          refine wpAnyH_ready (rs := [10]) (by kernel_rfl) (by simp) ?_
          refine AllReadyH.cons (gof_drop rfl) (fun K hK => ?_) AllReadyH.nil
          · have kf := frz_at h8 0
            have kc : V112.cell? ⟨V111.heap.size, 0, none⟩ = some (.slice none 0 0) := (cell_at h8 0).trans rfl
            go_simp
            clear kf kc
            obtain ⟨V113, hV⟩ : ∃ V, V112.setCell ⟨V111.heap.size, 0, none⟩ (.slice (some ⟨V110.heap.size, 0, none⟩) N N) = V := ⟨_, rfl⟩
            have szq : V113.heap.size = V112.heap.size := by rw [← hV]; simp [World.setCell]
            have sz : V113.heap.size ≤ V112.heap.size ∧ V112.heap.size ≤ V113.heap.size := by omega
            clear szq
            have lo : Below w1.heap.size w1 V113 := hV ▸ lo.setCell (p := ⟨V111.heap.size, 0, none⟩) (by show w1.heap.size ≤ V111.heap.size; omega) _
            have h9 : V113.heap[W0.heap.size]? = _ := (hV ▸ Below.heap_setCell _ _ _ _ (by show W0.heap.size ≠ V111.heap.size; omega)).trans h9
            have h7 : V113.heap[V97.heap.size]? = _ := (hV ▸ Below.heap_setCell _ _ _ _ (by show V97.heap.size ≠ V111.heap.size; omega)).trans h7
            have h3 : V113.heap[V110.heap.size]? = _ := (hV ▸ Below.heap_setCell _ _ _ _ (by show V110.heap.size ≠ V111.heap.size; omega)).trans h3
            have h8 := heap_set_same _ _ 0 (.slice (some ⟨V110.heap.size, 0, none⟩) N N) _ _ h8
            rw [hV] at h8
            rw [hV]
            clear hV
            refine hK.out _ _ (HCell.out _ lo) (fun hHeld => ?_)
            clear hK K
            try simp only [Act.put, List.setIfInBounds_toArray, List.set_cons_zero, List.set_cons_succ]
            refine wpAnyH_ready (rs := [11]) (by kernel_rfl) (by simp) ?_
            refine AllReadyH.cons (gof_drop rfl) (fun K hK => ?_) AllReadyH.nil
            · have kf := frz_at h9 0
              have kc : V113.cell? ⟨W0.heap.size, 0, none⟩ = some (.slice none 0 0) := (cell_at h9 0).trans rfl
              go_simp
              clear kf kc
              obtain ⟨V114, hV⟩ : ∃ V, V113.setCell ⟨W0.heap.size, 0, none⟩ (.slice (some ⟨V97.heap.size, 0, none⟩) N N) = V := ⟨_, rfl⟩
              have szq : V114.heap.size = V113.heap.size := by rw [← hV]; simp [World.setCell]
              have sz : V114.heap.size ≤ V113.heap.size ∧ V113.heap.size ≤ V114.heap.size := by omega
              clear szq
              have lo : Below w1.heap.size w1 V114 := hV ▸ lo.setCell (p := ⟨W0.heap.size, 0, none⟩) (by show w1.heap.size ≤ W0.heap.size; omega) _
              have h9 := heap_set_same _ _ 0 (.slice (some ⟨V97.heap.size, 0, none⟩) N N) _ _ h9
              rw [hV] at h9
              have h7 : V114.heap[V97.heap.size]? = _ := (hV ▸ Below.heap_setCell _ _ _ _ (by show V97.heap.size ≠ W0.heap.size; omega)).trans h7
              have h3 : V114.heap[V110.heap.size]? = _ := (hV ▸ Below.heap_setCell _ _ _ _ (by show V110.heap.size ≠ W0.heap.size; omega)).trans h3
              have h8 : V114.heap[V111.heap.size]? = _ := (hV ▸ Below.heap_setCell _ _ _ _ (by show V111.heap.size ≠ W0.heap.size; omega)).trans h8
              rw [hV]
              clear hV
              refine hK.out _ _ (HCell.out _ lo) (fun hHeld => ?_)
              clear hK K
              try simp only [Act.put, List.setIfInBounds_toArray, List.set_cons_zero, List.set_cons_succ]
              refine wpAnyH_done (by kernel_rfl) ⟨rfl, ?_⟩ _
              exact HRest.out V114 V110.heap.size V97.heap.size V111.heap.size W0.heap.size ⟨lo, by omega, by omega, by rw [dFrom_nil, Array.toArray_toList]; exact h3, by rw [dFrom_nil, Array.toArray_toList]; exact h7, h8, h9⟩
      · go_simp
        obtain ⟨V115, hV⟩ : ∃ V, V110.alloc (.cells #[.slice none 0 0] 25) = V := ⟨_, rfl⟩
        have szq : V115.heap.size = V110.heap.size + 1 := by rw [← hV]; exact World.size_alloc _ _
        have sz : V115.heap.size ≤ V110.heap.size + 1 ∧ V110.heap.size + 1 ≤ V115.heap.size := by omega
        clear szq
        have hb : Below V110.heap.size V110 V115 := hV ▸ one_below _ _
        have gz := lo.size
        have lo := lo.trans (hb.mono lo.size)
        have h9 := (hb.block _ (by omega)).trans h9
        have h7 := (hb.block _ (by omega)).trans h7
        have h8 : V115.heap[V110.heap.size]? = some (.cells #[.slice none 0 0] 25 (0, 0)) := hV ▸ World.alloc_heap_new _ _
        rw [hV]
        clear hV
        refine hK.out _ _ (HCell.out _ lo) (fun hHeld => ?_)
        clear hK K
        try simp only [Act.put, List.setIfInBounds_toArray, List.set_cons_zero, List.set_cons_succ]
        refine wpAnyH_ready (rs := [3]) (by kernel_rfl) (by simp) ?_
        refine AllReadyH.cons (gof_drop rfl) (fun K hK => ?_) AllReadyH.nil
        · go_simp
          obtain ⟨V116, hV⟩ : ∃ V, V115.alloc (.cells (madeCells #[.int .i64 0] N) 3) = V := ⟨_, rfl⟩
          have szq : V116.heap.size = V115.heap.size + 1 := by rw [← hV]; exact World.size_alloc _ _
          have sz : V116.heap.size ≤ V115.heap.size + 1 ∧ V115.heap.size + 1 ≤ V116.heap.size := by omega
          clear szq
          have hb : Below V115.heap.size V115 V116 := hV ▸ one_below _ _
          have gz := lo.size
          have lo := lo.trans (hb.mono lo.size)
          have h9 := (hb.block _ (by omega)).trans h9
          have h7 := (hb.block _ (by omega)).trans h7
          have h8 := (hb.block _ (by omega)).trans h8
          have h3 : V116.heap[V115.heap.size]? = some (.cells (madeCells #[.int .i64 0] N) 3 (0, 0)) := hV ▸ World.alloc_heap_new _ _
          rw [hV]
          clear hV
          refine hK.out _ _ (HCell.out _ lo) (fun hHeld => ?_)
          clear hK K
          try simp only [Act.put, List.setIfInBounds_toArray, List.set_cons_zero, List.set_cons_succ]
          refine wpAnyH_ready (rs := [10]) (by kernel_rfl) (by simp) ?_
          refine AllReadyH.cons (gof_drop rfl) (fun K hK => ?_) AllReadyH.nil
          · have kf := frz_at h8 0
            have kc : V116.cell? ⟨V110.heap.size, 0, none⟩ = some (.slice none 0 0) := (cell_at h8 0).trans rfl
            go_simp
            clear kf kc
            obtain ⟨V117, hV⟩ : ∃ V, V116.setCell ⟨V110.heap.size, 0, none⟩ (.slice (some ⟨V115.heap.size, 0, none⟩) N N) = V := ⟨_, rfl⟩
            have szq : V117.heap.size = V116.heap.size := by rw [← hV]; simp [World.setCell]
            have sz : V117.heap.size ≤ V116.heap.size ∧ V116.heap.size ≤ V117.heap.size := by omega
            clear szq
            have lo : Below w1.heap.size w1 V117 := hV ▸ lo.setCell (p := ⟨V110.heap.size, 0, none⟩) (by show w1.heap.size ≤ V110.heap.size; omega) _
            have h9 : V117.heap[W0.heap.size]? = _ := (hV ▸ Below.heap_setCell _ _ _ _ (by show W0.heap.size ≠ V110.heap.size; omega)).trans h9
            have h7 : V117.heap[V97.heap.size]? = _ := (hV ▸ Below.heap_setCell _ _ _ _ (by show V97.heap.size ≠ V110.heap.size; omega)).trans h7
            have h8 := heap_set_same _ _ 0 (.slice (some ⟨V115.heap.size, 0, none⟩) N N) _ _ h8
            rw [hV] at h8
            have h3 : V117.heap[V115.heap.size]? = _ := (hV ▸ Below.heap_setCell _ _ _ _ (by show V115.heap.size ≠ V110.heap.size; omega)).trans h3
            rw [hV]
            clear hV
            refine hK.out _ _ (HCell.out _ lo) (fun hHeld => ?_)
            clear hK K
            try simp only [Act.put, List.setIfInBounds_toArray, List.set_cons_zero, List.set_cons_succ]
            refine wpAnyH_ready (rs := [11]) (by kernel_rfl) (by simp) ?_
            refine AllReadyH.cons (gof_drop rfl) (fun K hK => ?_) AllReadyH.nil
            · have kf := frz_at h9 0
              have kc : V117.cell? ⟨W0.heap.size, 0, none⟩ = some (.slice none 0 0) := (cell_at h9 0).trans rfl
              go_simp
              clear kf kc
              obtain ⟨V118, hV⟩ : ∃ V, V117.setCell ⟨W0.heap.size, 0, none⟩ (.slice (some ⟨V97.heap.size, 0, none⟩) N N) = V := ⟨_, rfl⟩
              have szq : V118.heap.size = V117.heap.size := by rw [← hV]; simp [World.setCell]
              have sz : V118.heap.size ≤ V117.heap.size ∧ V117.heap.size ≤ V118.heap.size := by omega
              clear szq
              have lo : Below w1.heap.size w1 V118 := hV ▸ lo.setCell (p := ⟨W0.heap.size, 0, none⟩) (by show w1.heap.size ≤ W0.heap.size; omega) _
              have h9 := heap_set_same _ _ 0 (.slice (some ⟨V97.heap.size, 0, none⟩) N N) _ _ h9
              rw [hV] at h9
              have h7 : V118.heap[V97.heap.size]? = _ := (hV ▸ Below.heap_setCell _ _ _ _ (by show V97.heap.size ≠ W0.heap.size; omega)).trans h7
              have h8 : V118.heap[V110.heap.size]? = _ := (hV ▸ Below.heap_setCell _ _ _ _ (by show V110.heap.size ≠ W0.heap.size; omega)).trans h8
              have h3 : V118.heap[V115.heap.size]? = _ := (hV ▸ Below.heap_setCell _ _ _ _ (by show V115.heap.size ≠ W0.heap.size; omega)).trans h3
              rw [hV]
              clear hV
              refine hK.out _ _ (HCell.out _ lo) (fun hHeld => ?_)
              clear hK K
              try simp only [Act.put, List.setIfInBounds_toArray, List.set_cons_zero, List.set_cons_succ]
              refine wpAnyH_done (by kernel_rfl) ⟨rfl, ?_⟩ _
              exact HRest.out V118 V115.heap.size V97.heap.size V110.heap.size W0.heap.size ⟨lo, by omega, by omega, by rw [dFrom_nil, Array.toArray_toList]; exact h3, by rw [dFrom_nil, Array.toArray_toList]; exact h7, h8, h9⟩
    · go_simp
      obtain ⟨V119, hV⟩ : ∃ V, V97.alloc (.cells #[.slice none 0 0] 25) = V := ⟨_, rfl⟩
      have szq : V119.heap.size = V97.heap.size + 1 := by rw [← hV]; exact World.size_alloc _ _
      have sz : V119.heap.size ≤ V97.heap.size + 1 ∧ V97.heap.size + 1 ≤ V119.heap.size := by omega
      clear szq
      have hb : Below V97.heap.size V97 V119 := hV ▸ one_below _ _
      have gz := lo.size
      have lo := lo.trans (hb.mono lo.size)
      have h9 := (hb.block _ (by omega)).trans h9
      have h8 : V119.heap[V97.heap.size]? = some (.cells #[.slice none 0 0] 25 (0, 0)) := hV ▸ World.alloc_heap_new _ _
      rw [hV]
      clear hV
      refine hK.out _ _ (HCell.out _ lo) (fun hHeld => ?_)
      clear hK K
      try simp only [Act.put, List.setIfInBounds_toArray, List.set_cons_zero, List.set_cons_succ]
      refine wpAnyH_ready (rs := [3, 7]) (by kernel_rfl) (by simp) ?_
      refine AllReadyH.cons (gof_drop rfl) (fun K hK => ?_) (AllReadyH.cons (gof_drop rfl) (fun K hK => ?_) AllReadyH.nil)
      · go_simp
        obtain ⟨V120, hV⟩ : ∃ V, V119.alloc (.cells (madeCells #[.int .i64 0] N) 3) = V := ⟨_, rfl⟩
        have szq : V120.heap.size = V119.heap.size + 1 := by rw [← hV]; exact World.size_alloc _ _
        have sz : V120.heap.size ≤ V119.heap.size + 1 ∧ V119.heap.size + 1 ≤ V120.heap.size := by omega
        clear szq
        have hb : Below V119.heap.size V119 V120 := hV ▸ one_below _ _
        have gz := lo.size
        have lo := lo.trans (hb.mono lo.size)
        have h9 := (hb.block _ (by omega)).trans h9
        have h8 := (hb.block _ (by omega)).trans h8
        have h3 : V120.heap[V119.heap.size]? = some (.cells (madeCells #[.int .i64 0] N) 3 (0, 0)) := hV ▸ World.alloc_heap_new _ _
        rw [hV]
        clear hV
        refine hK.out _ _ (HCell.out _ lo) (fun hHeld => ?_)
        clear hK K
        try simp only [Act.put, List.setIfInBounds_toArray, List.set_cons_zero, List.set_cons_succ]
        refine wpAnyH_ready (rs := [7, 10]) (by kernel_rfl) (by simp) ?_
        refine AllReadyH.cons (gof_drop rfl) (fun K hK => ?_) (AllReadyH.cons (gof_drop rfl) (fun K hK => ?_) AllReadyH.nil)
        · go_simp
          obtain ⟨V121, hV⟩ : ∃ V, V120.alloc (.cells (madeCells #[.int .i64 0] N) 3) = V := ⟨_, rfl⟩
          have szq : V121.heap.size = V120.heap.size + 1 := by rw [← hV]; exact World.size_alloc _ _
          have sz : V121.heap.size ≤ V120.heap.size + 1 ∧ V120.heap.size + 1 ≤ V121.heap.size := by omega
          clear szq
          have hb : Below V120.heap.size V120 V121 := hV ▸ one_below _ _
          have gz := lo.size
          have lo := lo.trans (hb.mono lo.size)
          have h9 := (hb.block _ (by omega)).trans h9
          have h8 := (hb.block _ (by omega)).trans h8
          have h3 := (hb.block _ (by omega)).trans h3
          have h7 : V121.heap[V120.heap.size]? = some (.cells (madeCells #[.int .i64 0] N) 3 (0, 0)) := hV ▸ World.alloc_heap_new _ _
          rw [hV]
          clear hV
          refine hK.out _ _ (HCell.out _ lo) (fun hHeld => ?_)
          clear hK K
          try simp only [Act.put, List.setIfInBounds_toArray, List.set_cons_zero, List.set_cons_succ]
          refine wpAnyH_ready (rs := [10]) (by kernel_rfl) (by simp) ?_
          refine AllReadyH.cons (gof_drop rfl) (fun K hK => ?_) AllReadyH.nil
          · have kf := frz_at h8 0
            have kc : V121.cell? ⟨V97.heap.size, 0, none⟩ = some (.slice none 0 0) := (cell_at h8 0).trans rfl
            go_simp
            clear kf kc
            obtain ⟨V122, hV⟩ : ∃ V, V121.setCell ⟨V97.heap.size, 0, none⟩ (.slice (some ⟨V119.heap.size, 0, none⟩) N N) = V := ⟨_, rfl⟩
            have szq : V122.heap.size = V121.heap.size := by rw [← hV]; simp [World.setCell]
            have sz : V122.heap.size ≤ V121.heap.size ∧ V121.heap.size ≤ V122.heap.size := by omega
            clear szq
            have lo : Below w1.heap.size w1 V122 := hV ▸ lo.setCell (p := ⟨V97.heap.size, 0, none⟩) (by show w1.heap.size ≤ V97.heap.size; omega) _
            have h9 : V122.heap[W0.heap.size]? = _ := (hV ▸ Below.heap_setCell _ _ _ _ (by show W0.heap.size ≠ V97.heap.size; omega)).trans h9
            have h8 := heap_set_same _ _ 0 (.slice (some ⟨V119.heap.size, 0, none⟩) N N) _ _ h8
            rw [hV] at h8
            have h3 : V122.heap[V119.heap.size]? = _ := (hV ▸ Below.heap_setCell _ _ _ _ (by show V119.heap.size ≠ V97.heap.size; omega)).trans h3
            have h7 : V122.heap[V120.heap.size]? = _ := (hV ▸ Below.heap_setCell _ _ _ _ (by show V120.heap.size ≠ V97.heap.size; omega)).trans h7
            rw [hV]
            clear hV
            refine hK.out _ _ (HCell.out _ lo) (fun hHeld => ?_)
            clear hK K
            try simp only [Act.put, List.setIfInBounds_toArray, List.set_cons_zero, List.set_cons_succ]
            refine wpAnyH_ready (rs := [11]) (by kernel_rfl) (by simp) ?_
            refine AllReadyH.cons (gof_drop rfl) (fun K hK => ?_) AllReadyH.nil
            · have kf := frz_at h9 0
              have kc : V122.cell? ⟨W0.heap.size, 0, none⟩ = some (.slice none 0 0) := (cell_at h9 0).trans rfl
              go_simp
              clear kf kc
              obtain ⟨V123, hV⟩ : ∃ V, V122.setCell ⟨W0.heap.size, 0, none⟩ (.slice (some ⟨V120.heap.size, 0, none⟩) N N) = V := ⟨_, rfl⟩
              have szq : V123.heap.size = V122.heap.size := by rw [← hV]; simp [World.setCell]
              have sz : V123.heap.size ≤ V122.heap.size ∧ V122.heap.size ≤ V123.heap.size := by omega
              clear szq
              have lo : Below w1.heap.size w1 V123 := hV ▸ lo.setCell (p := ⟨W0.heap.size, 0, none⟩) (by show w1.heap.size ≤ W0.heap.size; omega) _
              have h9 := heap_set_same _ _ 0 (.slice (some ⟨V120.heap.size, 0, none⟩) N N) _ _ h9
              rw [hV] at h9
              have h8 : V123.heap[V97.heap.size]? = _ := (hV ▸ Below.heap_setCell _ _ _ _ (by show V97.heap.size ≠ W0.heap.size; omega)).trans h8
              have h3 : V123.heap[V119.heap.size]? = _ := (hV ▸ Below.heap_setCell _ _ _ _ (by show V119.heap.size ≠ W0.heap.size; omega)).trans h3
              have h7 : V123.heap[V120.heap.size]? = _ := (hV ▸ Below.heap_setCell _ _ _ _ (by show V120.heap.size ≠ W0.heap.size; omega)).trans h7
              rw [hV]
              clear hV
              refine hK.out _ _ (HCell.out _ lo) (fun hHeld => ?_)
              clear hK K
              try simp only [Act.put, List.setIfInBounds_toArray, List.set_cons_zero, List.set_cons_succ]
              refine wpAnyH_done (by kernel_rfl) ⟨rfl, ?_⟩ _
              exact HRest.out V123 V119.heap.size V120.heap.size V97.heap.size W0.heap.size ⟨lo, by omega, by omega, by rw [dFrom_nil, Array.toArray_toList]; exact h3, by rw [dFrom_nil, Array.toArray_toList]; exact h7, h8, h9⟩
        · have kf := frz_at h8 0
          have kc : V120.cell? ⟨V97.heap.size, 0, none⟩ = some (.slice none 0 0) := (cell_at h8 0).trans rfl
          go_simp
          clear kf kc
          obtain ⟨V124, hV⟩ : ∃ V, V120.setCell ⟨V97.heap.size, 0, none⟩ (.slice (some ⟨V119.heap.size, 0, none⟩) N N) = V := ⟨_, rfl⟩
          have szq : V124.heap.size = V120.heap.size := by rw [← hV]; simp [World.setCell]
          have sz : V124.heap.size ≤ V120.heap.size ∧ V120.heap.size ≤ V124.heap.size := by omega
          clear szq
          have lo : Below w1.heap.size w1 V124 := hV ▸ lo.setCell (p := ⟨V97.heap.size, 0, none⟩) (by show w1.heap.size ≤ V97.heap.size; omega) _
          have h9 : V124.heap[W0.heap.size]? = _ := (hV ▸ Below.heap_setCell _ _ _ _ (by show W0.heap.size ≠ V97.heap.size; omega)).trans h9
          have h8 := heap_set_same _ _ 0 (.slice (some ⟨V119.heap.size, 0, none⟩) N N) _ _ h8
          rw [hV] at h8
          have h3 : V124.heap[V119.heap.size]? = _ := (hV ▸ Below.heap_setCell _ _ _ _ (by show V119.heap.size ≠ V97.heap.size; omega)).trans h3
          rw [hV]
          clear hV
          refine hK.out _ _ (HCell.out _ lo) (fun hHeld => ?_)
          clear hK K
          try simp only [Act.put, List.setIfInBounds_toArray, List.set_cons_zero, List.set_cons_succ]
          refine wpAnyH_ready (rs := [7]) (by kernel_rfl) (by simp) ?_
          refine AllReadyH.cons (gof_drop rfl) (fun K hK => ?_) AllReadyH.nil
          · go_simp
            obtain ⟨V125, hV⟩ : ∃ V, V124.alloc (.cells (madeCells #[.int .i64 0] N) 3) = V := ⟨_, rfl⟩
            have szq : V125.heap.size = V124.heap.size + 1 := by rw [← hV]; exact World.size_alloc _ _
            have sz : V125.heap.size ≤ V124.heap.size + 1 ∧ V124.heap.size + 1 ≤ V125.heap.size := by omega
            clear szq
            have hb : Below V124.heap.size V124 V125 := hV ▸ one_below _ _
            have gz := lo.size
            have lo := lo.trans (hb.mono lo.size)
            have h9 := (hb.block _ (by omega)).trans h9
            have h8 := (hb.block _ (by omega)).trans h8
            have h3 := (hb.block _ (by omega)).trans h3
            have h7 : V125.heap[V124.heap.size]? = some (.cells (madeCells #[.int .i64 0] N) 3 (0, 0)) := hV ▸ World.alloc_heap_new _ _
            rw [hV]
            clear hV
            refine hK.out _ _ (HCell.out _ lo) (fun hHeld => ?_)
            clear hK K
            try simp only [Act.put, List.setIfInBounds_toArray, List.set_cons_zero, List.set_cons_succ]
            refine wpAnyH_ready (rs := [11]) (by kernel_rfl) (by simp) ?_
            refine AllReadyH.cons (gof_drop rfl) (fun K hK => ?_) AllReadyH.nil
            · have kf := frz_at h9 0
              have kc : V125.cell? ⟨W0.heap.size, 0, none⟩ = some (.slice none 0 0) := (cell_at h9 0).trans rfl
              go_simp
              clear kf kc
              obtain ⟨V126, hV⟩ : ∃ V, V125.setCell ⟨W0.heap.size, 0, none⟩ (.slice (some ⟨V124.heap.size, 0, none⟩) N N) = V := ⟨_, rfl⟩
              have szq : V126.heap.size = V125.heap.size := by rw [← hV]; simp [World.setCell]
              have sz : V126.heap.size ≤ V125.heap.size ∧ V125.heap.size ≤ V126.heap.size := by omega
              clear szq
              have lo : Below w1.heap.size w1 V126 := hV ▸ lo.setCell (p := ⟨W0.heap.size, 0, none⟩) (by show w1.heap.size ≤ W0.heap.size; omega) _
              have h9 := heap_set_same _ _ 0 (.slice (some ⟨V124.heap.size, 0, none⟩) N N) _ _ h9
              rw [hV] at h9
              have h8 : V126.heap[V97.heap.size]? = _ := (hV ▸ Below.heap_setCell _ _ _ _ (by show V97.heap.size ≠ W0.heap.size; omega)).trans h8
              have h3 : V126.heap[V119.heap.size]? = _ := (hV ▸ Below.heap_setCell _ _ _ _ (by show V119.heap.size ≠ W0.heap.size; omega)).trans h3
              have h7 : V126.heap[V124.heap.size]? = _ := (hV ▸ Below.heap_setCell _ _ _ _ (by show V124.heap.size ≠ W0.heap.size; omega)).trans h7
              rw [hV]
              clear hV
              refine hK.out _ _ (HCell.out _ lo) (fun hHeld => ?_)
              clear hK K
              try simp only [Act.put, List.setIfInBounds_toArray, List.set_cons_zero, List.set_cons_succ]
              refine wpAnyH_done (by kernel_rfl) ⟨rfl, ?_⟩ _
              exact HRest.out V126 V119.heap.size V124.heap.size V97.heap.size W0.heap.size ⟨lo, by omega, by omega, by rw [dFrom_nil, Array.toArray_toList]; exact h3, by rw [dFrom_nil, Array.toArray_toList]; exact h7, h8, h9⟩
      · go_simp
        obtain ⟨V127, hV⟩ : ∃ V, V119.alloc (.cells (madeCells #[.int .i64 0] N) 3) = V := ⟨_, rfl⟩
        have szq : V127.heap.size = V119.heap.size + 1 := by rw [← hV]; exact World.size_alloc _ _
        have sz : V127.heap.size ≤ V119.heap.size + 1 ∧ V119.heap.size + 1 ≤ V127.heap.size := by omega
        clear szq
        have hb : Below V119.heap.size V119 V127 := hV ▸ one_below _ _
        have gz := lo.size
        have lo := lo.trans (hb.mono lo.size)
        have h9 := (hb.block _ (by omega)).trans h9
        have h8 := (hb.block _ (by omega)).trans h8
        have h7 : V127.heap[V119.heap.size]? = some (.cells (madeCells #[.int .i64 0] N) 3 (0, 0)) := hV ▸ World.alloc_heap_new _ _
        rw [hV]
        clear hV
        refine hK.out _ _ (HCell.out _ lo) (fun hHeld => ?_)
        clear hK K
        try simp only [Act.put, List.setIfInBounds_toArray, List.set_cons_zero, List.set_cons_succ]
        refine wpAnyH_ready (rs := [3]) (by kernel_rfl) (by simp) ?_
        refine AllReadyH.cons (gof_drop rfl) (fun K hK => ?_) AllReadyH.nil
        · go_simp
          obtain ⟨V128, hV⟩ : ∃ V, V127.alloc (.cells (madeCells #[.int .i64 0] N) 3) = V := ⟨_, rfl⟩
          have szq : V128.heap.size = V127.heap.size + 1 := by rw [← hV]; exact World.size_alloc _ _
          have sz : V128.heap.size ≤ V127.heap.size + 1 ∧ V127.heap.size + 1 ≤ V128.heap.size := by omega
          clear szq
          have hb : Below V127.heap.size V127 V128 := hV ▸ one_below _ _
          have gz := lo.size
          have lo := lo.trans (hb.mono lo.size)
          have h9 := (hb.block _ (by omega)).trans h9
          have h8 := (hb.block _ (by omega)).trans h8
          have h7 := (hb.block _ (by omega)).trans h7
          have h3 : V128.heap[V127.heap.size]? = some (.cells (madeCells #[.int .i64 0] N) 3 (0, 0)) := hV ▸ World.alloc_heap_new _ _
          rw [hV]
          clear hV
          refine hK.out _ _ (HCell.out _ lo) (fun hHeld => ?_)
          clear hK K
          try simp only [Act.put, List.setIfInBounds_toArray, List.set_cons_zero, List.set_cons_succ]
          refine wpAnyH_ready (rs := [10]) (by kernel_rfl) (by simp) ?_
          refine AllReadyH.cons (gof_drop rfl) (fun K hK => ?_) AllReadyH.nil
          · have kf := frz_at h8 0
            have kc : V128.cell? ⟨V97.heap.size, 0, none⟩ = some (.slice none 0 0) := (cell_at h8 0).trans rfl
            go_simp
            clear kf kc
            obtain ⟨V129, hV⟩ : ∃ V, V128.setCell ⟨V97.heap.size, 0, none⟩ (.slice (some ⟨V127.heap.size, 0, none⟩) N N) = V := ⟨_, rfl⟩
            have szq : V129.heap.size = V128.heap.size := by rw [← hV]; simp [World.setCell]
            have sz : V129.heap.size ≤ V128.heap.size ∧ V128.heap.size ≤ V129.heap.size := by omega
            clear szq
            have lo : Below w1.heap.size w1 V129 := hV ▸ lo.setCell (p := ⟨V97.heap.size, 0, none⟩) (by show w1.heap.size ≤ V97.heap.size; omega) _
            have h9 : V129.heap[W0.heap.size]? = _ := (hV ▸ Below.heap_setCell _ _ _ _ (by show W0.heap.size ≠ V97.heap.size; omega)).trans h9
            have h8 := heap_set_same _ _ 0 (.slice (some ⟨V127.heap.size, 0, none⟩) N N) _ _ h8
            rw [hV] at h8
            have h7 : V129.heap[V119.heap.size]? = _ := (hV ▸ Below.heap_setCell _ _ _ _ (by show V119.heap.size ≠ V97.heap.size; omega)).trans h7
            have h3 : V129.heap[V127.heap.size]? = _ := (hV ▸ Below.heap_setCell _ _ _ _ (by show V127.heap.size ≠ V97.heap.size; omega)).trans h3
            rw [hV]
            clear hV
            refine hK.out _ _ (HCell.out _ lo) (fun hHeld => ?_)
            clear hK K
            try simp only [Act.put, List.setIfInBounds_toArray, List.set_cons_zero, List.set_cons_succ]
            refine wpAnyH_ready (rs := [11]) (by kernel_rfl) (by simp) ?_
            refine AllReadyH.cons (gof_drop rfl) (fun K hK => ?_) AllReadyH.nil
            · have kf := frz_at h9 0
              have kc : V129.cell? ⟨W0.heap.size, 0, none⟩ = some (.slice none 0 0) := (cell_at h9 0).trans rfl
              go_simp
              clear kf kc
              obtain ⟨V130, hV⟩ : ∃ V, V129.setCell ⟨W0.heap.size, 0, none⟩ (.slice (some ⟨V119.heap.size, 0, none⟩) N N) = V := ⟨_, rfl⟩
              have szq : V130.heap.size = V129.heap.size := by rw [← hV]; simp [World.setCell]
              have sz : V130.heap.size ≤ V129.heap.size ∧ V129.heap.size ≤ V130.heap.size := by omega
              clear szq
              have lo : Below w1.heap.size w1 V130 := hV ▸ lo.setCell (p := ⟨W0.heap.size, 0, none⟩) (by show w1.heap.size ≤ W0.heap.size; omega) _
              have h9 := heap_set_same _ _ 0 (.slice (some ⟨V119.heap.size, 0, none⟩) N N) _ _ h9
              rw [hV] at h9
              have h8 : V130.heap[V97.heap.size]? = _ := (hV ▸ Below.heap_setCell _ _ _ _ (by show V97.heap.size ≠ W0.heap.size; omega)).trans h8
              have h7 : V130.heap[V119.heap.size]? = _ := (hV ▸ Below.heap_setCell _ _ _ _ (by show V119.heap.size ≠ W0.heap.size; omega)).trans h7
              have h3 : V130.heap[V127.heap.size]? = _ := (hV ▸ Below.heap_setCell _ _ _ _ (by show V127.heap.size ≠ W0.heap.size; omega)).trans h3
              rw [hV]
              clear hV
              refine hK.out _ _ (HCell.out _ lo) (fun hHeld => ?_)
              clear hK K
              try simp only [Act.put, List.setIfInBounds_toArray, List.set_cons_zero, List.set_cons_succ]
              refine wpAnyH_done (by kernel_rfl) ⟨rfl, ?_⟩ _
              exact HRest.out V130 V127.heap.size V119.heap.size V97.heap.size W0.heap.size ⟨lo, by omega, by omega, by rw [dFrom_nil, Array.toArray_toList]; exact h3, by rw [dFrom_nil, Array.toArray_toList]; exact h7, h8, h9⟩
theorem gdeg_ok (R : List Rw) (g : List (List Nat)) (hg : gs R = g.map ns) (hok : GOk g) (N : Nat) (hN : R.length = N) (A : Option Addr) (c : Nat) (w : World) (h : RdG w w.heap.size A R) :
    Calls Try.prog 47 #[.agg #[.slice A N c]] w (DegP w (dFrom N (arcs 0 g)) (dTo N (arcs 0 g)) 0) :=
  (gdeg_okW R g hg hok N hN A c w h).mono fun e w' q => q.deg
end Go.Proofs.Ytnbjhldpadjgfaa
