/- What graph.Both answers, for whatever it is handed. -/
import Derived.Test.YtnbjhldpadjgfaaWTrn
import Derived.Test.YtnbjhldpadjgfaaWKey
import Derived.Test.YtnbjhldpadjgfaaWReg
namespace Go.Proofs.Ytnbjhldpadjgfaa
set_option maxRecDepth 100000
set_option linter.unusedVariables false
open Go.RowKit Go.Shelf

attribute [local go_sem] Oper.semAt_some

/-- The visit of arcs, as a contract: only the lists are kept. -/
theorem arcsB_stops (n : Nat) (hn : 2 ≤ n) (Bg n₀ N c : Nat) (A : Option Addr) (R : List Rw) (g : List (List Nat)) (hg : gs R = g.map ns) (hN : R.length = N) (hN2 : N ≤ 100) (w : World) (hn0 : n₀ ≤ w.heap.size)
    (hBg : w.heap[Bg]? = some (.cells #[.slice A N c] 24 (0, 0))) (hRd : RdG w n₀ A R) :
    SeqStopsK Fence.wide n Try.prog 76 #[.pointer (some ⟨Bg, 0, none⟩)] (encC (arcs 0 g)) (Below n₀) (fun ys => ys = arcs 0 g) (fun pre => pre <+: arcs 0 g) (arcs 0 g).length w :=
  fun lp J Jx W hW _ _ hY h0 =>
    arcs1_in n hn lp Bg n₀ N c A R g hg hN hN2 J Jx hY W ((cell_at ((hW.block Bg (Array.getElem?_eq_some_iff.1 hBg).1).trans hBg) 0).trans rfl) (hRd.below (hW.mono hn0) (Nat.le_refl _)) h0
theorem G2At.grown {w V X : World} {A : Option Addr} {N c : Nat} (h : G2At w V A N c) {row : Option Nat} (hg : V.grownBy X row) (hr : ∀ r, row = some r → w.heap.size + 2 ≤ r) : G2At w X A N c where
  low := h.low.grown hg h.low.size (fun k e => by have := hr k e; omega)
  box := (hg.block _ (by have := h.sz; omega) (fun e => by have := hr _ e.symm; omega)).trans h.box
  res := (hg.block _ (by have := h.sz; omega) (fun e => by have := hr _ e.symm; omega)).trans h.res
  sz := Nat.le_trans h.sz hg.size
/-- How many stores there were. -/
theorem bth_stores (L : List Ar) (x : Ar) : bth (L ++ [x]) = ains (ains (bth L) x) (rev x) := bth_snoc L x

set_option maxHeartbeats 1000000 in
theorem gboth_e (R : List Rw) (N : Nat) (hN : R.length = N) (hN2 : N ≤ 140737488355328) (e0 : Int) (he : grE (gs R) = e0) (h0 : e0 ≠ 0) (A : Option Addr) (c : Nat) (w : World) (h : RdG w w.heap.size A R) :
    Calls Try.prog 33 #[.agg #[.slice A N c]] w (GrP w [] e0) := by
  have HC : Hid (∀ V, Below w.heap.size w V → Calls Try.prog 38 #[.agg #[.slice A N c]] V fun e w' => e = .returned (.int .i64 e0) ∧ Below V.heap.size V w') := fun V hV => by
    have := gchk_any R N hN hN2 A c V (h.on hV)
    rwa [he] at this
  have t0 : (e0 == 0) = false := by simpa using h0
  have HG := Lib.hid (G2At.start w A N c)
  clear he h hN h0
  go_enter Try.func33, Try.ntmps33
  go_wp2_with fail
  refine (HC.out (G2 w A N c) HG.out.low).mono ?_
  rintro e w1 ⟨rfl, b1⟩
  have HG1 := Lib.hid (HG.out.on b1)
  obtain ⟨k1, k2, k3⟩ := HG1.out.cells
  have HS := Lib.hid (HG1.out.set (.slice none 0 0))
  have kr2 := HS.out.1
  clear b1
  go_wp2
  refine bodyPost_ret (v := .tuple #[.agg #[.slice none 0 0], .int .i64 e0]) (by simp [results, Try.results33, go_sem, kr2]) rfl ?_
  exact ⟨none, [], 0, rfl, rfl, rdg_nil _, HS.out.2.2⟩
set_option maxHeartbeats 4000000 in
theorem gboth_okW (R : List Rw) (g : List (List Nat)) (hg : gs R = g.map ns) (hok : GOk g) (N : Nat) (hN : R.length = N) (A : Option Addr) (c : Nat) (w : World) (h : RdG w w.heap.size A R) :
    Calls Try.prog 33 #[.agg #[.slice A N c]] w (GrP w (if 600 < (bth (arcs 0 g)).length then [] else gboth g) (if 600 < (bth (arcs 0 g)).length then 2 else 0)) := by
  have hgl : g.length = N := by have := congrArg List.length hg; rw [gs_length, List.length_map] at this; omega
  have hN1 : N ≤ 100 := by have := hok.nodes; omega
  have h600 := hok.many
  have HC : Hid (∀ V, Below w.heap.size w V → Calls Try.prog 38 #[.agg #[.slice A N c]] V fun e w' => e = .returned (.int .i64 0) ∧ Below V.heap.size V w') := fun V hV => by
    have := gchk_any R N hN (by omega) A c V (h.on hV)
    rwa [hg, grE_ok g hok] at this
  obtain ⟨gg, hgg⟩ : ∃ x, (if 600 < (bth (arcs 0 g)).length then [] else gboth g) = x := ⟨_, rfl⟩
  obtain ⟨ee, hee⟩ : ∃ x, (if 600 < (bth (arcs 0 g)).length then (2 : Int) else 0) = x := ⟨_, rfl⟩
  rw [hgg, hee]
  have HE := Lib.hid (⟨hgg, hee⟩ : (if 600 < (bth (arcs 0 g)).length then [] else gboth g) = gg ∧ (if 600 < (bth (arcs 0 g)).length then (2 : Int) else 0) = ee)
  have HG := Lib.hid (G2At.start w A N c)
  have HH := Lib.hid (⟨hg, hok, hN, hgl, h⟩ : gs R = g.map ns ∧ GOk g ∧ R.length = N ∧ g.length = N ∧ RdG w w.heap.size A R)
  clear hg hok hN hgl h hgg hee
  have hmm := @run_makeMap Try.prog
  refine (callsIn_wide (n := 5)).1 ?_
  refine callsIn_of_wp_marks Try.func33 rfl trivial ?_ rfl
  simp only [Try.ntmps33, List.size_toArray, List.length_cons, List.length_nil, Nat.reduceAdd, Nat.reduceSub, Array.replicate_succ, Array.replicate_zero, List.push_toArray, List.append_toArray, List.nil_append, List.cons_append]
  gi_wp2_with fail
  refine ⟨trivial, ?_⟩
  refine (callsIn_wide.2 (HC.out (G2 w A N c) HG.out.low)).mono ?_
  rintro e w1 ⟨rfl, b1⟩
  have hG1 := HG.out.on b1
  obtain ⟨k1, k2, k3⟩ := hG1.cells
  have hz1 := hG1.sz
  obtain ⟨V1, hV1⟩ : ∃ V, w1.alloc (.map #[] 0) = V := ⟨_, rfl⟩
  have hG2 : G2At w V1 A N c := hV1 ▸ hG1.on (one_below w1 _)
  have s1 : V1.heap.size = w1.heap.size + 1 := by rw [← hV1]; exact World.size_alloc _ _
  have hset : ASet V1 w1.heap.size 0 [] := hV1 ▸ ASet.made w1
  obtain ⟨V2, hV2⟩ : ∃ V, V1.alloc (.cells #[.map (some w1.heap.size)] 100) = V := ⟨_, rfl⟩
  have hG3 : G2At w V2 A N c := hV2 ▸ hG2.on (one_below V1 _)
  have s2 : V2.heap.size = w1.heap.size + 2 := by rw [← hV2, World.size_alloc, s1]
  have hset2 : ASet V2 w1.heap.size 0 [] := hset.below (hV2 ▸ one_below V1 _) (by omega)
  have hmb : Boxed V2 (w1.heap.size + 1) 100 (.map (some w1.heap.size)) := by have := Boxed.new V1 100 (.map (some w1.heap.size)); rw [hV2, s1] at this; exact this
  obtain ⟨V3, hV3⟩ : ∃ V, V2.alloc (.cells #[.slice A N c] 24) = V := ⟨_, rfl⟩
  have hG4 : G2At w V3 A N c := hV3 ▸ hG3.on (one_below V2 _)
  have s3 : V3.heap.size = w1.heap.size + 3 := by rw [← hV3, World.size_alloc, s2]
  have hset3 : ASet V3 w1.heap.size 0 [] := hset2.below (hV3 ▸ one_below V2 _) (by omega)
  have hmb3 : Boxed V3 (w1.heap.size + 1) 100 (.map (some w1.heap.size)) := by rw [← hV3]; exact hmb.alloc _
  have hgb3 : V3.heap[w1.heap.size + 2]? = some (.cells #[.slice A N c] 24 (0, 0)) := by have := World.alloc_heap_new V2 (.cells #[.slice A N c] 24); rw [hV3, s2] at this; exact this
  have kk : V2.cell? ⟨w.heap.size, 0, none⟩ = some (.slice A N c) := hG3.cells.1
  have HV2 : Hid ((w1.alloc (.map #[] 0)).alloc (.cells #[.map (some w1.heap.size)] 100) = V2) := by show _ = _; rw [hV1, hV2]
  have HX := Lib.hid (⟨hG4, hset3, hmb3, hgb3, s2, s3, hz1⟩ : G2At w V3 A N c ∧ ASet V3 w1.heap.size 0 [] ∧ Boxed V3 (w1.heap.size + 1) 100 (.map (some w1.heap.size)) ∧ V3.heap[w1.heap.size + 2]? = some (.cells #[.slice A N c] 24 (0, 0)) ∧ V2.heap.size = w1.heap.size + 2 ∧ V3.heap.size = w1.heap.size + 3 ∧ w.heap.size + 2 ≤ w1.heap.size)
  have HV3 := Lib.hid hV3
  rw [← hV2, ← hV1] at kk
  clear b1 hG1 hG2 hG3 hG4 hset hset2 hset3 hmb hmb3 hgb3 s1 s2 s3 hV1 hV2 hV3
  gi_wp2_with fail
  rw [HV2.out]
  refine ⟨trivial, ?_⟩
  refine (arcsOf_in 4 A N c V2).mono ?_
  rintro e w2 ⟨rfl, rfl⟩
  rw [HV3.out]
  gi_wp2
  obtain ⟨L, hL⟩ : ∃ L, arcs 0 g = L := ⟨_, rfl⟩
  have HLe := Lib.hid hL
  have h6 : L.length ≤ 600 := hL ▸ h600
  have HSm : Hid (∀ a ∈ L, SmA a) := fun a ha => by
    have := arcs_bd HH.out.2.1 a (hL ▸ ha)
    have h4 := HH.out.2.2.2.1
    exact ⟨by omega, by omega⟩
  have hz3 : V3.heap.size ≤ w1.heap.size + 3 ∧ w1.heap.size + 3 ≤ V3.heap.size := by have := HX.out.2.2.2.2.2.1; omega
  have hz2 : V2.heap.size ≤ w1.heap.size + 2 ∧ w1.heap.size + 2 ≤ V2.heap.size := by have := HX.out.2.2.2.2.1; omega
  have hzw := HX.out.2.2.2.2.2.2
  have hseqL := arcsB_stops 4 (by omega) V2.heap.size w1.heap.size N c A R g HH.out.1 HH.out.2.2.1 (by omega) V3 (by omega) (by rw [HX.out.2.2.2.2.1]; exact HX.out.2.2.2.1) (HH.out.2.2.2.2.below HX.out.1.low (by omega))
  rw [hL] at hseqL
  clear hL h600
  refine wpIn_rangeFunc_ownH rfl (by decide) (gf := 76) (lb := #[.pointer (some ⟨V2.heap.size, 0, none⟩)]) rfl trivial entersArcs1
    hseqL belowK_t (belowK_b (by omega)) (Below.refl _ _) (fun _ => rfl)
    (fun (pre : List Ar) X => ASet X w1.heap.size (2 * pre.length) (bth (pre.map (clp L))) ∧ Boxed X (w1.heap.size + 1) 100 (.map (some w1.heap.size)) ∧ G2At w X A N c ∧ w1.heap.size + 3 ≤ X.heap.size)
    (fun _ _ _ => False)
    ?own
    (fun _ _ _ _ _ hs _ _ => hs)
    ⟨HX.out.2.1, HX.out.2.2.1, HX.out.1, by omega⟩
    (fun x a' X => ∃ Bx, w1.heap.size + 2 < Bx ∧ ArcAt X Bx (clp L x) ∧ a' = { tmps := #[.agg #[.slice A N c], .pointer (some ⟨w.heap.size, 0, none⟩), .pointer (some ⟨w.heap.size + 1, 0, none⟩), .int .i64 0, .int .i64 0, .pointer (some ⟨w1.heap.size + 1, 0, none⟩), .pointer (some ⟨Bx, 0, none⟩), .agg #[.slice A N c], .int .i64 0, .int .i64 0, .bool false, undef, undef, .map (some w1.heap.size), .agg #[.slice A N c], .func (.func 76) #[] #[.pointer (some ⟨V2.heap.size, 0, none⟩)], .agg #[.int .i64 ((clp L x).1 : Int), .int .i64 ((clp L x).2 : Int)], undef, undef, undef, undef, undef, undef, undef, undef, undef, undef, undef, undef, undef, undef, undef], defers := [] })
    ?a1 ?assign ?body ?done ?stop
  case own =>
    rintro pre X Y row ⟨h1, h2, h3, h4⟩ hg hr
    refine ⟨h1.kept hg (fun e => by have := (hr _ e.symm).1; omega), h2.kept hg (fun e => by have := (hr _ e.symm).1; omega), h3.grown hg (fun r e => by have := (hr r e).1; omega), Nat.le_trans h4 hg.size⟩
  case a1 => exact fun x a' s X Y row ⟨Bx, h1, h2, h3⟩ hg hr => ⟨Bx, h1, (Own.from (arcAt_own Bx (clp L x)) _) () X Y row h2 hg hr, h3⟩
  case assign =>
    rintro lp pre x X K ⟨hI1, hI2, hI3, hI4⟩ hK
    rw [encC_eq]
    obtain ⟨a, ha⟩ : ∃ a, clp L x = a := ⟨_, rfl⟩
    rw [ha] at hK ⊢
    have HI := Lib.hid (⟨hI1, hI2, hI3, hI4⟩ : _ ∧ _ ∧ _ ∧ _)
    have HK := Lib.hid hK
    clear hI1 hI2 hI3 hI4 hK ha
    gi_wp2
    refine HK.out _ _ ((KeepsOthers.alloc _ _).from _) ((Below.refl _ X).alloc (by have := HI.out.2.2.2; omega) _) ⟨HI.out.1.below (one_below X _) HI.out.1.lt, HI.out.2.1.alloc _, HI.out.2.2.1.on (one_below X _), ?_⟩ ⟨X.heap.size, ?_, World.alloc_heap_new X _, rfl⟩
    · have := HI.out.2.2.2; simp; omega
    · have := HI.out.2.2.2; omega
  case body =>
    rintro lp pre x a' X hlp hr ⟨hset, hmb, hG, hsz⟩ ⟨Bx, hBx, hA, rfl⟩ hlt
    have hsm := HSm.out _ (clp_in (L := L) (by omega) x)
    have hpl : 2 * pre.length + 2 ≤ 1300 := by omega
    have hst : bth ((pre ++ [x]).map (clp L)) = ains (ains (bth (pre.map (clp L))) (clp L x)) (rev (clp L x)) := by rw [List.map_append, List.map_cons, List.map_nil, bth_snoc]
    have hpn : (pre ++ [x]).length = pre.length + 1 := by simp
    generalize bth (pre.map (clp L)) = S0 at *
    generalize clp L x = a at *
    have hsm2 : SmA (rev a) := ⟨hsm.2, hsm.1⟩
    obtain ⟨k0, k1⟩ := hA.cells
    have km := hmb.cell
    have hHeld0 : X.drew.cell? ⟨w1.heap.size + 1, 0, none⟩ = some (.map (some w1.heap.size)) ∧ X.drew.cell? ⟨Bx, 0, none⟩ = some (.int .i64 (a.1 : Int)) ∧ X.drew.cell? ⟨Bx, 1, none⟩ = some (.int .i64 (a.2 : Int)) := ⟨km, k0, k1⟩
    have HF : Hid (∀ W : World, Below X.drew.heap.size X.drew W → ∃ W1, (Instr.mapUpdate 100 (.map (some w1.heap.size)) (.agg #[.int .i64 (a.1 : Int), .int .i64 (a.2 : Int)]) (.bool true)).run Try.prog W = .ok () W1 ∧ (W1.cell? ⟨w1.heap.size + 1, 0, none⟩ = some (.map (some w1.heap.size)) ∧ W1.cell? ⟨Bx, 0, none⟩ = some (.int .i64 (a.1 : Int)) ∧ W1.cell? ⟨Bx, 1, none⟩ = some (.int .i64 (a.2 : Int))) ∧
        ∃ W2, (Instr.mapUpdate 100 (.map (some w1.heap.size)) (.agg #[.int .i64 (a.2 : Int), .int .i64 (a.1 : Int)]) (.bool true)).run Try.prog W1 = .ok () W2 ∧ (W2.cell? ⟨w1.heap.size + 1, 0, none⟩ = some (.map (some w1.heap.size)) ∧ W2.cell? ⟨Bx, 0, none⟩ = some (.int .i64 (a.1 : Int)) ∧ W2.cell? ⟨Bx, 1, none⟩ = some (.int .i64 (a.2 : Int))) ∧
          KeepsFrom V3.heap.size X W2 ∧ Below w1.heap.size X W2 ∧ ASet W2 w1.heap.size (2 * (pre ++ [x]).length) (bth ((pre ++ [x]).map (clp L))) ∧ Boxed W2 (w1.heap.size + 1) 100 (.map (some w1.heap.size)) ∧ G2At w W2 A N c ∧ w1.heap.size + 3 ≤ W2.heap.size) := fun W hW => by
      have hW' : Below X.heap.size X W := ⟨hW.os, hW.tape, hW.output, hW.size, hW.block⟩
      have e0 := (hset.below hW' hset.lt)
      obtain ⟨W1, r1, e1, g1⟩ := e0.put (by omega) a hsm
      obtain ⟨W2, r2, e2, g2⟩ := e1.put (by omega) (rev a) hsm2
      have hbm0 : Boxed W (w1.heap.size + 1) 100 (.map (some w1.heap.size)) := (hW'.block _ hmb.lt).trans hmb
      have hbm1 := hbm0.kept g1 (fun e => by have := Option.some.inj e; omega)
      have hbm2 := hbm1.kept g2 (fun e => by have := Option.some.inj e; omega)
      have hBl := (Array.getElem?_eq_some_iff.1 hA).1
      have hA0 : ArcAt W Bx a := (hW'.block _ hBl).trans hA
      have hA1 : ArcAt W1 Bx a := (g1.block _ (Array.getElem?_eq_some_iff.1 hA0).1 (fun e => by have := Option.some.inj e; omega)).trans hA0
      have hA2 : ArcAt W2 Bx a := (g2.block _ (Array.getElem?_eq_some_iff.1 hA1).1 (fun e => by have := Option.some.inj e; omega)).trans hA1
      have b1 : Below w1.heap.size W W1 := (Below.refl _ W).grown g1 (by have := hW'.size; omega) (fun k e => by have := Option.some.inj e; omega)
      have b2 : Below w1.heap.size W1 W2 := (Below.refl _ W1).grown g2 (by have := hW'.size; have := b1.size; omega) (fun k e => by have := Option.some.inj e; omega)
      have bb : Below w1.heap.size X W2 := ((hW'.mono (by omega)).trans b1).trans b2
      have kf : KeepsFrom V3.heap.size X W2 := ((((below_keeps hW').from _).trans (KeepsFrom.of_grownBy g1 (fun j e => by have := Option.some.inj e; omega))).trans (KeepsFrom.of_grownBy g2 (fun j e => by have := Option.some.inj e; omega)))
      refine ⟨W1, r1, ⟨hbm1.cell, hA1.cells.1, hA1.cells.2⟩, W2, r2, ⟨hbm2.cell, hA2.cells.1, hA2.cells.2⟩, kf, bb, ?_, hbm2, ((hG.on hW').grown g1 (fun r e => by have := Option.some.inj e; omega)).grown g2 (fun r e => by have := Option.some.inj e; omega), by have := bb.size; omega⟩
      rw [hst, hpn]
      exact e2.mono (by omega)
    have HH0 := Lib.hid hHeld0
    have HR : Hid (∀ W : World, Below X.drew.heap.size X.drew W → W.cell? ⟨w1.heap.size + 1, 0, none⟩ = some (.map (some w1.heap.size)) ∧ W.cell? ⟨Bx, 0, none⟩ = some (.int .i64 (a.1 : Int)) ∧ W.cell? ⟨Bx, 1, none⟩ = some (.int .i64 (a.2 : Int))) := fun W hW => by
      have hb : ∀ b, b < X.heap.size → W.heap[b]? = X.heap[b]? := fun b hb => hW.block b hb
      exact ⟨(World.cell?_of_block (hb _ hmb.lt)).trans km, (World.cell?_of_block (hb _ (Array.getElem?_eq_some_iff.1 hA).1)).trans k0, (World.cell?_of_block (hb _ (Array.getElem?_eq_some_iff.1 hA).1)).trans k1⟩
    clear hHeld0 hset hmb hG hA hst hpn hr hlt
    gi_wp2_with fail
    refine region_round (S := fun w' => w'.cell? ⟨w1.heap.size + 1, 0, none⟩ = some (.map (some w1.heap.size)) ∧ w'.cell? ⟨Bx, 0, none⟩ = some (.int .i64 (a.1 : Int)) ∧ w'.cell? ⟨Bx, 1, none⟩ = some (.int .i64 (a.2 : Int))) (by kernel_rfl) (by kernel_rfl) HH0.out (fun hHeld => ?_)
    (refine gheld_val (i := 0) rfl (by kernel_rfl) (by kernel_rfl) (by kernel_rfl) hHeld (by rfl) ?_; apply Exists.intro; refine ⟨fun wq hSw => ?_, ?_⟩; ((try dsimp only at hSw); obtain ⟨c1, c2, c3⟩ := hSw; go_simp; try rfl); try simp only [Act.put, List.setIfInBounds_toArray, List.set_cons_zero, List.set_cons_succ])
    (refine gheld_val (i := 1) rfl (by kernel_rfl) (by kernel_rfl) (by kernel_rfl) hHeld (by rfl) ?_; apply Exists.intro; refine ⟨fun wq hSw => ?_, ?_⟩; ((try dsimp only at hSw); obtain ⟨c1, c2, c3⟩ := hSw; go_simp; try rfl); try simp only [Act.put, List.setIfInBounds_toArray, List.set_cons_zero, List.set_cons_succ])
    (refine gheld_val (i := 2) rfl (by kernel_rfl) (by kernel_rfl) (by kernel_rfl) hHeld (by rfl) ?_; apply Exists.intro; refine ⟨fun wq hSw => ?_, ?_⟩; ((try dsimp only at hSw); obtain ⟨c1, c2, c3⟩ := hSw; go_simp; try rfl); try simp only [Act.put, List.setIfInBounds_toArray, List.set_cons_zero, List.set_cons_succ])
    (refine gheld_val (i := 3) rfl (by kernel_rfl) (by kernel_rfl) (by kernel_rfl) hHeld (by rfl) ?_; apply Exists.intro; refine ⟨fun wq hSw => ?_, ?_⟩; ((try dsimp only at hSw); obtain ⟨c1, c2, c3⟩ := hSw; go_simp; try rfl); try simp only [Act.put, List.setIfInBounds_toArray, List.set_cons_zero, List.set_cons_succ])
    refine wpAnyH_ready (rs := [4]) (by kernel_rfl) (by simp) ?_
    refine AllReadyH.cons (gof_drop rfl) (fun K hK => ?_) AllReadyH.nil
    go_simp
    refine (reverse_any _ _ _).mono ?_
    rintro e wq ⟨rfl, bq⟩
    have HRq := Lib.hid (HR.out wq bq)
    obtain ⟨W1, r1, h1, W2, r2, h2, hend⟩ := HF.out wq bq
    have H1 := Lib.hid h1
    have H2 := Lib.hid h2
    have HEnd := Lib.hid hend
    clear hend bq h1 h2
    refine hK.out _ _ (HRq.out) (fun hHeld => ?_)
    clear hK K
    try simp only [Act.put, List.setIfInBounds_toArray, List.set_cons_zero, List.set_cons_succ]
    refine wpAnyH_ready (rs := [5]) (by kernel_rfl) (by simp) ?_
    refine AllReadyH.cons (gof_drop rfl) (fun K hK => ?_) AllReadyH.nil
    go_simp
    refine hK.out _ _ (H1.out) (fun hHeld => ?_)
    clear hK K
    try simp only [Act.put, List.setIfInBounds_toArray, List.set_cons_zero, List.set_cons_succ]
    refine wpAnyH_ready (rs := [6]) (by kernel_rfl) (by simp) ?_
    refine AllReadyH.cons (gof_drop rfl) (fun K hK => ?_) AllReadyH.nil
    go_simp
    refine hK.out _ _ (H2.out) (fun hHeld => ?_)
    clear hK K
    try simp only [Act.put, List.setIfInBounds_toArray, List.set_cons_zero, List.set_cons_succ]
    refine wpAnyH_done (by kernel_rfl) ⟨rfl, ?_⟩ _
    gi_wp2
    exact HEnd.out
  case done =>
    rintro D ys X hD hys ⟨hset, hmb, hG, hsz⟩ hK
    have hDl : w1.heap.size + 2 < D := by omega
    rw [hys, clp_map (fun x hx => hx)] at hset
    have km := hmb.cell
    obtain ⟨k1, k2, k3⟩ := hG.cells
    obtain ⟨m, hm⟩ : ∃ m, (bth L).length = m := ⟨_, rfl⟩
    have hln := fun ty => hset.len ty
    rw [hm] at hln
    have HEE := Lib.hid HE.out
    by_cases h6c : 600 < m
    · have t6 : decide ((600 : Int) < (m : Int)) = true := by simp; omega
      have HS := Lib.hid (hG.set (.slice none 0 0))
      have HKD := Lib.hid hK
      have HGr : Hid (gg = [] ∧ ee = 2) := by
        have := HE.out
        rw [HLe.out, hm, if_pos h6c, if_pos h6c] at this
        exact ⟨this.1.symm, this.2.symm⟩
      clear hset hmb hG hK hys
      gi_wp2
      have hK2 : (X.setCell ⟨w.heap.size + 1, 0, none⟩ (.slice none 0 0)).heap[D]? = some (.deferred (some [])) := (KeepsOthers.setCell _ _ _).same D _ HKD.out rfl
      refine ⟨by simp, .inl ⟨_, _, rfl, run_takeDeferred hK2, ?_⟩⟩
      have hcell : ((X.setCell ⟨w.heap.size + 1, 0, none⟩ (.slice none 0 0)).putObj D (.deferred none)).cell? ⟨w.heap.size + 1, 0, none⟩ = some (.slice none 0 0) :=
        (World.cell?_of_block (World.putObj_heap_other (by show w.heap.size + 1 ≠ D; omega))).trans HS.out.1
      refine ⟨.tuple #[.agg #[.slice none 0 0], .int .i64 2], ?_, none, [], 0, ?_, ?_, rdg_nil _, HS.out.2.2.trans (belowK_b (w := w) (Nat.le_refl _) _ D _ _ (by omega) hK2 rfl rfl)⟩
      · simp [results, Try.results33, go_sem, hcell]
      · rw [HGr.out.1, HGr.out.2]; rfl
      · rw [HGr.out.1]; rfl
    · have t6 : decide ((600 : Int) < (m : Int)) = false := by simp; omega
      have HKD := Lib.hid hK
      have HG3 := Lib.hid hG
      have HGr : Hid (gg = gboth g ∧ ee = 0) := by
        have := HE.out
        rw [HLe.out, hm, if_neg h6c, if_neg h6c] at this
        exact ⟨this.1.symm, this.2.symm⟩
      have HN : Hid (gg.length = N) := by show _ = _; rw [HGr.out.1, gboth_length]; exact HH.out.2.2.2.1
      have hmbl := hmb.lt
      have hDX : D < X.heap.size := (Array.getElem?_eq_some_iff.1 hK).1
      have HW : Hid (Calls Try.prog 44 #[.int .i64 (N : Int), .func (.func 93) #[] #[.pointer (some ⟨X.drew.heap.size, 0, none⟩)]] (X.drew.alloc (.cells #[.map (some w1.heap.size)] 100)) fun e w' => ∃ A2 R c2, e = .returned (.agg #[.slice A2 N c2]) ∧ gs R = gg.map ns ∧ RdH (X.heap.size + 1) w' A2 R ∧ Below X.drew.heap.size X.drew w') := by
        obtain ⟨V, hV⟩ : ∃ V, X.drew.alloc (.cells #[.map (some w1.heap.size)] 100) = V := ⟨_, rfl⟩
        have bV : Below X.drew.heap.size X.drew V := hV ▸ one_below X.drew _
        have sV : V.heap.size = X.heap.size + 1 := by rw [← hV]; exact World.size_alloc _ _
        have nV : V.heap[X.heap.size]? = some (.cells #[.map (some w1.heap.size)] 100 (0, 0)) := by rw [← hV]; exact World.alloc_heap_new X.drew _
        have setV : ASet V w1.heap.size (2 * L.length) (bth L) := by
          have hb : Below X.heap.size X V := ⟨bV.os, bV.tape, bV.output, bV.size, bV.block⟩
          have := hset.below hb hset.lt
          exact this
        show Calls _ _ _ _ _
        rw [hV]
        refine (witharcs_in 93 #[.pointer (some ⟨X.drew.heap.size, 0, none⟩)] (bth L) (by omega) (fun ys => ys.Perm (bth L)) (fun M hM => hM) N (by omega) (fun a ha => ?_) (bth_nodup _) V entersKeys1 (fun _ => True) (fun Y hY => ?_)).mono ?_
        · have := bth_bd HH.out.2.1 a (HLe.out ▸ ha)
          have h4 := HH.out.2.2.2.1
          omega
        · exact SeqStrong.of_K (Kp := KeepsWalks) (fun _ _ q => q.2) (keys_stops X.drew.heap.size w1.heap.size (2 * L.length) (bth L) Y ((hY.block _ (by show X.heap.size < _; omega)).trans nV) (setV.below hY setV.lt))
        · rintro e w' ⟨A2, R2, c2, rfl, q1, q2, q3⟩
          rw [wa_length]
          rw [sV] at q2
          exact ⟨A2, R2, c2, rfl, by rw [q1, HGr.out.1]; unfold gboth; rw [HH.out.2.2.2.1, HLe.out], q2, bV.trans (q3.mono bV.size)⟩
      have HKeep : Hid (∀ W, Below X.drew.heap.size X.drew W → G2At w W A N c ∧ W.heap[D]? = some (.deferred (some [])) ∧ W.cell? ⟨w1.heap.size + 1, 0, none⟩ = some (.map (some w1.heap.size))) := fun W hW => ⟨hG.drew.on hW, (hW.block D (Array.getElem?_eq_some_iff.1 hK).1).trans hK, (World.cell?_of_block (hW.block _ hmb.lt)).trans km⟩
      clear hset hmb hG hK hys
      gi_wp2_with fail
      refine wpIn_wide.2 ?_
      go_region_held3 (fun w' => w'.cell? ⟨w.heap.size, 0, none⟩ = some (.slice A N c) ∧ w'.cell? ⟨w1.heap.size + 1, 0, none⟩ = some (.map (some w1.heap.size)))
        ((first | exact ⟨HS.out.2.1, hzm.out⟩ | exact ⟨hkz.out.1.cells.1, hkz.out.2.2⟩ | exact ⟨hk1.out.1.cells.1, hk1.out.2.2⟩ | exact ⟨(HKeep.out _ (Below.refl _ _)).1.cells.1, (HKeep.out _ (Below.refl _ _)).2.2⟩))
        (first
          | (go_at_call 68; refine (keys_in w1.heap.size _).mono ?_; rintro e wq ⟨rfl, rfl⟩; have hk1 := Lib.hid (HKeep.out _ (one_below X.drew (.cells #[.map (some w1.heap.size)] 100))))
          | (go_at_call 44; refine (HW.out).mono ?_; rintro e w5 ⟨A2, R2, c2, rfl, q1, q2, q3⟩; have hkz := Lib.hid (HKeep.out _ q3); have HQ := Lib.hid (⟨q1, q2⟩ : _ ∧ _); obtain ⟨z1, z2, z3⟩ := hkz.out.1.cells; have HS := Lib.hid (hkz.out.1.set (.slice A2 N c2)); have hzm : Hid ((w5.setCell ⟨w.heap.size + 1, 0, none⟩ (.slice A2 N c2)).cell? ⟨w1.heap.size + 1, 0, none⟩ = some (.map (some w1.heap.size))) := ((World.cell?_of_block (Below.heap_setCell _ _ _ _ (by show w1.heap.size + 1 ≠ w.heap.size + 1; omega))).trans hkz.out.2.2); clear q1 q2 q3))
      all_goals (
        have hK2 : (w5.setCell ⟨w.heap.size + 1, 0, none⟩ (.slice A2 N c2)).heap[D]? = some (.deferred (some [])) := (KeepsOthers.setCell _ _ _).same D _ hkz.out.2.1 rfl
        gi_wp2
        refine ⟨by simp, .inl ⟨_, _, rfl, run_takeDeferred hK2, ?_⟩⟩
        have hcell : ((w5.setCell ⟨w.heap.size + 1, 0, none⟩ (.slice A2 N c2)).putObj D (.deferred none)).cell? ⟨w.heap.size + 1, 0, none⟩ = some (.slice A2 N c2) :=
          (World.cell?_of_block (World.putObj_heap_other (by show w.heap.size + 1 ≠ D; omega))).trans HS.out.1
        have hsz5 : w5.heap.size ≤ ((w5.setCell ⟨w.heap.size + 1, 0, none⟩ (.slice A2 N c2)).putObj D (.deferred none)).heap.size := by simp [World.setCell, World.putObj]
        refine ⟨.tuple #[.agg #[.slice A2 N c2], .int .i64 0], ?_, A2, R2, c2, ?_, HQ.out.1, HQ.out.2 _ (fun k hk _ => ?_) hsz5, HS.out.2.2.trans (belowK_b (w := w) (Nat.le_refl _) _ D _ _ (by omega) hK2 rfl rfl)⟩
        · simp [results, Try.results33, go_sem, hcell]
        · rw [HN.out, HGr.out.2]
        · exact (World.putObj_heap_other (by omega)).trans (Below.heap_setCell _ _ _ _ (by show k ≠ w.heap.size + 1; omega)))
  case stop =>
    rintro D cd pre X hD hpre h hK
    exact h.elim
end Go.Proofs.Ytnbjhldpadjgfaa
