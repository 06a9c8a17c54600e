/- What withArcs makes of a visit of arcs; no condition but those that each fact names. -/
import Derived.Test.YtnbjhldpadjgfaaWRow
import Derived.Test.YtnbjhldpadjgfaaWReg
import Derived.Test.YtnbjhldpadjgfaaWCol
namespace Go.Proofs.Ytnbjhldpadjgfaa
set_option linter.unusedVariables false
open Go.RowKit Go.Shelf

attribute [local go_sem] Oper.semAt_some

theorem info_ints : (Try.prog.info? 25).map (fun i => (i.zero, i.size, i.bytes)) = some (some (.slice none 0 0), 1, 24) := by kernel_rfl
/-- It reads as a graph as long as what lies from a block on is kept. -/
def RdH (lo : Nat) (w : World) (A : Option Addr) (R : List Rw) : Prop := ∀ W : World, (∀ k, lo ≤ k → k < w.heap.size → W.heap[k]? = w.heap[k]?) → w.heap.size ≤ W.heap.size → RdG W W.heap.size A R
theorem RdH.here {lo : Nat} {w : World} {A : Option Addr} {R : List Rw} (h : RdH lo w A R) : RdG w w.heap.size A R := h w (fun _ _ _ => rfl) (Nat.le_refl _)
/-- A graph comes back: a slice of lists of the call's own. -/
def GraphP (w : World) (g : List (List Nat)) (e : Ending) (w' : World) : Prop :=
  ∃ A R c, e = .returned (.agg #[.slice A g.length c]) ∧ gs R = g.map ns ∧ RdH w.heap.size w' A R ∧ Below w.heap.size w w'
/-- What a round keeps. -/
def WK (n₀ : Nat) (A B : World) : Prop := Below n₀ A B ∧ KeepsWalks A B
theorem wk_t {n₀ : Nat} {A B C : World} (h : WK n₀ A B) (k : WK n₀ B C) : WK n₀ A C := ⟨h.1.trans k.1, h.2.trans k.2⟩
theorem wk_b {n₀ : Nat} {w : World} (hn : n₀ ≤ w.heap.size) (W : World) (l : Nat) (o o' : Obj) (hl : w.heap.size ≤ l) (h : W.heap[l]? = some o) (hc : o.isCells = false) (hw : o.isWalk = false) : WK n₀ W (W.putObj l o') :=
  ⟨belowK_b hn W l o o' hl h hc hw, walksK_b (w := w) W l o o' hl h hc hw⟩
/-- An append to a list of the call's own, at a step of a region that draws its order. -/
theorem app_at {w : World} {ops : Array Oper} {o : Oper} {a : Act} {K : Act → World → Prop} {Q : Exit → Act → World → Prop} {E : Prop} (hgd : o.guard = none) (s x : Operand)
    (ho : o.op = .call { callee := .builtin .append, args := #[s, x], argTypes := #[25, 25] }) (base : Nat)
    (v : Value) (n : Nat) (xs : List Value) (hs : a.eval s = v) (hown : w.ownsRow base 3 1 v n xs)
    (ad : Addr) (y : Value) (hx : a.eval x = .slice (some ad) 1 1) (hc : w.cell? ad = some y) (h1 : y.oneCell' = true)
    (hb : n ≤ 1000000) (hbase : base ≤ w.heap.size)
    (h : ∀ v' w', w'.ownsRow base 3 1 v' (n + 1) (xs ++ [y]) → w.grownBy w' v.ownBlock → (v'.ownBlock = v.ownBlock ∨ v'.ownBlock = some w.heap.size) → K (a.put o.dst v') w') : if Region.wanted o (yielded ops a.tmps) = true then Oper.wp Try.prog o a w K Q else E := by
  have hw : Region.wanted o (yielded ops a.tmps) = true := by simp [Region.wanted, hgd]
  rw [if_pos hw]
  obtain ⟨i0, hi, hz0, hz1, hz2⟩ := info_parts info3
  obtain ⟨v', w', hrun, h2, h3, _, h4⟩ := run_append_own_at (P := Try.prog) w base 25 o.type 3 i0 (.int .i64 0) 1 8 Try.underlying25 hi hz0 hz1 hz2 rfl (by decide) v n xs hown ad 1 1 [y] rfl (fun j u hj => by
    cases j with
    | zero => simp at hj; subst hj; have : ad.add 0 = ad := by obtain ⟨b, f, s⟩ := ad; unfold Addr.add; split <;> simp_all
              rw [this]; exact hc
    | succ j => simp at hj) (by simpa using h1) (by unfold maxLen; omega) (by omega) hbase
  unfold Oper.wp execOp
  simp only [ho, resolve, invoke, builtin, Sem.run_bind, Sem.run_pure, Result.andThen_ok, List.map_toArray, List.map_cons, List.map_nil, hs, hx, hrun]
  exact h v' w' h2 h3 h4

set_option maxRecDepth 100000 in
set_option maxHeartbeats 4000000 in
theorem witharcs_in (gf : Nat) (lb : Array Value) (L : List Ar) (hL : L.length ≤ 100000) (S : List Ar → Prop) (hS : ∀ M, S M → M.Perm L) (n : Nat) (hn : n ≤ 100) (hbd : ∀ a ∈ L, a.1 < n) (hnd : L.Nodup) (w : World) (eg : ∀ args w, (callFunc gf args).run Try.prog w = .ok (.enter gf args) w) (Sp : List Ar → Prop)
    (hseq : ∀ V, Below w.heap.size w V → SeqStrong 3 Fence.wide 4 Try.prog gf lb (encC L) (WK w.heap.size) S Sp L.length V) :
    Calls Try.prog 44 #[.int .i64 (n : Int), .func (.func gf) #[] lb] w (GraphP w (wa n L)) := by
  have hmk := run_make_row' (P := Try.prog) 22 25 (.slice none 0 0) 24 Try.underlying22 info_ints rfl .i64 .i64 n (by omega) (by omega)
  refine (callsIn_wide (n := 5)).1 ?_
  refine callsIn_of_wp_marks Try.func44 rfl trivial ?_ rfl
  simp only [Try.ntmps44, List.size_toArray, List.length_cons, List.length_nil, Nat.reduceAdd, Nat.reduceSub, Array.replicate_succ, Array.replicate_zero, List.push_toArray, List.append_toArray, List.nil_append, List.cons_append]
  gi_wp2
  have hmade := (GR.made (w.alloc (.cells #[.slice none 0 0] 24)) w.heap.size n)
  rw [World.size_alloc] at hmade
  obtain ⟨w2, hw2⟩ : ∃ w2, (w.alloc (.cells #[.slice none 0 0] 24)).alloc (.cells (madeCells #[.slice none 0 0] n) 25) = w2 := ⟨_, rfl⟩
  have hs2 : w2.heap.size = w.heap.size + 2 := by rw [← hw2, World.size_alloc, World.size_alloc]
  have hr0 : Boxed w2 w.heap.size 24 (.slice none 0 0) := by rw [← hw2]; exact (Boxed.new w _ _).alloc _
  have hb2 : Below w.heap.size w w2 := by rw [← hw2]; exact (one_below w _).trans ((one_below _ _).mono (by simp))
  rw [hw2] at hmade ⊢
  clear hw2
  have hg0 := Boxed.new w2 24 (.slice (some ⟨w.heap.size + 1, 0, none⟩) n n)
  have hb3 : Below w.heap.size w (w2.alloc (.cells #[.slice (some ⟨w.heap.size + 1, 0, none⟩) n n] 24)) := hb2.trans ((one_below w2 _).mono (by omega))
  have hmade3 := hmade.alloc (.cells #[.slice (some ⟨w.heap.size + 1, 0, none⟩) n n] 24)
  have hr3 := hr0.alloc (.cells #[.slice (some ⟨w.heap.size + 1, 0, none⟩) n n] 24)
  have hs3 : (w2.alloc (.cells #[.slice (some ⟨w.heap.size + 1, 0, none⟩) n n] 24)).heap.size = w.heap.size + 3 := by rw [World.size_alloc, hs2]
  rw [hs2] at hg0
  obtain ⟨w3, hw3⟩ : ∃ w3, w2.alloc (.cells #[.slice (some ⟨w.heap.size + 1, 0, none⟩) n n] 24) = w3 := ⟨_, rfl⟩
  rw [hw3] at hg0 hb3 hmade3 hr3 hs3 ⊢
  clear hw3 hmade hr0 hb2 hs2 hmk
  refine rangeS (T := 3) rfl (by decide) (gf := gf) (lb := lb) rfl trivial eg
    (hseq w3 hb3) wk_t (wk_b (by omega)) (Below.refl _ _) (fun _ => rfl)
    (fun (pre : List Ar) X => (∃ v, GR X w.heap.size (w.heap.size + 1) n v (tos (pre.map (clp L)))) ∧ (Boxed X (w.heap.size + 2) 24 (.slice (some ⟨w.heap.size + 1, 0, none⟩) n n) ∧ Boxed X w.heap.size 24 (.slice none 0 0)) ∧ Below w.heap.size w X ∧ w.heap.size + 3 ≤ X.heap.size)
    ?hI
    ⟨⟨_, hmade3⟩, ⟨hg0, hr3⟩, hb3, by omega⟩
    (fun x a' X => ∃ Bx, w.heap.size + 2 < Bx ∧ ArcAt X Bx (clp L x) ∧ a' = { tmps := #[.int .i64 (n : Int), .func (.func gf) #[] lb, undef, undef, .pointer (some ⟨w.heap.size, 0, none⟩), .pointer (some ⟨w.heap.size + 1 + 1, 0, none⟩), .pointer (some ⟨Bx, 0, none⟩), undef, undef, .int .i64 (n : Int), .slice (some ⟨w.heap.size + 1, 0, none⟩) n n, .agg #[.slice (some ⟨w.heap.size + 1, 0, none⟩) n n], .func (.func gf) #[] lb, .agg #[.int .i64 ((clp L x).1 : Int), .int .i64 ((clp L x).2 : Int)], undef, undef, undef, undef, undef, undef, undef, undef, undef, undef, undef, undef, undef, undef, undef, undef, undef, undef, undef, undef, undef, undef, undef, undef, undef, undef], defers := [] })
    ?a1 ?assign ?body ?done
  case hI =>
    refine OwnFrom.and (fun s X Y row hs hg hr => ?_) (OwnFrom.and (OwnFrom.and (Own.from (boxed_own _ _ (fun (_ : List Ar) => .slice (some ⟨w.heap.size + 1, 0, none⟩) n n)) _) (Own.from (boxed_own _ _ (fun (_ : List Ar) => .slice none 0 0)) _)) (OwnFrom.and (ownFrom_below (by omega) (by omega)) (fun s X Y row hs hg hr => Nat.le_trans hs hg.size)))
    obtain ⟨v, hv⟩ := hs
    exact ⟨v, hv.kept hg (fun r e => (hr r e).2)⟩
  case a1 => exact fun x a' s X Y row ⟨Bx, h1, h2, h3⟩ hg hr => ⟨Bx, h1, (Own.from (arcAt_own Bx (clp L x)) _) () X Y row h2 hg hr, h3⟩
  case assign =>
    rintro l pre x X K hI hK
    rw [encC_eq]
    obtain ⟨a, ha⟩ : ∃ a, clp L x = a := ⟨_, rfl⟩
    rw [ha] at hK ⊢
    have HI := Lib.hid hI
    have HK := Lib.hid hK
    clear hI hK ha
    gi_wp2
    refine HK.out _ _ (KeepT.below (one_below X _)) ⟨(Below.refl _ X).alloc HI.out.2.2.1.size _, (KeepsOthers.alloc X _).walks⟩ ⟨?_, ⟨HI.out.2.1.1.alloc _, HI.out.2.1.2.alloc _⟩, HI.out.2.2.1.alloc HI.out.2.2.1.size _, by have := HI.out.2.2.2; simp; omega⟩ ⟨X.heap.size, by have := HI.out.2.2.2; omega, World.alloc_heap_new X _, rfl⟩
    obtain ⟨v, hv⟩ := HI.out.1
    exact ⟨v, hv.alloc _⟩
  case body =>
    rintro l pre x a' X hlp ⟨⟨v, hgr⟩, ⟨hbg, hbr⟩, hbel, hsz⟩ ⟨Bx, hBx, hA, rfl⟩ hlt
    have hain := clp_in (L := L) (by omega) x
    have han := hbd _ hain
    have hMs : ∀ j, tos ((pre ++ [x]).map (clp L)) j = if (clp L x).1 = j then tos (pre.map (clp L)) j ++ [(clp L x).2] else tos (pre.map (clp L)) j := fun j => by
      rw [List.map_append, List.map_cons, List.map_nil, tos_snoc]
    have hkl : (tos (pre.map (clp L)) (clp L x).1).length ≤ 100000 := by have := tos_length (pre.map (clp L)) (clp L x).1; rw [List.length_map] at this; omega
    have HMs := Lib.hid hMs
    clear hMs hain hlt hr3 hmade3 hg0 hb3
    generalize pre.map (clp L) = M at *
    generalize clp L x = a at *
    have HEnd : Hid (∀ f : Nat → List Nat, (∀ j, f j = if j = a.1 then tos M a.1 ++ [a.2] else tos M j) → ∀ j, f j = tos ((pre ++ [x]).map (clp L)) j) := fun f hf j => by
      rw [hf j, HMs.out j]
      by_cases e : a.1 = j
      · rw [if_pos e, if_pos e.symm, e]
      · rw [if_neg e, if_neg (fun q => e q.symm)]
    clear HMs
    obtain ⟨k, hk⟩ : ∃ k, (tos M a.1).length = k := ⟨_, rfl⟩
    rw [hk] at hkl
    obtain ⟨k0, k1⟩ := hA.cells
    have kg := hbg.cell
    have hGd : GR X.drew w.heap.size (w.heap.size + 1) n v (tos M) := ⟨hgr.blk, hgr.own, hgr.dif⟩
    obtain ⟨As, Cs, hvs⟩ := own_sliceT (hgr.own a.1 han)
    have kr : X.cell? ⟨w.heap.size + 1, 0 + a.1, none⟩ = some (v a.1) := by rw [Nat.zero_add]; exact hgr.cell han
    have kr' : X.cell? ⟨w.heap.size + 1, a.1, none⟩ = some (v a.1) := hgr.cell han
    have HGd : Hid (X.drew.ownsRow w.heap.size 3 1 (v a.1) k (zc (ns (tos M a.1)))) := by have := hGd.own a.1 han; rw [hk] at this; exact this
    have HSZ := Lib.hid (⟨hsz, hBx⟩ : w.heap.size + 3 ≤ X.heap.size ∧ w.heap.size + 2 < Bx)
    have HA1 : Hid ((X.drew.alloc (.cells #[.int .i64 (a.2 : Int)] 3)).cell? ⟨w.heap.size + 1 + 1, 0, none⟩ = some (.slice (some ⟨w.heap.size + 1, 0, none⟩) n n) ∧ (X.drew.alloc (.cells #[.int .i64 (a.2 : Int)] 3)).cell? ⟨Bx, 0, none⟩ = some (.int .i64 (a.1 : Int)) ∧ (X.drew.alloc (.cells #[.int .i64 (a.2 : Int)] 3)).cell? ⟨Bx, 1, none⟩ = some (.int .i64 (a.2 : Int))) :=
      ⟨((Boxed.alloc (W := X.drew) hbg _)).cell, (ArcAt.cells (W := X.drew.alloc _) ((Below.heap_alloc _ _ _ (Array.getElem?_eq_some_iff.1 hA).1).trans hA)).1, (ArcAt.cells (W := X.drew.alloc _) ((Below.heap_alloc _ _ _ (Array.getElem?_eq_some_iff.1 hA).1).trans hA)).2⟩
    have HAp : Hid (∀ v' w4, (X.drew.alloc (.cells #[.int .i64 (a.2 : Int)] 3)).grownBy w4 (v a.1).ownBlock → w4.ownsRow w.heap.size 3 1 v' (k + 1) (zc (ns (tos M a.1)) ++ [.int .i64 (a.2 : Int)]) → (v'.ownBlock = (v a.1).ownBlock ∨ v'.ownBlock = some (X.drew.alloc (.cells #[.int .i64 (a.2 : Int)] 3)).heap.size) →
        (w4.cell? ⟨w.heap.size + 1 + 1, 0, none⟩ = some (.slice (some ⟨w.heap.size + 1, 0, none⟩) n n) ∧ w4.cell? ⟨Bx, 0, none⟩ = some (.int .i64 (a.1 : Int)) ∧ w4.cell? ⟨Bx, 1, none⟩ = some (.int .i64 (a.2 : Int)) ∧ w4.cell? ⟨w.heap.size + 1, a.1, none⟩ = some (v a.1) ∧ w4.frozen? ⟨w.heap.size + 1, a.1, none⟩ = false) ∧
        ((w4.setCell ⟨w.heap.size + 1, a.1, none⟩ v').cell? ⟨w.heap.size + 1 + 1, 0, none⟩ = some (.slice (some ⟨w.heap.size + 1, 0, none⟩) n n) ∧ (w4.setCell ⟨w.heap.size + 1, a.1, none⟩ v').cell? ⟨Bx, 0, none⟩ = some (.int .i64 (a.1 : Int)) ∧ (w4.setCell ⟨w.heap.size + 1, a.1, none⟩ v').cell? ⟨Bx, 1, none⟩ = some (.int .i64 (a.2 : Int))) ∧
        ∀ W5, W5 = w4.setCell ⟨w.heap.size + 1, a.1, none⟩ v' → KeepT 3 w3.heap.size X W5 ∧ WK w.heap.size X W5 ∧ ((∃ v, GR W5 w.heap.size (w.heap.size + 1) n v (tos ((pre ++ [x]).map (clp L)))) ∧ (Boxed W5 (w.heap.size + 2) 24 (.slice (some ⟨w.heap.size + 1, 0, none⟩) n n) ∧ Boxed W5 w.heap.size 24 (.slice none 0 0)) ∧ Below w.heap.size w W5 ∧ w.heap.size + 3 ≤ W5.heap.size)) := fun v' w4 hgrow hown' hloc => by
      obtain ⟨a1, a2, a3, a4, a5⟩ := hGd.app han hk hgrow hown' hloc w.heap.size (Nat.le_refl _) (by omega) (by have := HSZ.out; show _ ≤ X.heap.size; omega)
      have b1 : ∀ (K : Nat) (cs : Array Value) (t : TypeId) (fr : Nat × Nat), t ≠ 3 → X.heap[K]? = some (.cells cs t fr) → w4.heap[K]? = some (.cells cs t fr) := fun K cs t fr ht hK =>
        (hgrow.block K (by have := (Array.getElem?_eq_some_iff.1 hK).1; show _ < (X.alloc _).heap.size; simp; omega) (fun e => by obtain ⟨_, cs', hc⟩ := own_int_block (hGd.own a.1 han) e.symm; rw [show X.drew.heap[K]? = X.heap[K]? from rfl, hK] at hc; simp at hc; exact ht hc.2.1)).trans ((Below.heap_alloc (X.drew) _ _ (Array.getElem?_eq_some_iff.1 hK).1).trans hK)
      have c1 := b1 _ _ _ _ (by decide) hbg
      have c2 := b1 _ _ _ _ (by decide) hA
      have c3 := b1 _ _ _ _ (by decide) hgr.blk
      have d1 := a5 _ _ _ _ (by omega) (by decide) hbg
      have d2 := a5 _ _ _ _ (by omega) (by decide) hA
      have d3 := a5 _ _ _ _ (by omega) (by decide) hbr
      refine ⟨⟨box_cell c1, (cell_at c2 0).trans rfl, (cell_at c2 1).trans rfl, by rw [cell_at c3]; simp [han], frz_at c3 _⟩, ⟨box_cell d1, (cell_at d2 0).trans rfl, (cell_at d2 1).trans rfl⟩, ?_⟩
      rintro W5 rfl
      have a2' : Below w.heap.size X (w4.setCell ⟨w.heap.size + 1, a.1, none⟩ v') := ⟨a2.os, a2.tape, a2.output, a2.size, a2.block⟩
      have a3' : KeepsOthers X (w4.setCell ⟨w.heap.size + 1, a.1, none⟩ v') := ⟨a3.size, a3.same⟩
      have a4' := a4 w3.heap.size (by omega)
      refine ⟨⟨a4'.1, a4'.2⟩, ⟨a2', a3'.walks⟩, ⟨_, a1.congr (fun _ _ => rfl) (fun j _ => HEnd.out _ (fun j => rfl) j)⟩, ⟨d1, d3⟩, hbel.trans a2', ?_⟩
      have := a2'.size; omega
    have t1 : (0 : Int) ≤ (a.1 : Int) := by omega
    have t2 : (a.1 : Int) < (n : Int) := by omega
    have hHeld0 : X.drew.cell? ⟨w.heap.size + 1 + 1, 0, none⟩ = some (.slice (some ⟨w.heap.size + 1, 0, none⟩) n n) ∧ X.drew.cell? ⟨Bx, 0, none⟩ = some (.int .i64 (a.1 : Int)) ∧ X.drew.cell? ⟨Bx, 1, none⟩ = some (.int .i64 (a.2 : Int)) := ⟨kg, k0, k1⟩
    have HH0 := Lib.hid hHeld0
    clear hHeld0 hgr hGd hbg hbr hbel hA kg k0 k1 HEnd
    have hlx : Bx < X.heap.size := World.block_lt_of_cell? X _ HH0.out.2.1
    have hlg : w.heap.size + 1 + 1 < X.heap.size := World.block_lt_of_cell? X _ HH0.out.1
    rw [hk] at hvs
    rw [hvs] at kr kr'
    have kb := (World.cell?_alloc_lt X (.cells #[.int .i64 (a.2 : Int)] 3) ⟨w.heap.size + 1, 0 + a.1, none⟩ (by show w.heap.size + 1 < _; omega)).trans kr
    have kb' := (World.cell?_alloc_lt X (.cells #[.int .i64 (a.2 : Int)] 3) ⟨w.heap.size + 1, a.1, none⟩ (by show w.heap.size + 1 < _; omega)).trans kr'
    gi_wp2_with fail
    refine region_round (S := fun w' => w'.cell? ⟨w.heap.size + 1 + 1, 0, none⟩ = some (.slice (some ⟨w.heap.size + 1, 0, none⟩) n n) ∧ w'.cell? ⟨Bx, 0, none⟩ = some (.int .i64 (a.1 : Int)) ∧ w'.cell? ⟨Bx, 1, none⟩ = some (.int .i64 (a.2 : Int))) (by kernel_rfl) (by kernel_rfl) HH0.out (fun hHeld => ?_)
    (refine gheld_val (i := 0) rfl (by kernel_rfl) (by kernel_rfl) (by kernel_rfl) hHeld (by rfl) ?_; apply Exists.intro; refine ⟨fun wq hSw => ?_, ?_⟩; ((try dsimp only at hSw); obtain ⟨c1, c2, c3⟩ := hSw; go_simp; try rfl); try simp only [Act.put, List.setIfInBounds_toArray, List.set_cons_zero, List.set_cons_succ])
    (refine gheld_val (i := 1) rfl (by kernel_rfl) (by kernel_rfl) (by kernel_rfl) hHeld (by rfl) ?_; apply Exists.intro; refine ⟨fun wq hSw => ?_, ?_⟩; ((try dsimp only at hSw); obtain ⟨c1, c2, c3⟩ := hSw; go_simp; try rfl); try simp only [Act.put, List.setIfInBounds_toArray, List.set_cons_zero, List.set_cons_succ])
    (refine gheld_val (i := 2) rfl (by kernel_rfl) (by kernel_rfl) (by kernel_rfl) hHeld (by rfl) ?_; apply Exists.intro; refine ⟨fun wq hSw => ?_, ?_⟩; ((try dsimp only at hSw); obtain ⟨c1, c2, c3⟩ := hSw; go_simp; try rfl); try simp only [Act.put, List.setIfInBounds_toArray, List.set_cons_zero, List.set_cons_succ])
    (refine gheld_val (i := 3) rfl (by kernel_rfl) (by kernel_rfl) (by kernel_rfl) hHeld (by rfl) ?_; apply Exists.intro; refine ⟨fun wq hSw => ?_, ?_⟩; ((try dsimp only at hSw); obtain ⟨c1, c2, c3⟩ := hSw; go_simp; try rfl); try simp only [Act.put, List.setIfInBounds_toArray, List.set_cons_zero, List.set_cons_succ])
    (refine gheld_val (i := 4) rfl (by kernel_rfl) (by kernel_rfl) (by kernel_rfl) hHeld (by rfl) ?_; apply Exists.intro; refine ⟨fun wq hSw => ?_, ?_⟩; ((try dsimp only at hSw); obtain ⟨c1, c2, c3⟩ := hSw; go_simp; try rfl); try simp only [Act.put, List.setIfInBounds_toArray, List.set_cons_zero, List.set_cons_succ])
    (refine gheld_val (i := 5) rfl (by kernel_rfl) (by kernel_rfl) (by kernel_rfl) hHeld (by rfl) ?_; apply Exists.intro; refine ⟨fun wq hSw => ?_, ?_⟩; ((try dsimp only at hSw); obtain ⟨c1, c2, c3⟩ := hSw; go_simp; try rfl); try simp only [Act.put, List.setIfInBounds_toArray, List.set_cons_zero, List.set_cons_succ])
    (refine gheld_val (i := 6) rfl (by kernel_rfl) (by kernel_rfl) (by kernel_rfl) hHeld (by rfl) ?_; apply Exists.intro; refine ⟨fun wq hSw => ?_, ?_⟩; ((try dsimp only at hSw); obtain ⟨c1, c2, c3⟩ := hSw; go_simp; try rfl); try simp only [Act.put, List.setIfInBounds_toArray, List.set_cons_zero, List.set_cons_succ])
    (refine gheld_val (i := 7) rfl (by kernel_rfl) (by kernel_rfl) (by kernel_rfl) hHeld (by rfl) ?_; apply Exists.intro; refine ⟨fun wq hSw => ?_, ?_⟩; ((try dsimp only at hSw); obtain ⟨c1, c2, c3⟩ := hSw; go_simp; try rfl); try simp only [Act.put, List.setIfInBounds_toArray, List.set_cons_zero, List.set_cons_succ])
    (refine gheld_val (i := 8) rfl (by kernel_rfl) (by kernel_rfl) (by kernel_rfl) hHeld (by rfl) ?_; apply Exists.intro; refine ⟨fun wq hSw => ?_, ?_⟩; ((try dsimp only at hSw); obtain ⟨c1, c2, c3⟩ := hSw; go_simp; try rfl); try simp only [Act.put, List.setIfInBounds_toArray, List.set_cons_zero, List.set_cons_succ])
    (refine gheld_val (i := 10) rfl (by kernel_rfl) (by kernel_rfl) (by kernel_rfl) hHeld (by rfl) ?_; apply Exists.intro; refine ⟨fun wq hSw => ?_, ?_⟩; ((try dsimp only at hSw); obtain ⟨c1, c2, c3⟩ := hSw; go_simp; try rfl); try simp only [Act.put, List.setIfInBounds_toArray, List.set_cons_zero, List.set_cons_succ])
    (refine gheld_val (i := 11) rfl (by kernel_rfl) (by kernel_rfl) (by kernel_rfl) hHeld (by rfl) ?_; apply Exists.intro; refine ⟨fun wq hSw => ?_, ?_⟩; ((try dsimp only at hSw); obtain ⟨c1, c2, c3⟩ := hSw; go_simp; try rfl); try simp only [Act.put, List.setIfInBounds_toArray, List.set_cons_zero, List.set_cons_succ])
    refine wpAnyH_ready (rs := [9, 12]) (by kernel_rfl) (by simp) ?_
    refine AllReadyH.cons (gof_drop rfl) (fun K hK => ?_) (AllReadyH.cons (gof_drop rfl) (fun K hK => ?_) AllReadyH.nil)
    · go_simp
      refine hK.out _ _ (HH0.out) (fun hHeld => ?_)
      clear hK K
      try simp only [Act.put, List.setIfInBounds_toArray, List.set_cons_zero, List.set_cons_succ]
      refine wpAnyH_ready (rs := [12]) (by kernel_rfl) (by simp) ?_
      refine AllReadyH.cons (gof_drop rfl) (fun K hK => ?_) AllReadyH.nil
      go_simp
      refine hK.out _ _ (HA1.out) (fun hHeld => ?_)
      clear hK K
      try simp only [Act.put, List.setIfInBounds_toArray, List.set_cons_zero, List.set_cons_succ]
      refine wpAnyH_ready (rs := [13]) (by kernel_rfl) (by simp) ?_
      refine AllReadyH.cons (gof_drop rfl) (fun K hK => ?_) AllReadyH.nil
      refine app_at (by rfl) (.tmp 23) (.tmp 26) (by rfl) w.heap.size (v a.1) k (zc (ns (tos M a.1))) hvs.symm (HGd.out.alloc _) ⟨X.drew.heap.size, 0, none⟩ (.int .i64 (a.2 : Int)) (by rfl) (box_cell (World.alloc_heap_new X.drew _)) rfl (by omega) (by have := HSZ.out; show _ ≤ (X.alloc _).heap.size; simp; omega) ?_
      intro v' w4 hown' hgrow hloc
      have HG2 := Lib.hid (HAp.out v' w4 hgrow hown' hloc)
      obtain ⟨g', cap', rfl⟩ := ownsRow_succ hown'
      obtain ⟨e1, e2, e3, e4, e5⟩ := HG2.out.1
      have e6 : w4.cell? ⟨w.heap.size + 1, 0 + a.1, none⟩ = some (v a.1) := by rw [Nat.zero_add]; exact e4
      have e7 : w4.frozen? ⟨w.heap.size + 1, 0 + a.1, none⟩ = false := by rw [Nat.zero_add]; exact e5
      clear hgrow hown' hloc
      refine hK.out _ _ (⟨e1, e2, e3⟩) (fun hHeld => ?_)
      clear hK K
      try simp only [Act.put, List.setIfInBounds_toArray, List.set_cons_zero, List.set_cons_succ]
      (refine gheld_val (i := 14) rfl (by kernel_rfl) (by kernel_rfl) (by kernel_rfl) hHeld (by rfl) ?_; apply Exists.intro; refine ⟨fun wq hSw => ?_, ?_⟩; ((try dsimp only at hSw); obtain ⟨c1, c2, c3⟩ := hSw; go_simp; try rfl); try simp only [Act.put, List.setIfInBounds_toArray, List.set_cons_zero, List.set_cons_succ])
      refine wpAnyH_ready (rs := [15]) (by kernel_rfl) (by simp) ?_
      refine AllReadyH.cons (gof_drop rfl) (fun K hK => ?_) AllReadyH.nil
      go_simp
      refine hK.out _ _ (HG2.out.2.1) (fun hHeld => ?_)
      clear hK K
      try simp only [Act.put, List.setIfInBounds_toArray, List.set_cons_zero, List.set_cons_succ]
      refine wpAnyH_done (by kernel_rfl) ⟨rfl, ?_⟩ _
      gi_wp2
      have h4 := HG2.out.2.2
      exact h4 _ (by first | rfl | simp)
    · go_simp
      refine hK.out _ _ (HA1.out) (fun hHeld => ?_)
      clear hK K
      try simp only [Act.put, List.setIfInBounds_toArray, List.set_cons_zero, List.set_cons_succ]
      refine wpAnyH_ready (rs := [9]) (by kernel_rfl) (by simp) ?_
      refine AllReadyH.cons (gof_drop rfl) (fun K hK => ?_) AllReadyH.nil
      go_simp
      refine hK.out _ _ (HA1.out) (fun hHeld => ?_)
      clear hK K
      try simp only [Act.put, List.setIfInBounds_toArray, List.set_cons_zero, List.set_cons_succ]
      refine wpAnyH_ready (rs := [13]) (by kernel_rfl) (by simp) ?_
      refine AllReadyH.cons (gof_drop rfl) (fun K hK => ?_) AllReadyH.nil
      refine app_at (by rfl) (.tmp 23) (.tmp 26) (by rfl) w.heap.size (v a.1) k (zc (ns (tos M a.1))) hvs.symm (HGd.out.alloc _) ⟨X.drew.heap.size, 0, none⟩ (.int .i64 (a.2 : Int)) (by rfl) (box_cell (World.alloc_heap_new X.drew _)) rfl (by omega) (by have := HSZ.out; show _ ≤ (X.alloc _).heap.size; simp; omega) ?_
      intro v' w4 hown' hgrow hloc
      have HG2 := Lib.hid (HAp.out v' w4 hgrow hown' hloc)
      obtain ⟨g', cap', rfl⟩ := ownsRow_succ hown'
      obtain ⟨e1, e2, e3, e4, e5⟩ := HG2.out.1
      have e6 : w4.cell? ⟨w.heap.size + 1, 0 + a.1, none⟩ = some (v a.1) := by rw [Nat.zero_add]; exact e4
      have e7 : w4.frozen? ⟨w.heap.size + 1, 0 + a.1, none⟩ = false := by rw [Nat.zero_add]; exact e5
      clear hgrow hown' hloc
      refine hK.out _ _ (⟨e1, e2, e3⟩) (fun hHeld => ?_)
      clear hK K
      try simp only [Act.put, List.setIfInBounds_toArray, List.set_cons_zero, List.set_cons_succ]
      (refine gheld_val (i := 14) rfl (by kernel_rfl) (by kernel_rfl) (by kernel_rfl) hHeld (by rfl) ?_; apply Exists.intro; refine ⟨fun wq hSw => ?_, ?_⟩; ((try dsimp only at hSw); obtain ⟨c1, c2, c3⟩ := hSw; go_simp; try rfl); try simp only [Act.put, List.setIfInBounds_toArray, List.set_cons_zero, List.set_cons_succ])
      refine wpAnyH_ready (rs := [15]) (by kernel_rfl) (by simp) ?_
      refine AllReadyH.cons (gof_drop rfl) (fun K hK => ?_) AllReadyH.nil
      go_simp
      refine hK.out _ _ (HG2.out.2.1) (fun hHeld => ?_)
      clear hK K
      try simp only [Act.put, List.setIfInBounds_toArray, List.set_cons_zero, List.set_cons_succ]
      refine wpAnyH_done (by kernel_rfl) ⟨rfl, ?_⟩ _
      gi_wp2
      have h4 := HG2.out.2.2
      exact h4 _ (by first | rfl | simp)
  case done =>
    rintro D ys X hD hSy ⟨⟨v, hgr⟩, ⟨hbg, hbr⟩, hbel, hsz⟩ hK
    have HDl : Hid (w.heap.size < D) := by show _ < _; omega
    have hpm := hS ys hSy
    rw [clp_map (fun x hx => hpm.mem_iff.1 hx)] at hgr
    have hwe : wa n L = (List.range n).map (fun i => nso (tos ys i)) := by
      rw [← wa_perm hpm ((hpm.nodup_iff).2 hnd)]; unfold wa rws; rw [List.map_map]; rfl
    have hyl : ys.length ≤ 100000 := by rw [hpm.length_eq]; exact hL
    have HW := Lib.hid hwe
    have HKD := Lib.hid hK
    have HGr := Lib.hid (⟨hgr, hbg, hbr, hbel⟩ : _ ∧ _ ∧ _ ∧ _)
    have kg := hbg.cell
    clear hwe hK hgr hbr hbel hpm hSy hseq hbg hmade3 hg0 hb3 hr3
    gi_wp2
    gi_loopw [32] (fun p wr => ∃ i : Nat, i ≤ n ∧ p = .int .i64 (i : Int) ∧ GR wr w.heap.size (w.heap.size + 1) n v (fun j => if j < i then nso (tos ys j) else tos ys j) ∧ Boxed wr (w.heap.size + 2) 24 (.slice (some ⟨w.heap.size + 1, 0, none⟩) n n) ∧ Boxed wr w.heap.size 24 (.slice none 0 0) ∧ Below w.heap.size w wr ∧ wr.heap[D]? = some (.deferred (some [])))
      (fun p _ => n - (intOf p).toNat)
    case atStart => exact ⟨0, Nat.zero_le _, rfl, HGr.out.1.congr (fun _ _ => rfl) (fun j _ => by simp), HGr.out.2.1, HGr.out.2.2.1, HGr.out.2.2.2, HKD.out⟩
    case round =>
      obtain ⟨i, hi, rfl, hgr, hbg, hbr, hbel, hK⟩ := hrel
      by_cases hlt : i < n
      · obtain ⟨As, Cs, hvs⟩ := own_sliceT (hgr.own i hlt)
        have hrl : (tos ys i).length ≤ 100000 := by have := tos_length ys i; omega
        have hown := hgr.own i hlt
        have kr := hgr.cell hlt
        simp only [Nat.lt_irrefl, if_false] at hown hvs
        obtain ⟨k, hk⟩ : ∃ k, (tos ys i).length = k := ⟨_, rfl⟩
        rw [hk] at hown hvs hrl
        have HS := Lib.hid (sort_grown (tos ys i) k hk (by omega) w.heap.size (v i) wr hown)
        have HE : Hid (∀ w5, w5.ownsRow w.heap.size 3 1 (v i) k (zc (ns (nso (tos ys i)))) → wr.grownBy w5 (v i).ownBlock → GR w5 w.heap.size (w.heap.size + 1) n v (fun j => if j < i + 1 then nso (tos ys j) else tos ys j) ∧ Boxed w5 (w.heap.size + 2) 24 (.slice (some ⟨w.heap.size + 1, 0, none⟩) n n) ∧ Boxed w5 w.heap.size 24 (.slice none 0 0) ∧ Below w.heap.size w w5 ∧ w5.heap[D]? = some (.deferred (some []))) := fun w5 ho hg => by
          obtain ⟨a1, a2, a3⟩ := hgr.sort hlt (l := nso (tos ys i)) (by simp only [Nat.lt_irrefl, if_false]; exact ((nso_perm _).length_eq).symm) hg (by simp only [Nat.lt_irrefl, if_false]; rw [hk]; exact ho) w.heap.size (Nat.le_refl _) hbel.size
          refine ⟨a1.congr (fun _ _ => rfl) (fun j _ => ?_), a3 _ _ _ _ (by decide) hbg, a3 _ _ _ _ (by decide) hbr, hbel.trans a2, (KeepsOthers.of_grownBy hg (fun j o e ho => by obtain ⟨_, cs, hc⟩ := own_int_block (hgr.own i hlt) e; rw [hc] at ho; cases ho; rfl)).same D _ hK rfl⟩
          by_cases e : j = i
          · subst e; simp
          · rw [if_neg e]
            by_cases h2 : j < i
            · rw [if_pos h2, if_pos (by omega)]
            · rw [if_neg h2, if_neg (by omega)]
        rw [hvs] at HS HE kr
        clear hgr hbg hbr hbel hK hown hvs
        gi_wp2_with fail
        refine ⟨trivial, ?_⟩
        refine (callsIn_wide.2 HS.out).mono ?_
        rintro e w5 ⟨rfl, ho, hg⟩
        have HF := Lib.hid (HE.out w5 ho hg)
        clear ho hg
        gi_wp2
        go_roundw
        case rel => exact ⟨i + 1, by omega, by go_num, HF.out⟩
        case measure => simp [intOf]; omega
      · have hgr2 := hgr.congr (v' := v) (rows' := fun j => nso (tos ys j)) (fun _ _ => rfl) (fun j hj => by rw [if_pos (by omega)])
        have kg2 := hbg.cell
        have kf2 := hbr.frozen
        have kc2 := hbr.cell
        have hK2 : (wr.setCell ⟨w.heap.size, 0, none⟩ (.slice (some ⟨w.heap.size + 1, 0, none⟩) n n)).heap[D]? = some (.deferred (some [])) := (KeepsOthers.setCell _ _ _).same D _ hK rfl
        have hR2 := hbr.set (.slice (some ⟨w.heap.size + 1, 0, none⟩) n n)
        have HF : Hid (GR (wr.setCell ⟨w.heap.size, 0, none⟩ (.slice (some ⟨w.heap.size + 1, 0, none⟩) n n)) w.heap.size (w.heap.size + 1) n v (fun j => nso (tos ys j)) ∧ Below w.heap.size w (wr.setCell ⟨w.heap.size, 0, none⟩ (.slice (some ⟨w.heap.size + 1, 0, none⟩) n n))) :=
          ⟨hgr2.other hbr (by decide) (by omega), hbel.setCell (p := ⟨w.heap.size, 0, none⟩) (Nat.le_refl _) _⟩
        have HKK := Lib.hid hK2
        clear hgr hgr2 hbg hbr hbel hK
        gi_wp2
        have hsz2 : D < (wr.setCell ⟨w.heap.size, 0, none⟩ (.slice (some ⟨w.heap.size + 1, 0, none⟩) n n)).heap.size := (Array.getElem?_eq_some_iff.1 HKK.out).1
        refine ⟨by simp, .inl ⟨_, _, rfl, run_takeDeferred HKK.out, ?_⟩⟩
        have hgf := HF.out.1.put (.deferred none) HKK.out rfl
        have hbf : Below w.heap.size w ((wr.setCell ⟨w.heap.size, 0, none⟩ (.slice (some ⟨w.heap.size + 1, 0, none⟩) n n)).putObj D (.deferred none)) := HF.out.2.trans (belowK_b (w := w) (Nat.le_refl _) _ D _ _ (Nat.le_of_lt HDl.out) HKK.out rfl rfl)
        have hcell : ((wr.setCell ⟨w.heap.size, 0, none⟩ (.slice (some ⟨w.heap.size + 1, 0, none⟩) n n)).putObj D (.deferred none)).cell? ⟨w.heap.size, 0, none⟩ = some (.slice (some ⟨w.heap.size + 1, 0, none⟩) n n) :=
          (World.cell?_of_block (World.putObj_heap_other (Nat.ne_of_lt HDl.out))).trans hR2.cell
        refine ⟨.agg #[.slice (some ⟨w.heap.size + 1, 0, none⟩) n n], ?_, some ⟨w.heap.size + 1, 0, none⟩, rwl n v (fun j => nso (tos ys j)), n, by rw [wa_length], by rw [rwl_gs, HW.out], fun W hk _ => (hgf.onFrom (lo := w.heap.size) (by omega) (Nat.le_refl _) hk).read (fun j hj => by rw [(nso_perm _).length_eq]; have := tos_length ys j; omega), hbf⟩
        simp [results, Try.results44, go_sem, hcell]
end Go.Proofs.Ytnbjhldpadjgfaa
