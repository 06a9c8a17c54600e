/- The law GraphLess: without one of its arcs, a graph has the others; for whatever graph and place. -/
import Derived.Test.YtfeegpggfmfhjaaWEnd
import Derived.Test.YtfeegpggfmfhjaaWOp
namespace Go.Proofs.Ytfeegpggfmfhjaa

section
set_option maxRecDepth 100000
set_option linter.unusedVariables false
open Go.RowKit Go.Shelf

/-- The order of arcs. -/
def lexA (a b : Ar) : Prop := a.1 < b.1 ∨ (a.1 = b.1 ∧ a.2 < b.2)
theorem arcs_sorted : ∀ (g : List (List Nat)) (o : Nat), (∀ l ∈ g, l.Pairwise (· < ·)) → (arcs o g).Pairwise lexA
  | [], _, _ => List.Pairwise.nil
  | l :: t, o, h => by
    unfold arcs
    rw [List.pairwise_append]
    refine ⟨?_, arcs_sorted t (o + 1) (fun x hx => h x (by simp [hx])), ?_⟩
    · rw [List.pairwise_map]
      exact (h l (by simp)).imp fun hab => .inr ⟨rfl, hab⟩
    · intro a ha b hb
      obtain ⟨x, _, rfl⟩ := List.mem_map.1 ha
      have := (arcs_fst t (o + 1) b hb).1
      left; show o < b.1; omega
theorem less_arcs {g : List (List Nat)} (h : GOk g) (k : Nat) : arcs 0 (wa g.length ((arcs 0 g).eraseIdx k)) = (arcs 0 g).eraseIdx k := by
  have hs := List.eraseIdx_sublist (arcs 0 g) k
  have hnd := (arcs_nodup g 0 h.ris).sublist hs
  have hbd : ∀ a ∈ (arcs 0 g).eraseIdx k, a.1 < g.length ∧ a.2 < g.length := fun a ha => arcs_bd h a (hs.subset ha)
  have hok := wa_ok h.nodes hnd hbd (by have := hs.length_le; have := h.many; omega)
  refine List.Perm.eq_of_pairwise (le := lexA) ?_ (arcs_sorted _ 0 hok.ris) ((arcs_sorted g 0 h.ris).sublist hs) (wa_arcs hnd hbd)
  intro a b _ _ h1 h2
  unfold lexA at h1 h2
  omega
theorem less_not {L : List Ar} (h : L.Nodup) (k : Nat) (hk : k < L.length) : L[k] ∉ L.eraseIdx k := by
  intro hm
  obtain ⟨j, hj, e⟩ := List.getElem_of_mem hm
  rw [List.getElem_eraseIdx] at e
  have hl : (L.eraseIdx k).length = L.length - 1 := List.length_eraseIdx_of_lt hk
  have hp := List.pairwise_iff_getElem.1 h
  split at e
  · exact hp j k (by omega) hk (by omega) e
  · exact hp k (j + 1) hk (by omega) (by omega) e.symm
theorem acs_append (a b : List Ar) : acs (a ++ b) = acs a ++ acs b := by unfold acs rz; rw [List.map_append, rcs_append]
theorem acs_one (L : List Ar) : ∀ u ∈ acs L, u.oneCell' = true := fun u hu => rcs_one _ u hu
theorem less_cells (L : List Ar) (k : Nat) (hk : k < L.length) : acs L = acs (L.take k) ++ (acs [L[k]] ++ acs (L.drop (k + 1))) := by
  rw [← acs_append, ← acs_append]
  congr 1
  rw [List.singleton_append, ← List.drop_eq_getElem_cons hk, List.take_append_drop]
theorem less_eq (L : List Ar) (k : Nat) : L.eraseIdx k = L.take k ++ L.drop (k + 1) := List.eraseIdx_eq_take_drop_succ L k
theorem rdv_cells {w : World} {B b off : Nat} {vs : List Value} (h : RdV w B (some ⟨b, off, none⟩) vs) (i : Nat) (v : Value) (hi : vs[i]? = some v) : b < B ∧ w.cell? ⟨b, off + i, none⟩ = some v := by
  obtain ⟨b2, o2, e, h1, h2⟩ := h.at_ hi
  simp only [Option.some.injEq, Addr.mk.injEq, and_true] at e
  obtain ⟨rfl, rfl⟩ := e
  exact ⟨h1, h2⟩
/-- An append of arcs to a list of the call's own, at a step of a region that draws its order. -/
theorem arcs_at {w : World} {ops : Array Oper} {o : Oper} {a : Act} {K : Act → World → Prop} {Q : Exit → Act → World → Prop} {E : Prop} (hgd : o.guard = none) (s x : Operand)
    (ho : o.op = .call { callee := .builtin .append, args := #[s, x], argTypes := #[25, 25] }) (base : Nat)
    (v : Value) (n : Nat) (xs : List Value) (hs : a.eval s = v) (hown : w.ownsRow base 44 2 v n xs)
    (b off m c : Nat) (news : List Value) (hx : a.eval x = .slice (some ⟨b, off, none⟩) m c) (hl : news.length = m * 2) (hc : ∀ j u, news[j]? = some u → w.cell? ⟨b, off + j, none⟩ = some u) (h1 : ∀ u ∈ news, u.oneCell' = true)
    (hb : n + m ≤ 1000000) (hbase : base ≤ w.heap.size)
    (h : ∀ v' w', w'.ownsRow base 44 2 v' (n + m) (xs ++ news) → w.grownBy w' v.ownBlock → (v' = .slice none 0 0 ↔ v = .slice none 0 0 ∧ m = 0) → K (a.put o.dst v') w') : if Region.wanted o (yielded ops a.tmps) = true then Oper.wp Try.prog o a w K Q else E := by
  have hw : Region.wanted o (yielded ops a.tmps) = true := by simp [Region.wanted, hgd]
  rw [if_pos hw]
  obtain ⟨i0, hi, hz0, hz1, hz2⟩ := info_parts info_arc
  obtain ⟨v', w', hrun, h2, h3, h5, h4⟩ := run_append_own_at (P := Try.prog) w base 25 o.type 44 i0 (.agg #[.int .i64 0, .int .i64 0]) 2 16 Try.underlying25 hi hz0 hz1 hz2 rfl (by decide) v n xs hown ⟨b, off, none⟩ m c news hl (fun j u hj => by
    have : (⟨b, off, none⟩ : Addr).add j = ⟨b, off + j, none⟩ := by unfold Addr.add; split <;> simp_all
    rw [this]; exact hc j u hj) h1 (by unfold maxLen; omega) (by omega) hbase
  unfold Oper.wp execOp
  simp only [ho, resolve, invoke, builtin, Sem.run_bind, Sem.run_pure, Result.andThen_ok, List.map_toArray, List.map_cons, List.map_nil, hs, hx, hrun]
  exact h v' w' h2 h3 h5
theorem row_of (R : List Rw) (g : List (List Nat)) (h : gs R = g.map ns) (i : Nat) (hi : i < g.length) : (R[i]?.getD (none, 0, [])).2.2 = ns (row g i) := by
  have h1 : (gs R)[i]? = (g.map ns)[i]? := by rw [h]
  unfold gs at h1
  have hl : R.length = g.length := by have := congrArg List.length h; rwa [gs_length, List.length_map] at this
  rw [List.getElem?_map, List.getElem?_map, List.getElem?_eq_getElem (by omega), List.getElem?_eq_getElem hi] at h1
  simp only [Option.map_some, Option.some.injEq] at h1
  rw [List.getElem?_eq_getElem (by omega)]
  unfold row
  rw [List.getElem?_eq_getElem hi]
  exact h1
theorem ns_mem (l : List Nat) (x : Nat) : ((x : Int) ∈ ns l) ↔ x ∈ l := by
  unfold ns
  rw [List.mem_map]
  constructor
  · rintro ⟨y, hy, e⟩; have : y = x := by omega
    exact this ▸ hy
  · exact fun h => ⟨x, h, rfl⟩
set_option maxHeartbeats 8000000 in
theorem graphLess_law (A : Option Addr) (c : Nat) (R : List Rw) (k : Int) (w : World) (hA : RdG w w.heap.size A R) (hn : R.length ≤ 140737488355328) (hk : -9223372036854775808 ≤ k ∧ k ≤ 9223372036854775807) :
    Calls Try.prog 8 #[.agg #[.slice A R.length c], .int .i64 k] w fun e w' => e = .returned (.bool true) ∧ Below w.heap.size w w' := by
  obtain ⟨N, hN⟩ : ∃ N, R.length = N := ⟨_, rfl⟩
  rw [hN] at hn ⊢
  by_cases e0 : grE (gs R) = 0
  · obtain ⟨g, hg, hok⟩ := grE_zero _ e0
    have hgl : g.length = N := by have := congrArg List.length hg; rw [gs_length, List.length_map] at this; omega
    have hN1 : N ≤ 100 := by have := hok.nodes; omega
    have h600 := hok.many
    have HT : Hid (∀ A c V, RdG V V.heap.size A R → Calls Try.prog 9 #[.agg #[.slice A N c]] V (ArcsP V (arcs 0 g) 0)) := fun A c V h => garcs_ok R g hg hok N hN e0 A c V h
    by_cases hkk : 0 ≤ k ∧ k < ((arcs 0 g).length : Int)
    · obtain ⟨k0, k1⟩ := hkk
      obtain ⟨k, rfl⟩ := Int.eq_ofNat_of_zero_le k0
      have hkl : k < (arcs 0 g).length := by omega
      obtain ⟨L, hL⟩ : ∃ L, arcs 0 g = L := ⟨_, rfl⟩
      obtain ⟨M, hM⟩ : ∃ M, L.eraseIdx k = M := ⟨_, rfl⟩
      have hLk : k < L.length := hL ▸ hkl
      have hml : M.length = L.length - 1 := by rw [← hM]; exact List.length_eraseIdx_of_lt hLk
      have hsub : List.Sublist M L := by rw [← hM]; exact List.eraseIdx_sublist L k
      have hnd : M.Nodup := (hL ▸ arcs_nodup g 0 hok.ris : L.Nodup).sublist hsub
      have hbd : ∀ a ∈ M, a.1 < N ∧ a.2 < N := fun a ha => by have := arcs_bd hok a (hL ▸ hsub.subset ha); rw [hgl] at this; exact this
      have hwok : GOk (wa N M) := wa_ok hN1 hnd hbd (by rw [hL] at h600; omega)
      have hwa : arcs 0 (wa N M) = M := by have := less_arcs hok k; rw [hL, hM, hgl] at this; exact this
      have hno : L[k] ∉ M := by rw [← hM]; exact less_not (hL ▸ arcs_nodup g 0 hok.ris) k hLk
      have hLb := arcs_bd hok L[k] (by rw [hL]; exact List.getElem_mem hLk)
      rw [hgl] at hLb
      have hce := less_cells L k hLk
      have hme : M = L.take k ++ L.drop (k + 1) := by rw [← hM]; exact less_eq L k
      rw [hL] at HT h600
      obtain ⟨n, hln⟩ : ∃ n, L.length = n := ⟨_, rfl⟩
      rw [hln] at hml h600
      have hkn : k < n := hln ▸ hLk
      obtain ⟨m, hm⟩ : ∃ m, n - 1 = m := ⟨_, rfl⟩
      rw [hm] at hml
      unfold ArcsP at HT
      rw [hln] at HT
      have HO : Hid (∀ A c V, RdV V V.heap.size A (acs M) → Calls Try.prog 10 #[.int .i64 (N : Int), .slice A m c] V fun e w' => ∃ A R c, e = .returned (.tuple #[.agg #[.slice A N c], .int .i64 0]) ∧ gs R = (wa N M).map ns ∧ RdG w' w'.heap.size A R ∧ Below V.heap.size V w') := fun A c V h => by
        have := gof_ok N hN1 M hnd hbd m hml (by omega) A c V h
        unfold GrP at this; rw [wa_length] at this; exact this
      have HT2 : Hid (∀ R2 A c V, gs R2 = (wa N M).map ns → RdG V V.heap.size A R2 → Calls Try.prog 9 #[.agg #[.slice A N c]] V fun e w' => ∃ A c, e = .returned (.tuple #[.slice A m c, .int .i64 0]) ∧ RdV w' w'.heap.size A (acs M) ∧ Below V.heap.size V w') := fun R2 A c V h2 h => by
        have := garcs_ok R2 (wa N M) h2 hwok N (by have := congrArg List.length h2; rw [gs_length, List.length_map, wa_length] at this; omega) (by rw [h2]; exact grE_ok _ hwok) A c V h
        unfold ArcsP at this; rw [hwa, hml] at this; exact this.mono fun e w' ⟨A, c, q1, _, q3, q4⟩ => ⟨A, c, q1, q3, q4⟩
      have HSA : Hid (∀ A B c d V, RdV V V.heap.size A (acs M) → RdV V V.heap.size B (acs M) → Calls Try.prog 21 #[.slice A m c, .slice B m d] V fun e w' => e = .returned (.bool true) ∧ Below V.heap.size V w') := fun A B c d V h1 h2 => by
        have := sameR_any V A B c d (rz M) (rz M) (by rw [rz_length]; omega) h1 h2
        rw [rz_length, hml, decide_eq_true rfl] at this; exact this
      have HLd : Hid (∀ R2 A c V, gs R2 = (wa N M).map ns → RdG V V.heap.size A R2 → Calls Try.prog 24 #[.agg #[.slice A N c], .int .i64 ((L[k].1 : Nat) : Int), .int .i64 ((L[k].2 : Nat) : Int)] V fun e w' => e = .returned (.bool false) ∧ Below V.heap.size V w') := fun R2 A c V h2 h => by
        have := leads_any R2 N (by have := congrArg List.length h2; rw [gs_length, List.length_map, wa_length] at this; omega) A c L[k].1 hLb.1 ((L[k].2 : Nat) : Int) V h
        have hr := row_of R2 (wa N M) h2 L[k].1 (by rw [wa_length]; exact hLb.1)
        rw [hr, decide_eq_false (fun q => hno ((wa_mem N M L[k].1 L[k].2 hLb.1).1 ((ns_mem _ _).1 q)))] at this
        exact this
      have hak : L[k]?.getD (0, 0) = L[k] := by rw [List.getElem?_eq_getElem hLk]; rfl
      have hat := acs_at L k hLk
      rw [hak] at hat
      generalize L[k] = a at *
      have HCe := Lib.hid (⟨hce, hme, hln, hml⟩ : _ ∧ _ ∧ _ ∧ _)
      clear e0 hg hok hgl hN hn hnd hbd hL hln hM hml hsub hwok hwa hno hce hme hkl hak hLk hk k0 k1
      have HB : Hid (Below w.heap.size w w) := Below.refl _ w
      have HR := Lib.hid hA; clear hA
      go_enter Try.func8, Try.ntmps8
      have HBq : Hid (Below w.heap.size w (w.alloc (.cells #[.slice A N c] 24))) := one_below _ _
      replace HB : Hid (Below w.heap.size w (w.alloc (.cells #[.slice A N c] 24))) := HB.out.trans (HBq.out.mono HB.out.size)
      replace HR : Hid (RdG (w.alloc (.cells #[.slice A N c] 24)) ((w.alloc (.cells #[.slice A N c] 24))).heap.size A R) := HR.out.on HBq.out
      clear HBq
      have K0 : Hid (((w.alloc (.cells #[.slice A N c] 24))).cell? ⟨w.heap.size, 0, none⟩ = some (.slice A N c)) := (cell_at (World.alloc_heap_new w _) 0).trans rfl
      have HC := Lib.hid (HT.out A c _ HR.out)
      go_wp2_with fail
      refine HC.out.mono ?_
      rintro e w1 ⟨A1, c1, rfl, hcp, h1, bq⟩
      clear HC
      have HBc := Lib.hid bq; clear bq
      have HBq : Hid (Below (w.alloc (.cells #[.slice A N c] 24)).heap.size (w.alloc (.cells #[.slice A N c] 24)) w1) := HBc.out
      replace HB : Hid (Below w.heap.size w w1) := HB.out.trans (HBq.out.mono HB.out.size)
      replace HR : Hid (RdG w1 (w1).heap.size A R) := HR.out.on HBq.out
      replace K0 : Hid ((w1).cell? ⟨w.heap.size, 0, none⟩ = some (.slice A N c)) := (HBq.out.cell (World.block_lt_of_cell? _ _ K0.out)).trans K0.out
      clear HBq
      clear HBc
      have H1 : Hid (RdV w1 (w1).heap.size A1 (acs L)) := h1
      clear h1
      have HC := Lib.hid (graphbegun_true w1)
      go_wp2_with fail
      refine HC.out.mono ?_
      rintro e w2 ⟨rfl, bq⟩
      clear HC
      have HBc := Lib.hid bq; clear bq
      have HBq : Hid (Below w1.heap.size w1 w2) := HBc.out
      replace HB : Hid (Below w.heap.size w w2) := HB.out.trans (HBq.out.mono HB.out.size)
      replace HR : Hid (RdG w2 (w2).heap.size A R) := HR.out.on HBq.out
      replace K0 : Hid ((w2).cell? ⟨w.heap.size, 0, none⟩ = some (.slice A N c)) := (HBq.out.cell (World.block_lt_of_cell? _ _ K0.out)).trans K0.out
      replace H1 : Hid (RdV w2 (w2).heap.size A1 (acs L)) := H1.out.on HBq.out
      clear HBq
      clear HBc
      have d1 : decide ((k : Int) < 0) = false := by simp
      have d2 : decide ((n : Int) ≤ (k : Int)) = false := by simp; omega
      have d3 : decide (n ≤ k) = false := by simp; omega
      obtain ⟨b, off, rfl, hbl, hc0⟩ := H1.out.at_ hat.1
      have a1 : IntKind.i64.wrap ((k : Int) + 1) = ((k + 1 : Nat) : Int) := by rw [IntWalk.i64_in _ (by omega)]; omega
      have hcl : ∀ W, Below w2.heap.size w2 W → ∀ i v, (acs L)[i]? = some v → W.cell? ⟨b, off + i, none⟩ = some v := fun W hW i v hi => (hW.cell (p := ⟨b, off + i, none⟩) hbl).trans (rdv_cells H1.out i v hi).2
      have hcz := hcp.1
      have Q0 : Hid ((w2).cell? ⟨b, off + k * 2, none⟩ = some (.int .i64 ((a.1 : Nat) : Int))) := hc0
      have Q1 : Hid ((w2).cell? ⟨b, off + k * 2 + 1, none⟩ = some (.int .i64 ((a.2 : Nat) : Int))) := by show _ = _; rw [Nat.add_assoc]; exact (rdv_cells H1.out _ _ hat.2).2
      have f1 : (0 : Int) ≤ (k : Int) := by omega
      have f2 : (k : Int) ≤ (c1 : Int) := by omega
      have f3 : k ≤ c1 := by omega
      have f4 : (0 : Int) ≤ (k : Int) + 1 := by omega
      have f5 : (k : Int) + 1 ≤ (n : Int) := by omega
      have f6 : k + 1 ≤ n := by omega
      have hL1 : (acs (L.take k)).length = k * 2 := by rw [acs_length, List.length_take, HCe.out.2.2.1]; omega
      have hL2 : (acs (L.drop (k + 1))).length = (n - (k + 1)) * 2 := by rw [acs_length, List.length_drop, HCe.out.2.2.1]
      have hg1 : ∀ j u, (acs (L.take k))[j]? = some u → (acs L)[j]? = some u := fun j u hj => by rw [HCe.out.1, List.getElem?_append_left (by exact (List.getElem?_eq_some_iff.1 hj).1)]; exact hj
      have hg2 : ∀ j u, (acs (L.drop (k + 1)))[j]? = some u → (acs L)[(k + 1) * 2 + j]? = some u := fun j u hj => by
        have e1 : (acs [a]).length = 2 := by rw [acs_length]; rfl
        rw [HCe.out.1, List.getElem?_append_right (by omega), List.getElem?_append_right (by omega), hL1, e1]
        rw [show (k + 1) * 2 + j - k * 2 - 2 = j by omega]; exact hj
      have hcl2 : ∃ of2, (if c1 = k + 1 then some (⟨b, off, none⟩ : Addr) else some ⟨b, off + (k + 1) * 2, none⟩) = some ⟨b, of2, none⟩ ∧ ∀ W, Below w2.heap.size w2 W → ∀ j u, (acs (L.drop (k + 1)))[j]? = some u → W.cell? ⟨b, of2 + j, none⟩ = some u := by
        by_cases q : c1 = k + 1
        · refine ⟨off, if_pos q, fun W hW j u hj => ?_⟩
          have := (List.getElem?_eq_some_iff.1 hj).1
          omega
        · refine ⟨off + (k + 1) * 2, if_neg q, fun W hW j u hj => ?_⟩
          rw [Nat.add_assoc]; exact hcl W hW _ u (hg2 j u hj)
      obtain ⟨of2, hof, hcl2⟩ := hcl2
      have HCl := Lib.hid (⟨fun W hW j u hj => hcl W hW j u (hg1 j u hj), hcl2, hL1, hL2⟩ : (∀ W, Below w2.heap.size w2 W → ∀ j u, (acs (L.take k))[j]? = some u → W.cell? ⟨b, off + j, none⟩ = some u) ∧ _ ∧ _ ∧ _)
      clear hcl2
      clear hcl hL1 hL2 hg1 hg2 hbl hc0 hcp hat
      have lo0 : Below w2.heap.size w2 w2.drew := (Below.refl _ w2).drew
      go_wp2_with fail
      refine Code.wp_mono OnlyN.imp (wp_region_held_drew (S := fun _ => True) (by kernel_rfl) trivial (fun hHeld => ?_))
      obtain ⟨W0, hW0⟩ : ∃ W0, w2.drew = W0 := ⟨_, rfl⟩
      have hz0 : w2.heap.size = W0.heap.size := by rw [← hW0]; rfl
      rw [hW0] at lo0 ⊢
      clear hW0
      (refine gheld_val (i := 1) rfl (by kernel_rfl) (by kernel_rfl) (by kernel_rfl) hHeld (by rfl) ?_; apply Exists.intro; refine ⟨fun wq hSw => ?_, ?_⟩; ((try dsimp only at hSw); go_simp; try rfl); try simp only [Act.put, List.setIfInBounds_toArray, List.set_cons_zero, List.set_cons_succ])
      (refine gheld_val (i := 2) rfl (by kernel_rfl) (by kernel_rfl) (by kernel_rfl) hHeld (by rfl) ?_; apply Exists.intro; refine ⟨fun wq hSw => ?_, ?_⟩; ((try dsimp only at hSw); go_simp; try rfl); try simp only [Act.put, List.setIfInBounds_toArray, List.set_cons_zero, List.set_cons_succ])
      (refine gheld_val (i := 3) rfl (by kernel_rfl) (by kernel_rfl) (by kernel_rfl) hHeld (by rfl) ?_; apply Exists.intro; refine ⟨fun wq hSw => ?_, ?_⟩; ((try dsimp only at hSw); go_simp; try rfl); try simp only [Act.put, List.setIfInBounds_toArray, List.set_cons_zero, List.set_cons_succ])
      (refine gheld_val (i := 5) rfl (by kernel_rfl) (by kernel_rfl) (by kernel_rfl) hHeld (by rfl) ?_; apply Exists.intro; refine ⟨fun wq hSw => ?_, ?_⟩; ((try dsimp only at hSw); go_simp; try rfl); try simp only [Act.put, List.setIfInBounds_toArray, List.set_cons_zero, List.set_cons_succ])
      (refine gheld_val (i := 6) rfl (by kernel_rfl) (by kernel_rfl) (by kernel_rfl) hHeld (by rfl) ?_; apply Exists.intro; refine ⟨fun wq hSw => ?_, ?_⟩; ((try dsimp only at hSw); go_simp; try rfl); try simp only [Act.put, List.setIfInBounds_toArray, List.set_cons_zero, List.set_cons_succ])
      (refine gheld_val (i := 7) rfl (by kernel_rfl) (by kernel_rfl) (by kernel_rfl) hHeld (by rfl) ?_; apply Exists.intro; refine ⟨fun wq hSw => ?_, ?_⟩; ((try dsimp only at hSw); go_simp; try rfl); try simp only [Act.put, List.setIfInBounds_toArray, List.set_cons_zero, List.set_cons_succ])
      (refine gheld_val (i := 8) rfl (by kernel_rfl) (by kernel_rfl) (by kernel_rfl) hHeld (by rfl) ?_; apply Exists.intro; refine ⟨fun wq hSw => ?_, ?_⟩; ((try dsimp only at hSw); go_simp; try rfl); try simp only [Act.put, List.setIfInBounds_toArray, List.set_cons_zero, List.set_cons_succ])
      refine wpAnyH_ready (rs := [0]) (by kernel_rfl) (by simp) ?_
      refine AllReadyH.cons (gof_drop rfl) (fun K hK => ?_) AllReadyH.nil
      go_simp
      obtain ⟨W1, hW1⟩ : ∃ V, W0.alloc (.cells #[] 44) = V := ⟨_, rfl⟩
      have own0 : W1.ownsRow w2.heap.size 44 2 (.slice (some ⟨W0.heap.size, 0, none⟩) 0 0) 0 [] := ⟨rfl, .inr ⟨W0.heap.size, 0, #[], rfl, by omega, hW1 ▸ World.alloc_heap_new W0 _, by omega, by decide, rfl, rfl⟩⟩
      have lo1 : Below w2.heap.size w2 W1 := lo0.trans ((hW1 ▸ one_below W0 _ : Below W0.heap.size W0 W1).mono (by omega))
      rw [hW1]
      clear hW1
      refine hK.out _ _ trivial (fun hHeld => ?_)
      clear hK K
      try simp only [Act.put, List.setIfInBounds_toArray, List.set_cons_zero, List.set_cons_succ]
      refine wpAnyH_ready (rs := [4]) (by kernel_rfl) (by simp) ?_
      refine AllReadyH.cons (gof_drop rfl) (fun K hK => ?_) AllReadyH.nil
      refine arcs_at (by rfl) (.tmp 38) (.tmp 41) (by rfl) w2.heap.size _ 0 [] (by rfl) own0 b off k c1 (acs (L.take k)) (by rfl) HCl.out.2.2.1 (HCl.out.1 W1 lo1) (acs_one _) (by omega) lo1.size ?_
      intro v1 W2 own1 gr1 _
      have lo2 := lo1.trans (grown_low gr1 own0 lo1.size)
      rw [Nat.zero_add, List.nil_append] at own1
      obtain ⟨A2, c2, rfl⟩ := own_sliceT own1
      refine hK.out _ _ trivial (fun hHeld => ?_)
      clear hK K gr1 own0
      try simp only [Act.put, List.setIfInBounds_toArray, List.set_cons_zero, List.set_cons_succ]
      refine wpAnyH_ready (rs := [9]) (by kernel_rfl) (by simp) ?_
      refine AllReadyH.cons (gof_drop rfl) (fun K hK => ?_) AllReadyH.nil
      refine arcs_at (by rfl) (.tmp 42) (.tmp 46) (by rfl) w2.heap.size _ k (acs (L.take k)) (by rfl) own1 b of2 (n - (k + 1)) (c1 - (k + 1)) (acs (L.drop (k + 1))) (by rfl) HCl.out.2.2.2 (HCl.out.2.1 W2 lo2) (acs_one _) (by omega) lo2.size ?_
      intro v2 W3 own2 gr2 _
      have lo3 := lo2.trans (grown_low gr2 own1 lo2.size)
      rw [← acs_append, ← HCe.out.2.1, show k + (n - (k + 1)) = m by omega] at own2
      obtain ⟨A3, c3, rfl⟩ := own_sliceT own2
      have hrd := own_rdvA own2
      refine hK.out _ _ trivial (fun hHeld => ?_)
      clear hK K gr2 own1 own2
      try simp only [Act.put, List.setIfInBounds_toArray, List.set_cons_zero, List.set_cons_succ]
      (refine gheld_val (i := 10) rfl (by kernel_rfl) (by kernel_rfl) (by kernel_rfl) hHeld (by rfl) ?_; apply Exists.intro; refine ⟨fun wq hSw => ?_, ?_⟩; ((try dsimp only at hSw); go_simp; try rfl); try simp only [Act.put, List.setIfInBounds_toArray, List.set_cons_zero, List.set_cons_succ])
      refine wpAnyH_done (by kernel_rfl) ⟨rfl, ?_⟩ _
      have HBl := Lib.hid lo3
      have HBq : Hid (Below w2.heap.size w2 W3) := HBl.out
      replace HB : Hid (Below w.heap.size w W3) := HB.out.trans (HBq.out.mono HB.out.size)
      replace HR : Hid (RdG W3 (W3).heap.size A R) := HR.out.on HBq.out
      replace K0 : Hid ((W3).cell? ⟨w.heap.size, 0, none⟩ = some (.slice A N c)) := (HBq.out.cell (World.block_lt_of_cell? _ _ K0.out)).trans K0.out
      replace H1 : Hid (RdV W3 (W3).heap.size (some ⟨b, off, none⟩) (acs L)) := H1.out.on HBq.out
      replace Q0 : Hid ((W3).cell? ⟨b, off + k * 2, none⟩ = some (.int .i64 ((a.1 : Nat) : Int))) := (HBq.out.cell (World.block_lt_of_cell? _ _ Q0.out)).trans Q0.out
      replace Q1 : Hid ((W3).cell? ⟨b, off + k * 2 + 1, none⟩ = some (.int .i64 ((a.2 : Nat) : Int))) := (HBq.out.cell (World.block_lt_of_cell? _ _ Q1.out)).trans Q1.out
      clear HBq
      have H2 : Hid (RdV W3 (W3).heap.size A3 (acs M)) := hrd
      clear hrd HBl lo0 lo1 lo2 lo3 hHeld HCl hof
      have HC := Lib.hid (HO.out A3 c3 _ H2.out)
      have k_K0 := K0.out
      go_wp2_with fail
      clear k_K0
      refine HC.out.mono ?_
      rintro e w4 ⟨A4, R4, c4, rfl, g4, h4, bq⟩
      clear HC
      have HBc := Lib.hid bq; clear bq
      have HBq : Hid (Below W3.heap.size W3 w4) := HBc.out
      replace HB : Hid (Below w.heap.size w w4) := HB.out.trans (HBq.out.mono HB.out.size)
      replace HR : Hid (RdG w4 (w4).heap.size A R) := HR.out.on HBq.out
      replace K0 : Hid ((w4).cell? ⟨w.heap.size, 0, none⟩ = some (.slice A N c)) := (HBq.out.cell (World.block_lt_of_cell? _ _ K0.out)).trans K0.out
      replace H1 : Hid (RdV w4 (w4).heap.size (some ⟨b, off, none⟩) (acs L)) := H1.out.on HBq.out
      replace Q0 : Hid ((w4).cell? ⟨b, off + k * 2, none⟩ = some (.int .i64 ((a.1 : Nat) : Int))) := (HBq.out.cell (World.block_lt_of_cell? _ _ Q0.out)).trans Q0.out
      replace Q1 : Hid ((w4).cell? ⟨b, off + k * 2 + 1, none⟩ = some (.int .i64 ((a.2 : Nat) : Int))) := (HBq.out.cell (World.block_lt_of_cell? _ _ Q1.out)).trans Q1.out
      replace H2 : Hid (RdV w4 (w4).heap.size A3 (acs M)) := H2.out.on HBq.out
      clear HBq
      clear HBc
      have G4 := Lib.hid g4; clear g4
      have H4 : Hid (RdG w4 (w4).heap.size A4 R4) := h4
      clear h4
      have HBq : Hid (Below w4.heap.size w4 (w4.alloc (.cells #[.slice A4 N c4] 24))) := one_below _ _
      replace HB : Hid (Below w.heap.size w (w4.alloc (.cells #[.slice A4 N c4] 24))) := HB.out.trans (HBq.out.mono HB.out.size)
      replace HR : Hid (RdG (w4.alloc (.cells #[.slice A4 N c4] 24)) ((w4.alloc (.cells #[.slice A4 N c4] 24))).heap.size A R) := HR.out.on HBq.out
      replace K0 : Hid (((w4.alloc (.cells #[.slice A4 N c4] 24))).cell? ⟨w.heap.size, 0, none⟩ = some (.slice A N c)) := (HBq.out.cell (World.block_lt_of_cell? _ _ K0.out)).trans K0.out
      replace H1 : Hid (RdV (w4.alloc (.cells #[.slice A4 N c4] 24)) ((w4.alloc (.cells #[.slice A4 N c4] 24))).heap.size (some ⟨b, off, none⟩) (acs L)) := H1.out.on HBq.out
      replace Q0 : Hid (((w4.alloc (.cells #[.slice A4 N c4] 24))).cell? ⟨b, off + k * 2, none⟩ = some (.int .i64 ((a.1 : Nat) : Int))) := (HBq.out.cell (World.block_lt_of_cell? _ _ Q0.out)).trans Q0.out
      replace Q1 : Hid (((w4.alloc (.cells #[.slice A4 N c4] 24))).cell? ⟨b, off + k * 2 + 1, none⟩ = some (.int .i64 ((a.2 : Nat) : Int))) := (HBq.out.cell (World.block_lt_of_cell? _ _ Q1.out)).trans Q1.out
      replace H2 : Hid (RdV (w4.alloc (.cells #[.slice A4 N c4] 24)) ((w4.alloc (.cells #[.slice A4 N c4] 24))).heap.size A3 (acs M)) := H2.out.on HBq.out
      replace H4 : Hid (RdG (w4.alloc (.cells #[.slice A4 N c4] 24)) ((w4.alloc (.cells #[.slice A4 N c4] 24))).heap.size A4 R4) := H4.out.on HBq.out
      clear HBq
      have K4 : Hid (((w4.alloc (.cells #[.slice A4 N c4] 24))).cell? ⟨w4.heap.size, 0, none⟩ = some (.slice A4 N c4)) := (cell_at (World.alloc_heap_new w4 _) 0).trans rfl
      have HC := Lib.hid (HT2.out R4 A4 c4 _ G4.out H4.out)
      have k_K4 := K4.out
      go_wp2_with fail
      clear k_K4
      refine HC.out.mono ?_
      rintro e w5 ⟨A5, c5, rfl, h5, bq⟩
      clear HC
      have HBc := Lib.hid bq; clear bq
      have HBq : Hid (Below (w4.alloc (.cells #[.slice A4 N c4] 24)).heap.size (w4.alloc (.cells #[.slice A4 N c4] 24)) w5) := HBc.out
      replace HB : Hid (Below w.heap.size w w5) := HB.out.trans (HBq.out.mono HB.out.size)
      replace HR : Hid (RdG w5 (w5).heap.size A R) := HR.out.on HBq.out
      replace K0 : Hid ((w5).cell? ⟨w.heap.size, 0, none⟩ = some (.slice A N c)) := (HBq.out.cell (World.block_lt_of_cell? _ _ K0.out)).trans K0.out
      replace H1 : Hid (RdV w5 (w5).heap.size (some ⟨b, off, none⟩) (acs L)) := H1.out.on HBq.out
      replace Q0 : Hid ((w5).cell? ⟨b, off + k * 2, none⟩ = some (.int .i64 ((a.1 : Nat) : Int))) := (HBq.out.cell (World.block_lt_of_cell? _ _ Q0.out)).trans Q0.out
      replace Q1 : Hid ((w5).cell? ⟨b, off + k * 2 + 1, none⟩ = some (.int .i64 ((a.2 : Nat) : Int))) := (HBq.out.cell (World.block_lt_of_cell? _ _ Q1.out)).trans Q1.out
      replace H2 : Hid (RdV w5 (w5).heap.size A3 (acs M)) := H2.out.on HBq.out
      replace H4 : Hid (RdG w5 (w5).heap.size A4 R4) := H4.out.on HBq.out
      replace K4 : Hid ((w5).cell? ⟨w4.heap.size, 0, none⟩ = some (.slice A4 N c4)) := (HBq.out.cell (World.block_lt_of_cell? _ _ K4.out)).trans K4.out
      clear HBq
      clear HBc
      have H5 : Hid (RdV w5 (w5).heap.size A5 (acs M)) := h5
      clear h5
      have k4 := K4.out; have q0 := Q0.out; have q1 := Q1.out
      have g1 : (0 : Int) ≤ (k : Int) := by omega
      have g2 : (k : Int) < (n : Int) := by omega
      have HDr : Hid (Below w5.heap.size w5 w5.drew) := (Below.refl _ w5).drew
      have hSt : ∀ V W : World, ((V.cell? ⟨w4.heap.size, 0, none⟩ = some (.slice A4 N c4) ∧ V.cell? ⟨b, off + k * 2, none⟩ = some (.int .i64 ((a.1 : Nat) : Int)) ∧ V.cell? ⟨b, off + k * 2 + 1, none⟩ = some (.int .i64 ((a.2 : Nat) : Int))) ∧ Hid (RdV V V.heap.size A3 (acs M) ∧ RdV V V.heap.size A5 (acs M) ∧ RdG V V.heap.size A4 R4 ∧ Below w.heap.size w V)) → Below V.heap.size V W → ((W.cell? ⟨w4.heap.size, 0, none⟩ = some (.slice A4 N c4) ∧ W.cell? ⟨b, off + k * 2, none⟩ = some (.int .i64 ((a.1 : Nat) : Int)) ∧ W.cell? ⟨b, off + k * 2 + 1, none⟩ = some (.int .i64 ((a.2 : Nat) : Int))) ∧ Hid (RdV W W.heap.size A3 (acs M) ∧ RdV W W.heap.size A5 (acs M) ∧ RdG W W.heap.size A4 R4 ∧ Below w.heap.size w W)) := fun V W h hb => ⟨⟨(hb.cell (World.block_lt_of_cell? _ _ h.1.1)).trans h.1.1, (hb.cell (World.block_lt_of_cell? _ _ h.1.2.1)).trans h.1.2.1, (hb.cell (World.block_lt_of_cell? _ _ h.1.2.2)).trans h.1.2.2⟩, h.2.out.1.on hb, h.2.out.2.1.on hb, h.2.out.2.2.1.on hb, h.2.out.2.2.2.trans (hb.mono h.2.out.2.2.2.size)⟩
      have hS0 : ∀ V : World, V = w5.drew → ((V.cell? ⟨w4.heap.size, 0, none⟩ = some (.slice A4 N c4) ∧ V.cell? ⟨b, off + k * 2, none⟩ = some (.int .i64 ((a.1 : Nat) : Int)) ∧ V.cell? ⟨b, off + k * 2 + 1, none⟩ = some (.int .i64 ((a.2 : Nat) : Int))) ∧ Hid (RdV V V.heap.size A3 (acs M) ∧ RdV V V.heap.size A5 (acs M) ∧ RdG V V.heap.size A4 R4 ∧ Below w.heap.size w V)) := fun V e => by subst e; exact ⟨⟨k4, q0, q1⟩, H2.out.on HDr.out, H5.out.on HDr.out, H4.out.on HDr.out, HB.out.trans (HDr.out.mono HB.out.size)⟩
      have HC1 : Hid (∀ V : World, ((V.cell? ⟨w4.heap.size, 0, none⟩ = some (.slice A4 N c4) ∧ V.cell? ⟨b, off + k * 2, none⟩ = some (.int .i64 ((a.1 : Nat) : Int)) ∧ V.cell? ⟨b, off + k * 2 + 1, none⟩ = some (.int .i64 ((a.2 : Nat) : Int))) ∧ Hid (RdV V V.heap.size A3 (acs M) ∧ RdV V V.heap.size A5 (acs M) ∧ RdG V V.heap.size A4 R4 ∧ Below w.heap.size w V)) → Calls Try.prog 21 #[.slice A5 m c5, .slice A3 m c3] V fun e W => e = .returned (.bool true) ∧ ((W.cell? ⟨w4.heap.size, 0, none⟩ = some (.slice A4 N c4) ∧ W.cell? ⟨b, off + k * 2, none⟩ = some (.int .i64 ((a.1 : Nat) : Int)) ∧ W.cell? ⟨b, off + k * 2 + 1, none⟩ = some (.int .i64 ((a.2 : Nat) : Int))) ∧ Hid (RdV W W.heap.size A3 (acs M) ∧ RdV W W.heap.size A5 (acs M) ∧ RdG W W.heap.size A4 R4 ∧ Below w.heap.size w W))) := fun V hS => (HSA.out A5 A3 c5 c3 V hS.2.out.2.1 hS.2.out.1).mono fun e w' r => ⟨r.1, hSt V w' hS r.2⟩
      have HC2 : Hid (∀ V : World, ((V.cell? ⟨w4.heap.size, 0, none⟩ = some (.slice A4 N c4) ∧ V.cell? ⟨b, off + k * 2, none⟩ = some (.int .i64 ((a.1 : Nat) : Int)) ∧ V.cell? ⟨b, off + k * 2 + 1, none⟩ = some (.int .i64 ((a.2 : Nat) : Int))) ∧ Hid (RdV V V.heap.size A3 (acs M) ∧ RdV V V.heap.size A5 (acs M) ∧ RdG V V.heap.size A4 R4 ∧ Below w.heap.size w V)) → Calls Try.prog 24 #[.agg #[.slice A4 N c4], .int .i64 ((a.1 : Nat) : Int), .int .i64 ((a.2 : Nat) : Int)] V fun e W => e = .returned (.bool false) ∧ ((W.cell? ⟨w4.heap.size, 0, none⟩ = some (.slice A4 N c4) ∧ W.cell? ⟨b, off + k * 2, none⟩ = some (.int .i64 ((a.1 : Nat) : Int)) ∧ W.cell? ⟨b, off + k * 2 + 1, none⟩ = some (.int .i64 ((a.2 : Nat) : Int))) ∧ Hid (RdV W W.heap.size A3 (acs M) ∧ RdV W W.heap.size A5 (acs M) ∧ RdG W W.heap.size A4 R4 ∧ Below w.heap.size w W))) := fun V hS => (HLd.out R4 A4 c4 V G4.out hS.2.out.2.2.1).mono fun e w' r => ⟨r.1, hSt V w' hS r.2⟩
      have HS0 := Lib.hid hS0
      have HG := Lib.hid (fun (W : World) (h : (W.cell? ⟨w4.heap.size, 0, none⟩ = some (.slice A4 N c4) ∧ W.cell? ⟨b, off + k * 2, none⟩ = some (.int .i64 ((a.1 : Nat) : Int)) ∧ W.cell? ⟨b, off + k * 2 + 1, none⟩ = some (.int .i64 ((a.2 : Nat) : Int))) ∧ Hid (RdV W W.heap.size A3 (acs M) ∧ RdV W W.heap.size A5 (acs M) ∧ RdG W W.heap.size A4 R4 ∧ Below w.heap.size w W)) => h.2.out.2.2.2)
      clear hSt hS0 HSA HLd HT HT2 HO
      go_wp2_with fail
      refine Code.wp_mono OnlyN.imp (wp_region_held_drew (S := fun V => (V.cell? ⟨w4.heap.size, 0, none⟩ = some (.slice A4 N c4) ∧ V.cell? ⟨b, off + k * 2, none⟩ = some (.int .i64 ((a.1 : Nat) : Int)) ∧ V.cell? ⟨b, off + k * 2 + 1, none⟩ = some (.int .i64 ((a.2 : Nat) : Int))) ∧ Hid (RdV V V.heap.size A3 (acs M) ∧ RdV V V.heap.size A5 (acs M) ∧ RdG V V.heap.size A4 R4 ∧ Below w.heap.size w V)) (by kernel_rfl) (HS0.out _ rfl) (fun hHeld => ?_))
      (refine gheld_val (i := 0) rfl (by kernel_rfl) (by kernel_rfl) (by kernel_rfl) hHeld (by rfl) ?_; apply Exists.intro; refine ⟨fun wq hSw => ?_, ?_⟩; ((try dsimp only at hSw); obtain ⟨⟨c1, c2, c3⟩, c4⟩ := hSw; go_simp; try rfl); try simp only [Act.put, List.setIfInBounds_toArray, List.set_cons_zero, List.set_cons_succ])
      (refine gheld_val (i := 1) rfl (by kernel_rfl) (by kernel_rfl) (by kernel_rfl) hHeld (by rfl) ?_; apply Exists.intro; refine ⟨fun wq hSw => ?_, ?_⟩; ((try dsimp only at hSw); obtain ⟨⟨c1, c2, c3⟩, c4⟩ := hSw; go_simp; try rfl); try simp only [Act.put, List.setIfInBounds_toArray, List.set_cons_zero, List.set_cons_succ])
      (refine gheld_val (i := 2) rfl (by kernel_rfl) (by kernel_rfl) (by kernel_rfl) hHeld (by rfl) ?_; apply Exists.intro; refine ⟨fun wq hSw => ?_, ?_⟩; ((try dsimp only at hSw); obtain ⟨⟨c1, c2, c3⟩, c4⟩ := hSw; go_simp; try rfl); try simp only [Act.put, List.setIfInBounds_toArray, List.set_cons_zero, List.set_cons_succ])
      (refine gheld_val (i := 3) rfl (by kernel_rfl) (by kernel_rfl) (by kernel_rfl) hHeld (by rfl) ?_; apply Exists.intro; refine ⟨fun wq hSw => ?_, ?_⟩; ((try dsimp only at hSw); obtain ⟨⟨c1, c2, c3⟩, c4⟩ := hSw; go_simp; try rfl); try simp only [Act.put, List.setIfInBounds_toArray, List.set_cons_zero, List.set_cons_succ])
      (refine gheld_val (i := 4) rfl (by kernel_rfl) (by kernel_rfl) (by kernel_rfl) hHeld (by rfl) ?_; apply Exists.intro; refine ⟨fun wq hSw => ?_, ?_⟩; ((try dsimp only at hSw); obtain ⟨⟨c1, c2, c3⟩, c4⟩ := hSw; go_simp; try rfl); try simp only [Act.put, List.setIfInBounds_toArray, List.set_cons_zero, List.set_cons_succ])
      (refine gheld_val (i := 5) rfl (by kernel_rfl) (by kernel_rfl) (by kernel_rfl) hHeld (by rfl) ?_; apply Exists.intro; refine ⟨fun wq hSw => ?_, ?_⟩; ((try dsimp only at hSw); obtain ⟨⟨c1, c2, c3⟩, c4⟩ := hSw; go_simp; try rfl); try simp only [Act.put, List.setIfInBounds_toArray, List.set_cons_zero, List.set_cons_succ])
      (refine gheld_val (i := 6) rfl (by kernel_rfl) (by kernel_rfl) (by kernel_rfl) hHeld (by rfl) ?_; apply Exists.intro; refine ⟨fun wq hSw => ?_, ?_⟩; ((try dsimp only at hSw); obtain ⟨⟨c1, c2, c3⟩, c4⟩ := hSw; go_simp; try rfl); try simp only [Act.put, List.setIfInBounds_toArray, List.set_cons_zero, List.set_cons_succ])
      (refine gheld_val (i := 7) rfl (by kernel_rfl) (by kernel_rfl) (by kernel_rfl) hHeld (by rfl) ?_; apply Exists.intro; refine ⟨fun wq hSw => ?_, ?_⟩; ((try dsimp only at hSw); obtain ⟨⟨c1, c2, c3⟩, c4⟩ := hSw; go_simp; try rfl); try simp only [Act.put, List.setIfInBounds_toArray, List.set_cons_zero, List.set_cons_succ])
      (refine gheld_val (i := 8) rfl (by kernel_rfl) (by kernel_rfl) (by kernel_rfl) hHeld (by rfl) ?_; apply Exists.intro; refine ⟨fun wq hSw => ?_, ?_⟩; ((try dsimp only at hSw); obtain ⟨⟨c1, c2, c3⟩, c4⟩ := hSw; go_simp; try rfl); try simp only [Act.put, List.setIfInBounds_toArray, List.set_cons_zero, List.set_cons_succ])
      refine wpAnyH_ready (rs := [9]) (by kernel_rfl) (by simp) ?_
      refine AllReadyH.cons (gof_drop rfl) (fun K hK => ?_) AllReadyH.nil
      go_simp
      refine (HC1.out _ hHeld).mono ?_
      rintro e wq9 ⟨rfl, hSq⟩
      refine hK.out _ _ (hSq) (fun hHeld => ?_)
      clear hK K
      try simp only [Act.put, List.setIfInBounds_toArray, List.set_cons_zero, List.set_cons_succ]
      (refine gheld_val (i := 10) rfl (by kernel_rfl) (by kernel_rfl) (by kernel_rfl) hHeld (by rfl) ?_; apply Exists.intro; refine ⟨fun wq hSw => ?_, ?_⟩; ((try dsimp only at hSw); obtain ⟨⟨c1, c2, c3⟩, c4⟩ := hSw; go_simp; try rfl); try simp only [Act.put, List.setIfInBounds_toArray, List.set_cons_zero, List.set_cons_succ])
      (refine gheld_val (i := 11) rfl (by kernel_rfl) (by kernel_rfl) (by kernel_rfl) hHeld (by rfl) ?_; apply Exists.intro; refine ⟨fun wq hSw => ?_, ?_⟩; ((try dsimp only at hSw); obtain ⟨⟨c1, c2, c3⟩, c4⟩ := hSw; go_simp; try rfl); try simp only [Act.put, List.setIfInBounds_toArray, List.set_cons_zero, List.set_cons_succ])
      (refine gheld_val (i := 12) rfl (by kernel_rfl) (by kernel_rfl) (by kernel_rfl) hHeld (by rfl) ?_; apply Exists.intro; refine ⟨fun wq hSw => ?_, ?_⟩; ((try dsimp only at hSw); obtain ⟨⟨c1, c2, c3⟩, c4⟩ := hSw; go_simp; try rfl); try simp only [Act.put, List.setIfInBounds_toArray, List.set_cons_zero, List.set_cons_succ])
      (refine gheld_val (i := 13) rfl (by kernel_rfl) (by kernel_rfl) (by kernel_rfl) hHeld (by rfl) ?_; apply Exists.intro; refine ⟨fun wq hSw => ?_, ?_⟩; ((try dsimp only at hSw); obtain ⟨⟨c1, c2, c3⟩, c4⟩ := hSw; go_simp; try rfl); try simp only [Act.put, List.setIfInBounds_toArray, List.set_cons_zero, List.set_cons_succ])
      (refine gheld_val (i := 14) rfl (by kernel_rfl) (by kernel_rfl) (by kernel_rfl) hHeld (by rfl) ?_; apply Exists.intro; refine ⟨fun wq hSw => ?_, ?_⟩; ((try dsimp only at hSw); obtain ⟨⟨c1, c2, c3⟩, c4⟩ := hSw; go_simp; try rfl); try simp only [Act.put, List.setIfInBounds_toArray, List.set_cons_zero, List.set_cons_succ])
      (refine gheld_val (i := 15) rfl (by kernel_rfl) (by kernel_rfl) (by kernel_rfl) hHeld (by rfl) ?_; apply Exists.intro; refine ⟨fun wq hSw => ?_, ?_⟩; ((try dsimp only at hSw); obtain ⟨⟨c1, c2, c3⟩, c4⟩ := hSw; go_simp; try rfl); try simp only [Act.put, List.setIfInBounds_toArray, List.set_cons_zero, List.set_cons_succ])
      (refine gheld_val (i := 16) rfl (by kernel_rfl) (by kernel_rfl) (by kernel_rfl) hHeld (by rfl) ?_; apply Exists.intro; refine ⟨fun wq hSw => ?_, ?_⟩; ((try dsimp only at hSw); obtain ⟨⟨c1, c2, c3⟩, c4⟩ := hSw; go_simp; try rfl); try simp only [Act.put, List.setIfInBounds_toArray, List.set_cons_zero, List.set_cons_succ])
      (refine gheld_val (i := 17) rfl (by kernel_rfl) (by kernel_rfl) (by kernel_rfl) hHeld (by rfl) ?_; apply Exists.intro; refine ⟨fun wq hSw => ?_, ?_⟩; ((try dsimp only at hSw); obtain ⟨⟨c1, c2, c3⟩, c4⟩ := hSw; go_simp; try rfl); try simp only [Act.put, List.setIfInBounds_toArray, List.set_cons_zero, List.set_cons_succ])
      (refine gheld_val (i := 18) rfl (by kernel_rfl) (by kernel_rfl) (by kernel_rfl) hHeld (by rfl) ?_; apply Exists.intro; refine ⟨fun wq hSw => ?_, ?_⟩; ((try dsimp only at hSw); obtain ⟨⟨c1, c2, c3⟩, c4⟩ := hSw; go_simp; try rfl); try simp only [Act.put, List.setIfInBounds_toArray, List.set_cons_zero, List.set_cons_succ])
      (refine gheld_val (i := 19) rfl (by kernel_rfl) (by kernel_rfl) (by kernel_rfl) hHeld (by rfl) ?_; apply Exists.intro; refine ⟨fun wq hSw => ?_, ?_⟩; ((try dsimp only at hSw); obtain ⟨⟨c1, c2, c3⟩, c4⟩ := hSw; go_simp; try rfl); try simp only [Act.put, List.setIfInBounds_toArray, List.set_cons_zero, List.set_cons_succ])
      (refine gheld_val (i := 20) rfl (by kernel_rfl) (by kernel_rfl) (by kernel_rfl) hHeld (by rfl) ?_; apply Exists.intro; refine ⟨fun wq hSw => ?_, ?_⟩; ((try dsimp only at hSw); obtain ⟨⟨c1, c2, c3⟩, c4⟩ := hSw; go_simp; try rfl); try simp only [Act.put, List.setIfInBounds_toArray, List.set_cons_zero, List.set_cons_succ])
      (refine gheld_val (i := 21) rfl (by kernel_rfl) (by kernel_rfl) (by kernel_rfl) hHeld (by rfl) ?_; apply Exists.intro; refine ⟨fun wq hSw => ?_, ?_⟩; ((try dsimp only at hSw); obtain ⟨⟨c1, c2, c3⟩, c4⟩ := hSw; go_simp; try rfl); try simp only [Act.put, List.setIfInBounds_toArray, List.set_cons_zero, List.set_cons_succ])
      (refine gheld_val (i := 22) rfl (by kernel_rfl) (by kernel_rfl) (by kernel_rfl) hHeld (by rfl) ?_; apply Exists.intro; refine ⟨fun wq hSw => ?_, ?_⟩; ((try dsimp only at hSw); obtain ⟨⟨c1, c2, c3⟩, c4⟩ := hSw; go_simp; try rfl); try simp only [Act.put, List.setIfInBounds_toArray, List.set_cons_zero, List.set_cons_succ])
      refine wpAnyH_ready (rs := [23]) (by kernel_rfl) (by simp) ?_
      refine AllReadyH.cons (gof_drop rfl) (fun K hK => ?_) AllReadyH.nil
      go_simp
      refine (HC2.out _ hHeld).mono ?_
      rintro e wq23 ⟨rfl, hSq⟩
      refine hK.out _ _ (hSq) (fun hHeld => ?_)
      clear hK K
      try simp only [Act.put, List.setIfInBounds_toArray, List.set_cons_zero, List.set_cons_succ]
      (refine gheld_val (i := 24) rfl (by kernel_rfl) (by kernel_rfl) (by kernel_rfl) hHeld (by rfl) ?_; apply Exists.intro; refine ⟨fun wq hSw => ?_, ?_⟩; ((try dsimp only at hSw); obtain ⟨⟨c1, c2, c3⟩, c4⟩ := hSw; go_simp; try rfl); try simp only [Act.put, List.setIfInBounds_toArray, List.set_cons_zero, List.set_cons_succ])
      (refine gheld_val (i := 25) rfl (by kernel_rfl) (by kernel_rfl) (by kernel_rfl) hHeld (by rfl) ?_; apply Exists.intro; refine ⟨fun wq hSw => ?_, ?_⟩; ((try dsimp only at hSw); obtain ⟨⟨c1, c2, c3⟩, c4⟩ := hSw; go_simp; try rfl); try simp only [Act.put, List.setIfInBounds_toArray, List.set_cons_zero, List.set_cons_succ])
      (refine gheld_val (i := 26) rfl (by kernel_rfl) (by kernel_rfl) (by kernel_rfl) hHeld (by rfl) ?_; apply Exists.intro; refine ⟨fun wq hSw => ?_, ?_⟩; ((try dsimp only at hSw); obtain ⟨⟨c1, c2, c3⟩, c4⟩ := hSw; go_simp; try rfl); try simp only [Act.put, List.setIfInBounds_toArray, List.set_cons_zero, List.set_cons_succ])
      refine wpAnyH_done (by kernel_rfl) ⟨rfl, ?_⟩ _
      have HGo := Lib.hid (HG.out _ hHeld)
      go_wp2
      go_ret
      exact ⟨rfl, HGo.out⟩
    · obtain ⟨n, hn2⟩ : ∃ n, (arcs 0 g).length = n := ⟨_, rfl⟩
      unfold ArcsP at HT
      rw [hn2] at HT hkk
      clear e0 hN hn hg hok hgl h600 hn2 hN1
      have HB : Hid (Below w.heap.size w w) := Below.refl _ w
      have HR := Lib.hid hA; clear hA
      go_enter Try.func8, Try.ntmps8
      have HBq : Hid (Below w.heap.size w (w.alloc (.cells #[.slice A N c] 24))) := one_below _ _
      replace HB : Hid (Below w.heap.size w (w.alloc (.cells #[.slice A N c] 24))) := HB.out.trans (HBq.out.mono HB.out.size)
      replace HR : Hid (RdG (w.alloc (.cells #[.slice A N c] 24)) ((w.alloc (.cells #[.slice A N c] 24))).heap.size A R) := HR.out.on HBq.out
      clear HBq
      have K0 : Hid (((w.alloc (.cells #[.slice A N c] 24))).cell? ⟨w.heap.size, 0, none⟩ = some (.slice A N c)) := (cell_at (World.alloc_heap_new w _) 0).trans rfl
      have HC := Lib.hid (HT.out A c _ HR.out)
      go_wp2_with fail
      refine HC.out.mono ?_
      rintro e w1 ⟨A1, c1, rfl, -, -, bq⟩
      clear HC
      have HBc := Lib.hid bq; clear bq
      have HBq : Hid (Below (w.alloc (.cells #[.slice A N c] 24)).heap.size (w.alloc (.cells #[.slice A N c] 24)) w1) := HBc.out
      replace HB : Hid (Below w.heap.size w w1) := HB.out.trans (HBq.out.mono HB.out.size)
      replace HR : Hid (RdG w1 (w1).heap.size A R) := HR.out.on HBq.out
      replace K0 : Hid ((w1).cell? ⟨w.heap.size, 0, none⟩ = some (.slice A N c)) := (HBq.out.cell (World.block_lt_of_cell? _ _ K0.out)).trans K0.out
      clear HBq
      clear HBc
      have HC := Lib.hid (graphbegun_true w1)
      go_wp2_with fail
      refine HC.out.mono ?_
      rintro e w2 ⟨rfl, bq⟩
      clear HC
      have HBc := Lib.hid bq; clear bq
      have HBq : Hid (Below w1.heap.size w1 w2) := HBc.out
      replace HB : Hid (Below w.heap.size w w2) := HB.out.trans (HBq.out.mono HB.out.size)
      replace HR : Hid (RdG w2 (w2).heap.size A R) := HR.out.on HBq.out
      replace K0 : Hid ((w2).cell? ⟨w.heap.size, 0, none⟩ = some (.slice A N c)) := (HBq.out.cell (World.block_lt_of_cell? _ _ K0.out)).trans K0.out
      clear HBq
      clear HBc
      by_cases z1 : k < 0
      · have d1 : decide (k < 0) = true := by simpa using z1
        go_wp2; go_ret; exact ⟨rfl, HB.out⟩
      · have d1 : decide (k < 0) = false := by simpa using z1
        have d2 : decide ((n : Int) ≤ k) = true := by simp; omega
        go_wp2; go_ret; exact ⟨rfl, HB.out⟩
  · have HT : Hid (∀ A c V, RdG V V.heap.size A R → ∃ e1 : Int, (e1 == 0) = false ∧ Calls Try.prog 9 #[.agg #[.slice A N c]] V fun e w' => ∃ A c, e = .returned (.tuple #[.slice A 0 c, .int .i64 e1]) ∧ Below V.heap.size V w') := fun A c V h => ⟨grE (gs R), by simpa using e0, (garcs_e R N hN hn _ rfl e0 A c V h).mono fun e w' ⟨A, c, h1, _, _, h4⟩ => ⟨A, c, h1, h4⟩⟩
    clear e0 hN hn
    have HB : Hid (Below w.heap.size w w) := Below.refl _ w
    have HR := Lib.hid hA; clear hA
    go_enter Try.func8, Try.ntmps8
    have HBq : Hid (Below w.heap.size w (w.alloc (.cells #[.slice A N c] 24))) := one_below _ _
    replace HB : Hid (Below w.heap.size w (w.alloc (.cells #[.slice A N c] 24))) := HB.out.trans (HBq.out.mono HB.out.size)
    replace HR : Hid (RdG (w.alloc (.cells #[.slice A N c] 24)) ((w.alloc (.cells #[.slice A N c] 24))).heap.size A R) := HR.out.on HBq.out
    clear HBq
    have K0 : Hid (((w.alloc (.cells #[.slice A N c] 24))).cell? ⟨w.heap.size, 0, none⟩ = some (.slice A N c)) := (cell_at (World.alloc_heap_new w _) 0).trans rfl
    obtain ⟨e1, t1, hc1⟩ := HT.out A c _ HR.out
    have HC1 := Lib.hid hc1; clear hc1
    have HC := Lib.hid (HC1.out)
    go_wp2_with fail
    refine HC.out.mono ?_
    rintro e w1 ⟨A1, c1, rfl, bq⟩
    clear HC
    have HBc := Lib.hid bq; clear bq
    have HBq : Hid (Below (w.alloc (.cells #[.slice A N c] 24)).heap.size (w.alloc (.cells #[.slice A N c] 24)) w1) := HBc.out
    replace HB : Hid (Below w.heap.size w w1) := HB.out.trans (HBq.out.mono HB.out.size)
    replace HR : Hid (RdG w1 (w1).heap.size A R) := HR.out.on HBq.out
    replace K0 : Hid ((w1).cell? ⟨w.heap.size, 0, none⟩ = some (.slice A N c)) := (HBq.out.cell (World.block_lt_of_cell? _ _ K0.out)).trans K0.out
    clear HBq
    clear HBc
    have HC := Lib.hid (graphbegun_true w1)
    go_wp2_with fail
    refine HC.out.mono ?_
    rintro e w2 ⟨rfl, bq⟩
    clear HC
    have HBc := Lib.hid bq; clear bq
    have HBq : Hid (Below w1.heap.size w1 w2) := HBc.out
    replace HB : Hid (Below w.heap.size w w2) := HB.out.trans (HBq.out.mono HB.out.size)
    replace HR : Hid (RdG w2 (w2).heap.size A R) := HR.out.on HBq.out
    replace K0 : Hid ((w2).cell? ⟨w.heap.size, 0, none⟩ = some (.slice A N c)) := (HBq.out.cell (World.block_lt_of_cell? _ _ K0.out)).trans K0.out
    clear HBq
    clear HBc
    have t2 : (e1 != 0) = true := by simp [bne, t1]
    go_wp2
    go_ret
    exact ⟨rfl, HB.out⟩
end

section
open Go.ChangeShapes Go.WideShapes Go.ChangeAt Go.RowKit
open Go.ChangeMaps (open_string shut_string)

set_option linter.unusedVariables false
set_option maxRecDepth 100000 in
theorem graphLess_lifted (os : Os) (started : os.Started) (H : Type) (enc : TypeId × Value → H) :
    ReturnsInHanded {} Try.checked os 8 .any (Rows.graphLessSpec.pre6 enc Try.prog Try.f8 Rows.graphLessRow.domain false) (Rows.graphLessSpec.post enc Try.prog Try.f8 false true false false) := by
  refine returnsInHanded_of_change_sized (C := Try.checked) own started (by kernel_rfl) Try.func8
    (ChangeSpec.witness6 (enc := enc) (C := Try.checked) false ⟨#[], #[.agg #[.slice none 0 0], .int .i64 0], []⟩ 8 (by kernel_rfl) (by kernel_rfl) (by kernel_rfl) (by kernel_rfl)) ?_
  intro W base args ds gs before hval0 hW hcnd hzz _
  have hval : ∀ (j : Nat) t v, Try.f8.params[j]? = some t → args[j]? = some v → Value.okWide Try.prog W .any base t v := hval0
  have hW' := hW
  obtain ⟨p, q, hA0, hV, rfl, hfz, hnd⟩ := hW
  have hA : DataW.TrodAll enc Try.prog W 0 (fun _ => true) true Try.f8.params.toList args.toList ds p := hA0
  rw [Try.params8] at hA hval hzz
  obtain ⟨v0, vs0, d0, ds0, p0, q0, hargs, rfl, rfl, h0, r0⟩ := trodAll_cons hA
  obtain ⟨v1, vs1, d1, ds1, p1, q1, rfl, rfl, rfl, h1, r1⟩ := trodAll_cons r0
  obtain ⟨rfl, rfl, rfl⟩ := trodAll_nil r1
  obtain rfl : args = #[v0, v1] := by cases args; simp_all
  obtain ⟨rfl, rfl⟩ := trodVars_none hV
  have k0 := h0
  have lt0 : ∀ x ∈ p0, x.block < W.heap.size := by obtain ⟨m, hm⟩ := k0; exact DataW.trod_lt m _ _ _ hm
  obtain ⟨A0, c0, R0, rfl, rd0, nn0⟩ := open_graph (hval 0 24 v0 rfl rfl) h0 (fun n hn => of_decide_eq_true (List.all_eq_true.1 hzz n (DataW.weights_mem_each (j := 0) (t := 24) (d := d0) rfl rfl n hn)))
  obtain ⟨x1, rfl, rfl, rfl, wx1⟩ := open_int Try.underlying3 (hval 1 3 v1 rfl rfl) h1
  have bd1 := bounds_i64 wx1
  clear hA0 hval0
  refine (graphLess_law A0 c0 R0 x1 W rd0 nn0 bd1).mono fun e W' ⟨he, bel⟩ => ?_
  subst he
  exact ⟨_, rfl, _, _, _, [], _, [], hW', trodAll_mk1 (shut_bool Try.underlying4 _), (trodAll_cons_mk (Below.trod laidOut (by kernel_rfl) (of_decide_eq_true (by kernel_rfl)) k0 bel lt0) (trodAll_cons_mk (shut_int Try.underlying3 wx1) trodAll_mk0)), rfl, bel.frame _, fun h => by cases h⟩

theorem GraphLess_holds : Rows.GraphLessSaid :=
  OpenClaim.holds_of_wide 8 Try.f8 rfl rfl rfl rfl rfl rfl rfl ⟨rfl, rfl, rfl, rfl, rfl⟩ rfl rfl rfl rfl rfl (by kernel_rfl) Try.func8 (by kernel_rfl)
    (of_decide_eq_true (by kernel_rfl)) (by unfold Func.isWrapper; first | (rw [if_pos (by decide +kernel)]; kernel_rfl) | (rw [if_neg (by decide +kernel)]; exact ⟨rfl, rfl⟩))
    (fun os started H enc _ => graphLess_lifted os started H enc)
#print axioms GraphLess_holds
end
end Go.Proofs.Ytfeegpggfmfhjaa
