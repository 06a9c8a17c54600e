/- What is read of parts: fano's decode; no condition but those that each fact names. -/
import Derived.Test.YtkbelhclcpepaaaJYYRnd
namespace Go.Proofs.Ytkbelhclcpepaaa
set_option maxRecDepth 100000
set_option linter.unusedVariables false
open Go.RowKit Go.Shelf

attribute [local go_sem] Oper.semAt_some

/-- One number, as the program puts it together. -/
def elI (ll : Int) (bs : List Nat) (k i x : Nat) : Int := bits .or .i64 (wrap64 ((((clamp 0 x : Nat) : Int) - (i : Int)) * 2 ^ k)) (IntKind.i64.wrap ((getN ll bs ((i : Int) * (k : Int)) (k : Int) : Nat) : Int))
def elL (ll : Int) (bs : List Nat) (k : Nat) (pre : List Nat) : List Int := pre.mapIdx (elI ll bs k)
theorem elL_snoc (ll : Int) (bs : List Nat) (k : Nat) (pre : List Nat) (x : Nat) : elL ll bs k (pre ++ [x]) = elL ll bs k pre ++ [elI ll bs k pre.length x] := by
  unfold elL; rw [List.mapIdx_append]; simp
theorem elL_len (ll : Int) (bs : List Nat) (k : Nat) (pre : List Nat) : (elL ll bs k pre).length = pre.length := by unfold elL; rw [List.length_mapIdx]
theorem own_slice3' {w : World} {base : Nat} {v : Value} {n : Nat} {xs : List Value} (h : w.ownsRow base 3 1 v n xs) : ∃ A c, v = .slice A n c := own_slice3 h
/-- The list so far, in its box. -/
def DRow (X : World) (N : Nat) (ll : Int) (bs : List Nat) (k : Nat) (pre : List Nat) : Prop :=
  ∃ v, Boxed X N 38 v ∧ X.ownsRow (N + 5) 3 1 v pre.length (zc (elL ll bs k pre))
theorem dRow_own (N : Nat) (ll : Int) (bs : List Nat) (k : Nat) : Own (fun (pre : List Nat) X => DRow X N ll bs k pre) := by
  rintro pre X Y row ⟨v, hb, ho⟩ hg hr
  refine ⟨v, box_own N 38 (fun _ : Unit => v) () X Y row hb hg hr, ho.kept hg ?_⟩
  rcases ho.2 with ⟨rfl, _⟩ | ⟨g, cap, cur, rfl, _, hgb, _⟩
  · exact .inl rfl
  · refine .inr fun e' => ?_
    obtain ⟨o, h1, h2⟩ := hr g (by simpa [Value.ownBlock] using e'.symm)
    rw [hgb] at h1; cases h1; cases h2
/-- The blocks that the visit keeps which begins in block N (where the list is). -/
def dkept (N : Nat) (k : Nat) : Prop := k < N ∨ k = N + 1 ∨ k = N + 2 ∨ k = N + 4
/-- An append to a row of the call's own, at a step of a region that draws its order, inside a fence. -/
theorem app3i {F : Fence} {fu : Nat} {w : World} {ops : Array Oper} {o : Oper} {a : Act} {K : Act → World → Prop} {Q : Exit → Act → World → Prop} {E : Prop} (hgd : o.guard = none) (s x : Operand)
    (ho : o.op = .call { callee := .builtin .append, args := #[s, x], argTypes := #[38, 38] }) (base : Nat)
    (v : Value) (n : Nat) (xs : List Value) (hs : a.eval s = v) (hown : w.ownsRow base 3 1 v n xs)
    (ad : Addr) (m c : Nat) (news : List Value) (hx : a.eval x = .slice (some ad) m c) (hlen : news.length = m * 1) (hc : ∀ j u, news[j]? = some u → w.cell? (ad.add j) = some u) (h1 : ∀ u ∈ news, u.oneCell' = true)
    (hb : (n + m) * 8 ≤ 140737488355328) (hbase : base ≤ w.heap.size)
    (h : ∀ v' w', w'.ownsRow base 3 1 v' (n + m) (xs ++ news) → w.grownBy w' v.ownBlock → K (a.put o.dst v') w') : if Region.wanted o (yielded ops a.tmps) = true then Oper.wpIn F fu Try.prog o a w K Q else E := by
  have hw : Region.wanted o (yielded ops a.tmps) = true := by simp [Region.wanted, hgd]
  rw [if_pos hw]
  obtain ⟨i0, hi, hz0, hz1, hz2⟩ := info_parts info3
  obtain ⟨v', w', hrun, h2, h3, _⟩ := run_append_own (P := Try.prog) w base 38 o.type 3 i0 (.int .i64 0) 1 8 Try.underlying38 hi hz0 hz1 hz2 rfl (by decide) v n xs hown ad m c news hlen hc h1 (by unfold maxLen; omega) hb hbase
  unfold Oper.wpIn
  refine ⟨?_, ?_⟩
  · simp [Oper.about, ho, resolve, Target.leads, Sem.run_pure]
  · rw [Oper.semAt_plain F _ _ (by rw [ho]; intro c hc'; cases hc')]
    simp [execOp, ho, resolve, invoke, builtin, hs, hx, hrun, Result.andThen]
    exact h v' w' h2 h3
/-- One number more: behind the append, and behind the store. -/
theorem d_step {X w3 : World} {N base k g' cap' : Nat} {Av : Option Addr} {cv : Nat} {xs ys : List Value} {tmp : Obj} (Q : Nat → Prop)
    (hbv : Boxed X N 38 (.slice Av k cv)) (hrow : X.ownsRow base 3 1 (.slice Av k cv) k xs) (hgrow : (X.alloc tmp).grownBy w3 (Value.slice Av k cv).ownBlock) (hown' : w3.ownsRow base 3 1 (.slice (some ⟨g', 0, none⟩) (k + 1) cap') (k + 1) ys)
    (hQ1 : ∀ j, Q j → j < X.heap.size) (hQ2 : ∀ j, Q j → j < base) (hQ3 : ¬ Q N) :
    w3.cell? ⟨N, 0, none⟩ = some (.slice Av k cv) ∧ w3.frozen? ⟨N, 0, none⟩ = false ∧
    Hid (Boxed (w3.setCell ⟨N, 0, none⟩ (.slice (some ⟨g', 0, none⟩) (k + 1) cap')) N 38 (.slice (some ⟨g', 0, none⟩) (k + 1) cap') ∧
      (w3.setCell ⟨N, 0, none⟩ (.slice (some ⟨g', 0, none⟩) (k + 1) cap')).ownsRow base 3 1 (.slice (some ⟨g', 0, none⟩) (k + 1) cap') (k + 1) ys ∧
      Fr Q X (w3.setCell ⟨N, 0, none⟩ (.slice (some ⟨g', 0, none⟩) (k + 1) cap'))) := by
  have hv1 : Boxed w3 N 38 (.slice Av k cv) := (hbv.alloc tmp).kept hgrow (hbv.not_row (by decide) hrow)
  have hne : some N ≠ (Value.slice (some ⟨g', 0, none⟩) (k + 1) cap').ownBlock := hv1.not_row (by decide) hown'
  refine ⟨hv1.cell, hv1.frozen, hv1.set _, hown'.kept (grownBy_setCell' w3 N _) (.inr hne.symm), ?_⟩
  refine (((Fr.refl Q X).alloc hQ1 tmp).grown hgrow (fun j hj => by have := hQ1 j hj; simp; omega) ?_ ?_).setCell (p := ⟨N, 0, none⟩) hQ3 _
  · intro j hj hk
    have := (hrow.lt j hj).1
    have := hQ2 j hk
    omega
  · intro j o hj ho
    exact own_cells (hrow.alloc tmp) j o hj ho
set_option maxHeartbeats 4000000 in
theorem decode_any (N0 T0 : Int) (k : Nat) (hk : k ≤ 20) (ll : Int) (A1 : Option Addr) (c1 : Nat) (bs1 : List Nat) (hb1 : ∀ b ∈ bs1, b < 256) (H : List Bool) (hH : H.length ≤ 8192) (A2 : Option Addr) (c2 : Nat) (w : World) (h1 : Rd w w.heap.size A1 bs1) (h2 : Rd w w.heap.size A2 (pack H)) (rs : List Int) (hrs : elL ll bs1 k (vis true H 0 H.length) = rs) (m : Nat) (hm : rs.length = m) :
    Calls Try.prog 82 #[.agg #[.int .i64 N0, .int .i64 T0, .int .i64 (k : Int), .int .i64 ll, .slice A1 (bs1).length c1, .int .i64 (H.length : Int), .slice A2 (pack H).length c2]] w fun e w' => ∃ A c, e = .returned (.slice A m c) ∧ RdV w' w'.heap.size A (zc rs) ∧ Below w.heap.size w w' := by
  have HG : Hid (∀ i V, Below w.heap.size w V → Calls Try.prog 47 #[.agg #[.int .i64 ll, .slice A1 bs1.length c1], .int .i64 ((i : Int) * (k : Int)), .int .i64 (k : Int)] V (Got V (getN ll bs1 ((i : Int) * (k : Int)) (k : Int)) (getE ll bs1 ((i : Int) * (k : Int)) (k : Int)))) := fun i V hV => get_any ll A1 c1 bs1 _ _ V hb1 (h1.on hV)
  have HR := Lib.hid h2; clear h2 h1
  have HRS := Lib.hid hrs; clear hrs
  have HM := Lib.hid hm; clear hm
  obtain ⟨i0, hi, hz0, hz1, hz2⟩ := info_parts info3
  refine (callsIn_wide (n := 4)).1 ?_
  refine callsIn_of_wp_marks Try.func82 rfl trivial ?_ rfl
  simp only [Try.ntmps82, List.size_toArray, List.length_cons, List.length_nil, Nat.reduceAdd, Nat.reduceSub, Array.replicate_succ, Array.replicate_zero, List.push_toArray, List.append_toArray, List.nil_append, List.cons_append]
  gi_wp2_with (refine ⟨trivial, ?_⟩; gi_at_call 58; refine (of_in 3 _ _ _ _ _ _ _ _).mono ?_; rintro e w' ⟨rfl, rfl⟩)
  simp only [Nat.add_assoc, Nat.reduceAdd]
  obtain ⟨hz, a0, a1, a2, a3, a4, a5⟩ := six w (.cells #[.int .i64 N0, .int .i64 T0, .int .i64 (k : Int), .int .i64 ll, .slice A1 (bs1).length c1, .int .i64 (H.length : Int), .slice A2 (pack H).length c2] 70) (.cells #[.slice none 0 0] 38) (.cells #[.int .i64 (H.length : Int), .slice A2 (pack H).length c2] 25) (.cells #[.int .u64 1] 22) (.cells #[.int .i64 0] 3) (.cells #[.int .i64 (H.length : Int)] 3)
  have hlow : Below w.heap.size w ((((((w.alloc (.cells #[.int .i64 N0, .int .i64 T0, .int .i64 (k : Int), .int .i64 ll, .slice A1 (bs1).length c1, .int .i64 (H.length : Int), .slice A2 (pack H).length c2] 70)).alloc (.cells #[.slice none 0 0] 38)).alloc (.cells #[.int .i64 (H.length : Int), .slice A2 (pack H).length c2] 25)).alloc (.cells #[.int .u64 1] 22)).alloc (.cells #[.int .i64 0] 3)).alloc (.cells #[.int .i64 (H.length : Int)] 3)) := ((((up2 w _ _).alloc (by simp only [World.size_alloc]; omega) _).alloc (by simp only [World.size_alloc]; omega) _).alloc (by simp only [World.size_alloc]; omega) _).alloc (by simp only [World.size_alloc]; omega) _
  generalize ((((((w.alloc (.cells #[.int .i64 N0, .int .i64 T0, .int .i64 (k : Int), .int .i64 ll, .slice A1 (bs1).length c1, .int .i64 (H.length : Int), .slice A2 (pack H).length c2] 70)).alloc (.cells #[.slice none 0 0] 38)).alloc (.cells #[.int .i64 (H.length : Int), .slice A2 (pack H).length c2] 25)).alloc (.cells #[.int .u64 1] 22)).alloc (.cells #[.int .i64 0] 3)).alloc (.cells #[.int .i64 (H.length : Int)] 3)) = w5 at *
  have hvis : ∀ j, dkept (w.heap.size + 1) j → j < w5.heap.size := by rintro j (h | h | h | h) <;> omega
  refine wpIn_rangeFunc_ownG rfl (by decide) (gf := 87) (lb := #[.pointer (some ⟨w.heap.size + 4, 0, none⟩), .pointer (some ⟨w.heap.size + 5, 0, none⟩), .pointer (some ⟨w.heap.size + 2, 0, none⟩), .pointer (some ⟨w.heap.size + 3, 0, none⟩)]) rfl trivial (enters_of Try.func87 (by kernel_rfl) rfl)
    (of_stops 3 (by decide) (w.heap.size + 4) (w.heap.size + 5) (w.heap.size + 2) (w.heap.size + 3) w.heap.size c2 A2 (dkept (w.heap.size + 1)) H hH true 0 H.length (Nat.zero_le _) (Nat.le_refl _) (.inr (.inr (.inr rfl))) (.inr (.inl rfl)) (.inr (.inr (.inl rfl))) (fun j hj => .inl (by omega)) w5 hvis (by omega) (by omega)
      (box_cell a4) (box_cell a5) (box_cell a3) (blk_cells a2).1 (blk_cells a2).2.1 (HR.out.below hlow (Nat.le_refl _)))
    (fun h k => keepS_t h k) (keepS_b hvis) (Below.refl _ _) (fun _ => rfl)
    (fun pre X => DRow X (w.heap.size + 1) ll bs1 k pre ∧ (Fr (dkept (w.heap.size + 1)) w5 X ∧ w5.heap.size ≤ X.heap.size))
    (fun _ _ _ => False)
    (OwnFrom.and (Own.from (dRow_own _ _ _ _) _) (fr_own _ w5 w5.heap.size (Nat.le_refl _) hvis))
    (fun _ _ _ _ _ hs _ _ => hs)
    ⟨⟨.slice none 0 0, a1, ⟨rfl, .inl ⟨rfl, rfl⟩⟩⟩, Fr.refl _ _, Nat.le_refl _⟩
    ?a1 ?assign ?body ?done ?stop
  case assign =>
    intro lp x X K hK
    gi_wp2
    exact hK
  case body =>
    rintro lp pre x X ⟨hrow0, hfr, hzz⟩ hlt
    obtain ⟨v, hbv, hrow⟩ := hrow0
    obtain ⟨Av, cv, rfl⟩ := own_slice3 hrow
    obtain ⟨q0, q1, q2, q3, q4, q5, q6⟩ := (cells7 ((hfr.block w.heap.size (.inl (by omega))).trans a0)).1
    have cv1 := hbv.cell
    have hlX : Below w.heap.size w X := hlow.trans (hfr.below (fun j hj => .inl (by omega)))
    have hp8 : pre.length ≤ 8192 := by omega
    have HGi := Lib.hid (HG.out pre.length X hlX)
    have hmw : wrap64 ((pre.length : Int) * (k : Int)) = (pre.length : Int) * (k : Int) := by
      have h1 : pre.length * k ≤ 8192 * 20 := Nat.mul_le_mul hp8 hk
      have h2 : ((pre.length : Int) * (k : Int)) = ((pre.length * k : Nat) : Int) := by simp
      rw [h2]; unfold wrap64; omega
    have hmw2 : IntKind.i64.wrap ((pre.length : Int) * (k : Int)) = (pre.length : Int) * (k : Int) := by
      have h1 : pre.length * k ≤ 8192 * 20 := Nat.mul_le_mul hp8 hk
      have h2 : ((pre.length : Int) * (k : Int)) = ((pre.length * k : Nat) : Int) := by simp
      rw [h2, IntKind.wrap_i64]; omega
    have HW1 := Lib.hid hmw; have HW2 := Lib.hid hmw2
    gi_wp2_with fail
    refine ⟨trivial, ?_⟩
    refine (CallsIn.inRound _ (callsIn_wide.2 HGi.out)).mono ?_
    rintro e X1 ⟨rfl, hb1⟩
    clear hmw hmw2
    have hX1 : (Boxed X1 (w.heap.size + 1) 38 (.slice Av pre.length cv) ∧ X1.ownsRow (w.heap.size + 1 + 5) 3 1 (.slice Av pre.length cv) pre.length (zc (elL ll bs1 k pre))) := by
      refine ⟨(hb1.block _ (by omega)).trans hbv, hrow.kept (row := none) (grown_of_below hb1 none) ?_⟩
      rcases Av with _ | g
      · exact .inl rfl
      · exact .inr (by simp [Value.ownBlock])
    have hfr1 : Fr (dkept (w.heap.size + 1)) w5 X1 := ⟨hb1.os.trans hfr.os, hb1.tape.trans hfr.tape, hb1.output.trans hfr.output, Nat.le_trans hfr.size hb1.size, fun j hj => (hb1.block j (by have := hvis j hj; omega)).trans (hfr.block j hj), fun j o hj ho => by
      have := hfr.same j o hj ho
      rw [hb1.block j (Array.getElem?_eq_some_iff.1 this).1]; exact this⟩
    have hz1 : X.heap.size ≤ X1.heap.size := hb1.size
    obtain ⟨hbv1, hrow1⟩ := hX1
    obtain ⟨q0, q1, q2, q3, q4, q5, q6⟩ := (cells7 ((hfr1.block w.heap.size (.inl (by omega))).trans a0)).1
    have cv2 := hbv1.cell
    have fv2 := hbv1.frozen
    have hfrX : Fr (dkept (w.heap.size + 1)) X X1 := ⟨hb1.os, hb1.tape, hb1.output, hb1.size, fun j hj => hb1.block j (by have := hvis j hj; omega), fun j o hj ho => by
      rw [hb1.block j (Array.getElem?_eq_some_iff.1 hj).1]; exact hj⟩
    have HFR := Lib.hid hfr
    have HFX := Lib.hid hfrX
    clear hb1 hbv hrow cv1 hfr hlX hfrX
    have HSN := Lib.hid (elL_snoc ll bs1 k pre x)
    have HLn := Lib.hid (elL_len ll bs1 k pre)
    unfold elI at HSN
    generalize getN ll bs1 ((pre.length : Int) * (k : Int)) (k : Int) = lw at *
    generalize hcx : clamp 0 x = cx at *
    have hcx1 : cx ≤ 8191 := by rw [← hcx]; exact clamp0_le x
    have k0 : (0 : Int) ≤ (k : Int) := by omega
    have k1 : ¬ (k : Int) < 0 := by omega
    gi_wp2_with fail
    have hQ1 : ∀ j, dkept (w.heap.size + 1) j → j < X1.heap.size := fun j hj => by have := hvis j hj; omega
    have hQ2 : ∀ j, dkept (w.heap.size + 1) j → j < w.heap.size + 1 + 5 := by rintro j (h | h | h | h) <;> omega
    have hQ3 : ¬ dkept (w.heap.size + 1) (w.heap.size + 1) := by rintro (h | h | h | h) <;> omega
    have hrowd : X1.drew.ownsRow (w.heap.size + 1 + 5) 3 1 (.slice Av pre.length cv) pre.length (zc (elL ll bs1 k pre)) := hrow1
    have hbvd : Boxed X1.drew (w.heap.size + 1) 38 (.slice Av pre.length cv) := hbv1
    obtain ⟨pl, hpl⟩ : ∃ pl, pre.length = pl := ⟨_, rfl⟩
    rw [hpl] at hrowd hbvd hrow1 hbv1 cv2 HSN HLn hp8 ⊢
    have HPL := Lib.hid hpl; clear hpl
    have hdw : IntKind.i64.wrap ((cx : Int) - (pl : Int)) = (cx : Int) - (pl : Int) := by rw [IntKind.wrap_i64]; omega
    have hlt1 : w.heap.size + 1 < X1.heap.size := by omega
    obtain ⟨sh, hsh⟩ : ∃ sh, wrap64 (((cx : Int) - (pl : Int)) * 2 ^ k) = sh := ⟨_, rfl⟩
    have hsh2 : IntKind.i64.wrap (((cx : Int) - (pl : Int)) * 2 ^ k) = sh := by rw [← hsh, IntKind.wrap_i64]; unfold wrap64; omega
    obtain ⟨lz, hlz⟩ : ∃ lz, IntKind.i64.wrap (lw : Int) = lz := ⟨_, rfl⟩
    have hlz2 : wrap64 (lw : Int) = lz := by rw [← hlz, IntKind.wrap_i64]; unfold wrap64; omega
    obtain ⟨el, hel⟩ : ∃ el, bits .or .i64 sh lz = el := ⟨_, rfl⟩
    rw [hsh, hlz, hel] at HSN
    have hsz6 : w.heap.size + 1 + 5 ≤ X1.heap.size := by omega
    refine wpIn_region_any (by kernel_rfl) ?_
    refine any_round (noDef_spec (by kernel_rfl)) _ _ _ _ ?_
    change wpAnyIn _ _ _ _ _ _ _ _ _ (World.drew _)
    (refine in_val (i := 1) rfl rfl (by kernel_rfl) (by kernel_rfl) (by kernel_rfl) (fun _ _ _ _ h => h) (by rfl) (fun _ => rfl) ?_; apply Exists.intro; refine ⟨fun wq => ?_, ?_⟩; (go_simp; try rfl); try simp only [Act.put, List.setIfInBounds_toArray, List.set_cons_zero, List.set_cons_succ])
    (refine in_val (i := 2) rfl rfl (by kernel_rfl) (by kernel_rfl) (by kernel_rfl) (fun _ _ _ _ h => h) (by rfl) (fun _ => rfl) ?_; apply Exists.intro; refine ⟨fun wq => ?_, ?_⟩; (go_simp; try rfl); try simp only [Act.put, List.setIfInBounds_toArray, List.set_cons_zero, List.set_cons_succ])
    (refine in_val (i := 3) rfl rfl (by kernel_rfl) (by kernel_rfl) (by kernel_rfl) (fun _ _ _ _ h => h) (by rfl) (fun _ => rfl) ?_; apply Exists.intro; refine ⟨fun wq => ?_, ?_⟩; (go_simp; try rfl); try simp only [Act.put, List.setIfInBounds_toArray, List.set_cons_zero, List.set_cons_succ])
    (refine in_val (i := 4) rfl rfl (by kernel_rfl) (by kernel_rfl) (by kernel_rfl) (fun _ _ _ _ h => h) (by rfl) (fun _ => rfl) ?_; apply Exists.intro; refine ⟨fun wq => ?_, ?_⟩; (go_simp; try rfl); try simp only [Act.put, List.setIfInBounds_toArray, List.set_cons_zero, List.set_cons_succ])
    (refine in_val (i := 7) rfl rfl (by kernel_rfl) (by kernel_rfl) (by kernel_rfl) (fun _ _ _ _ h => h) (by rfl) (fun _ => rfl) ?_; apply Exists.intro; refine ⟨fun wq => ?_, ?_⟩; (go_simp; try rfl); try simp only [Act.put, List.setIfInBounds_toArray, List.set_cons_zero, List.set_cons_succ])
    (refine in_val (i := 8) rfl rfl (by kernel_rfl) (by kernel_rfl) (by kernel_rfl) (fun _ _ _ _ h => h) (by rfl) (fun _ => rfl) ?_; apply Exists.intro; refine ⟨fun wq => ?_, ?_⟩; (go_simp; try rfl); try simp only [Act.put, List.setIfInBounds_toArray, List.set_cons_zero, List.set_cons_succ])
    refine wpAnyIn_ready (rs := [0, 5]) (by kernel_rfl) (by simp) ?_
    refine AllReadyIn.cons (of_drop rfl) (fun K hK => ?_) (AllReadyIn.cons (of_drop rfl) (fun K hK => ?_) AllReadyIn.nil)
    · go_simp
      refine hK _ _ ?_
      clear hK K
      try simp only [Act.put, List.setIfInBounds_toArray, List.set_cons_zero, List.set_cons_succ]
      refine wpAnyIn_ready (rs := [5]) (by kernel_rfl) (by simp) ?_
      refine AllReadyIn.cons (of_drop rfl) (fun K hK => ?_) AllReadyIn.nil
      go_simp
      refine hK _ _ ?_
      clear hK K
      try simp only [Act.put, List.setIfInBounds_toArray, List.set_cons_zero, List.set_cons_succ]
      (refine in_val (i := 6) rfl rfl (by kernel_rfl) (by kernel_rfl) (by kernel_rfl) (fun _ _ _ _ h => h) (by rfl) (fun _ => rfl) ?_; apply Exists.intro; refine ⟨fun wq => ?_, ?_⟩; (go_simp; try rfl); try simp only [Act.put, List.setIfInBounds_toArray, List.set_cons_zero, List.set_cons_succ])
      (refine in_val (i := 9) rfl rfl (by kernel_rfl) (by kernel_rfl) (by kernel_rfl) (fun _ _ _ _ h => h) (by rfl) (fun _ => rfl) ?_; apply Exists.intro; refine ⟨fun wq => ?_, ?_⟩; (go_simp; try rfl); try simp only [Act.put, List.setIfInBounds_toArray, List.set_cons_zero, List.set_cons_succ])
      refine wpAnyIn_ready (rs := [10]) (by kernel_rfl) (by simp) ?_
      refine AllReadyIn.cons (of_drop rfl) (fun K hK => ?_) AllReadyIn.nil
      go_simp
      refine hK _ _ ?_
      clear hK K
      try simp only [Act.put, List.setIfInBounds_toArray, List.set_cons_zero, List.set_cons_succ]
      refine wpAnyIn_ready (rs := [11]) (by kernel_rfl) (by simp) ?_
      refine AllReadyIn.cons (of_drop rfl) (fun K hK => ?_) AllReadyIn.nil
      refine app3i (by rfl) _ _ (by rfl) (w.heap.size + 1 + 5) (.slice Av pl cv) pl (zc (elL ll bs1 k pre)) (by rfl) (hrowd.alloc _) ⟨X1.drew.heap.size, 0, none⟩ 1 1 [.int .i64 el] (by rfl) rfl (cell_one_new X1.drew (.int .i64 el) 3) (by simp [Value.oneCell']) (by omega) (by show _ ≤ (X1.alloc _).heap.size; simp; omega) ?_
      intro v' w3 hown' hgrow
      obtain ⟨g', cap', rfl⟩ := ownsRow_succ hown'
      obtain ⟨e1, e2, HE⟩ := d_step (dkept (w.heap.size + 1)) hbvd hrowd hgrow hown' hQ1 hQ2 hQ3
      clear hgrow hown'
      refine hK _ _ ?_
      clear hK K
      try simp only [Act.put, List.setIfInBounds_toArray, List.set_cons_zero, List.set_cons_succ]
      refine wpAnyIn_ready (rs := [12]) (by kernel_rfl) (by simp) ?_
      refine AllReadyIn.cons (of_drop rfl) (fun K hK => ?_) AllReadyIn.nil
      go_simp
      refine hK _ _ ?_
      clear hK K
      try simp only [Act.put, List.setIfInBounds_toArray, List.set_cons_zero, List.set_cons_succ]
      refine wpAnyIn_done (by kernel_rfl) ?_ _
      gi_wp2
      obtain ⟨E1, E2, E3⟩ := HE.out
      have E4 := HFX.out.trans (⟨E3.os, E3.tape, E3.output, E3.size, E3.block, E3.same⟩ : Fr (dkept (w.heap.size + 1)) X1 _)
      refine ⟨E4.others.from _, ⟨E4.block, E4.size⟩, ⟨_, E1, ?_⟩, HFR.out.trans E4, Nat.le_trans hzz E4.size⟩
      rw [HSN.out, zc_append, List.length_append, HPL.out]
      exact E2
    · go_simp
      refine hK _ _ ?_
      clear hK K
      try simp only [Act.put, List.setIfInBounds_toArray, List.set_cons_zero, List.set_cons_succ]
      (refine in_val (i := 6) rfl rfl (by kernel_rfl) (by kernel_rfl) (by kernel_rfl) (fun _ _ _ _ h => h) (by rfl) (fun _ => rfl) ?_; apply Exists.intro; refine ⟨fun wq => ?_, ?_⟩; (go_simp; try rfl); try simp only [Act.put, List.setIfInBounds_toArray, List.set_cons_zero, List.set_cons_succ])
      (refine in_val (i := 9) rfl rfl (by kernel_rfl) (by kernel_rfl) (by kernel_rfl) (fun _ _ _ _ h => h) (by rfl) (fun _ => rfl) ?_; apply Exists.intro; refine ⟨fun wq => ?_, ?_⟩; (go_simp; try rfl); try simp only [Act.put, List.setIfInBounds_toArray, List.set_cons_zero, List.set_cons_succ])
      refine wpAnyIn_ready (rs := [0, 10]) (by kernel_rfl) (by simp) ?_
      refine AllReadyIn.cons (of_drop rfl) (fun K hK => ?_) (AllReadyIn.cons (of_drop rfl) (fun K hK => ?_) AllReadyIn.nil)
      · go_simp
        refine hK _ _ ?_
        clear hK K
        try simp only [Act.put, List.setIfInBounds_toArray, List.set_cons_zero, List.set_cons_succ]
        refine wpAnyIn_ready (rs := [10]) (by kernel_rfl) (by simp) ?_
        refine AllReadyIn.cons (of_drop rfl) (fun K hK => ?_) AllReadyIn.nil
        go_simp
        refine hK _ _ ?_
        clear hK K
        try simp only [Act.put, List.setIfInBounds_toArray, List.set_cons_zero, List.set_cons_succ]
        refine wpAnyIn_ready (rs := [11]) (by kernel_rfl) (by simp) ?_
        refine AllReadyIn.cons (of_drop rfl) (fun K hK => ?_) AllReadyIn.nil
        refine app3i (by rfl) _ _ (by rfl) (w.heap.size + 1 + 5) (.slice Av pl cv) pl (zc (elL ll bs1 k pre)) (by rfl) (hrowd.alloc _) ⟨X1.drew.heap.size, 0, none⟩ 1 1 [.int .i64 el] (by rfl) rfl (cell_one_new X1.drew (.int .i64 el) 3) (by simp [Value.oneCell']) (by omega) (by show _ ≤ (X1.alloc _).heap.size; simp; omega) ?_
        intro v' w3 hown' hgrow
        obtain ⟨g', cap', rfl⟩ := ownsRow_succ hown'
        obtain ⟨e1, e2, HE⟩ := d_step (dkept (w.heap.size + 1)) hbvd hrowd hgrow hown' hQ1 hQ2 hQ3
        clear hgrow hown'
        refine hK _ _ ?_
        clear hK K
        try simp only [Act.put, List.setIfInBounds_toArray, List.set_cons_zero, List.set_cons_succ]
        refine wpAnyIn_ready (rs := [12]) (by kernel_rfl) (by simp) ?_
        refine AllReadyIn.cons (of_drop rfl) (fun K hK => ?_) AllReadyIn.nil
        go_simp
        refine hK _ _ ?_
        clear hK K
        try simp only [Act.put, List.setIfInBounds_toArray, List.set_cons_zero, List.set_cons_succ]
        refine wpAnyIn_done (by kernel_rfl) ?_ _
        gi_wp2
        obtain ⟨E1, E2, E3⟩ := HE.out
        have E4 := HFX.out.trans (⟨E3.os, E3.tape, E3.output, E3.size, E3.block, E3.same⟩ : Fr (dkept (w.heap.size + 1)) X1 _)
        refine ⟨E4.others.from _, ⟨E4.block, E4.size⟩, ⟨_, E1, ?_⟩, HFR.out.trans E4, Nat.le_trans hzz E4.size⟩
        rw [HSN.out, zc_append, List.length_append, HPL.out]
        exact E2
      · go_simp
        refine hK _ _ ?_
        clear hK K
        try simp only [Act.put, List.setIfInBounds_toArray, List.set_cons_zero, List.set_cons_succ]
        refine wpAnyIn_ready (rs := [0]) (by kernel_rfl) (by simp) ?_
        refine AllReadyIn.cons (of_drop rfl) (fun K hK => ?_) AllReadyIn.nil
        go_simp
        refine hK _ _ ?_
        clear hK K
        try simp only [Act.put, List.setIfInBounds_toArray, List.set_cons_zero, List.set_cons_succ]
        refine wpAnyIn_ready (rs := [11]) (by kernel_rfl) (by simp) ?_
        refine AllReadyIn.cons (of_drop rfl) (fun K hK => ?_) AllReadyIn.nil
        refine app3i (by rfl) _ _ (by rfl) (w.heap.size + 1 + 5) (.slice Av pl cv) pl (zc (elL ll bs1 k pre)) (by rfl) (hrowd.alloc _) ⟨X1.drew.heap.size, 0, none⟩ 1 1 [.int .i64 el] (by rfl) rfl (cell_one_new X1.drew (.int .i64 el) 3) (by simp [Value.oneCell']) (by omega) (by show _ ≤ (X1.alloc _).heap.size; simp; omega) ?_
        intro v' w3 hown' hgrow
        obtain ⟨g', cap', rfl⟩ := ownsRow_succ hown'
        obtain ⟨e1, e2, HE⟩ := d_step (dkept (w.heap.size + 1)) hbvd hrowd hgrow hown' hQ1 hQ2 hQ3
        clear hgrow hown'
        refine hK _ _ ?_
        clear hK K
        try simp only [Act.put, List.setIfInBounds_toArray, List.set_cons_zero, List.set_cons_succ]
        refine wpAnyIn_ready (rs := [12]) (by kernel_rfl) (by simp) ?_
        refine AllReadyIn.cons (of_drop rfl) (fun K hK => ?_) AllReadyIn.nil
        go_simp
        refine hK _ _ ?_
        clear hK K
        try simp only [Act.put, List.setIfInBounds_toArray, List.set_cons_zero, List.set_cons_succ]
        refine wpAnyIn_done (by kernel_rfl) ?_ _
        gi_wp2
        obtain ⟨E1, E2, E3⟩ := HE.out
        have E4 := HFX.out.trans (⟨E3.os, E3.tape, E3.output, E3.size, E3.block, E3.same⟩ : Fr (dkept (w.heap.size + 1)) X1 _)
        refine ⟨E4.others.from _, ⟨E4.block, E4.size⟩, ⟨_, E1, ?_⟩, HFR.out.trans E4, Nat.le_trans hzz E4.size⟩
        rw [HSN.out, zc_append, List.length_append, HPL.out]
        exact E2
  case done =>
    rintro D ys X hD rfl ⟨⟨v, hbv, hrow⟩, hfr, hzz⟩ hK
    obtain ⟨Av, cv, rfl⟩ := own_slice3 hrow
    have hl : (vis true H 0 H.length).length = m := by rw [← HM.out, ← HRS.out, elL_len]
    rw [hl] at hrow hbv
    rw [HRS.out] at hrow
    have HR3 : Hid (RdV (X.putObj D (.deferred none)) (X.putObj D (.deferred none)).heap.size Av (zc rs)) := own_rdv (ownsRow_putObj hrow _ hK rfl)
    have HL : Hid (Below w.heap.size w (X.putObj D (.deferred none))) := (hlow.trans (hfr.below (fun j hj => .inl (by omega)))).trans (belowK_b (w := w) (Nat.le_refl _) _ D _ _ (by omega) hK rfl rfl)
    have cv1 := hbv.cell
    clear hrow hl
    gi_wp2
    refine ⟨by simp, .inl ⟨_, _, rfl, run_takeDeferred hK, ?_⟩⟩
    refine ⟨.slice Av m cv, ?_, Av, cv, rfl, HR3.out, HL.out⟩
    simp [results, Try.results82, go_sem]
  case stop =>
    rintro D c pre W _ _ h _
    exact h.elim
end Go.Proofs.Ytkbelhclcpepaaa
