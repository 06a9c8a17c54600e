/- The law VarintJoins: bytes of two lists, one behind the other, are those of both; for whatever bytes. -/
import Derived.Test.YtjogccpnhcnedaaVLBack
import Derived.BigFrame
namespace Go.Proofs.Ytjogccpnhcnedaa
set_option maxRecDepth 100000
set_option linter.unusedVariables false
open Go.RowKit Go.Shelf

theorem own_lit0 (w : World) (base : Nat) (hb : base ≤ w.heap.size) : (w.alloc (.cells #[] 5)).ownsRow base 5 1 (.slice (some ⟨w.heap.size, 0, none⟩) 0 0) 0 [] :=
  ⟨rfl, .inr ⟨w.heap.size, 0, #[], rfl, hb, World.alloc_heap_new w _, Nat.le_refl _, by decide, rfl, rfl⟩⟩

theorem own_lit0n (w : World) (base : Nat) (hb : base ≤ w.heap.size) : (w.alloc (.cells #[] 22)).ownsRow base 22 1 (.slice (some ⟨w.heap.size, 0, none⟩) 0 0) 0 [] :=
  ⟨rfl, .inr ⟨w.heap.size, 0, #[], rfl, hb, World.alloc_heap_new w _, Nat.le_refl _, by decide, rfl, rfl⟩⟩
theorem app8w {w : World} {ops : Array Oper} {rest : List Oper} {o : Oper} {a : Act} {Q : Exit → Act → World → Prop} (hgd : Region.wanted o (yielded ops a.tmps) = true) (s x : Operand)
    (ho : o.op = .call { callee := .builtin .append, args := #[s, x], argTypes := #[46, 46] }) (base : Nat)
    (v : Value) (n : Nat) (xs : List Value) (hs : a.eval s = v) (hown : w.ownsRow base 22 1 v n xs)
    (A : Option Addr) (m c : Nat) (news : List Value) (hx : a.eval x = .slice A m c) (hr : RdV w w.heap.size A news) (hlen : news.length = m) (h1 : ∀ u ∈ news, u.oneCell' = true) (hc : A = none → c = 0)
    (hb : (n + m) * 8 ≤ 140737488355328) (hbase : base ≤ w.heap.size)
    (h : ∀ v' w', w'.ownsRow base 22 1 v' (n + m) (xs ++ news) → w.grownBy w' v.ownBlock → wpList Try.prog ops Q rest (a.put o.dst v') w') : wpList Try.prog ops Q (o :: rest) a w := by
  obtain ⟨i0, hi, hz0, hz1, hz2⟩ := info_parts info25
  rcases A with _ | ad
  · obtain rfl : news = [] := by
      rcases hr with h | ⟨b, off, h, _⟩
      · exact h
      · cases h
    obtain rfl : m = 0 := by simpa using hlen.symm
    obtain rfl := hc rfl
    refine BigFrame.wpList_want hgd fun K hK => ?_
    have hrun := run_append_owned_none (P := Try.prog) (w := w) base 46 o.type 22 i0 1 Try.underlying46 hi v n xs hown
    unfold Oper.wp
    simp [execOp, ho, resolve, invoke, builtin, hs, hx, hrun, Result.andThen]
    exact hK _ _ (h v w (by simpa using hown) (World.grownBy.refl w _))
  · refine BigFrame.wpList_want hgd fun K hK => wp_append_own w s x 46 ho base 22 i0 (.int .u64 0) 1 8 Try.underlying46 hi hz0 hz1 hz2 rfl (by decide) v n xs hs hown ad m c news hx (by omega) ?_ h1 (by unfold maxLen; omega) hb hbase (fun v' w' h2 h3 _ => hK _ _ (h v' w' h2 h3))
    rcases hr with rfl | ⟨b, off, e, _, hcell⟩
    · intro j u hu; simp at hu
    · cases e
      intro j u hu
      have ha : (⟨b, off, none⟩ : Addr).add j = ⟨b, off + j, none⟩ := by unfold Addr.add; split <;> simp_all
      rw [ha]
      exact hcell j u hu

set_option maxHeartbeats 2000000 in
theorem vjoins_law (A : Option Addr) (c : Nat) (bs0 : List Nat) (B : Option Addr) (d : Nat) (bs : List Nat) (w : World)
    (hc : bs0.length ≤ c) (ha : ∀ b ∈ bs0, b < 256) (hA : Rd w w.heap.size A bs0) (hn : bs0.length ≤ 9223372036854775807) (hna : A = none → c = 0)
    (hd : bs.length ≤ d) (hb : ∀ b ∈ bs, b < 256) (hB : Rd w w.heap.size B bs) (hm : bs.length ≤ 9223372036854775807) (hnb : B = none → d = 0) :
    Calls Try.prog 9 #[.slice A bs0.length c, .slice B bs.length d] w fun e w' => e = .returned (.bool true) ∧ Below w.heap.size w w' := by
  have HA := Lib.hid hA; clear hA
  have HBs := Lib.hid hB; clear hB
  have HNa := Lib.hid hna; clear hna
  have HNb := Lib.hid hnb; clear hnb
  by_cases e1 : (allR bs0).2 = 0
  · by_cases e2 : (allR bs).2 = 0
    · obtain ⟨x, ea, va, ua, la⟩ := allR_ok bs0 ha e1
      obtain ⟨y, eb, vb, ub, lb⟩ := allR_ok bs hb e2
      have H1 := Lib.hid (fun w h => all_any bs0 _ rfl hn ha A c hc w h x 0 ea)
      have H2 := Lib.hid (fun w h => all_any bs _ rfl hm hb B d hd w h y 0 eb)
      have HJ : Hid (allR (bs0 ++ bs) = if 4096 < (bs0 ++ bs).length then ([], 2) else (x ++ y, 0)) := by
        show _ = _
        by_cases h : 4096 < (bs0 ++ bs).length
        · rw [if_pos h]; unfold allR; rw [if_pos h]
        · rw [if_neg h]
          have e : bs0 ++ bs = vbs (x ++ y) := by rw [vbs_append, ← va, ← vb]
          rw [e] at h ⊢
          exact allR_vbs _ (fun n hn => by rcases List.mem_append.1 hn with h | h; exact ua n h; exact ub n h) (by omega)
      have hby : ∀ b ∈ bs0 ++ bs, b < 256 := fun b h => by rcases List.mem_append.1 h with h | h; exact ha b h; exact hb b h
      have H3 := Lib.hid (fun rn re hr A3 c3 w (h1 : (bs0 ++ bs).length ≤ c3) h => all_any (bs0 ++ bs) _ rfl (by rw [List.length_append]; omega) hby A3 c3 h1 w h rn re hr)
      rw [List.length_append] at H3 HJ
      have hxl : x.length ≤ 4096 := by have := vbs_len x; rw [← va] at this; omega
      have hyl : y.length ≤ 4096 := by have := vbs_len y; rw [← vb] at this; omega
      have H4 : Hid (∀ A4 A5 c4 c5 w, RdV w w.heap.size A4 (nc (x ++ y)) → RdV w w.heap.size A5 (nc (x ++ y)) → Calls Try.prog 38 #[.slice A4 (x.length + y.length) c4, .slice A5 (x.length + y.length) c5] w fun e w' => e = .returned (.bool true) ∧ Below w.heap.size w w') := fun A4 A5 c4 c5 w h1 h2 => by
        have := sameN_any w A4 A5 c4 c5 (x ++ y) (x ++ y) (by rw [List.length_append]; omega) h1 h2
        rw [List.length_append] at this
        simpa using this
      have la' : bs0.length ≤ 4096 := la
      have lb' : bs.length ≤ 4096 := lb
      clear e1 e2 ea eb va vb hby ha hb hc hd hn hm ua ub la lb
      have HBc : Hid (bc (bs0 ++ bs) = bc bs0 ++ bc bs) := bc_append _ _
      have HN0 : Hid (bs0.length = bs0.length) := rfl
      generalize hl0 : bs0.length = l0 at *
      generalize hl1 : bs.length = l1 at *
      have HL0 := Lib.hid hl0; have HL1 := Lib.hid hl1
      clear hl0 hl1 HN0
      by_cases hbig : 4096 < l0 + l1
      · rw [if_pos hbig] at HJ
        have H5 := Lib.hid (H3.out [] 2 HJ.out)
        clear H3 HJ
        go_enter Try.func9, Try.ntmps9
        go_wp2_with fail
        refine (H1.out w HA.out).mono ?_
        rintro e w1_ ⟨A1, c1, rfl, hn1, hr1, Bq⟩
        replace HA := Lib.hid (HA.out.on Bq)
        replace HBs := Lib.hid (HBs.out.on Bq)
        have HB := Lib.hid Bq
        clear Bq
        have G1 := Lib.hid hr1; clear hr1
        have G1n := Lib.hid hn1; clear hn1
        go_wp2_with fail
        refine (H2.out w1_ HBs.out).mono ?_
        rintro e w2_ ⟨A2, c2, rfl, hn2, hr2, Bq⟩
        replace HA := Lib.hid (HA.out.on Bq)
        replace HBs := Lib.hid (HBs.out.on Bq)
        replace G1 := Lib.hid (G1.out.on Bq)
        replace HB := Lib.hid (HB.out.trans (Bq.mono HB.out.size))
        clear Bq
        have G2 := Lib.hid hr2; clear hr2
        have G2n := Lib.hid hn2; clear hn2
        go_wp2_with fail
        refine (vbegun_true w2_).mono ?_
        rintro e w3_ ⟨rfl, Bq⟩
        replace HA := Lib.hid (HA.out.on Bq)
        replace HBs := Lib.hid (HBs.out.on Bq)
        replace G1 := Lib.hid (G1.out.on Bq)
        replace G2 := Lib.hid (G2.out.on Bq)
        replace HB := Lib.hid (HB.out.trans (Bq.mono HB.out.size))
        clear Bq
        go_wp2_with (first | (at_builtin; refine app5 rfl _ _ rfl w3_.heap.size _ 0 _ rfl (own_lit0 w3_ _ (Nat.le_refl _)) A l0 c bs0 rfl (HA.out.on (one_below w3_ _)) HL0.out HNa.out (by omega) (by simp) ?_; intro v1 w4 hown1 hgrow1; rw [Nat.zero_add, List.nil_append] at hown1; have HG1 : Hid (Below w3_.heap.size w3_ w4) := ((Below.refl _ w3_).alloc (Nat.le_refl _) _).trans (grown_below hgrow1 (own_lit0 w3_ _ (Nat.le_refl _)) (by simp)); obtain ⟨A5, c5, rfl⟩ := own_slice hown1; have HO1 := Lib.hid hown1; clear hown1 hgrow1) | (at_builtin; refine app5 rfl _ _ rfl w3_.heap.size _ l0 _ rfl HO1.out B l1 d bs rfl (HBs.out.on HG1.out) HL1.out HNb.out (by omega) HG1.out.size ?_; intro v2 w5 hown2 hgrow2; have HG2 : Hid (Below w3_.heap.size w3_ w5) := HG1.out.trans (grown_below hgrow2 HO1.out HG1.out.size); obtain ⟨A6, c6, rfl⟩ := own_slice hown2; rw [← HBc.out] at hown2; have HRd := Lib.hid (own_rd hown2); have HCp := Lib.hid (own_cap hown2); clear hown2 hgrow2))
        refine (H5.out A6 c6 w5 HCp.out HRd.out).mono ?_
        rintro e w6 ⟨A7, c7, rfl, -, hr7, B7⟩
        have HB2 := Lib.hid (HB.out.trans ((HG2.out.trans (B7.mono HG2.out.size)).mono HB.out.size))
        clear B7 hr7
        go_wp2
        go_ret
        exact ⟨rfl, HB2.out⟩
      · rw [if_neg hbig] at HJ
        have H5 := Lib.hid (H3.out (x ++ y) 0 HJ.out)
        clear H3 HJ
        unfold AllP at H5
        rw [List.length_append] at H5
        go_enter Try.func9, Try.ntmps9
        go_wp2_with fail
        refine (H1.out w HA.out).mono ?_
        rintro e w1_ ⟨A1, c1, rfl, hn1, hr1, Bq⟩
        replace HA := Lib.hid (HA.out.on Bq)
        replace HBs := Lib.hid (HBs.out.on Bq)
        have HB := Lib.hid Bq
        clear Bq
        have G1 := Lib.hid hr1; clear hr1
        have G1n := Lib.hid hn1; clear hn1
        go_wp2_with fail
        refine (H2.out w1_ HBs.out).mono ?_
        rintro e w2_ ⟨A2, c2, rfl, hn2, hr2, Bq⟩
        replace HA := Lib.hid (HA.out.on Bq)
        replace HBs := Lib.hid (HBs.out.on Bq)
        replace G1 := Lib.hid (G1.out.on Bq)
        replace HB := Lib.hid (HB.out.trans (Bq.mono HB.out.size))
        clear Bq
        have G2 := Lib.hid hr2; clear hr2
        have G2n := Lib.hid hn2; clear hn2
        go_wp2_with fail
        refine (vbegun_true w2_).mono ?_
        rintro e w3_ ⟨rfl, Bq⟩
        replace HA := Lib.hid (HA.out.on Bq)
        replace HBs := Lib.hid (HBs.out.on Bq)
        replace G1 := Lib.hid (G1.out.on Bq)
        replace G2 := Lib.hid (G2.out.on Bq)
        replace HB := Lib.hid (HB.out.trans (Bq.mono HB.out.size))
        clear Bq
        go_wp2_with (first | (at_builtin; refine app5 rfl _ _ rfl w3_.heap.size _ 0 _ rfl (own_lit0 w3_ _ (Nat.le_refl _)) A l0 c bs0 rfl (HA.out.on (one_below w3_ _)) HL0.out HNa.out (by omega) (by simp) ?_; intro v1 w4 hown1 hgrow1; rw [Nat.zero_add, List.nil_append] at hown1; have HG1 : Hid (Below w3_.heap.size w3_ w4) := ((Below.refl _ w3_).alloc (Nat.le_refl _) _).trans (grown_below hgrow1 (own_lit0 w3_ _ (Nat.le_refl _)) (by simp)); obtain ⟨A5, c5, rfl⟩ := own_slice hown1; have HO1 := Lib.hid hown1; clear hown1 hgrow1) | (at_builtin; refine app5 rfl _ _ rfl w3_.heap.size _ l0 _ rfl HO1.out B l1 d bs rfl (HBs.out.on HG1.out) HL1.out HNb.out (by omega) HG1.out.size ?_; intro v2 w5 hown2 hgrow2; have HG2 : Hid (Below w3_.heap.size w3_ w5) := HG1.out.trans (grown_below hgrow2 HO1.out HG1.out.size); obtain ⟨A6, c6, rfl⟩ := own_slice hown2; rw [← HBc.out] at hown2; have HRd := Lib.hid (own_rd hown2); have HCp := Lib.hid (own_cap hown2); clear hown2 hgrow2))
        refine (H5.out A6 c6 w5 HCp.out HRd.out).mono ?_
        rintro e w6 ⟨A7, c7, rfl, -, hr7, B7⟩
        have HG3 := Lib.hid (HG2.out.trans (B7.mono HG2.out.size))
        have HX := Lib.hid (G1.out.on HG3.out)
        have HY := Lib.hid (G2.out.on HG3.out)
        have HZ := Lib.hid hr7
        have HB2 := Lib.hid (HB.out.trans (HG3.out.mono HB.out.size))
        clear B7 hr7
        go_wp2_with (first | (at_builtin; refine app8w (by first | rfl | simp [Region.wanted, yielded]) _ _ rfl w6.heap.size _ 0 _ rfl (own_lit0n w6 _ (Nat.le_refl _)) A1 x.length c1 (nc x) rfl (HX.out.on (one_below w6 _)) (nc_length x) (nc_one x) G1n.out (by omega) (by simp) ?_; intro v3 w7 hown3 hgrow3; rw [Nat.zero_add, List.nil_append] at hown3; have HG4 : Hid (Below w6.heap.size w6 w7) := ((Below.refl _ w6).alloc (Nat.le_refl _) _).trans (grown_below8 hgrow3 (own_lit0n w6 _ (Nat.le_refl _)) (by simp)); obtain ⟨A8, c8, rfl⟩ := own_slice25 hown3; have HO3 := Lib.hid hown3; clear hown3 hgrow3) | (at_builtin; refine app8w (by first | rfl | simp [Region.wanted, yielded]) _ _ rfl w6.heap.size _ x.length _ rfl HO3.out A2 y.length c2 (nc y) rfl (HY.out.on HG4.out) (nc_length y) (nc_one y) G2n.out (by omega) HG4.out.size ?_; intro v4 w8 hown4 hgrow4; have HG5 : Hid (Below w6.heap.size w6 w8) := HG4.out.trans (grown_below8 hgrow4 HO3.out HG4.out.size); obtain ⟨A9, c9, rfl⟩ := own_slice25 hown4; rw [← nc_append] at hown4; have HRn := Lib.hid (own_rdv hown4); clear hown4 hgrow4))
        refine (H4.out A7 A9 c7 c9 w8 (HZ.out.on HG5.out) HRn.out).mono ?_
        rintro e w9 ⟨rfl, B9⟩
        have HB3 := Lib.hid (HB2.out.trans ((HG5.out.trans (B9.mono HG5.out.size)).mono HB2.out.size))
        clear B9
        go_wp2
        go_ret
        exact ⟨rfl, HB3.out⟩
    · have H1 : Hid (∀ w, Rd w w.heap.size A bs0 → Calls Try.prog 29 #[.slice A bs0.length c] w (AllP w (allR bs0).1 (allR bs0).2)) := fun w h => all_any bs0 _ rfl hn ha A c hc w h _ _ rfl
      have H2 : Hid (∀ w, Rd w w.heap.size B bs → Calls Try.prog 29 #[.slice B bs.length d] w (AllP w (allR bs).1 (allR bs).2)) := fun w h => all_any bs _ rfl hm hb B d hd w h _ _ rfl
      have t2 : ((allR bs).2 != 0) = true := by simpa using e2
      have HZ := Lib.hid e1
      rw [e1] at H1
      clear e1 e2
      generalize (allR bs).2 = eb at *
      generalize (allR bs).1 = rb at *
      generalize (allR bs0).1 = ra at *
      go_enter Try.func9, Try.ntmps9
      go_wp2_with fail
      refine (H1.out w HA.out).mono ?_
      rintro e w1_ ⟨A1, c1, rfl, hn1, hr1, Bq⟩
      replace HA := Lib.hid (HA.out.on Bq)
      replace HBs := Lib.hid (HBs.out.on Bq)
      have HB := Lib.hid Bq
      clear Bq
      have G1 := Lib.hid hr1; clear hr1
      have G1n := Lib.hid hn1; clear hn1
      go_wp2_with fail
      refine (H2.out w1_ HBs.out).mono ?_
      rintro e w2_ ⟨A2, c2, rfl, hn2, hr2, Bq⟩
      replace HA := Lib.hid (HA.out.on Bq)
      replace HBs := Lib.hid (HBs.out.on Bq)
      replace G1 := Lib.hid (G1.out.on Bq)
      replace HB := Lib.hid (HB.out.trans (Bq.mono HB.out.size))
      clear Bq
      have G2 := Lib.hid hr2; clear hr2
      have G2n := Lib.hid hn2; clear hn2
      go_wp2_with fail
      refine (vbegun_true w2_).mono ?_
      rintro e w3_ ⟨rfl, Bq⟩
      replace HA := Lib.hid (HA.out.on Bq)
      replace HBs := Lib.hid (HBs.out.on Bq)
      replace G1 := Lib.hid (G1.out.on Bq)
      replace G2 := Lib.hid (G2.out.on Bq)
      replace HB := Lib.hid (HB.out.trans (Bq.mono HB.out.size))
      clear Bq
      go_wp2
      go_ret
      exact ⟨rfl, HB.out⟩
  · have H1 := Lib.hid (fun w h => all_any bs0 _ rfl hn ha A c hc w h [] _ (allR_bad bs0 e1))
    have H2 : Hid (∀ w, Rd w w.heap.size B bs → Calls Try.prog 29 #[.slice B bs.length d] w (AllP w (allR bs).1 (allR bs).2)) := fun w h => all_any bs _ rfl hm hb B d hd w h _ _ rfl
    have t1 : ((allR bs0).2 != 0) = true := by simpa using e1
    have t2 : ((allR bs0).2 == 0) = false := by simpa using e1
    clear e1
    generalize (allR bs).2 = eb at *
    generalize (allR bs).1 = rb at *
    generalize (allR bs0).2 = ea at *
    go_enter Try.func9, Try.ntmps9
    go_wp2_with fail
    refine (H1.out w HA.out).mono ?_
    rintro e w1_ ⟨A1, c1, rfl, hn1, hr1, Bq⟩
    replace HA := Lib.hid (HA.out.on Bq)
    replace HBs := Lib.hid (HBs.out.on Bq)
    have HB := Lib.hid Bq
    clear Bq
    have G1 := Lib.hid hr1; clear hr1
    have G1n := Lib.hid hn1; clear hn1
    go_wp2_with fail
    refine (H2.out w1_ HBs.out).mono ?_
    rintro e w2_ ⟨A2, c2, rfl, hn2, hr2, Bq⟩
    replace HA := Lib.hid (HA.out.on Bq)
    replace HBs := Lib.hid (HBs.out.on Bq)
    replace G1 := Lib.hid (G1.out.on Bq)
    replace HB := Lib.hid (HB.out.trans (Bq.mono HB.out.size))
    clear Bq
    have G2 := Lib.hid hr2; clear hr2
    have G2n := Lib.hid hn2; clear hn2
    go_wp2_with fail
    refine (vbegun_true w2_).mono ?_
    rintro e w3_ ⟨rfl, Bq⟩
    replace HA := Lib.hid (HA.out.on Bq)
    replace HBs := Lib.hid (HBs.out.on Bq)
    replace G1 := Lib.hid (G1.out.on Bq)
    replace G2 := Lib.hid (G2.out.on Bq)
    replace HB := Lib.hid (HB.out.trans (Bq.mono HB.out.size))
    clear Bq
    go_wp2
    go_ret
    exact ⟨rfl, HB.out⟩
end Go.Proofs.Ytjogccpnhcnedaa
