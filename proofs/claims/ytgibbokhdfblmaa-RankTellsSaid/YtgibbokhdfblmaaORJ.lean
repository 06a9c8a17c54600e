/- The document's own building of an index. -/
import Derived.Test.YtgibbokhdfblmaaORef
import Derived.Deep.RegionLaw
import Derived.Maps.AppendAt
import Derived.Test.YtgibbokhdfblmaaOBy
namespace Go.Proofs.Ytgibbokhdfblmaa

section
set_option maxRecDepth 100000
set_option linter.unusedVariables false
open Go.RowKit Go.Shelf

theorem w64_small (q : Nat) (h : q ≤ 1000000) : wrap64 (q : Int) = (q : Int) := by unfold wrap64; omega
theorem wi_small (q : Nat) (h : q ≤ 1000000) : IntKind.i64.wrap (q : Int) = (q : Int) := by rw [IntKind.wrap_i64]; omega
/-- At each round's head: j numbers lie in a row of the call's own. -/
def RbRel (w7 : World) (X : Nat) (l : List Bool) (e : Nat) (a : Value) (wr : World) : Prop :=
  ∃ j : Nat, j ≤ l.length / e + 1 ∧ a = .int .i64 (j : Int) ∧
    ∃ v, wr.heap[X]? = some (.cells #[.int .i64 (e : Int), v] 45 (0, 0)) ∧ wr.ownsRow (X + 1) 3 1 v j (zc (ns ((bx l e).take j))) ∧ Below X w7 wr ∧ w7.heap.size ≤ wr.heap.size
attribute [local go_sem] Oper.semAt_some
/-- An append to a list of the call's own, at a step of a region that draws its order. -/
theorem app_ob {w : World} {ops : Array Oper} {o : Oper} {a : Act} {K : Act → World → Prop} {Q : Exit → Act → World → Prop} {E : Prop} (hgd : o.guard = none) (s x : Operand)
    (ho : o.op = .call { callee := .builtin .append, args := #[s, x], argTypes := #[38, 38] }) (base : Nat)
    (v : Value) (n : Nat) (xs : List Value) (hs : a.eval s = v) (hown : w.ownsRow base 3 1 v n xs)
    (ad : Addr) (y : Value) (hx : a.eval x = .slice (some ad) 1 1) (hc : w.cell? ad = some y) (h1 : y.oneCell' = true)
    (hb : n ≤ 1000000) (hbase : base ≤ w.heap.size)
    (h : ∀ v' w', w'.ownsRow base 3 1 v' (n + 1) (xs ++ [y]) → w.grownBy w' v.ownBlock → (v'.ownBlock = v.ownBlock ∨ v'.ownBlock = some w.heap.size) → K (a.put o.dst v') w') : if Region.wanted o (yielded ops a.tmps) = true then Oper.wp Try.prog o a w K Q else E := by
  have hw : Region.wanted o (yielded ops a.tmps) = true := by simp [Region.wanted, hgd]
  rw [if_pos hw]
  obtain ⟨i0, hi, hz0, hz1, hz2⟩ := info_parts info3
  obtain ⟨v', w', hrun, h2, h3, _, h4⟩ := run_append_own_at (P := Try.prog) w base 38 o.type 3 i0 (.int .i64 0) 1 8 Try.underlying38 hi hz0 hz1 hz2 rfl (by decide) v n xs hown ad 1 1 [y] rfl (fun j u hj => by
    cases j with
    | zero => simp at hj; subst hj; have : ad.add 0 = ad := by obtain ⟨b, f, s⟩ := ad; unfold Addr.add; split <;> simp_all
              rw [this]; exact hc
    | succ j => simp at hj) (by simpa using h1) (by unfold maxLen; omega) (by omega) hbase
  unfold Oper.wp execOp
  simp only [ho, resolve, invoke, builtin, Sem.run_bind, Sem.run_pure, Result.andThen_ok, List.map_toArray, List.map_cons, List.map_nil, hs, hx, hrun]
  exact h v' w' h2 h3 h4
set_option maxHeartbeats 4000000 in
theorem rbuild_ok (l : List Bool) (hl : l.length ≤ 8192) (A : Option Addr) (c e : Nat) (he : 1 ≤ e) (he2 : e ≤ 64) (w : World) (h : Rd w w.heap.size A (pack l)) :
    Calls Try.prog 36 #[.agg #[.int .i64 (l.length : Int), .slice A (pack l).length c], .int .i64 (e : Int)] w (IxP w (e : Int) (ns (bx l e)) 0) := by
  have HC : Hid (∀ V, Below w.heap.size w V → Calls Try.prog 32 #[.agg #[.int .i64 (l.length : Int), .slice A (pack l).length c]] V fun e w' => e = .returned (.int .i64 0) ∧ Below V.heap.size V w') := fun V hV => by
    have := rcheck_any (l.length : Int) A c (pack l) (pack_lt l) V (h.on hV)
    rwa [chk_pack l hl] at this
  have HL : Hid (∀ V, Below w.heap.size w V → Calls Try.prog 22 #[.agg #[.int .i64 (l.length : Int), .slice A (pack l).length c]] V (Listed V l)) := fun V hV =>
    bitList_any l.length hl A (pack l).length c (pack l) rfl (by rw [pack_length]; omega) (pack_lt l) V (h.on hV) l (unpack_pack l).symm
  obtain ⟨i0, hi, hz0, hz1, hz2⟩ := info_parts info3
  clear h
  go_enter Try.func36, Try.ntmps36
  go_wp2_with fail
  have hlow : Below w.heap.size w ((w.alloc (.cells #[.int .i64 (l.length : Int), .slice A (pack l).length c] 25)).alloc (.cells #[.int .i64 0, .slice none 0 0] 45)) := up2 w _ _
  have hsz : ((w.alloc (.cells #[.int .i64 (l.length : Int), .slice A (pack l).length c] 25)).alloc (.cells #[.int .i64 0, .slice none 0 0] 45)).heap.size = w.heap.size + 2 := two_size w _ _
  have hb : ((w.alloc (.cells #[.int .i64 (l.length : Int), .slice A (pack l).length c] 25)).alloc (.cells #[.int .i64 0, .slice none 0 0] 45)).heap[w.heap.size]? = some (.cells #[.int .i64 (l.length : Int), .slice A (pack l).length c] 25 (0, 0)) := (Below.heap_alloc _ _ _ (by simp)).trans (World.alloc_heap_new w _)
  have hr : ((w.alloc (.cells #[.int .i64 (l.length : Int), .slice A (pack l).length c] 25)).alloc (.cells #[.int .i64 0, .slice none 0 0] 45)).heap[w.heap.size + 1]? = some (.cells #[.int .i64 0, .slice none 0 0] 45 (0, 0)) := two_new w _ _
  generalize ((w.alloc (.cells #[.int .i64 (l.length : Int), .slice A (pack l).length c] 25)).alloc (.cells #[.int .i64 0, .slice none 0 0] 45)) = V0 at *
  have HV := Lib.hid hlow; clear hlow
  refine (HC.out V0 HV.out).mono ?_
  rintro e w5 ⟨rfl, B5⟩
  have HK1 := Lib.hid B5; clear B5
  go_wp2_with fail
  refine (between_yes (e : Int) 1 64 (by omega) w5).mono ?_
  rintro e w5' ⟨rfl, rfl⟩
  have hb5 := (HK1.out.block _ (by omega)).trans hb
  obtain ⟨d0, d1, -, -⟩ := cells2 hb5
  clear hb5
  go_wp2_with fail
  refine (HL.out w5 (HV.out.trans (HK1.out.mono (by omega)))).mono ?_
  rintro e w6 ⟨A2, c2, rfl, R2, B6⟩
  clear d0 d1
  have HK2 : Hid (Below V0.heap.size V0 w6) := HK1.out.trans (B6.mono HK1.out.size); clear B6
  have HRL := Lib.hid (own_rdv R2); clear R2
  have hr6 := (HK2.out.block _ (by omega)).trans hr
  have hb6 := (HK2.out.block _ (by omega)).trans hb
  have HB6 : Hid (Below w.heap.size w w6) := HV.out.trans (HK2.out.mono HV.out.size)
  have hz6 : w.heap.size + 2 ≤ w6.heap.size := by have := HK2.out.size; omega
  obtain ⟨r0, r1, k0, k1⟩ := cells2 hr6
  obtain ⟨d0, d1, -, -⟩ := cells2 hb6
  clear hr hb hsz
  have hs6 : w.heap.size < w6.heap.size := by omega
  have HX6 := Lib.hid (World.alloc_heap_new w6 (.cells #[.int .i64 (e : Int), .slice none 0 0] 45))
  obtain ⟨X, hX⟩ : ∃ X, w6.heap.size = X := ⟨_, rfl⟩
  obtain ⟨w7, hw7⟩ : ∃ w7, w7 = w6.alloc (.cells #[.int .i64 (e : Int), .slice none 0 0] 45) := ⟨_, rfl⟩
  have H7 : Hid (w7.heap.size = X + 1 ∧ Below w.heap.size w w7 ∧ w7.heap[X]? = some (.cells #[.int .i64 (e : Int), .slice none 0 0] 45 (0, 0)) ∧ w7.heap[w.heap.size]? = some (.cells #[.int .i64 (l.length : Int), .slice A (pack l).length c] 25 (0, 0)) ∧ w7.heap[w.heap.size + 1]? = some (.cells #[.int .i64 0, .slice none 0 0] 45 (0, 0)) ∧ w.heap.size + 2 ≤ X) := by
    refine ⟨by rw [hw7, World.size_alloc, hX], by rw [hw7]; exact HB6.out.trans ((one_below w6 _).mono HB6.out.size), by rw [hw7, ← hX]; exact HX6.out, ?_, ?_, by omega⟩
    · rw [hw7, (one_below w6 _).block _ (by omega)]; exact hb6
    · rw [hw7, (one_below w6 _).block _ (by omega)]; exact hr6
  have HE7 := Lib.hid hw7
  have HXX := Lib.hid hX
  have HL7 : Hid (Below w6.heap.size w6 w7) := by rw [hw7]; exact one_below w6 _
  clear hb6 hr6 HX6 hw7 hX r0 r1 k0 k1 d0 d1
  go_wp2_with fail
  rw [← HE7.out, HXX.out]
  go_loopw [9] (fun a wr => RbRel w7 X l e a wr) (fun a _ => l.length + 65 - (intOf a).toNat)
  case atStart => exact ⟨0, Nat.zero_le _, rfl, .slice none 0 0, H7.out.2.2.1, ⟨rfl, .inl ⟨rfl, rfl⟩⟩, Below.refl _ _, Nat.le_refl _⟩
  case round =>
    obtain ⟨j, hj, rfl, v, hblk, hrow, hbel, hsz⟩ := hrel
    obtain ⟨Av, cv, rfl⟩ := own_slice3 hrow
    have hb := (hbel.block w.heap.size (by have := H7.out.2.2.2.2.2; omega)).trans H7.out.2.2.2.1
    have hr := (hbel.block (w.heap.size + 1) (by have := H7.out.2.2.2.2.2; omega)).trans H7.out.2.2.2.2.1
    obtain ⟨d0, d1, -, -⟩ := cells2 hb
    obtain ⟨x0, x1, y0, y1⟩ := cells2 hblk
    have hjn0 : l.length / e ≤ 8192 := Nat.le_trans (Nat.div_le_self _ _) hl
    have hjm : j * e ≤ 8193 * 64 := Nat.mul_le_mul (by omega) he2
    have HRLw : Hid (RdV wr wr.heap.size A2 (ic l)) := HRL.out.on (Below.trans HL7.out (hbel.mono (by rw [HXX.out]; exact Nat.le_refl _)))
    by_cases hle : j ≤ l.length / e
    · have hql : j * e ≤ l.length := (mul_le_len l e j he).2 hle
      have HTk := Lib.hid (bx_take_succ l e j hle)
      have hcl : cnt (l.take (j * e)) ≤ 8192 := Nat.le_trans (cnt_take_all l _) (Nat.le_trans (cnt_le l) hl)
      have hqi : (j : Int) * (e : Int) = ((j * e : Nat) : Int) := by simp
      generalize hq : j * e = q at *
      have HQ := Lib.hid hq; clear hq
      generalize hca : cnt (l.take q) = ca at *
      have HCA := Lib.hid hca; clear hca
      have HBlk := Lib.hid hblk; clear hblk
      have HBel := Lib.hid hbel; clear hbel
      have HSz := Lib.hid hsz; clear hsz
      have HBb := Lib.hid hb; clear hb hr
      have hjn : j ≤ 8192 := Nat.le_trans hle hjn0
      have tq : decide ((q : Int) ≤ (l.length : Int)) = true := by simp; omega
      have tq2 : decide (q ≤ l.length) = true := by simp; omega
      have hq8 : q ≤ 8192 := Nat.le_trans hql hl
      have HWq : Hid (IntKind.i64.wrap (q : Int) = (q : Int)) := wi_small q (by omega)
      have hZ : w.heap.size + 2 ≤ wr.heap.size := by have := HSz.out; have := H7.out; omega
      have hXs : X < wr.heap.size := by have := HSz.out; have := H7.out.1; omega
      have HOA : Hid (∀ V, Below wr.heap.size wr V → Calls Try.prog 34 #[.slice A2 l.length c2, .int .i64 (IntKind.i64.wrap (q : Int))] V fun e w' => e = .returned (.int .i64 (ca : Int)) ∧ Below V.heap.size V w') := fun V hV => by rw [HWq.out]; exact oa_any l l.length rfl hl q hql ca HCA.out A2 c2 V (HRLw.out.on hV)
      have HRow := Lib.hid hrow
      go_wp2_with fail
      have z1 : (wr.alloc (.cells #[.int .i64 (ca : Int)] 3)).cell? ⟨X, 1, none⟩ = some (.slice Av j cv) := ((one_below wr _).cell (p := ⟨X, 1, none⟩) hXs).trans x1
      go_region_law
        ((first
          | (go_simp; go_at_call 34; refine (HOA.out _ (by first | exact (Below.refl _ wr).drew | exact Below.refl _ wr)).mono ?_; rintro e w4 ⟨rfl, B4⟩; have HK4 : Hid (Below wr.heap.size wr w4) := ((Below.refl _ wr).drew).trans B4; have hblk4 := (HK4.out.block X hXs).trans HBlk.out; have HBlk4 := Lib.hid hblk4; obtain ⟨x0, x1, y0, y1⟩ := cells2 hblk4; have hs4 : X < w4.heap.size := Nat.lt_of_lt_of_le hXs HK4.out.size; have z4 : (w4.alloc (.cells #[.int .i64 (ca : Int)] 3)).cell? ⟨X, 1, none⟩ = some (.slice Av j cv) := ((one_below w4 _).cell (p := ⟨X, 1, none⟩) hs4).trans x1; clear B4 hblk4)
          | (refine app_ob (by rfl) (.tmp 36) (.tmp 42) (by rfl) (X + 1) (.slice Av j cv) j (zc (ns ((bx l e).take j))) (by rfl) ((own_below HRow.out HK4.out).alloc _) ⟨w4.heap.size, 0, none⟩ (.int .i64 (ca : Int)) (by rfl) (box_cell (World.alloc_heap_new w4 _)) rfl (by omega) (by have := hs4; show _ ≤ (w4.alloc _).heap.size; simp; omega) ?_; intro v' w3 hown' hgrow hloc; obtain ⟨g', cap', rfl⟩ := ownsRow_succ hown'; obtain ⟨⟨e1, e2⟩, HF⟩ := bd_step HBlk4.out (own_below HRow.out HK4.out) (HBel.out.trans (HK4.out.mono (by have := H7.out.1; omega))) (by have := H7.out.1; omega) (Nat.le_trans HSz.out HK4.out.size) hgrow hown'; clear hgrow hown' hloc)))
      all_goals (
        clear x0 x1 y0 y1 z1 z4 e1 e2
        go_wp2
        go_roundw
        case rel =>
          obtain ⟨F1, F2, F3, F4⟩ := HF.out
          refine ⟨j + 1, by omega, by go_num, _, F1, ?_, F3, F4⟩
          have e1 : ns ((bx l e).take (j + 1)) = ns ((bx l e).take j) ++ [(ca : Int)] := by rw [HTk.out]; simp [ns]
          rw [e1, zc_append]
          exact F2
        case measure => have hdl := Nat.div_le_self l.length e; have hjl : j ≤ l.length := Nat.le_trans hle hdl; simp [intOf]; omega)
    · have hje : j = l.length / e + 1 := by omega
      have hge : l.length < j * e := by
        rcases Nat.lt_or_ge l.length (j * e) with h | h
        · exact h
        · exact absurd ((mul_le_len l e j he).1 h) hle
      have hpt : (bx l e).take j = bx l e := List.take_of_length_le (by rw [bx_length]; omega)
      rw [hpt] at hrow
      have hjl : j = (ns (bx l e)).length := by rw [ns_length, bx_length]; exact hje
      rw [hjl] at hrow x1
      have hlow : Below w.heap.size w wr := H7.out.2.1.trans (hbel.mono (by have := H7.out.2.2.2.2.2; omega))
      obtain ⟨r0, r1, k0, k1⟩ := cells2 hr
      have HF : Hid (IxP w (e : Int) (ns (bx l e)) 0 (.returned (.tuple #[.agg #[.int .i64 (e : Int), .slice Av (ns (bx l e)).length cv], .int .i64 0])) ((wr.setCell ⟨w.heap.size + 1, 0, none⟩ (.int .i64 (e : Int))).setCell ⟨w.heap.size + 1, 1, none⟩ (.slice Av (ns (bx l e)).length cv))) := by
        refine ⟨Av, cv, rfl, ?_, (hlow.setCell (p := ⟨w.heap.size + 1, 0, none⟩) (by simp only; omega) _).setCell (p := ⟨w.heap.size + 1, 1, none⟩) (by simp only; omega) _⟩
        have o2 := (hrow.kept (grown_set wr (w.heap.size + 1) 0 (.int .i64 (e : Int))) (.inr (by
          rcases Av with _ | ⟨g, o, f⟩
          · simp [Value.ownBlock]
          · simp [Value.ownBlock]; have := (hrow.lt g (by simp [Value.ownBlock])).1; have := H7.out.2.2.2.2.2; omega))).kept (grown_set _ (w.heap.size + 1) 1 (.slice Av (ns (bx l e)).length cv)) (.inr (by
          rcases Av with _ | ⟨g, o, f⟩
          · simp [Value.ownBlock]
          · simp [Value.ownBlock]; have := (hrow.lt g (by simp [Value.ownBlock])).1; have := H7.out.2.2.2.2.2; omega))
        exact own_rdv o2
      have tq : decide (((j * e : Nat) : Int) ≤ (l.length : Int)) = false := by simp; omega
      have tq2 : decide (j * e ≤ l.length) = false := by simp; omega
      have hqi : (j : Int) * (e : Int) = ((j * e : Nat) : Int) := by simp

      clear hrow hblk hbel hb hr hlow hpt hje hge hle hjl
      generalize (ns (bx l e)).length = m at *
      generalize j * e = q at *
      generalize cnt (l.take q) = ca at *
      go_wp2
      exact bodyPost_ret (v := .tuple #[.agg #[.int .i64 (e : Int), .slice Av m cv], .int .i64 0]) (by simp [results, Try.results36, go_sem, r0, r1]) rfl HF.out
end

section
set_option maxRecDepth 100000
set_option linter.unusedVariables false
open Go.RowKit Go.Shelf

set_option maxHeartbeats 4000000 in
theorem rb_c (len : Int) (A : Option Addr) (c : Nat) (N : Nat) (e ec : Int) (w : World) (t0 : (ec == 0) = false) (t1 : (ec != 0) = true)
    (HC : Hid (∀ V, Below w.heap.size w V → Calls Try.prog 32 #[.agg #[.int .i64 len, .slice A N c]] V fun e w' => e = .returned (.int .i64 ec) ∧ Below V.heap.size V w')) :
    Calls Try.prog 36 #[.agg #[.int .i64 len, .slice A N c], .int .i64 e] w (IxP w 0 [] ec) := by
  go_enter Try.func36, Try.ntmps36
  go_wp2_with fail
  have hlow : Below w.heap.size w ((w.alloc (.cells #[.int .i64 len, .slice A N c] 25)).alloc (.cells #[.int .i64 0, .slice none 0 0] 45)) := up2 w _ _
  have hsz : ((w.alloc (.cells #[.int .i64 len, .slice A N c] 25)).alloc (.cells #[.int .i64 0, .slice none 0 0] 45)).heap.size = w.heap.size + 2 := two_size w _ _
  have hb : ((w.alloc (.cells #[.int .i64 len, .slice A N c] 25)).alloc (.cells #[.int .i64 0, .slice none 0 0] 45)).heap[w.heap.size]? = some (.cells #[.int .i64 len, .slice A N c] 25 (0, 0)) := (Below.heap_alloc _ _ _ (by simp)).trans (World.alloc_heap_new w _)
  have hr : ((w.alloc (.cells #[.int .i64 len, .slice A N c] 25)).alloc (.cells #[.int .i64 0, .slice none 0 0] 45)).heap[w.heap.size + 1]? = some (.cells #[.int .i64 0, .slice none 0 0] 45 (0, 0)) := two_new w _ _
  generalize ((w.alloc (.cells #[.int .i64 len, .slice A N c] 25)).alloc (.cells #[.int .i64 0, .slice none 0 0] 45)) = V0 at *
  have HV := Lib.hid hlow; clear hlow
  refine (HC.out V0 HV.out).mono ?_
  rintro e' w6 ⟨rfl, B5⟩
  have HK2 := Lib.hid B5; clear B5
  have hr6 := (HK2.out.block _ (by omega)).trans hr
  have HB6 : Hid (Below w.heap.size w w6) := HV.out.trans (HK2.out.mono HV.out.size)
  have hz6 : w.heap.size + 2 ≤ w6.heap.size := by have := HK2.out.size; omega
  obtain ⟨r0, r1, k0, k1⟩ := cells2 hr6
  clear hr hb hsz
  clear hr6 HK2
  go_wp2
  refine bodyPost_ret (v := .tuple #[.agg #[.int .i64 0, .slice none 0 0], .int .i64 ec]) (by simp [results, Try.results36, go_sem, r0, r1]) rfl ⟨none, 0, rfl, .inl rfl, ?_⟩
  exact (HB6.out.setCell (p := ⟨w.heap.size + 1, 0, none⟩) (by simp only; omega) _).setCell (p := ⟨w.heap.size + 1, 1, none⟩) (by simp only; omega) _
set_option maxHeartbeats 4000000 in
theorem rb_r (len : Int) (A : Option Addr) (c : Nat) (N : Nat) (e ec : Int) (w : World) (t0 : ec = 0) (hno : ¬ (1 ≤ e ∧ e ≤ 64))
    (HC : Hid (∀ V, Below w.heap.size w V → Calls Try.prog 32 #[.agg #[.int .i64 len, .slice A N c]] V fun e w' => e = .returned (.int .i64 ec) ∧ Below V.heap.size V w')) :
    Calls Try.prog 36 #[.agg #[.int .i64 len, .slice A N c], .int .i64 e] w (IxP w 0 [] 3) := by
  go_enter Try.func36, Try.ntmps36
  go_wp2_with fail
  have hlow : Below w.heap.size w ((w.alloc (.cells #[.int .i64 len, .slice A N c] 25)).alloc (.cells #[.int .i64 0, .slice none 0 0] 45)) := up2 w _ _
  have hsz : ((w.alloc (.cells #[.int .i64 len, .slice A N c] 25)).alloc (.cells #[.int .i64 0, .slice none 0 0] 45)).heap.size = w.heap.size + 2 := two_size w _ _
  have hb : ((w.alloc (.cells #[.int .i64 len, .slice A N c] 25)).alloc (.cells #[.int .i64 0, .slice none 0 0] 45)).heap[w.heap.size]? = some (.cells #[.int .i64 len, .slice A N c] 25 (0, 0)) := (Below.heap_alloc _ _ _ (by simp)).trans (World.alloc_heap_new w _)
  have hr : ((w.alloc (.cells #[.int .i64 len, .slice A N c] 25)).alloc (.cells #[.int .i64 0, .slice none 0 0] 45)).heap[w.heap.size + 1]? = some (.cells #[.int .i64 0, .slice none 0 0] 45 (0, 0)) := two_new w _ _
  generalize ((w.alloc (.cells #[.int .i64 len, .slice A N c] 25)).alloc (.cells #[.int .i64 0, .slice none 0 0] 45)) = V0 at *
  have HV := Lib.hid hlow; clear hlow
  refine (HC.out V0 HV.out).mono ?_
  rintro e' w6 ⟨rfl, B5⟩
  have HK2 := Lib.hid B5; clear B5
  subst t0
  go_wp2_with fail
  refine (between_no e 1 64 hno w6).mono ?_
  rintro e' w6' ⟨rfl, rfl⟩
  have hr6 := (HK2.out.block _ (by omega)).trans hr
  have HB6 : Hid (Below w.heap.size w w6) := HV.out.trans (HK2.out.mono HV.out.size)
  have hz6 : w.heap.size + 2 ≤ w6.heap.size := by have := HK2.out.size; omega
  obtain ⟨r0, r1, k0, k1⟩ := cells2 hr6
  clear hr hb hsz
  clear hr6 HK2
  go_wp2
  refine bodyPost_ret (v := .tuple #[.agg #[.int .i64 0, .slice none 0 0], .int .i64 3]) (by simp [results, Try.results36, go_sem, r0, r1]) rfl ⟨none, 0, rfl, .inl rfl, ?_⟩
  exact (HB6.out.setCell (p := ⟨w.heap.size + 1, 0, none⟩) (by simp only; omega) _).setCell (p := ⟨w.heap.size + 1, 1, none⟩) (by simp only; omega) _
/-- Build of the document's fails as the program's does. -/
theorem rbuild_e (len : Int) (A : Option Addr) (c : Nat) (bs : List Nat) (hb : ∀ b ∈ bs, b < 256) (e e0 : Int) (he : bdE len bs e = e0) (h0 : e0 ≠ 0) (w : World) (h : Rd w w.heap.size A bs) :
    Calls Try.prog 36 #[.agg #[.int .i64 len, .slice A bs.length c], .int .i64 e] w (IxP w 0 [] e0) := by
  have HC : Hid (∀ V, Below w.heap.size w V → Calls Try.prog 32 #[.agg #[.int .i64 len, .slice A bs.length c]] V fun e w' => e = .returned (.int .i64 (chk len bs)) ∧ Below V.heap.size V w') := fun V hV => rcheck_any len A c bs hb V (h.on hV)
  by_cases h1 : chk len bs = 0
  · have hno : ¬ (1 ≤ e ∧ e ≤ 64) := fun hq => h0 (by
      rw [← he]; unfold bdE rgE; rw [h1, decide_eq_true hq.1, decide_eq_true hq.2]; simp)
    have h3 : e0 = 3 := by
      rw [← he]; unfold bdE rgE
      rw [h1, if_pos]
      refine ⟨rfl, ?_⟩
      by_cases q1 : 1 ≤ e
      · have q2 : ¬ e ≤ 64 := fun q => hno ⟨q1, q⟩
        rw [decide_eq_false q2]; simp
      · rw [decide_eq_false q1]; simp
    subst h3
    exact rb_r len A c bs.length e (chk len bs) w h1 hno HC
  · have h3 : e0 = chk len bs := by
      rw [← he]; unfold bdE rgE
      rw [if_neg (fun q => h1 q.1)]
    subst h3
    exact rb_c len A c bs.length e (chk len bs) w (by simpa using h1) (by simpa using h1) HC
end

section
set_option maxRecDepth 100000
set_option linter.unusedVariables false
open Go.RowKit Go.Shelf

theorem samei_len (w : World) (A B : Option Addr) (n m c d : Nat) (hl : n ≠ m) :
    Calls Try.prog 38 #[.slice A n c, .slice B m d] w fun e w' => e = .returned (.bool false) ∧ Below w.heap.size w w' := by
  have h1 : ((n : Int) != (m : Int)) = true := by simp; omega
  clear hl
  go_enter Try.func38, Try.ntmps38
  go_wp2
  go_ret
  exact ⟨rfl, Below.refl _ _⟩
theorem samei_any (w : World) (A B : Option Addr) (c d : Nat) (xs ys : List Int) (h2 : xs.length ≤ 9223372036854775807) (hA : RdV w w.heap.size A (zc xs)) (hB : RdV w w.heap.size B (zc ys)) :
    Calls Try.prog 38 #[.slice A xs.length c, .slice B ys.length d] w fun e w' => e = .returned (.bool (decide (xs = ys))) ∧ Below w.heap.size w w' := by
  by_cases h : xs.length = ys.length
  · rw [← h]; exact same_ints w A B c d xs ys xs.length rfl h.symm h2 hA hB
  · have e : decide (xs = ys) = false := by rw [decide_eq_false_iff_not]; intro he; exact h (by rw [he])
    rw [e]
    exact samei_len w A B _ _ c d h
set_option maxHeartbeats 2000000 in
theorem rrcheck_ix (len : Int) (A : Option Addr) (c : Nat) (bs : List Nat) (hb : ∀ b ∈ bs, b < 256) (ev : Int) (xs : List Int) (hx : xs.length ≤ 9223372036854775807) (A2 : Option Addr) (c2 : Nat) (w : World) (HBuild : Hid (∀ V, Below w.heap.size w V → Calls Try.prog 36 #[.agg #[.int .i64 len, .slice A bs.length c], .int .i64 ev] V (IxP V (bdX len bs ev).1 (bdX len bs ev).2 (bdE len bs ev)))) (h2 : RdV w w.heap.size A2 (zc xs)) :
    Calls Try.prog 33 #[.agg #[.int .i64 len, .slice A bs.length c], .agg #[.int .i64 ev, .slice A2 xs.length c2]] w fun e w' => e = .returned (.int .i64 (ckI len bs ev xs)) ∧ Below w.heap.size w w' := by
  have HBd : Hid (∀ V, Below w.heap.size w V → Calls Try.prog 36 #[.agg #[.int .i64 len, .slice A bs.length c], .int .i64 ev] V (IxP V (bdX len bs ev).1 (bdX len bs ev).2 (bdE len bs ev))) := HBuild
  have HX2 := Lib.hid h2
  have HSl : Hid (∀ A3 c3 V, Below w.heap.size w V → RdV V V.heap.size A3 (zc (bdX len bs ev).2) → Calls Try.prog 38 #[.slice A2 xs.length c2, .slice A3 (bdX len bs ev).2.length c3] V fun e w' => e = .returned (.bool (decide (xs = (bdX len bs ev).2))) ∧ Below V.heap.size V w') := fun A3 c3 V hV h3 => samei_any V A2 A3 c2 c3 xs _ hx (h2.on hV) h3
  unfold ckI
  clear h2 hb HBuild
  generalize bdE len bs ev = e0 at *
  generalize (bdX len bs ev).1 = ev2 at *
  generalize (bdX len bs ev).2 = ys at *
  obtain ⟨de, hde⟩ : ∃ de, decide (xs = ys) = de := ⟨_, rfl⟩
  rw [hde] at HSl
  have hif : (if xs = ys then (0 : Int) else 4) = if de = true then 0 else 4 := by
    by_cases h : xs = ys
    · rw [if_pos h, if_pos (by rw [← hde]; simpa using h)]
    · rw [if_neg h, if_neg (by rw [← hde]; simpa using h)]
  rw [hif]
  clear hif hde
  obtain ⟨r, hrr⟩ : ∃ r, (if e0 = 0 then (if de = true then 0 else 4) else e0) = r := ⟨_, rfl⟩
  rw [hrr]
  have HRR := Lib.hid hrr; clear hrr
  generalize xs.length = n2 at *
  generalize bs.length = N at *
  have HYL : Hid (ys.length = ys.length) := rfl
  go_enter Try.func33, Try.ntmps33
  go_wp2_with fail
  have hlow : Below w.heap.size w ((w.alloc (.cells #[.int .i64 len, .slice A N c] 25)).alloc (.cells #[.int .i64 ev, .slice A2 n2 c2] 45)) := up2 w _ _
  have hsz : ((w.alloc (.cells #[.int .i64 len, .slice A N c] 25)).alloc (.cells #[.int .i64 ev, .slice A2 n2 c2] 45)).heap.size = w.heap.size + 2 := two_size w _ _
  have hr : ((w.alloc (.cells #[.int .i64 len, .slice A N c] 25)).alloc (.cells #[.int .i64 ev, .slice A2 n2 c2] 45)).heap[w.heap.size + 1]? = some (.cells #[.int .i64 ev, .slice A2 n2 c2] 45 (0, 0)) := two_new w _ _
  generalize ((w.alloc (.cells #[.int .i64 len, .slice A N c] 25)).alloc (.cells #[.int .i64 ev, .slice A2 n2 c2] 45)) = V0 at *
  refine (HBd.out V0 hlow).mono ?_
  rintro x w5 ⟨A3, c3, rfl, R3, B5⟩
  have hr5 := (B5.block _ (by omega)).trans hr
  have hz5 : w.heap.size + 1 < w5.heap.size := by have := B5.size; omega
  have HB5 : Hid (Below w.heap.size w w5) := hlow.trans (B5.mono (by omega))
  obtain ⟨r0, r1, -, -⟩ := cells2 hr5
  have HR3 := Lib.hid R3
  clear R3 B5 hr5 hr hsz hlow
  by_cases h0 : e0 = 0
  · subst h0
    rw [if_pos rfl] at HRR
    have n5 := World.alloc_heap_new w5 (.cells #[.int .i64 ev2, .slice A3 ys.length c3] 45)
    have b5 := one_below w5 (.cells #[.int .i64 ev2, .slice A3 ys.length c3] 45)
    have HS5 := Lib.hid (HSl.out A3 c3 _ (HB5.out.trans (b5.mono HB5.out.size)) (HR3.out.on b5))
    have HB6 : Hid (Below w.heap.size w (w5.alloc (.cells #[.int .i64 ev2, .slice A3 ys.length c3] 45))) := HB5.out.trans (b5.mono HB5.out.size)
    clear n5 b5
    generalize ys.length = m at *
    cases de
    · go_wp2_with fail
      refine HS5.out.mono ?_
      rintro x w6 ⟨rfl, B6⟩
      have HB7 : Hid (Below w.heap.size w w6) := HB6.out.trans (B6.mono HB6.out.size)
      clear B6
      go_wp2
      go_ret
      exact ⟨ret_i64 (by have := HRR.out; simpa using this), HB7.out⟩
    · go_wp2_with fail
      refine HS5.out.mono ?_
      rintro x w6 ⟨rfl, B6⟩
      have HB7 : Hid (Below w.heap.size w w6) := HB6.out.trans (B6.mono HB6.out.size)
      clear B6
      go_wp2
      go_ret
      exact ⟨ret_i64 (by have := HRR.out; simpa using this), HB7.out⟩
  · rw [if_neg h0] at HRR
    have t0 : (e0 == 0) = false := by simpa using h0
    clear h0
    generalize ys.length = m at *
    go_wp2
    go_ret
    exact ⟨ret_i64 HRR.out, HB5.out.trans ((one_below w5 _).mono HB5.out.size)⟩
end

section
set_option maxRecDepth 100000
set_option linter.unusedVariables false
open Go.RowKit Go.Shelf

theorem rbuild_any (len : Int) (A : Option Addr) (c : Nat) (bs : List Nat) (hb : ∀ b ∈ bs, b < 256) (e : Int) (w : World) (h : Rd w w.heap.size A bs) :
    Calls Try.prog 36 #[.agg #[.int .i64 len, .slice A bs.length c], .int .i64 e] w (IxP w (bdX len bs e).1 (bdX len bs e).2 (bdE len bs e)) := by
  unfold bdX
  by_cases h0 : bdE len bs e = 0
  · rw [if_pos h0, h0]
    obtain ⟨l, rfl, hl, rfl, q, rfl, h1, h2⟩ := bdE_zero hb h0
    rw [Int.toNat_natCast, Int.toNat_natCast, unpack_pack]
    exact rbuild_ok l hl A c q h1 h2 w h
  · rw [if_neg h0]
    exact rbuild_e len A c bs hb e _ rfl h0 w h
theorem rrcheck_any (len : Int) (A : Option Addr) (c : Nat) (bs : List Nat) (hb : ∀ b ∈ bs, b < 256) (ev : Int) (xs : List Int) (hx : xs.length ≤ 9223372036854775807) (A2 : Option Addr) (c2 : Nat) (w : World) (h : Rd w w.heap.size A bs) (h2 : RdV w w.heap.size A2 (zc xs)) :
    Calls Try.prog 33 #[.agg #[.int .i64 len, .slice A bs.length c], .agg #[.int .i64 ev, .slice A2 xs.length c2]] w fun e w' => e = .returned (.int .i64 (ckI len bs ev xs)) ∧ Below w.heap.size w w' :=
  rrcheck_ix len A c bs hb ev xs hx A2 c2 w (Lib.hid fun V hV => rbuild_any len A c bs hb ev V (h.on hV)) h2
/-- What By answers. -/
def byN (len : Int) (bs : List Nat) (ev : Int) (xs : List Int) (p : Int) : Nat := if byE len bs ev xs p = 0 then cnt ((unpack len.toNat bs).take p.toNat) else 0
theorem ckI_zero {len : Int} {bs : List Nat} {ev : Int} {xs : List Int} (h : ckI len bs ev xs = 0) : bdE len bs ev = 0 ∧ xs = (bdX len bs ev).2 := by
  unfold ckI at h
  by_cases h0 : bdE len bs ev = 0
  · rw [if_pos h0] at h
    by_cases h1 : xs = (bdX len bs ev).2
    · exact ⟨h0, h1⟩
    · rw [if_neg h1] at h; cases h
  · rw [if_neg h0] at h; exact absurd h h0
theorem by_any (len : Int) (A : Option Addr) (c : Nat) (bs : List Nat) (hb : ∀ b ∈ bs, b < 256) (ev : Int) (xs : List Int) (hx : xs.length ≤ 9223372036854775807) (A2 : Option Addr) (c2 : Nat) (p : Int) (w : World) (h : Rd w w.heap.size A bs) (h2 : RdV w w.heap.size A2 (zc xs)) :
    Calls Try.prog 31 #[.agg #[.int .i64 len, .slice A bs.length c], .agg #[.int .i64 ev, .slice A2 xs.length c2], .int .i64 p] w (RkP w (byN len bs ev xs p) (byE len bs ev xs p)) := by
  unfold byN
  by_cases h0 : byE len bs ev xs p = 0
  · rw [if_pos h0, h0]
    obtain ⟨h3, h4⟩ := rgE_zero h0
    obtain ⟨h5, h6⟩ := ckI_zero h3
    obtain ⟨l, rfl, hl, rfl, q, rfl, hq1, hq2⟩ := bdE_zero hb h5
    simp at h4
    obtain ⟨p', rfl⟩ := Int.eq_ofNat_of_zero_le h4.1
    unfold bdX at h6
    rw [if_pos h5, Int.toNat_natCast, Int.toNat_natCast, unpack_pack] at h6
    simp only at h6
    subst h6
    rw [Int.toNat_natCast, Int.toNat_natCast, unpack_pack]
    exact by_ok l hl A c q hq1 hq2 A2 c2 p' (by omega) w h h2
  · rw [if_neg h0]
    exact by_e len A c bs hb ev xs hx A2 c2 p _ rfl h0 w h h2
end
end Go.Proofs.Ytgibbokhdfblmaa
