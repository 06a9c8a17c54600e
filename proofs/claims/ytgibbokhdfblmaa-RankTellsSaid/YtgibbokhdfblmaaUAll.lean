/- What All of unary answers, for whatever bits and however many it is asked for. -/
import Derived.Test.YtgibbokhdfblmaaUAllA
namespace Go.Proofs.Ytgibbokhdfblmaa
open Go.RowKit Go.Shelf

attribute [local go_sem] Oper.semAt_some

set_option maxHeartbeats 400000 in
theorem all_bad (len : Int) (A : Option Addr) (c : Nat) (bs : List Nat) (p : Int) (w : World) (hb : ∀ b ∈ bs, b < 256) (h : Rd w w.heap.size A bs) (hc : chk len bs ≠ 0) :
    Calls Try.prog 18 #[.agg #[.int .i64 len, .slice A bs.length c], .int .i64 p] w (AllP w [] 0 (chk len bs)) := by
  have HC := Lib.hid (check_two len A c bs p w hb h)
  have HU := Lib.hid (up2 w (.cells #[.int .i64 len, .slice A bs.length c] 25) (.cells #[.int .i64 p] 3))
  have hcb : (chk len bs != 0) = true := by simpa using hc
  clear hc hb h
  generalize chk len bs = e0 at *
  generalize bs.length = nn at *
  go_enter Try.func18, Try.ntmps18
  go_wp2_with (go_at_call 43; refine HC.out.mono ?_; rintro e w1 ⟨rfl, hq⟩; obtain ⟨hc1, hf1⟩ := old_cells hq)
  go_ret3
  exact ⟨none, 0, rfl, .inl rfl, HU.out.trans (hq.mono (by omega))⟩

set_option maxHeartbeats 400000 in
theorem all_range (l : List Bool) (hl : l.length ≤ 8192) (A : Option Addr) (c : Nat) (p : Int) (w : World) (h : Rd w w.heap.size A (pack l)) (hp : p < 0 ∨ 8192 < p) :
    Calls Try.prog 18 #[.agg #[.int .i64 (l.length : Int), .slice A (pack l).length c], .int .i64 p] w (AllP w [] 0 3) := by
  have hc0 := check_two (l.length : Int) A c (pack l) p w (pack_lt l) h
  rw [chk_pack l hl] at hc0
  have HC := Lib.hid hc0; clear hc0 h
  have HU := Lib.hid (up2 w (.cells #[.int .i64 (l.length : Int), .slice A (pack l).length c] 25) (.cells #[.int .i64 p] 3))
  generalize (pack l).length = nn at *
  generalize l.length = ln at *
  have hp2 : p < 0 ∨ (0 ≤ p ∧ 8192 < p) := by omega
  clear hp
  rcases hp2 with hp | ⟨hp0, hp⟩
  · have t1 : decide (p < 0) = true := by simp; omega
    go_enter Try.func18, Try.ntmps18
    go_wp2_with (go_at_call 43; refine HC.out.mono ?_; rintro e w1 ⟨rfl, hq⟩; obtain ⟨hc1, hf1⟩ := old_cells hq)
    go_ret3
    exact ⟨none, 0, rfl, .inl rfl, HU.out.trans (hq.mono (by omega))⟩
  · have t1 : decide (p < 0) = false := by simp; omega
    have t2 : decide (8192 < p) = true := by simp; omega
    go_enter Try.func18, Try.ntmps18
    go_wp2_with (go_at_call 43; refine HC.out.mono ?_; rintro e w1 ⟨rfl, hq⟩; obtain ⟨hc1, hf1⟩ := old_cells hq)
    go_ret3
    exact ⟨none, 0, rfl, .inl rfl, HU.out.trans (hq.mono (by omega))⟩

set_option maxRecDepth 100000 in
set_option maxHeartbeats 2000000 in
theorem all_in (l : List Bool) (hl : l.length ≤ 8192) (A : Option Addr) (c : Nat) (m : Nat) (w : World) (h : Rd w w.heap.size A (pack l)) (hm : m ≤ 8192) (rn : List Nat) (rt : Nat) (re : Int)
    (hr : ((pos 0 l).length < m ∧ rn = [] ∧ rt = 0 ∧ re = 7) ∨ (m ≤ (pos 0 l).length ∧ rn = gaps 0 ((pos 0 l).take m) ∧ rt = aft ((pos 0 l).take m) ∧ re = 0)) :
    Calls Try.prog 18 #[.agg #[.int .i64 (l.length : Int), .slice A (pack l).length c], .int .i64 (m : Int)] w (AllP w rn rt re) := by
  have hc0 := check_two (l.length : Int) A c (pack l) (m : Int) w (pack_lt l) h
  rw [chk_pack l hl] at hc0
  have HC := Lib.hid hc0; clear hc0
  have HU := Lib.hid (up2 w (.cells #[.int .i64 (l.length : Int), .slice A (pack l).length c] 25) (.cells #[.int .i64 (m : Int)] 3))
  have HM : Hid (((w.alloc (.cells #[.int .i64 (l.length : Int), .slice A (pack l).length c] 25)).alloc (.cells #[.int .i64 (m : Int)] 3)).heap[w.heap.size + 1]? = some (.cells #[.int .i64 (m : Int)] 3)) := two_new w _ _
  have HR := Lib.hid h; clear h
  have HP := Lib.hid hr; clear hr
  obtain ⟨i0, hi, hz0, hz1, hz2⟩ := info_parts info25
  have t1 : decide ((m : Int) < 0) = false := by simp
  have t2 : decide (8192 < (m : Int)) = false := by simp; omega
  refine (callsIn_wide (n := 4)).1 ?_
  refine callsIn_of_wp_marks Try.func18 rfl trivial ?_ rfl
  simp only [Try.ntmps18, List.size_toArray, List.length_cons, List.length_nil, Nat.reduceAdd, Nat.reduceSub, Array.replicate_succ, Array.replicate_zero, List.push_toArray, List.append_toArray, List.nil_append, List.cons_append]
  gi_wp2_with (first | (refine ⟨trivial, ?_⟩; gi_at_call 53; refine (of_in 3 _ _ _ _ _ _ _ _).mono ?_; rintro e w' ⟨rfl, rfl⟩) | (refine ⟨trivial, ?_⟩; gi_at_call 43; refine (callsIn_wide.2 HC.out).mono ?_; rintro e w1 ⟨rfl, hq⟩; obtain ⟨hc1, hf1⟩ := old_cells hq; have hs1 : w.heap.size + 2 ≤ w1.heap.size := (by have := hq.size; rw [show ((w.alloc _).alloc _).heap.size = w.heap.size + 2 from two_size w _ _] at this; exact this); have hs2 : w.heap.size + 1 < w1.heap.size := (by omega); have hs3 : w.heap.size < w1.heap.size := (by omega)))
  simp only [Nat.add_assoc, Nat.reduceAdd]
  have hw0 : Below w.heap.size w w1 := HU.out.trans (hq.mono (by omega))
  have bm := (hq.block (w.heap.size + 1) (by omega)).trans HM.out
  clear hc1 hf1 HU HM hq
  obtain ⟨hz, a0, a1, a2, a3, a4, a5⟩ := six w1 (.cells #[.slice none 0 0] 26) (.cells #[.int .i64 0] 3) (.cells #[.int .i64 (l.length : Int), .slice A (pack l).length c] 25) (.cells #[.int .u64 1] 22) (.cells #[.int .i64 0] 3) (.cells #[.int .i64 (l.length : Int)] 3)
  have hup : Below w1.heap.size w1 ((((((w1.alloc (.cells #[.slice none 0 0] 26)).alloc (.cells #[.int .i64 0] 3)).alloc (.cells #[.int .i64 (l.length : Int), .slice A (pack l).length c] 25)).alloc (.cells #[.int .u64 1] 22)).alloc (.cells #[.int .i64 0] 3)).alloc (.cells #[.int .i64 (l.length : Int)] 3)) := ((((up2 w1 _ _).alloc (by simp only [World.size_alloc]; omega) _).alloc (by simp only [World.size_alloc]; omega) _).alloc (by simp only [World.size_alloc]; omega) _).alloc (by simp only [World.size_alloc]; omega) _
  generalize ((((((w1.alloc (.cells #[.slice none 0 0] 26)).alloc (.cells #[.int .i64 0] 3)).alloc (.cells #[.int .i64 (l.length : Int), .slice A (pack l).length c] 25)).alloc (.cells #[.int .u64 1] 22)).alloc (.cells #[.int .i64 0] 3)).alloc (.cells #[.int .i64 (l.length : Int)] 3)) = w5 at *
  replace bm := (hup.block _ (by omega)).trans bm
  have hlow : Below w.heap.size w w5 := hw0.trans (hup.mono (by omega))
  clear hup hw0
  have hvis : ∀ k, akept w1.heap.size k → k < w5.heap.size := by rintro k (h | h | h | h) <;> omega
  refine wpIn_rangeFunc_ownG rfl (by decide) (gf := 83) (lb := #[.pointer (some ⟨w1.heap.size + 4, 0, none⟩), .pointer (some ⟨w1.heap.size + 5, 0, none⟩), .pointer (some ⟨w1.heap.size + 2, 0, none⟩), .pointer (some ⟨w1.heap.size + 3, 0, none⟩)]) rfl trivial (enters_of Try.func83 (by kernel_rfl) rfl)
    (of_stops 3 (by decide) (w1.heap.size + 4) (w1.heap.size + 5) (w1.heap.size + 2) (w1.heap.size + 3) w.heap.size c A (akept w1.heap.size) l hl true 0 l.length (Nat.zero_le _) (Nat.le_refl _) (.inr (.inr (.inr rfl))) (.inr (.inl rfl)) (.inr (.inr (.inl rfl))) (fun k hk => .inl (by omega)) w5 hvis (by omega) (by omega)
      (box_cell a4) (box_cell a5) (box_cell a3) (blk_cells a2).1 (blk_cells a2).2.1 (HR.out.below hlow (Nat.le_refl _)))
    (fun h k => keepS_t h k) (keepS_b hvis) (Below.refl _ _) (fun _ => rfl)
    (fun pre X => (pre.length ≤ m ∧ ARow X w1.heap.size pre ∧ Boxed X (w1.heap.size + 1) 3 (.int .i64 (aft pre : Int))) ∧ (Fr (akept w1.heap.size) w5 X ∧ w5.heap.size ≤ X.heap.size))
    (fun cd pre X => (cd = .exit 0 ∧ ∃ p0 x, pre = p0 ++ [x] ∧ p0.length = m ∧ ARow X w1.heap.size p0 ∧ Boxed X (w1.heap.size + 1) 3 (.int .i64 (aft p0 : Int))) ∧ (Fr (akept w1.heap.size) w5 X ∧ w5.heap.size ≤ X.heap.size))
    (OwnFrom.and (Own.from (fun s X Y row hs hg hr => ⟨hs.1, aRow_own _ s X Y row hs.2.1 hg hr, box_own _ 3 (fun s : List Nat => .int .i64 (aft s : Int)) s X Y row hs.2.2 hg hr⟩) _) (fr_own _ w5 w5.heap.size (Nat.le_refl _) hvis))
    (fun cd => OwnFrom.and (Own.from (fun s X Y row hs hg hr => by
      obtain ⟨h1, p0, x, h2, h3, h4, h5⟩ := hs
      exact ⟨h1, p0, x, h2, h3, aRow_own _ p0 X Y row h4 hg hr, box_own _ 3 (fun s : List Nat => .int .i64 (aft s : Int)) p0 X Y row h5 hg hr⟩) _) (fr_own _ w5 w5.heap.size (Nat.le_refl _) hvis))
    ⟨⟨Nat.zero_le _, ⟨.slice none 0 0, a0, ⟨rfl, .inl ⟨rfl, rfl⟩⟩⟩, a1⟩, Fr.refl _ _, Nat.le_refl _⟩
    ?a1 ?assign ?body ?done ?stop
  case assign =>
    intro lp x X K hK
    gi_wp2
    exact hK
  case body =>
    rintro lp pre x X ⟨⟨hpm, ⟨v, hbv, hrow⟩, hba⟩, hfr, hzz⟩ hlt
    obtain ⟨Av, cv, rfl⟩ := own_slice25 hrow
    have cm : X.cell? ⟨w.heap.size + 1, 0, none⟩ = some (.int .i64 (m : Int)) := box_cell ((hfr.block _ (.inl (by omega))).trans bm)
    have cv1 := hbv.cell
    have fv1 := hbv.frozen
    have ca1 := hba.cell
    have fa1 := hba.frozen
    have hal := aft_le pre
    have hcl := clamp0_le x
    by_cases hfull : pre.length = m
    · have t3 : ((pre.length : Int) == (m : Int)) = true := by simp; omega
      have HFU := Lib.hid hfull; clear hfull
      gi_wp2
      exact ⟨KeepsFrom.refl _ _, ⟨rfl, pre, x, rfl, HFU.out, ⟨_, hbv, hrow⟩, hba⟩, hfr, hzz⟩
    · have t3 : ((pre.length : Int) == (m : Int)) = false := by simp; omega
      have hlm : pre.length < m := by omega
      clear hfull
      have HSN := Lib.hid (gaps_snoc0 pre x)
      have HAS := Lib.hid (aft_snoc pre x)
      generalize hcx : clamp 0 x = cx at *
      generalize hpa : aft pre = pa at *
      have HCX := Lib.hid hcx; clear hcx
      have HPA := Lib.hid hpa; clear hpa
      obtain ⟨g, hgw, hgg⟩ := gap_wrap pa cx hal hcl
      have HGG := Lib.hid hgg; clear hgg
      have hXs : w1.heap.size ≤ X.heap.size := by omega
      gi_wp2_with (gi_at_builtin; refine wpListIn_append_own _ rfl _ _ 26 rfl (w1.heap.size + 6) 22 i0 (.int .u64 0) 1 8 Try.underlying26 hi hz0 hz1 hz2 rfl (by decide) _ _ _ rfl (hrow.alloc _) ⟨X.heap.size, 0, none⟩ 1 1 [.int .u64 (g : Int)] rfl rfl (cell_one_new _ _ _) (by simp [Value.oneCell']) (by unfold maxLen; omega) (by omega) (by simp; omega) ?_; intro v' w3 hown' hgrow _; obtain ⟨g', cap', rfl⟩ := ownsRow_succ hown'; obtain ⟨e1, e2, e3, e4, HE⟩ := all_step (cx := cx) hbv hba hrow hgrow hown' hXs (by omega) hzz; clear hgrow)
      obtain ⟨E1, E2, E3, E4⟩ := HE.out
      refine ⟨E4.others.from _, ⟨E4.block, E4.size⟩, ⟨by simp; omega, ⟨_, E1, ?_⟩, ?_⟩, hfr.trans E4, Nat.le_trans hzz E4.size⟩
      · rw [HSN.out, HGG.out, nc_append, List.length_append]
        exact E2
      · rw [HAS.out]
        exact E3
  case done =>
    rintro D ys X hD rfl ⟨⟨hpm, ⟨v, hbv, hrow⟩, hba⟩, hfr, hzz⟩ hK
    rw [vis_all l 0 l.length rfl, List.drop_zero] at hpm hrow hba
    obtain ⟨Av, cv, rfl⟩ := own_slice25 hrow
    have HR3 : Hid (RdV (X.putObj D (.deferred none)) (X.putObj D (.deferred none)).heap.size Av (nc (gaps 0 (pos 0 l)))) := own_rdv (ownsRow_putObj hrow _ hK rfl)
    have HL : Hid (Below w.heap.size w (X.putObj D (.deferred none))) := (hlow.trans (hfr.below (fun j hj => .inl (by omega)))).trans (belowK_b (w := w) (Nat.le_refl _) _ D _ _ (by omega) hK rfl rfl)
    have cm : X.cell? ⟨w.heap.size + 1, 0, none⟩ = some (.int .i64 (m : Int)) := box_cell ((hfr.block _ (.inl (by omega))).trans bm)
    have cv1 := hbv.cell
    have ca1 := hba.cell
    rcases HP.out with ⟨h, rfl, rfl, rfl⟩ | ⟨h, rfl, rfl, rfl⟩
    · have t3 : decide (((pos 0 l).length : Int) < (m : Int)) = true := by simp; omega
      clear hpm hrow
      gi_wp2
      refine ⟨by simp, .inl ⟨_, _, rfl, run_takeDeferred hK, ?_⟩⟩
      refine ⟨.tuple #[.slice none 0 0, .int .i64 0, .int .i64 7], ?_, none, 0, rfl, .inl rfl, HL.out⟩
      simp [results, Try.results18, go_sem]
    · have t3 : decide (((pos 0 l).length : Int) < (m : Int)) = false := by simp; omega
      have HTK : Hid ((pos 0 l).take m = pos 0 l) := List.take_of_length_le (by omega)
      have hgl := gaps_length (pos 0 l) 0
      have HGL := Lib.hid hgl; clear hgl hpm hrow
      gi_wp2
      gi_region
      gi_wp2
      refine ⟨by simp, .inl ⟨_, _, rfl, run_takeDeferred (w := X.drew) hK, ?_⟩⟩
      rw [HTK.out]
      refine ⟨.tuple #[.slice Av (gaps 0 (pos 0 l)).length cv, .int .i64 (aft (pos 0 l) : Int), .int .i64 0], ?_, Av, cv, rfl, HR3.out, ⟨HL.out.os, HL.out.tape, HL.out.output, HL.out.size, HL.out.block⟩⟩
      rw [HGL.out]
      simp [results, Try.results18, go_sem]
  case stop =>
    rintro D cd pre X hD hpre ⟨⟨rfl, p0, x, rfl, hp0, ⟨v, hbv, hrow⟩, hba⟩, hfr, hzz⟩ hK
    rw [vis_all l 0 l.length rfl, List.drop_zero] at hpre
    have hp1 : p0 <+: pos 0 l := (List.prefix_append p0 [x]).trans hpre
    have hpe : p0 = (pos 0 l).take m := by rw [List.prefix_iff_eq_take.1 hp1, hp0]
    have hpl : m ≤ (pos 0 l).length := by rw [← hp0]; exact hp1.length_le
    obtain ⟨Av, cv, rfl⟩ := own_slice25 hrow
    have HR3 : Hid (RdV (X.putObj D (.deferred none)) (X.putObj D (.deferred none)).heap.size Av (nc (gaps 0 p0))) := own_rdv (ownsRow_putObj hrow _ hK rfl)
    have HL : Hid (Below w.heap.size w (X.putObj D (.deferred none))) := (hlow.trans (hfr.below (fun j hj => .inl (by omega)))).trans (belowK_b (w := w) (Nat.le_refl _) _ D _ _ (by omega) hK rfl rfl)
    have cm : X.cell? ⟨w.heap.size + 1, 0, none⟩ = some (.int .i64 (m : Int)) := box_cell ((hfr.block _ (.inl (by omega))).trans bm)
    have cv1 := hbv.cell
    have ca1 := hba.cell
    rcases HP.out with ⟨h, _⟩ | ⟨h, rfl, rfl, rfl⟩
    · omega
    · have t3 : decide ((p0.length : Int) < (m : Int)) = false := by simp; omega
      have HPE := Lib.hid hpe
      have hgl := gaps_length p0 0
      have hge : m ≤ p0.length := by omega
      have HGL := Lib.hid hgl; clear hgl hpe hpl hp1 hpre hrow hp0
      gi_wp2
      gi_region
      gi_wp2
      refine ⟨by simp, .inl ⟨_, _, rfl, run_takeDeferred (w := X.drew) hK, ?_⟩⟩
      rw [← HPE.out]
      refine ⟨.tuple #[.slice Av (gaps 0 p0).length cv, .int .i64 (aft p0 : Int), .int .i64 0], ?_, Av, cv, rfl, HR3.out, ⟨HL.out.os, HL.out.tape, HL.out.output, HL.out.size, HL.out.block⟩⟩
      rw [HGL.out]
      simp [results, Try.results18, go_sem]

end Go.Proofs.Ytgibbokhdfblmaa
