/- The law EliasTells, all its ways together. -/
import Derived.Test.YtcacbekdghlncaaETells
import Derived.Test.YtcacbekdghlncaaZZeta
import Derived.Test.YtcacbekdghlncaaGApart
namespace Go.Proofs.Ytcacbekdghlncaa

section
set_option maxRecDepth 100000
set_option linter.unusedVariables false
open Go.RowKit

theorem same_hid (l : List Bool) (hl : l.length ≤ 8192) : Hid (∀ (A1 A2 : Option Addr) (c1 c2 : Nat) (V : World), Rd V V.heap.size A1 (pack l) → Rd V V.heap.size A2 (pack l) → Calls Try.prog 28 #[.agg #[.int .i64 (l.length : Int), .slice A1 (pack l).length c1], .agg #[.int .i64 (l.length : Int), .slice A2 (pack l).length c2]] V fun e w' => e = .returned (.bool true) ∧ Below V.heap.size V w') :=
  fun A1 A2 c1 c2 V h1 h2 => same_l l hl A1 A2 c1 c2 V h1 h2
theorem bl_cap (l : List Bool) (hl : l.length ≤ 8192) (A : Option Addr) (c : Nat) (V : World) (h : Rd V V.heap.size A (pack l)) :
    Calls Try.prog 24 #[.agg #[.int .i64 (l.length : Int), .slice A (pack l).length c]] V fun e w' => ∃ A c, e = .returned (.slice A l.length c) ∧ RdV w' w'.heap.size A (ic l) ∧ Below V.heap.size V w' ∧ (A = none → c = 0) ∧ l.length ≤ c :=
  (bitList_any l.length hl A (pack l).length c (pack l) rfl (by rw [pack_length]; omega) (pack_lt l) V h l (unpack_pack l).symm).mono fun _ _ ⟨A', c', h1, h2, h3⟩ => ⟨A', c', h1, own_rdv h2, h3, own_none h2, own_cap h2⟩
theorem lst_rd {L : List Bool} {f : FuncId} {args : Array Value} {V : World} (h : Calls Try.prog f args V (Listed V L)) :
    Calls Try.prog f args V fun e w' => ∃ A c, e = .returned (.slice A L.length c) ∧ RdV w' w'.heap.size A (ic L) ∧ Below V.heap.size V w' :=
  h.mono fun _ _ ⟨A', c', h1, h2, h3⟩ => ⟨A', c', h1, own_rdv h2, h3⟩
theorem pk_rd (l : List Bool) (hl : l.length ≤ 8192) (A : Option Addr) (c : Nat) (V : World) (h : RdV V V.heap.size A (ic l)) :
    Calls Try.prog 20 #[.slice A l.length c] V fun e w' => ∃ A c, e = .returned (.agg #[.int .i64 (l.length : Int), .slice A (pack l).length c]) ∧ Rd w' w'.heap.size A (pack l) ∧ Below V.heap.size V w' :=
  packBits_any l l.length rfl hl A c V h

theorem etells_law (n : Nat) (len : Int) (A : Option Addr) (c : Nat) (bs : List Nat) (p : Int) (w : World) (hn : n < 18446744073709551616) (hb : ∀ b ∈ bs, b < 256) (hA : Rd w w.heap.size A bs) (_ : -9223372036854775808 ≤ p ∧ p ≤ 9223372036854775807) :
    Calls Try.prog 3 #[.int .u64 (n : Int), .agg #[.int .i64 len, .slice A bs.length c], .int .i64 p] w fun e w' => e = .returned (.bool true) ∧ Below w.heap.size w w' := by
  -- the reading
  have key : (∃ e0 : Int, e0 ≠ 0 ∧ (∀ V, Rd V V.heap.size A bs → Calls Try.prog 17 #[.agg #[.int .i64 len, .slice A bs.length c], .int .i64 p] V (ReadP V 0 0 e0)) ∧ (∀ V, Rd V V.heap.size A bs → Calls Try.prog 18 #[.agg #[.int .i64 len, .slice A bs.length c], .int .i64 p] V (ReadP V 0 0 e0)) ∧ rdE len bs p = e0) ∨
      (∃ (l : List Bool) (s : Nat), len = (l.length : Int) ∧ bs = pack l ∧ p = (s : Int) ∧ l.length ≤ 8192 ∧ s ≤ l.length) := by
    by_cases hc : chk len bs = 0
    · obtain ⟨l, rfl, hl, rfl⟩ := chk_zero len bs hb hc
      by_cases hp : p < 0 ∨ (l.length : Int) < p
      · left
        exact ⟨3, by decide, fun V h => rgamma_bad _ A c _ p 3 (by decide) (fun V h => read_range l hl A c p V h hp) V h, fun V h => rdelta_bad _ A c _ p 3 (by decide) (fun V h => read_range l hl A c p V h hp) V h, by unfold rdE; rw [if_neg (by omega), if_pos hp]⟩
      · right
        obtain ⟨s, rfl⟩ := Int.eq_ofNat_of_zero_le (show 0 ≤ p by omega)
        exact ⟨l, s, rfl, rfl, rfl, hl, by omega⟩
    · left
      exact ⟨chk len bs, hc, fun V h => rgamma_bad _ A c _ p _ hc (fun V h => read_bad len A c bs p V hb h hc) V h, fun V h => rdelta_bad _ A c _ p _ hc (fun V h => read_bad len A c bs p V hb h hc) V h, by unfold rdE; rw [if_pos hc]⟩
  by_cases hbig : 1099511627776 < n
  · rcases key with ⟨e0, h0, k1, k2, k3⟩ | ⟨l, s, rfl, rfl, rfl, hl, hs⟩
    · exact etells_bb w (n : Int) len A c bs.length bs p hA e0 h0 (by omega) (fun V => gamma_e n hbig V) (fun V => delta_e n hbig V) k1 k2 (fun V => long_e n hbig V) (fun V h => readErr_any len A c bs p V hb h e0 k3) (same_hid [] (by decide)) (same_hid [] (by decide))
    · exact etells_bo w (n : Int) (l.length : Int) A c (pack l).length (pack l) (s : Int) hA (gamR l s).1 (gamR l s).2.1 (delR l s).1 (delR l s).2.1 l.length (gamR l s).2.2 (delR l s).2.2 l (by omega) (fun V => gamma_e n hbig V) (fun V => delta_e n hbig V) (fun V h => rgamma_l l hl A c s hs V h) (fun V h => rdelta_l l hl A c s hs V h) (fun V => long_e n hbig V) (fun V h => readErr_any _ A c _ _ V (pack_lt l) h 0 (by unfold rdE; rw [chk_pack l hl, if_neg (by omega), if_neg (by omega)])) (same_hid [] (by decide)) (same_hid [] (by decide))
        (fun V h => bl_cap l hl A c V h) (fun A c V h h1 h2 => gammaRead_any l l.length rfl hl A c s hs h1 h2 _ rfl V h) (fun A c V h h1 h2 => deltaRead_any l l.length rfl hl A c s hs h1 h2 _ rfl V h)
  · have hn' : n ≤ 1099511627776 := by omega
    have k40 := lg_lt_of n 41 (by omega)
    have k6 := lg_lt_of (lg n) 6 (by omega)
    have l1 : (gam n).length ≤ 8192 := by rw [gam_length]; omega
    have l2 : (del n).length ≤ 8192 := by rw [del_length]; omega
    rcases key with ⟨e0, h0, k1, k2, k3⟩ | ⟨l, s, rfl, rfl, rfl, hl, hs⟩
    · exact etells_ob w (n : Int) len A c bs.length bs p hA ((gam n).length : Int) ((del n).length : Int) (pack (gam n)).length (pack (del n)).length (gam n).length (del n).length (pack (gam n)) (pack (del n)) (gam n) (del n) e0 h0 (by omega) (fun V => gamma_ok n hn' _ rfl V) (fun V => delta_ok n hn' _ rfl V) k1 k2 (fun V => long_ok n hn' _ _ rfl rfl V) (fun V h => readErr_any len A c bs p V hb h e0 k3)
        (fun V => lst_rd (gammaList_any n hn' _ rfl V)) (fun A c V h => pk_rd _ l1 A c V h) (fun V => lst_rd (deltaList_any n hn' _ rfl V)) (fun A c V h => pk_rd _ l2 A c V h) (same_hid _ l1) (same_hid _ l2)
    · exact etells_oo w (n : Int) (l.length : Int) A c (pack l).length (pack l) (s : Int) hA ((gam n).length : Int) ((del n).length : Int) (pack (gam n)).length (pack (del n)).length (gam n).length (del n).length (pack (gam n)) (pack (del n)) (gam n) (del n) (gamR l s).1 (gamR l s).2.1 (delR l s).1 (delR l s).2.1 l.length (gamR l s).2.2 (delR l s).2.2 l (by omega) (fun V => gamma_ok n hn' _ rfl V) (fun V => delta_ok n hn' _ rfl V) (fun V h => rgamma_l l hl A c s hs V h) (fun V h => rdelta_l l hl A c s hs V h) (fun V => long_ok n hn' _ _ rfl rfl V) (fun V h => readErr_any _ A c _ _ V (pack_lt l) h 0 (by unfold rdE; rw [chk_pack l hl, if_neg (by omega), if_neg (by omega)]))
        (fun V => lst_rd (gammaList_any n hn' _ rfl V)) (fun A c V h => pk_rd _ l1 A c V h) (fun V => lst_rd (deltaList_any n hn' _ rfl V)) (fun A c V h => pk_rd _ l2 A c V h) (same_hid _ l1) (same_hid _ l2)
        (fun V h => bl_cap l hl A c V h) (fun A c V h h1 h2 => gammaRead_any l l.length rfl hl A c s hs h1 h2 _ rfl V h) (fun A c V h h1 h2 => deltaRead_any l l.length rfl hl A c s hs h1 h2 _ rfl V h)
end

section
set_option maxRecDepth 100000
set_option linter.unusedVariables false
open Go.RowKit

theorem rcE_rdE (len : Int) (bs : List Nat) (p : Int) (ok : Bool) (h : rdE len bs p ≠ 0) : rcE len bs p ok = rdE len bs p := by
  unfold rcE rdE at *
  by_cases hc : chk len bs = 0
  · have hn : ¬ (chk len bs ≠ 0) := fun h => h hc
    rw [if_neg hn] at h ⊢
    rw [if_neg hn]
    by_cases hp : p < 0 ∨ len < p
    · rw [if_pos hp, if_pos]
      rcases hp with hp | hp
      · exact .inl hp
      · exact .inr (.inl hp)
    · rw [if_neg hp] at h; exact absurd rfl h
  · rw [if_pos hc, if_pos hc]
theorem rcE_no (len : Int) (bs : List Nat) (p : Int) (h : rdE len bs p = 0) : rcE len bs p false = 3 := by
  unfold rcE rdE at *
  by_cases hc : chk len bs = 0
  · rw [if_neg (fun h => h hc), if_pos (.inr (.inr rfl))]
  · rw [if_pos hc] at h; exact absurd h hc
theorem rdE_zero (len : Int) (bs : List Nat) (p : Int) (hb : ∀ b ∈ bs, b < 256) (h : rdE len bs p = 0) : ∃ (l : List Bool) (s : Nat), len = (l.length : Int) ∧ bs = pack l ∧ p = (s : Int) ∧ l.length ≤ 8192 ∧ s ≤ l.length := by
  unfold rdE at h
  by_cases hc : chk len bs = 0
  · rw [if_neg (fun h => h hc)] at h
    obtain ⟨l, rfl, hl, rfl⟩ := chk_zero len bs hb hc
    by_cases hp : p < 0 ∨ (l.length : Int) < p
    · rw [if_pos hp] at h; omega
    · obtain ⟨s, rfl⟩ := Int.eq_ofNat_of_zero_le (show 0 ≤ p by omega)
      exact ⟨l, s, rfl, rfl, rfl, hl, by omega⟩
  · rw [if_pos hc] at h; exact absurd h hc
theorem bl_only (l : List Bool) (hl : l.length ≤ 8192) (A : Option Addr) (c : Nat) (V : World) (h : Rd V V.heap.size A (pack l)) :
    Calls Try.prog 24 #[.agg #[.int .i64 (l.length : Int), .slice A (pack l).length c]] V fun e w' => ∃ A c, e = .returned (.slice A l.length c) ∧ RdV w' w'.heap.size A (ic l) ∧ Below V.heap.size V w' :=
  (bl_cap l hl A c V h).mono fun _ _ ⟨A', c', h1, h2, h3, _⟩ => ⟨A', c', h1, h2, h3⟩

theorem gzeta_law (n : Nat) (k : Int) (len : Int) (A : Option Addr) (c : Nat) (bs : List Nat) (p : Int) (w : World) (hn : n < 18446744073709551616) (_ : -9223372036854775808 ≤ k ∧ k ≤ 9223372036854775807) (hb : ∀ b ∈ bs, b < 256) (hA : Rd w w.heap.size A bs) (_ : -9223372036854775808 ≤ p ∧ p ≤ 9223372036854775807) :
    Calls Try.prog 9 #[.int .u64 (n : Int), .int .i64 k, .agg #[.int .i64 len, .slice A bs.length c], .int .i64 p] w fun e w' => e = .returned (.bool true) ∧ Below w.heap.size w w' := by
  have hbad : rdE len bs p ≠ 0 → Hid (∀ V, Rd V V.heap.size A bs → Calls Try.prog 45 #[.agg #[.int .i64 len, .slice A bs.length c], .int .i64 p, .int .i64 k] V (ReadP V 0 0 (rdE len bs p))) := fun h V hV => by
    have e := rcE_rdE len bs p (okK k) h
    have := rzeta_bad_l len A c bs p k hb (by rw [e]; exact h) V hV
    rwa [e] at this
  have herr : Hid (∀ V, Rd V V.heap.size A bs → Calls Try.prog 23 #[.agg #[.int .i64 len, .slice A bs.length c], .int .i64 p] V fun e w' => e = .returned (.int .i64 (rdE len bs p)) ∧ Below V.heap.size V w') := fun V hV => readErr_any len A c bs p V hb hV _ rfl
  by_cases hk : 1 ≤ k ∧ k ≤ 16
  · obtain ⟨j, rfl⟩ := Int.eq_ofNat_of_zero_le (show 0 ≤ k by omega)
    by_cases hn40 : n ≤ 1099511627776
    · have zl := zet_len_le n j (by omega) (by omega) hn40
      have hX : Hid (∀ V, Calls Try.prog 44 #[.int .u64 (n : Int), .int .i64 (j : Int)] V (Gv V ((zet n j).length : Int) (pack (zet n j)).length (pack (zet n j)) 0)) := fun V => zeta_ok n j (by omega) (by omega) hn40 _ rfl V
      have hZL : Hid (∀ V, Calls Try.prog 46 #[.int .u64 (n : Int), .int .i64 (j : Int)] V fun e w' => ∃ A c, e = .returned (.slice A (zet n j).length c) ∧ RdV w' w'.heap.size A (ic (zet n j)) ∧ Below V.heap.size V w') := fun V => lst_rd (zetaList_any n j (by omega) (by omega) hn40 _ rfl V)
      by_cases hr : rdE len bs p = 0
      · obtain ⟨l, s, rfl, rfl, rfl, hl, hs⟩ := rdE_zero len bs p hb hr
        rw [hr] at herr
        exact gzeta_ooo w (n : Int) (j : Int) (l.length : Int) A c (pack l).length (pack l) (s : Int) hA _ _ _ _ (zet n j) (zetR l s j).1 (zetR l s j).2.1 l.length (zetR l s j).2.2 l (by omega) (by omega) (by omega) hX (fun V hV => rzeta_l l hl j (by omega) (by omega) A c s hs V hV) herr hZL (fun A c V h => pk_rd _ zl A c V h) (same_hid _ zl) (fun V hV => bl_only l hl A c V hV) (fun A c V hV => zetaRead_any l l.length rfl hl A c s j hs (by omega) (by omega) _ rfl V hV)
      · exact gzeta_oob w (n : Int) (j : Int) len A c bs.length bs p hA _ _ _ _ (zet n j) _ hr (by omega) (by omega) (by omega) hX (hbad hr) herr hZL (fun A c V h => pk_rd _ zl A c V h) (same_hid _ zl)
    · have hX : Hid (∀ V, Calls Try.prog 44 #[.int .u64 (n : Int), .int .i64 (j : Int)] V (Gv V 0 0 [] 3)) := fun V => zeta_no n j (by omega) V
      by_cases hr : rdE len bs p = 0
      · obtain ⟨l, s, rfl, rfl, rfl, hl, hs⟩ := rdE_zero len bs p hb hr
        rw [hr] at herr
        exact gzeta_obo w (n : Int) (j : Int) (l.length : Int) A c (pack l).length (pack l) (s : Int) hA (zetR l s j).1 (zetR l s j).2.1 l.length (zetR l s j).2.2 l (by omega) (by omega) (by omega) hX (fun V hV => rzeta_l l hl j (by omega) (by omega) A c s hs V hV) herr (same_hid [] (by decide)) (fun V hV => bl_only l hl A c V hV) (fun A c V hV => zetaRead_any l l.length rfl hl A c s j hs (by omega) (by omega) _ rfl V hV)
      · exact gzeta_obb w (n : Int) (j : Int) len A c bs.length bs p hA _ hr (by omega) (by omega) (by omega) hX (hbad hr) herr (same_hid [] (by decide))
  · have hX : Hid (∀ V, Calls Try.prog 44 #[.int .u64 (n : Int), .int .i64 k] V (Gv V 0 0 [] 3)) := fun V => zeta_no n k (fun h => hk ⟨h.1, h.2.1⟩) V
    have hok : okK k = false := by unfold okK; exact decide_eq_false hk
    by_cases hr : rdE len bs p = 0
    · rw [hr] at herr
      have h3 : Hid (∀ V, Rd V V.heap.size A bs → Calls Try.prog 45 #[.agg #[.int .i64 len, .slice A bs.length c], .int .i64 p, .int .i64 k] V (ReadP V 0 0 3)) := fun V hV => by
        have e : rcE len bs p (okK k) = 3 := by rw [hok]; exact rcE_no len bs p hr
        have := rzeta_bad_l len A c bs p k hb (by rw [e]; decide) V hV
        rwa [e] at this
      by_cases hlo : k < 1
      · exact gzeta_lo w (n : Int) k len A c bs.length bs p hA hlo hX h3 herr (same_hid [] (by decide))
      · exact gzeta_ho w (n : Int) k len A c bs.length bs p hA (by omega) hX h3 herr (same_hid [] (by decide))
    · by_cases hlo : k < 1
      · exact gzeta_lb w (n : Int) k len A c bs.length bs p hA _ hr hlo hX (hbad hr) herr (same_hid [] (by decide))
      · exact gzeta_hb w (n : Int) k len A c bs.length bs p hA _ hr (by omega) hX (hbad hr) herr (same_hid [] (by decide))
end

section
open Go.ChangeShapes Go.WideShapes Go.ChangeAt Go.RowKit
open Go.ChangeMaps (open_string shut_string)

set_option linter.unusedVariables false
set_option maxRecDepth 100000 in
theorem golombZeta_lifted (os : Os) (started : os.Started) (H : Type) (enc : TypeId × Value → H) :
    ReturnsInHanded {} Try.checked os 9 .any (Rows.golombZetaSpec.pre6 enc Try.prog Try.f9 Rows.golombZetaRow.domain false) (Rows.golombZetaSpec.post enc Try.prog Try.f9 false true false false) := by
  refine returnsInHanded_of_change (C := Try.checked) own started (by kernel_rfl) Try.func9
    (ChangeSpec.witness6 (enc := enc) (C := Try.checked) false ⟨#[], #[.int .u64 0, .int .i64 0, .agg #[.int .i64 0, .slice none 0 0], .int .i64 0], []⟩ 8 (by kernel_rfl) (by kernel_rfl) (by kernel_rfl) (by kernel_rfl)) ?_
  intro W base args ds gs before hval0 hW hcnd _
  have hval : ∀ (j : Nat) t v, Try.f9.params[j]? = some t → args[j]? = some v → Value.okWide Try.prog W .any base t v := hval0
  have hW' := hW
  obtain ⟨p, q, hA0, hV, rfl, hfz, hnd⟩ := hW
  have hA : DataW.TrodAll enc Try.prog W 0 (fun _ => true) true Try.f9.params.toList args.toList ds p := hA0
  rw [Try.params9] at hA hval
  obtain ⟨v0, vs0, d0, ds0, p0, q0, hargs, rfl, rfl, h0, r0⟩ := trodAll_cons hA
  obtain ⟨v1, vs1, d1, ds1, p1, q1, rfl, rfl, rfl, h1, r1⟩ := trodAll_cons r0
  obtain ⟨v2, vs2, d2, ds2, p2, q2, rfl, rfl, rfl, h2, r2⟩ := trodAll_cons r1
  obtain ⟨v3, vs3, d3, ds3, p3, q3, rfl, rfl, rfl, h3, r3⟩ := trodAll_cons r2
  obtain ⟨rfl, rfl, rfl⟩ := trodAll_nil r3
  obtain rfl : args = #[v0, v1, v2, v3] := by cases args; simp_all
  obtain ⟨rfl, rfl⟩ := trodVars_none hV
  obtain ⟨x0, rfl, rfl, rfl, wx0⟩ := open_int Try.underlying22 (hval 0 22 v0 rfl rfl) h0
  have bd0 := bounds_u64 wx0
  obtain ⟨n0, rfl⟩ := Int.eq_ofNat_of_zero_le bd0.1
  obtain ⟨x1, rfl, rfl, rfl, wx1⟩ := open_int Try.underlying3 (hval 1 3 v1 rfl rfl) h1
  have bd1 := bounds_i64 wx1
  have k2 := h2
  have lt2 : ∀ x ∈ p2, x.block < W.heap.size := by obtain ⟨m, hm⟩ := k2; exact DataW.trod_lt m _ _ _ hm
  obtain ⟨len2, A2, c2, bs2, rfl, rd2, by2, wf2⟩ := open_bits (hval 2 25 v2 rfl rfl) h2
  obtain ⟨x3, rfl, rfl, rfl, wx3⟩ := open_int Try.underlying3 (hval 3 3 v3 rfl rfl) h3
  have bd3 := bounds_i64 wx3
  clear hA0 hval0
  refine (gzeta_law n0 x1 len2 A2 c2 bs2 x3 W (by omega) bd1 by2 rd2 bd3).mono fun e W' ⟨he, bel⟩ => ?_
  subst he
  exact ⟨_, rfl, _, _, _, [], _, [], hW', trodAll_mk1 (shut_bool Try.underlying4 _), (trodAll_cons_mk (shut_int Try.underlying22 wx0) (trodAll_cons_mk (shut_int Try.underlying3 wx1) (trodAll_cons_mk (Below.trod laidOut (by kernel_rfl) (of_decide_eq_true (by kernel_rfl)) k2 bel lt2) (trodAll_cons_mk (shut_int Try.underlying3 wx3) trodAll_mk0)))), rfl, bel.frame _, fun h => by cases h⟩

theorem GolombZeta_holds : Rows.GolombZetaSaid :=
  OpenClaim.holds_of_wide 9 Try.f9 rfl rfl rfl rfl rfl rfl rfl ⟨rfl, rfl, rfl, rfl, rfl⟩ rfl rfl rfl rfl rfl (by kernel_rfl) Try.func9 (by kernel_rfl)
    (of_decide_eq_true (by kernel_rfl)) (by unfold Func.isWrapper; first | (rw [if_pos (by decide +kernel)]; kernel_rfl) | (rw [if_neg (by decide +kernel)]; exact ⟨rfl, rfl⟩))
    (fun os started H enc _ => golombZeta_lifted os started H enc)
#print axioms GolombZeta_holds
end
end Go.Proofs.Ytcacbekdghlncaa
