/- The law EliasTells, all its ways together. -/
import Derived.Test.YtcacbekdghlncaaETells
import Derived.Test.YtcacbekdghlncaaTT1
import Derived.Test.YtcacbekdghlncaaTT23
import Derived.Test.YtcacbekdghlncaaGRises
namespace Go.Proofs.Ytcacbekdghlncaa

section
set_option maxRecDepth 100000
set_option linter.unusedVariables false
open Go.RowKit

theorem same_hid (l : List Bool) (hl : l.length ≤ 8192) : Hid (∀ (A1 A2 : Option Addr) (c1 c2 : Nat) (V : World), Rd V V.heap.size A1 (pack l) → Rd V V.heap.size A2 (pack l) → Calls Try.prog 28 #[.agg #[.int .i64 (l.length : Int), .slice A1 (pack l).length c1], .agg #[.int .i64 (l.length : Int), .slice A2 (pack l).length c2]] V fun e w' => e = .returned (.bool true) ∧ Below V.heap.size V w') :=
  fun A1 A2 c1 c2 V h1 h2 => same_l l hl A1 A2 c1 c2 V h1 h2
theorem bl_cap (l : List Bool) (hl : l.length ≤ 8192) (A : Option Addr) (c : Nat) (V : World) (h : Rd V V.heap.size A (pack l)) :
    Calls Try.prog 24 #[.agg #[.int .i64 (l.length : Int), .slice A (pack l).length c]] V fun e w' => ∃ A c, e = .returned (.slice A l.length c) ∧ RdV w' w'.heap.size A (ic l) ∧ Below V.heap.size V w' ∧ (A = none → c = 0) ∧ l.length ≤ c :=
  (bitList_any l.length hl A (pack l).length c (pack l) rfl (by rw [pack_length]; omega) (pack_lt l) V h l (unpack_pack l).symm).mono fun _ _ ⟨A', c', h1, h2, h3⟩ => ⟨A', c', h1, own_rdv h2, h3, own_none h2, own_cap h2⟩
theorem lst_rd {L : List Bool} {f : FuncId} {args : Array Value} {V : World} (h : Calls Try.prog f args V (Listed V L)) :
    Calls Try.prog f args V fun e w' => ∃ A c, e = .returned (.slice A L.length c) ∧ RdV w' w'.heap.size A (ic L) ∧ Below V.heap.size V w' :=
  h.mono fun _ _ ⟨A', c', h1, h2, h3⟩ => ⟨A', c', h1, own_rdv h2, h3⟩
theorem pk_rd (l : List Bool) (hl : l.length ≤ 8192) (A : Option Addr) (c : Nat) (V : World) (h : RdV V V.heap.size A (ic l)) :
    Calls Try.prog 20 #[.slice A l.length c] V fun e w' => ∃ A c, e = .returned (.agg #[.int .i64 (l.length : Int), .slice A (pack l).length c]) ∧ Rd w' w'.heap.size A (pack l) ∧ Below V.heap.size V w' :=
  packBits_any l l.length rfl hl A c V h

theorem etells_law (n : Nat) (len : Int) (A : Option Addr) (c : Nat) (bs : List Nat) (p : Int) (w : World) (hn : n < 18446744073709551616) (hb : ∀ b ∈ bs, b < 256) (hA : Rd w w.heap.size A bs) (_ : -9223372036854775808 ≤ p ∧ p ≤ 9223372036854775807) :
    Calls Try.prog 3 #[.int .u64 (n : Int), .agg #[.int .i64 len, .slice A bs.length c], .int .i64 p] w fun e w' => e = .returned (.bool true) ∧ Below w.heap.size w w' := by
  -- the reading
  have key : (∃ e0 : Int, e0 ≠ 0 ∧ (∀ V, Rd V V.heap.size A bs → Calls Try.prog 17 #[.agg #[.int .i64 len, .slice A bs.length c], .int .i64 p] V (ReadP V 0 0 e0)) ∧ (∀ V, Rd V V.heap.size A bs → Calls Try.prog 18 #[.agg #[.int .i64 len, .slice A bs.length c], .int .i64 p] V (ReadP V 0 0 e0)) ∧ rdE len bs p = e0) ∨
      (∃ (l : List Bool) (s : Nat), len = (l.length : Int) ∧ bs = pack l ∧ p = (s : Int) ∧ l.length ≤ 8192 ∧ s ≤ l.length) := by
    by_cases hc : chk len bs = 0
    · obtain ⟨l, rfl, hl, rfl⟩ := chk_zero len bs hb hc
      by_cases hp : p < 0 ∨ (l.length : Int) < p
      · left
        exact ⟨3, by decide, fun V h => rgamma_bad _ A c _ p 3 (by decide) (fun V h => read_range l hl A c p V h hp) V h, fun V h => rdelta_bad _ A c _ p 3 (by decide) (fun V h => read_range l hl A c p V h hp) V h, by unfold rdE; rw [if_neg (by omega), if_pos hp]⟩
      · right
        obtain ⟨s, rfl⟩ := Int.eq_ofNat_of_zero_le (show 0 ≤ p by omega)
        exact ⟨l, s, rfl, rfl, rfl, hl, by omega⟩
    · left
      exact ⟨chk len bs, hc, fun V h => rgamma_bad _ A c _ p _ hc (fun V h => read_bad len A c bs p V hb h hc) V h, fun V h => rdelta_bad _ A c _ p _ hc (fun V h => read_bad len A c bs p V hb h hc) V h, by unfold rdE; rw [if_pos hc]⟩
  by_cases hbig : 1099511627776 < n
  · rcases key with ⟨e0, h0, k1, k2, k3⟩ | ⟨l, s, rfl, rfl, rfl, hl, hs⟩
    · exact etells_bb w (n : Int) len A c bs.length bs p hA e0 h0 (by omega) (fun V => gamma_e n hbig V) (fun V => delta_e n hbig V) k1 k2 (fun V => long_e n hbig V) (fun V h => readErr_any len A c bs p V hb h e0 k3) (same_hid [] (by decide)) (same_hid [] (by decide))
    · exact etells_bo w (n : Int) (l.length : Int) A c (pack l).length (pack l) (s : Int) hA (gamR l s).1 (gamR l s).2.1 (delR l s).1 (delR l s).2.1 l.length (gamR l s).2.2 (delR l s).2.2 l (by omega) (fun V => gamma_e n hbig V) (fun V => delta_e n hbig V) (fun V h => rgamma_l l hl A c s hs V h) (fun V h => rdelta_l l hl A c s hs V h) (fun V => long_e n hbig V) (fun V h => readErr_any _ A c _ _ V (pack_lt l) h 0 (by unfold rdE; rw [chk_pack l hl, if_neg (by omega), if_neg (by omega)])) (same_hid [] (by decide)) (same_hid [] (by decide))
        (fun V h => bl_cap l hl A c V h) (fun A c V h h1 h2 => gammaRead_any l l.length rfl hl A c s hs h1 h2 _ rfl V h) (fun A c V h h1 h2 => deltaRead_any l l.length rfl hl A c s hs h1 h2 _ rfl V h)
  · have hn' : n ≤ 1099511627776 := by omega
    have k40 := lg_lt_of n 41 (by omega)
    have k6 := lg_lt_of (lg n) 6 (by omega)
    have l1 : (gam n).length ≤ 8192 := by rw [gam_length]; omega
    have l2 : (del n).length ≤ 8192 := by rw [del_length]; omega
    rcases key with ⟨e0, h0, k1, k2, k3⟩ | ⟨l, s, rfl, rfl, rfl, hl, hs⟩
    · exact etells_ob w (n : Int) len A c bs.length bs p hA ((gam n).length : Int) ((del n).length : Int) (pack (gam n)).length (pack (del n)).length (gam n).length (del n).length (pack (gam n)) (pack (del n)) (gam n) (del n) e0 h0 (by omega) (fun V => gamma_ok n hn' _ rfl V) (fun V => delta_ok n hn' _ rfl V) k1 k2 (fun V => long_ok n hn' _ _ rfl rfl V) (fun V h => readErr_any len A c bs p V hb h e0 k3)
        (fun V => lst_rd (gammaList_any n hn' _ rfl V)) (fun A c V h => pk_rd _ l1 A c V h) (fun V => lst_rd (deltaList_any n hn' _ rfl V)) (fun A c V h => pk_rd _ l2 A c V h) (same_hid _ l1) (same_hid _ l2)
    · exact etells_oo w (n : Int) (l.length : Int) A c (pack l).length (pack l) (s : Int) hA ((gam n).length : Int) ((del n).length : Int) (pack (gam n)).length (pack (del n)).length (gam n).length (del n).length (pack (gam n)) (pack (del n)) (gam n) (del n) (gamR l s).1 (gamR l s).2.1 (delR l s).1 (delR l s).2.1 l.length (gamR l s).2.2 (delR l s).2.2 l (by omega) (fun V => gamma_ok n hn' _ rfl V) (fun V => delta_ok n hn' _ rfl V) (fun V h => rgamma_l l hl A c s hs V h) (fun V h => rdelta_l l hl A c s hs V h) (fun V => long_ok n hn' _ _ rfl rfl V) (fun V h => readErr_any _ A c _ _ V (pack_lt l) h 0 (by unfold rdE; rw [chk_pack l hl, if_neg (by omega), if_neg (by omega)]))
        (fun V => lst_rd (gammaList_any n hn' _ rfl V)) (fun A c V h => pk_rd _ l1 A c V h) (fun V => lst_rd (deltaList_any n hn' _ rfl V)) (fun A c V h => pk_rd _ l2 A c V h) (same_hid _ l1) (same_hid _ l2)
        (fun V h => bl_cap l hl A c V h) (fun A c V h h1 h2 => gammaRead_any l l.length rfl hl A c s hs h1 h2 _ rfl V h) (fun A c V h h1 h2 => deltaRead_any l l.length rfl hl A c s hs h1 h2 _ rfl V h)
end

section
set_option maxRecDepth 100000
set_option linter.unusedVariables false
open Go.RowKit

theorem rcE_rdE (len : Int) (bs : List Nat) (p : Int) (ok : Bool) (h : rdE len bs p ≠ 0) : rcE len bs p ok = rdE len bs p := by
  unfold rcE rdE at *
  by_cases hc : chk len bs = 0
  · have hn : ¬ (chk len bs ≠ 0) := fun h => h hc
    rw [if_neg hn] at h ⊢
    rw [if_neg hn]
    by_cases hp : p < 0 ∨ len < p
    · rw [if_pos hp, if_pos]
      rcases hp with hp | hp
      · exact .inl hp
      · exact .inr (.inl hp)
    · rw [if_neg hp] at h; exact absurd rfl h
  · rw [if_pos hc, if_pos hc]
theorem rcE_no (len : Int) (bs : List Nat) (p : Int) (h : rdE len bs p = 0) : rcE len bs p false = 3 := by
  unfold rcE rdE at *
  by_cases hc : chk len bs = 0
  · rw [if_neg (fun h => h hc), if_pos (.inr (.inr rfl))]
  · rw [if_pos hc] at h; exact absurd h hc
theorem rdE_zero (len : Int) (bs : List Nat) (p : Int) (hb : ∀ b ∈ bs, b < 256) (h : rdE len bs p = 0) : ∃ (l : List Bool) (s : Nat), len = (l.length : Int) ∧ bs = pack l ∧ p = (s : Int) ∧ l.length ≤ 8192 ∧ s ≤ l.length := by
  unfold rdE at h
  by_cases hc : chk len bs = 0
  · rw [if_neg (fun h => h hc)] at h
    obtain ⟨l, rfl, hl, rfl⟩ := chk_zero len bs hb hc
    by_cases hp : p < 0 ∨ (l.length : Int) < p
    · rw [if_pos hp] at h; omega
    · obtain ⟨s, rfl⟩ := Int.eq_ofNat_of_zero_le (show 0 ≤ p by omega)
      exact ⟨l, s, rfl, rfl, rfl, hl, by omega⟩
  · rw [if_pos hc] at h; exact absurd h hc
theorem bl_only (l : List Bool) (hl : l.length ≤ 8192) (A : Option Addr) (c : Nat) (V : World) (h : Rd V V.heap.size A (pack l)) :
    Calls Try.prog 24 #[.agg #[.int .i64 (l.length : Int), .slice A (pack l).length c]] V fun e w' => ∃ A c, e = .returned (.slice A l.length c) ∧ RdV w' w'.heap.size A (ic l) ∧ Below V.heap.size V w' :=
  (bl_cap l hl A c V h).mono fun _ _ ⟨A', c', h1, h2, h3, _⟩ => ⟨A', c', h1, h2, h3⟩
theorem lstR_or (l : List Bool) (s m : Nat) : (lstR l s m).2.2 = 0 ∨ lstR l s m = (0, 0, 7) := by
  unfold lstR
  split
  · exact .inl rfl
  · split
    · exact .inl rfl
    · exact .inr rfl
theorem lst_has (n m : Nat) (h1 : 1 ≤ m) (h2 : m ≤ 72057594037927936) (hn : n < m) (V : World) :
    Calls Try.prog 39 #[.int .u64 (n : Int), .int .u64 (m : Int)] V fun e w' => ∃ A c, e = .returned (.slice A (lst n m).length c) ∧ RdV w' w'.heap.size A (ic (lst n m)) ∧ (A = none → c = 0) ∧ Below V.heap.size V w' :=
  (leastList_any n m h1 h2 hn _ rfl V).mono fun _ _ ⟨A', c', e1, e2, e3⟩ => ⟨A', c', e1, own_rdv e2, own_none e2, e3⟩

theorem gtells_law (n m : Nat) (len : Int) (A : Option Addr) (c : Nat) (bs : List Nat) (p : Int) (w : World) (hn : n < 18446744073709551616) (hm64 : m < 18446744073709551616) (hb : ∀ b ∈ bs, b < 256) (hA : Rd w w.heap.size A bs) (_ : -9223372036854775808 ≤ p ∧ p ≤ 9223372036854775807) :
    Calls Try.prog 8 #[.int .u64 (n : Int), .int .u64 (m : Int), .agg #[.int .i64 len, .slice A bs.length c], .int .i64 p] w fun e w' => e = .returned (.bool true) ∧ Below w.heap.size w w' := by
  have hbl : rdE len bs p ≠ 0 → Hid (∀ V, Rd V V.heap.size A bs → Calls Try.prog 37 #[.agg #[.int .i64 len, .slice A bs.length c], .int .i64 p, .int .u64 (m : Int)] V (ReadP V 0 0 (rdE len bs p))) := fun h V hV => by
    have e := rcE_rdE len bs p (okM m) h
    have := rleast_bad_l len A c bs p m hb (by rw [e]; exact h) V hV
    rwa [e] at this
  have hbc : rdE len bs p ≠ 0 → Hid (∀ V, Rd V V.heap.size A bs → Calls Try.prog 38 #[.agg #[.int .i64 len, .slice A bs.length c], .int .i64 p, .int .u64 (m : Int)] V (ReadP V 0 0 (rdE len bs p))) := fun h V hV => by
    have e := rcE_rdE len bs p (okM m) h
    have := rcode_bad_l len A c bs p m hb (by rw [e]; exact h) V hV
    rwa [e] at this
  have herr : Hid (∀ V, Rd V V.heap.size A bs → Calls Try.prog 23 #[.agg #[.int .i64 len, .slice A bs.length c], .int .i64 p] V fun e w' => e = .returned (.int .i64 (rdE len bs p)) ∧ Below V.heap.size V w') := fun V hV => readErr_any len A c bs p V hb hV _ rfl
  have s0 := same_hid [] (by decide)
  by_cases hm : 1 ≤ m ∧ m ≤ 1099511627776
  · obtain ⟨hm1, hm2⟩ := hm
    have szm := sz_le m 40 (by omega)
    have key : (∃ e0 : Int, e0 ≠ 0 ∧ Hid (∀ V, Rd V V.heap.size A bs → Calls Try.prog 37 #[.agg #[.int .i64 len, .slice A bs.length c], .int .i64 p, .int .u64 (m : Int)] V (ReadP V 0 0 e0)) ∧ Hid (∀ V, Rd V V.heap.size A bs → Calls Try.prog 38 #[.agg #[.int .i64 len, .slice A bs.length c], .int .i64 p, .int .u64 (m : Int)] V (ReadP V 0 0 e0)) ∧ Hid (∀ V, Rd V V.heap.size A bs → Calls Try.prog 23 #[.agg #[.int .i64 len, .slice A bs.length c], .int .i64 p] V fun e w' => e = .returned (.int .i64 e0) ∧ Below V.heap.size V w')) ∨
        (∃ (r1 r2 s1 s2 nB : Nat) (g : Int) (lB : List Bool), Hid (∀ V, Rd V V.heap.size A bs → Calls Try.prog 37 #[.agg #[.int .i64 len, .slice A bs.length c], .int .i64 p, .int .u64 (m : Int)] V (ReadP V r1 r2 0)) ∧ Hid (∀ V, Rd V V.heap.size A bs → Calls Try.prog 38 #[.agg #[.int .i64 len, .slice A bs.length c], .int .i64 p, .int .u64 (m : Int)] V (ReadP V s1 s2 g)) ∧ Hid (∀ V, Rd V V.heap.size A bs → Calls Try.prog 23 #[.agg #[.int .i64 len, .slice A bs.length c], .int .i64 p] V fun e w' => e = .returned (.int .i64 0) ∧ Below V.heap.size V w') ∧ Hid (∀ V, Rd V V.heap.size A bs → Calls Try.prog 24 #[.agg #[.int .i64 len, .slice A bs.length c]] V fun e w' => ∃ A c, e = .returned (.slice A nB c) ∧ RdV w' w'.heap.size A (ic lB) ∧ Below V.heap.size V w') ∧ Hid (∀ A c V, RdV V V.heap.size A (ic lB) → Calls Try.prog 41 #[.slice A nB c, .int .i64 p, .int .u64 (m : Int)] V fun e w' => e = .returned (.tuple #[.int .u64 (r1 : Int), .int .i64 (r2 : Int)]) ∧ Below V.heap.size V w') ∧ Hid (∀ A c V, RdV V V.heap.size A (ic lB) → Calls Try.prog 42 #[.slice A nB c, .int .i64 p, .int .u64 (m : Int)] V (ReadP V s1 s2 g))) ∨
        (∃ (x0 s1 s2 nB : Nat) (g : Int) (lB : List Bool), Hid (∀ V, Rd V V.heap.size A bs → Calls Try.prog 37 #[.agg #[.int .i64 len, .slice A bs.length c], .int .i64 p, .int .u64 (m : Int)] V (ReadP V 0 0 7)) ∧ Hid (∀ V, Rd V V.heap.size A bs → Calls Try.prog 38 #[.agg #[.int .i64 len, .slice A bs.length c], .int .i64 p, .int .u64 (m : Int)] V (ReadP V s1 s2 g)) ∧ Hid (∀ V, Rd V V.heap.size A bs → Calls Try.prog 23 #[.agg #[.int .i64 len, .slice A bs.length c], .int .i64 p] V fun e w' => e = .returned (.int .i64 0) ∧ Below V.heap.size V w') ∧ Hid (∀ V, Rd V V.heap.size A bs → Calls Try.prog 24 #[.agg #[.int .i64 len, .slice A bs.length c]] V fun e w' => ∃ A c, e = .returned (.slice A nB c) ∧ RdV w' w'.heap.size A (ic lB) ∧ Below V.heap.size V w') ∧ Hid (∀ A c V, RdV V V.heap.size A (ic lB) → Calls Try.prog 41 #[.slice A nB c, .int .i64 p, .int .u64 (m : Int)] V fun e w' => e = .returned (.tuple #[.int .u64 (x0 : Int), .int .i64 (-1)]) ∧ Below V.heap.size V w') ∧ Hid (∀ A c V, RdV V V.heap.size A (ic lB) → Calls Try.prog 42 #[.slice A nB c, .int .i64 p, .int .u64 (m : Int)] V (ReadP V s1 s2 g))) := by
      by_cases hr : rdE len bs p = 0
      · rw [hr] at herr
        obtain ⟨l, s, rfl, rfl, rfl, hl, hs⟩ := rdE_zero len bs p hb hr
        right
        rcases lstR_or l s m with h0 | h7
        · left
          refine ⟨(lstR l s m).1, (lstR l s m).2.1, (golR l s m).1, (golR l s m).2.1, l.length, (golR l s m).2.2, l, fun V hV => ?_, fun V hV => rcode_l l hl m hm1 hm2 A c s hs V hV, herr, fun V hV => bl_only l hl A c V hV, fun A' c' V hV => ?_, fun A' c' V hV => golombRead_any l l.length rfl hl A' c' s m hs hm1 hm2 _ rfl V hV⟩
          · have := rleast_l l hl m hm1 hm2 A c s hs V hV
            rwa [h0] at this
          · exact (leastRead_any l l.length rfl hl A' c' s m hs hm1 (by omega) _ rfl _ _ ⟨rfl, by rw [if_pos h0]⟩ V hV).mono fun _ _ ⟨e1, e2⟩ => ⟨e1, by subst e2; exact Below.refl _ _⟩
        · right
          refine ⟨(lstR l s m).1, (golR l s m).1, (golR l s m).2.1, l.length, (golR l s m).2.2, l, fun V hV => ?_, fun V hV => rcode_l l hl m hm1 hm2 A c s hs V hV, herr, fun V hV => bl_only l hl A c V hV, fun A' c' V hV => ?_, fun A' c' V hV => golombRead_any l l.length rfl hl A' c' s m hs hm1 hm2 _ rfl V hV⟩
          · have := rleast_l l hl m hm1 hm2 A c s hs V hV
            rwa [h7] at this
          · exact (leastRead_any l l.length rfl hl A' c' s m hs hm1 (by omega) _ rfl _ (-1) ⟨rfl, by rw [h7]; rfl⟩ V hV).mono fun _ _ ⟨e1, e2⟩ => ⟨e1, by subst e2; exact Below.refl _ _⟩
      · exact .inl ⟨_, hr, hbl hr, hbc hr, herr⟩
    clear hbl hbc herr
    have q1 : (n : Int).tdiv (m : Int) = ((n / m : Nat) : Int) := by first | rfl | simp
    have q2 : (n : Int) / (m : Int) = ((n / m : Nat) : Int) := by simp
    have q3 : (n : Int).tmod (m : Int) = ((n % m : Nat) : Int) := by rw [Int.tmod_eq_emod_of_nonneg (by omega)]; simp
    have q4 : (n : Int) % (m : Int) = ((n % m : Nat) : Int) := by simp
    have q5 : IntKind.u64.wrap ((n / m : Nat) : Int) = ((n / m : Nat) : Int) := by
      have := Nat.div_le_self n m
      clear q1 q2 q3 q4
      generalize n / m = q at *
      exact u64w _ (by omega) (by omega)
    have q6 : IntKind.u64.wrap ((n % m : Nat) : Int) = ((n % m : Nat) : Int) := by
      have := Nat.mod_le n m
      clear q1 q2 q3 q4 q5
      generalize n % m = q at *
      exact u64w _ (by omega) (by omega)
    have hyok : n ≤ 1099511627776 → n / m < 8128 → (uc (n / m)).length + (lst (n % m) m).length ≤ 8192 := fun _ h => by
      have := lst_length_le (n % m) m
      rw [uc_length]; omega
    by_cases hl : n < m
    · have hX : Hid (∀ V, Calls Try.prog 35 #[.int .u64 (n : Int), .int .u64 (m : Int)] V (Gv V ((lst n m).length : Int) (pack (lst n m)).length (pack (lst n m)) 0)) := fun V => least_ok n m hm1 hm2 hl _ rfl V
      have zl : (lst n m).length ≤ 8192 := by have := lst_length_le n m; omega
      have hLL : Hid (∀ V, Calls Try.prog 39 #[.int .u64 (n : Int), .int .u64 (m : Int)] V fun e w' => ∃ A c, e = .returned (.slice A (lst n m).length c) ∧ RdV w' w'.heap.size A (ic (lst n m)) ∧ Below V.heap.size V w') := fun V => lst_rd (leastList_any n m hm1 (by omega) hl _ rfl V)
      have hPK := fun A c V h => pk_rd (lst n m) zl A c V h
      have hS1 := same_hid (lst n m) zl
      by_cases hn40 : n ≤ 1099511627776
      · by_cases hq : n / m < 8128
        · have hY : Hid (∀ V, Calls Try.prog 36 #[.int .u64 (n : Int), .int .u64 (m : Int)] V (Gv V ((gol n m).length : Int) (pack (gol n m)).length (pack (gol n m)) 0)) := fun V => code_ok n m hm1 hm2 hn40 hq _ rfl V
          have hUL := hyok hn40 hq
          have gl : (gol n m).length = (uc (n / m)).length + (lst (n % m) m).length := by unfold gol; rw [List.length_append]
          have hU := fun V => uList_any (n / m) (by omega) _ rfl V
          have hL2 := fun V => lst_has (n % m) m hm1 (by omega) (Nat.mod_lt n (by omega)) V
          have hPC := fun (A : Option Addr) (c : Nat) (V : World) (h : RdV V V.heap.size A (ic (uc (n / m)) ++ ic (lst (n % m) m))) => packBits_any (gol n m) _ gl hUL A c V (by unfold gol; rw [ic_append]; exact h)
          have hLl : Hid ((ic (lst (n % m) m)).length = (lst (n % m) m).length) := ic_length _
          have hS2 := same_hid (gol n m) (by rw [gl]; exact hUL)
          rcases key with ⟨e0, h0, k1, k2, k3⟩ | ⟨r1, r2, s1, s2, nB, g, lB, k1, k2, k3, k4, k5, k6⟩ | ⟨x0, s1, s2, nB, g, lB, k1, k2, k3, k4, k5, k6⟩
          · exact gtells_ok_ok_bad w (n : Int) (m : Int) ((n / m : Nat) : Int) ((n % m : Nat) : Int) len A c bs.length bs p ((lst n m).length : Int) ((gol n m).length : Int) (pack (lst n m)).length (pack (gol n m)).length (lst n m).length (uc (n / m)).length (lst (n % m) m).length 0 (pack (lst n m)) (pack (gol n m)) (lst n m) (uc (n / m)) (lst (n % m) m) [] e0 0 0 0 0 0 0 hA hX hY k1 k2 k3 hLL hPK hU hL2 hPC hLl hUL hS1 hS2 (by omega) (by omega) (by omega) (by omega) q1 q2 q3 q4 q5 q6 (by omega) h0
          · exact gtells_ok_ok_hit w (n : Int) (m : Int) ((n / m : Nat) : Int) ((n % m : Nat) : Int) len A c bs.length bs p ((lst n m).length : Int) ((gol n m).length : Int) (pack (lst n m)).length (pack (gol n m)).length (lst n m).length (uc (n / m)).length (lst (n % m) m).length nB (pack (lst n m)) (pack (gol n m)) (lst n m) (uc (n / m)) (lst (n % m) m) lB 0 r1 r2 s1 s2 0 g hA hX hY k1 k2 k3 hLL hPK hU hL2 hPC hLl hUL hS1 hS2 k4 k5 k6 (by omega) (by omega) (by omega) (by omega) q1 q2 q3 q4 q5 q6 (by omega)
          · exact gtells_ok_ok_short w (n : Int) (m : Int) ((n / m : Nat) : Int) ((n % m : Nat) : Int) len A c bs.length bs p ((lst n m).length : Int) ((gol n m).length : Int) (pack (lst n m)).length (pack (gol n m)).length (lst n m).length (uc (n / m)).length (lst (n % m) m).length nB (pack (lst n m)) (pack (gol n m)) (lst n m) (uc (n / m)) (lst (n % m) m) lB 0 0 0 s1 s2 x0 g hA hX hY k1 k2 k3 hLL hPK hU hL2 hPC hLl hUL hS1 hS2 k4 k5 k6 (by omega) (by omega) (by omega) (by omega) q1 q2 q3 q4 q5 q6 (by omega)
        · have hY : Hid (∀ V, Calls Try.prog 36 #[.int .u64 (n : Int), .int .u64 (m : Int)] V (Gv V 0 0 [] 3)) := fun V => code_no n m hn (fun h => by omega) V
          rcases key with ⟨e0, h0, k1, k2, k3⟩ | ⟨r1, r2, s1, s2, nB, g, lB, k1, k2, k3, k4, k5, k6⟩ | ⟨x0, s1, s2, nB, g, lB, k1, k2, k3, k4, k5, k6⟩
          · exact gtells_ok_n2_bad w (n : Int) (m : Int) ((n / m : Nat) : Int) ((n % m : Nat) : Int) len A c bs.length bs p ((lst n m).length : Int) 0 (pack (lst n m)).length 0 (lst n m).length 0 0 0 (pack (lst n m)) [] (lst n m) [] [] [] e0 0 0 0 0 0 0 hA hX hY k1 k2 k3 hLL hPK hS1 s0 (by omega) (by omega) (by omega) (by omega) q1 q2 q3 q4 q5 q6 (by omega) h0
          · exact gtells_ok_n2_hit w (n : Int) (m : Int) ((n / m : Nat) : Int) ((n % m : Nat) : Int) len A c bs.length bs p ((lst n m).length : Int) 0 (pack (lst n m)).length 0 (lst n m).length 0 0 nB (pack (lst n m)) [] (lst n m) [] [] lB 0 r1 r2 s1 s2 0 g hA hX hY k1 k2 k3 hLL hPK hS1 s0 k4 k5 k6 (by omega) (by omega) (by omega) (by omega) q1 q2 q3 q4 q5 q6 (by omega)
          · exact gtells_ok_n2_short w (n : Int) (m : Int) ((n / m : Nat) : Int) ((n % m : Nat) : Int) len A c bs.length bs p ((lst n m).length : Int) 0 (pack (lst n m)).length 0 (lst n m).length 0 0 nB (pack (lst n m)) [] (lst n m) [] [] lB 0 0 0 s1 s2 x0 g hA hX hY k1 k2 k3 hLL hPK hS1 s0 k4 k5 k6 (by omega) (by omega) (by omega) (by omega) q1 q2 q3 q4 q5 q6 (by omega)
      · omega
    · have hX : Hid (∀ V, Calls Try.prog 35 #[.int .u64 (n : Int), .int .u64 (m : Int)] V (Gv V 0 0 [] 3)) := fun V => least_no n m (fun h => by omega) V
      by_cases hn40 : n ≤ 1099511627776
      · by_cases hq : n / m < 8128
        · have hY : Hid (∀ V, Calls Try.prog 36 #[.int .u64 (n : Int), .int .u64 (m : Int)] V (Gv V ((gol n m).length : Int) (pack (gol n m)).length (pack (gol n m)) 0)) := fun V => code_ok n m hm1 hm2 hn40 hq _ rfl V
          have hUL := hyok hn40 hq
          have gl : (gol n m).length = (uc (n / m)).length + (lst (n % m) m).length := by unfold gol; rw [List.length_append]
          have hU := fun V => uList_any (n / m) (by omega) _ rfl V
          have hL2 := fun V => lst_has (n % m) m hm1 (by omega) (Nat.mod_lt n (by omega)) V
          have hPC := fun (A : Option Addr) (c : Nat) (V : World) (h : RdV V V.heap.size A (ic (uc (n / m)) ++ ic (lst (n % m) m))) => packBits_any (gol n m) _ gl hUL A c V (by unfold gol; rw [ic_append]; exact h)
          have hLl : Hid ((ic (lst (n % m) m)).length = (lst (n % m) m).length) := ic_length _
          have hS2 := same_hid (gol n m) (by rw [gl]; exact hUL)
          rcases key with ⟨e0, h0, k1, k2, k3⟩ | ⟨r1, r2, s1, s2, nB, g, lB, k1, k2, k3, k4, k5, k6⟩ | ⟨x0, s1, s2, nB, g, lB, k1, k2, k3, k4, k5, k6⟩
          · exact gtells_no_ok_bad w (n : Int) (m : Int) ((n / m : Nat) : Int) ((n % m : Nat) : Int) len A c bs.length bs p 0 ((gol n m).length : Int) 0 (pack (gol n m)).length 0 (uc (n / m)).length (lst (n % m) m).length 0 [] (pack (gol n m)) [] (uc (n / m)) (lst (n % m) m) [] e0 0 0 0 0 0 0 hA hX hY k1 k2 k3 hU hL2 hPC hLl hUL s0 hS2 (by omega) (by omega) (by omega) (by omega) q1 q2 q3 q4 q5 q6 (by omega) h0
          · exact gtells_no_ok_hit w (n : Int) (m : Int) ((n / m : Nat) : Int) ((n % m : Nat) : Int) len A c bs.length bs p 0 ((gol n m).length : Int) 0 (pack (gol n m)).length 0 (uc (n / m)).length (lst (n % m) m).length nB [] (pack (gol n m)) [] (uc (n / m)) (lst (n % m) m) lB 0 r1 r2 s1 s2 0 g hA hX hY k1 k2 k3 hU hL2 hPC hLl hUL s0 hS2 k4 k5 k6 (by omega) (by omega) (by omega) (by omega) q1 q2 q3 q4 q5 q6 (by omega)
          · exact gtells_no_ok_short w (n : Int) (m : Int) ((n / m : Nat) : Int) ((n % m : Nat) : Int) len A c bs.length bs p 0 ((gol n m).length : Int) 0 (pack (gol n m)).length 0 (uc (n / m)).length (lst (n % m) m).length nB [] (pack (gol n m)) [] (uc (n / m)) (lst (n % m) m) lB 0 0 0 s1 s2 x0 g hA hX hY k1 k2 k3 hU hL2 hPC hLl hUL s0 hS2 k4 k5 k6 (by omega) (by omega) (by omega) (by omega) q1 q2 q3 q4 q5 q6 (by omega)
        · have hY : Hid (∀ V, Calls Try.prog 36 #[.int .u64 (n : Int), .int .u64 (m : Int)] V (Gv V 0 0 [] 3)) := fun V => code_no n m hn (fun h => by omega) V
          rcases key with ⟨e0, h0, k1, k2, k3⟩ | ⟨r1, r2, s1, s2, nB, g, lB, k1, k2, k3, k4, k5, k6⟩ | ⟨x0, s1, s2, nB, g, lB, k1, k2, k3, k4, k5, k6⟩
          · exact gtells_no_n2_bad w (n : Int) (m : Int) ((n / m : Nat) : Int) ((n % m : Nat) : Int) len A c bs.length bs p 0 0 0 0 0 0 0 0 [] [] [] [] [] [] e0 0 0 0 0 0 0 hA hX hY k1 k2 k3 s0 s0 (by omega) (by omega) (by omega) (by omega) q1 q2 q3 q4 q5 q6 (by omega) h0
          · exact gtells_no_n2_hit w (n : Int) (m : Int) ((n / m : Nat) : Int) ((n % m : Nat) : Int) len A c bs.length bs p 0 0 0 0 0 0 0 nB [] [] [] [] [] lB 0 r1 r2 s1 s2 0 g hA hX hY k1 k2 k3 s0 s0 k4 k5 k6 (by omega) (by omega) (by omega) (by omega) q1 q2 q3 q4 q5 q6 (by omega)
          · exact gtells_no_n2_short w (n : Int) (m : Int) ((n / m : Nat) : Int) ((n % m : Nat) : Int) len A c bs.length bs p 0 0 0 0 0 0 0 nB [] [] [] [] [] lB 0 0 0 s1 s2 x0 g hA hX hY k1 k2 k3 s0 s0 k4 k5 k6 (by omega) (by omega) (by omega) (by omega) q1 q2 q3 q4 q5 q6 (by omega)
      · have hY : Hid (∀ V, Calls Try.prog 36 #[.int .u64 (n : Int), .int .u64 (m : Int)] V (Gv V 0 0 [] 3)) := fun V => code_no n m hn (fun h => by omega) V
        rcases key with ⟨e0, h0, k1, k2, k3⟩ | ⟨r1, r2, s1, s2, nB, g, lB, k1, k2, k3, k4, k5, k6⟩ | ⟨x0, s1, s2, nB, g, lB, k1, k2, k3, k4, k5, k6⟩
        · exact gtells_no_n1_bad w (n : Int) (m : Int) ((n / m : Nat) : Int) ((n % m : Nat) : Int) len A c bs.length bs p 0 0 0 0 0 0 0 0 [] [] [] [] [] [] e0 0 0 0 0 0 0 hA hX hY k1 k2 k3 s0 s0 (by omega) (by omega) (by omega) (by omega) h0
        · exact gtells_no_n1_hit w (n : Int) (m : Int) ((n / m : Nat) : Int) ((n % m : Nat) : Int) len A c bs.length bs p 0 0 0 0 0 0 0 nB [] [] [] [] [] lB 0 r1 r2 s1 s2 0 g hA hX hY k1 k2 k3 s0 s0 k4 k5 k6 (by omega) (by omega) (by omega) (by omega)
        · exact gtells_no_n1_short w (n : Int) (m : Int) ((n / m : Nat) : Int) ((n % m : Nat) : Int) len A c bs.length bs p 0 0 0 0 0 0 0 nB [] [] [] [] [] lB 0 0 0 s1 s2 x0 g hA hX hY k1 k2 k3 s0 s0 k4 k5 k6 (by omega) (by omega) (by omega) (by omega)
  · have hX : Hid (∀ V, Calls Try.prog 35 #[.int .u64 (n : Int), .int .u64 (m : Int)] V (Gv V 0 0 [] 3)) := fun V => least_no n m (fun h => by omega) V
    have hY : Hid (∀ V, Calls Try.prog 36 #[.int .u64 (n : Int), .int .u64 (m : Int)] V (Gv V 0 0 [] 3)) := fun V => code_no n m hn (fun h => by omega) V
    have hok : okM m = false := by unfold okM; exact decide_eq_false hm
    by_cases hr : rdE len bs p = 0
    · rw [hr] at herr
      have e : rcE len bs p (okM m) = 3 := by rw [hok]; exact rcE_no len bs p hr
      have h3 : Hid (∀ V, Rd V V.heap.size A bs → Calls Try.prog 37 #[.agg #[.int .i64 len, .slice A bs.length c], .int .i64 p, .int .u64 (m : Int)] V (ReadP V 0 0 3)) := fun V hV => by have := rleast_bad_l len A c bs p m hb (by rw [e]; decide) V hV; rwa [e] at this
      have h4 : Hid (∀ V, Rd V V.heap.size A bs → Calls Try.prog 38 #[.agg #[.int .i64 len, .slice A bs.length c], .int .i64 p, .int .u64 (m : Int)] V (ReadP V 0 0 3)) := fun V hV => by have := rcode_bad_l len A c bs p m hb (by rw [e]; decide) V hV; rwa [e] at this
      by_cases hlo : m < 1
      · exact gtells_lo w (n : Int) (m : Int) 0 0 len A c bs.length bs p 0 0 0 0 0 0 0 0 [] [] [] [] [] [] 0 0 0 0 0 0 0 hA hX hY h3 h4 herr s0 s0 (by omega)
      · exact gtells_ho w (n : Int) (m : Int) 0 0 len A c bs.length bs p 0 0 0 0 0 0 0 0 [] [] [] [] [] [] 0 0 0 0 0 0 0 hA hX hY h3 h4 herr s0 s0 (by omega)
    · by_cases hlo : m < 1
      · exact gtells_lb w (n : Int) (m : Int) 0 0 len A c bs.length bs p 0 0 0 0 0 0 0 0 [] [] [] [] [] [] (rdE len bs p) 0 0 0 0 0 0 hA hX hY (hbl hr) (hbc hr) herr s0 s0 (by omega) hr
      · exact gtells_hb w (n : Int) (m : Int) 0 0 len A c bs.length bs p 0 0 0 0 0 0 0 0 [] [] [] [] [] [] (rdE len bs p) 0 0 0 0 0 0 hA hX hY (hbl hr) (hbc hr) herr s0 s0 (by omega) hr
end

section
open Go.ChangeShapes Go.WideShapes Go.ChangeAt Go.RowKit
open Go.ChangeMaps (open_string shut_string)

set_option linter.unusedVariables false
set_option maxRecDepth 100000 in
theorem golombTells_lifted (os : Os) (started : os.Started) (H : Type) (enc : TypeId × Value → H) :
    ReturnsInHanded {} Try.checked os 8 .any (Rows.golombTellsSpec.pre6 enc Try.prog Try.f8 Rows.golombTellsRow.domain false) (Rows.golombTellsSpec.post enc Try.prog Try.f8 false true false false) := by
  refine returnsInHanded_of_change (C := Try.checked) own started (by kernel_rfl) Try.func8
    (ChangeSpec.witness6 (enc := enc) (C := Try.checked) false ⟨#[], #[.int .u64 0, .int .u64 0, .agg #[.int .i64 0, .slice none 0 0], .int .i64 0], []⟩ 8 (by kernel_rfl) (by kernel_rfl) (by kernel_rfl) (by kernel_rfl)) ?_
  intro W base args ds gs before hval0 hW hcnd _
  have hval : ∀ (j : Nat) t v, Try.f8.params[j]? = some t → args[j]? = some v → Value.okWide Try.prog W .any base t v := hval0
  have hW' := hW
  obtain ⟨p, q, hA0, hV, rfl, hfz, hnd⟩ := hW
  have hA : DataW.TrodAll enc Try.prog W 0 (fun _ => true) true Try.f8.params.toList args.toList ds p := hA0
  rw [Try.params8] at hA hval
  obtain ⟨v0, vs0, d0, ds0, p0, q0, hargs, rfl, rfl, h0, r0⟩ := trodAll_cons hA
  obtain ⟨v1, vs1, d1, ds1, p1, q1, rfl, rfl, rfl, h1, r1⟩ := trodAll_cons r0
  obtain ⟨v2, vs2, d2, ds2, p2, q2, rfl, rfl, rfl, h2, r2⟩ := trodAll_cons r1
  obtain ⟨v3, vs3, d3, ds3, p3, q3, rfl, rfl, rfl, h3, r3⟩ := trodAll_cons r2
  obtain ⟨rfl, rfl, rfl⟩ := trodAll_nil r3
  obtain rfl : args = #[v0, v1, v2, v3] := by cases args; simp_all
  obtain ⟨rfl, rfl⟩ := trodVars_none hV
  obtain ⟨x0, rfl, rfl, rfl, wx0⟩ := open_int Try.underlying22 (hval 0 22 v0 rfl rfl) h0
  have bd0 := bounds_u64 wx0
  obtain ⟨n0, rfl⟩ := Int.eq_ofNat_of_zero_le bd0.1
  obtain ⟨x1, rfl, rfl, rfl, wx1⟩ := open_int Try.underlying22 (hval 1 22 v1 rfl rfl) h1
  have bd1 := bounds_u64 wx1
  obtain ⟨n1, rfl⟩ := Int.eq_ofNat_of_zero_le bd1.1
  have k2 := h2
  have lt2 : ∀ x ∈ p2, x.block < W.heap.size := by obtain ⟨m, hm⟩ := k2; exact DataW.trod_lt m _ _ _ hm
  obtain ⟨len2, A2, c2, bs2, rfl, rd2, by2, wf2⟩ := open_bits (hval 2 25 v2 rfl rfl) h2
  obtain ⟨x3, rfl, rfl, rfl, wx3⟩ := open_int Try.underlying3 (hval 3 3 v3 rfl rfl) h3
  have bd3 := bounds_i64 wx3
  clear hA0 hval0
  refine (gtells_law n0 n1 len2 A2 c2 bs2 x3 W (by omega) (by omega) by2 rd2 bd3).mono fun e W' ⟨he, bel⟩ => ?_
  subst he
  exact ⟨_, rfl, _, _, _, [], _, [], hW', trodAll_mk1 (shut_bool Try.underlying4 _), (trodAll_cons_mk (shut_int Try.underlying22 wx0) (trodAll_cons_mk (shut_int Try.underlying22 wx1) (trodAll_cons_mk (Below.trod laidOut (by kernel_rfl) (of_decide_eq_true (by kernel_rfl)) k2 bel lt2) (trodAll_cons_mk (shut_int Try.underlying3 wx3) trodAll_mk0)))), rfl, bel.frame _, fun h => by cases h⟩

theorem GolombTells_holds : Rows.GolombTellsSaid :=
  OpenClaim.holds_of_wide 8 Try.f8 rfl rfl rfl rfl rfl rfl rfl ⟨rfl, rfl, rfl, rfl, rfl⟩ rfl rfl rfl rfl rfl (by kernel_rfl) Try.func8 (by kernel_rfl)
    (of_decide_eq_true (by kernel_rfl)) (by unfold Func.isWrapper; first | (rw [if_pos (by decide +kernel)]; kernel_rfl) | (rw [if_neg (by decide +kernel)]; exact ⟨rfl, rfl⟩))
    (fun os started H enc _ => golombTells_lifted os started H enc)
#print axioms GolombTells_holds
end
end Go.Proofs.Ytcacbekdghlncaa
