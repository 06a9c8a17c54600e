/- The law EliasTells, all its ways together. -/
import Derived.Test.YtcacbekdghlncaaETells
namespace Go.Proofs.Ytcacbekdghlncaa
set_option maxRecDepth 100000
set_option linter.unusedVariables false
open Go.RowKit

theorem same_hid (l : List Bool) (hl : l.length ≤ 8192) : Hid (∀ (A1 A2 : Option Addr) (c1 c2 : Nat) (V : World), Rd V V.heap.size A1 (pack l) → Rd V V.heap.size A2 (pack l) → Calls Try.prog 28 #[.agg #[.int .i64 (l.length : Int), .slice A1 (pack l).length c1], .agg #[.int .i64 (l.length : Int), .slice A2 (pack l).length c2]] V fun e w' => e = .returned (.bool true) ∧ Below V.heap.size V w') :=
  fun A1 A2 c1 c2 V h1 h2 => same_l l hl A1 A2 c1 c2 V h1 h2
theorem bl_cap (l : List Bool) (hl : l.length ≤ 8192) (A : Option Addr) (c : Nat) (V : World) (h : Rd V V.heap.size A (pack l)) :
    Calls Try.prog 24 #[.agg #[.int .i64 (l.length : Int), .slice A (pack l).length c]] V fun e w' => ∃ A c, e = .returned (.slice A l.length c) ∧ RdV w' w'.heap.size A (ic l) ∧ Below V.heap.size V w' ∧ (A = none → c = 0) ∧ l.length ≤ c :=
  (bitList_any l.length hl A (pack l).length c (pack l) rfl (by rw [pack_length]; omega) (pack_lt l) V h l (unpack_pack l).symm).mono fun _ _ ⟨A', c', h1, h2, h3⟩ => ⟨A', c', h1, own_rdv h2, h3, own_none h2, own_cap h2⟩
theorem lst_rd {L : List Bool} {f : FuncId} {args : Array Value} {V : World} (h : Calls Try.prog f args V (Listed V L)) :
    Calls Try.prog f args V fun e w' => ∃ A c, e = .returned (.slice A L.length c) ∧ RdV w' w'.heap.size A (ic L) ∧ Below V.heap.size V w' :=
  h.mono fun _ _ ⟨A', c', h1, h2, h3⟩ => ⟨A', c', h1, own_rdv h2, h3⟩
theorem pk_rd (l : List Bool) (hl : l.length ≤ 8192) (A : Option Addr) (c : Nat) (V : World) (h : RdV V V.heap.size A (ic l)) :
    Calls Try.prog 20 #[.slice A l.length c] V fun e w' => ∃ A c, e = .returned (.agg #[.int .i64 (l.length : Int), .slice A (pack l).length c]) ∧ Rd w' w'.heap.size A (pack l) ∧ Below V.heap.size V w' :=
  packBits_any l l.length rfl hl A c V h

theorem etells_law (n : Nat) (len : Int) (A : Option Addr) (c : Nat) (bs : List Nat) (p : Int) (w : World) (hn : n < 18446744073709551616) (hb : ∀ b ∈ bs, b < 256) (hA : Rd w w.heap.size A bs) (_ : -9223372036854775808 ≤ p ∧ p ≤ 9223372036854775807) :
    Calls Try.prog 3 #[.int .u64 (n : Int), .agg #[.int .i64 len, .slice A bs.length c], .int .i64 p] w fun e w' => e = .returned (.bool true) ∧ Below w.heap.size w w' := by
  -- the reading
  have key : (∃ e0 : Int, e0 ≠ 0 ∧ (∀ V, Rd V V.heap.size A bs → Calls Try.prog 17 #[.agg #[.int .i64 len, .slice A bs.length c], .int .i64 p] V (ReadP V 0 0 e0)) ∧ (∀ V, Rd V V.heap.size A bs → Calls Try.prog 18 #[.agg #[.int .i64 len, .slice A bs.length c], .int .i64 p] V (ReadP V 0 0 e0)) ∧ rdE len bs p = e0) ∨
      (∃ (l : List Bool) (s : Nat), len = (l.length : Int) ∧ bs = pack l ∧ p = (s : Int) ∧ l.length ≤ 8192 ∧ s ≤ l.length) := by
    by_cases hc : chk len bs = 0
    · obtain ⟨l, rfl, hl, rfl⟩ := chk_zero len bs hb hc
      by_cases hp : p < 0 ∨ (l.length : Int) < p
      · left
        exact ⟨3, by decide, fun V h => rgamma_bad _ A c _ p 3 (by decide) (fun V h => read_range l hl A c p V h hp) V h, fun V h => rdelta_bad _ A c _ p 3 (by decide) (fun V h => read_range l hl A c p V h hp) V h, by unfold rdE; rw [if_neg (by omega), if_pos hp]⟩
      · right
        obtain ⟨s, rfl⟩ := Int.eq_ofNat_of_zero_le (show 0 ≤ p by omega)
        exact ⟨l, s, rfl, rfl, rfl, hl, by omega⟩
    · left
      exact ⟨chk len bs, hc, fun V h => rgamma_bad _ A c _ p _ hc (fun V h => read_bad len A c bs p V hb h hc) V h, fun V h => rdelta_bad _ A c _ p _ hc (fun V h => read_bad len A c bs p V hb h hc) V h, by unfold rdE; rw [if_pos hc]⟩
  by_cases hbig : 1099511627776 < n
  · rcases key with ⟨e0, h0, k1, k2, k3⟩ | ⟨l, s, rfl, rfl, rfl, hl, hs⟩
    · exact etells_bb w (n : Int) len A c bs.length bs p hA e0 h0 (by omega) (fun V => gamma_e n hbig V) (fun V => delta_e n hbig V) k1 k2 (fun V => long_e n hbig V) (fun V h => readErr_any len A c bs p V hb h e0 k3) (same_hid [] (by decide)) (same_hid [] (by decide))
    · exact etells_bo w (n : Int) (l.length : Int) A c (pack l).length (pack l) (s : Int) hA (gamR l s).1 (gamR l s).2.1 (delR l s).1 (delR l s).2.1 l.length (gamR l s).2.2 (delR l s).2.2 l (by omega) (fun V => gamma_e n hbig V) (fun V => delta_e n hbig V) (fun V h => rgamma_l l hl A c s hs V h) (fun V h => rdelta_l l hl A c s hs V h) (fun V => long_e n hbig V) (fun V h => readErr_any _ A c _ _ V (pack_lt l) h 0 (by unfold rdE; rw [chk_pack l hl, if_neg (by omega), if_neg (by omega)])) (same_hid [] (by decide)) (same_hid [] (by decide))
        (fun V h => bl_cap l hl A c V h) (fun A c V h h1 h2 => gammaRead_any l l.length rfl hl A c s hs h1 h2 _ rfl V h) (fun A c V h h1 h2 => deltaRead_any l l.length rfl hl A c s hs h1 h2 _ rfl V h)
  · have hn' : n ≤ 1099511627776 := by omega
    have k40 := lg_lt_of n 41 (by omega)
    have k6 := lg_lt_of (lg n) 6 (by omega)
    have l1 : (gam n).length ≤ 8192 := by rw [gam_length]; omega
    have l2 : (del n).length ≤ 8192 := by rw [del_length]; omega
    rcases key with ⟨e0, h0, k1, k2, k3⟩ | ⟨l, s, rfl, rfl, rfl, hl, hs⟩
    · exact etells_ob w (n : Int) len A c bs.length bs p hA ((gam n).length : Int) ((del n).length : Int) (pack (gam n)).length (pack (del n)).length (gam n).length (del n).length (pack (gam n)) (pack (del n)) (gam n) (del n) e0 h0 (by omega) (fun V => gamma_ok n hn' _ rfl V) (fun V => delta_ok n hn' _ rfl V) k1 k2 (fun V => long_ok n hn' _ _ rfl rfl V) (fun V h => readErr_any len A c bs p V hb h e0 k3)
        (fun V => lst_rd (gammaList_any n hn' _ rfl V)) (fun A c V h => pk_rd _ l1 A c V h) (fun V => lst_rd (deltaList_any n hn' _ rfl V)) (fun A c V h => pk_rd _ l2 A c V h) (same_hid _ l1) (same_hid _ l2)
    · exact etells_oo w (n : Int) (l.length : Int) A c (pack l).length (pack l) (s : Int) hA ((gam n).length : Int) ((del n).length : Int) (pack (gam n)).length (pack (del n)).length (gam n).length (del n).length (pack (gam n)) (pack (del n)) (gam n) (del n) (gamR l s).1 (gamR l s).2.1 (delR l s).1 (delR l s).2.1 l.length (gamR l s).2.2 (delR l s).2.2 l (by omega) (fun V => gamma_ok n hn' _ rfl V) (fun V => delta_ok n hn' _ rfl V) (fun V h => rgamma_l l hl A c s hs V h) (fun V h => rdelta_l l hl A c s hs V h) (fun V => long_ok n hn' _ _ rfl rfl V) (fun V h => readErr_any _ A c _ _ V (pack_lt l) h 0 (by unfold rdE; rw [chk_pack l hl, if_neg (by omega), if_neg (by omega)]))
        (fun V => lst_rd (gammaList_any n hn' _ rfl V)) (fun A c V h => pk_rd _ l1 A c V h) (fun V => lst_rd (deltaList_any n hn' _ rfl V)) (fun A c V h => pk_rd _ l2 A c V h) (same_hid _ l1) (same_hid _ l2)
        (fun V h => bl_cap l hl A c V h) (fun A c V h h1 h2 => gammaRead_any l l.length rfl hl A c s hs h1 h2 _ rfl V h) (fun A c V h h1 h2 => deltaRead_any l l.length rfl hl A c s hs h1 h2 _ rfl V h)
end Go.Proofs.Ytcacbekdghlncaa
