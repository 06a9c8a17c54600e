/- The law EliasBack, all its ways together. -/
import Derived.Test.YtcacbekdghlncaaEBack
namespace Go.Proofs.Ytcacbekdghlncaa
set_option maxRecDepth 100000
set_option linter.unusedVariables false
open Go.RowKit

theorem same_dec (l m : List Bool) (hl : l.length ≤ 8192) (A B : Option Addr) (c d : Nat) (w : World) (hA : Rd w w.heap.size A (pack l)) (hB : Rd w w.heap.size B (pack m)) :
    Calls Try.prog 28 #[.agg #[.int .i64 (l.length : Int), .slice A (pack l).length c], .agg #[.int .i64 (m.length : Int), .slice B (pack m).length d]] w fun e w' => e = .returned (.bool (decide (l = m))) ∧ Below w.heap.size w w' := by
  have h := sameBits_any w (l.length : Int) (m.length : Int) A B c d (pack l) (pack m) (by rw [pack_length]; omega) hA hB
  have e : (decide ((l.length : Int) = (m.length : Int)) && decide (pack l = pack m)) = decide (l = m) := by
    by_cases hlm : l = m
    · subst hlm; simp
    · rw [decide_eq_false hlm]
      by_cases h1 : l.length = m.length
      · have : ¬ pack l = pack m := fun e => hlm (pack_inj h1 e)
        simp [this]
      · have : ¬ (l.length : Int) = (m.length : Int) := by omega
        simp [this]
  rw [e] at h
  exact h
/-- Joined, or not. -/
theorem join_some (L : List Bool) (hL : L.length ≤ 8192) (len : Int) (bs : List Nat) (hb : ∀ b ∈ bs, b < 256) : ∃ t : List Bool, (L ++ t).length ≤ 8192 ∧
    ((∃ e0 : Int, e0 ≠ 0 ∧ ∀ (A B : Option Addr) (c d : Nat) (V : World), Rd V V.heap.size A (pack L) → Rd V V.heap.size B bs → Calls Try.prog 30 #[.agg #[.int .i64 (L.length : Int), .slice A (pack L).length c], .agg #[.int .i64 len, .slice B bs.length d]] V (Gv V 0 0 [] e0)) ∨
     (∀ (A B : Option Addr) (c d : Nat) (V : World), Rd V V.heap.size A (pack L) → Rd V V.heap.size B bs → Calls Try.prog 30 #[.agg #[.int .i64 (L.length : Int), .slice A (pack L).length c], .agg #[.int .i64 len, .slice B bs.length d]] V (Gv V ((L ++ t).length : Int) (pack (L ++ t)).length (pack (L ++ t)) 0))) := by
  by_cases hj : joinE (L.length : Int) (pack L) len bs = 0
  · obtain ⟨a, b, h1, h2, rfl, rfl, h5⟩ := joinE_zero _ _ _ _ (pack_lt L) hb hj
    obtain rfl : L = a := pack_inj (by omega) h2
    exact ⟨b, by rw [List.length_append]; exact h5, .inr fun A B c d V hA hB => join_l L b _ A B c d h5 rfl V hA hB⟩
  · exact ⟨[], by rw [List.append_nil]; exact hL, .inl ⟨_, hj, fun A B c d V hA hB => join_e _ _ A B c d _ _ _ (pack_lt L) hb rfl hj V hA hB⟩⟩
theorem eback_law (n : Nat) (len : Int) (A : Option Addr) (c : Nat) (bs : List Nat) (w : World) (hn : n < 18446744073709551616) (hb : ∀ b ∈ bs, b < 256) (hA : Rd w w.heap.size A bs) :
    Calls Try.prog 4 #[.int .u64 (n : Int), .agg #[.int .i64 len, .slice A bs.length c]] w fun e w' => e = .returned (.bool true) ∧ Below w.heap.size w w' := by
  by_cases hbig : 1099511627776 < n
  · exact eback_err n hbig len A c _ w (fun V => gamma_e n hbig V) (fun V => delta_e n hbig V)
  · have hn' : n ≤ 1099511627776 := by omega
    have k40 := lg_lt_of n 41 (by omega)
    have k6 := lg_lt_of (lg n) 6 (by omega)
    have l1 : (gam n).length ≤ 8192 := by rw [gam_length]; omega
    have l2 : (del n).length ≤ 8192 := by rw [del_length]; omega
    obtain ⟨t, ht, jx⟩ := join_some (gam n) l1 len bs hb
    obtain ⟨u, hu, jy⟩ := join_some (del n) l2 len bs hb
    have rx : gamR (gam n ++ t) 0 = (n, (gam n).length, 0) := by
      have := gamR_gam [] t n hn'
      simpa using this
    have ry : delR (del n ++ u) 0 = (n, (del n).length, 0) := by
      have := delR_del [] u n hn'
      simpa using this
    refine eback_ok n (gam n).length (del n).length (pack (gam n)).length (pack (del n)).length (gamR (del n ++ u) 0).1 (gamR (del n ++ u) 0).2.1 (pack (gam n ++ t)).length (pack (del n ++ u)).length ((gam n ++ t).length : Int) ((del n ++ u).length : Int) (gamR (del n ++ u) 0).2.2 len (decide (gam n = del n)) A c bs.length (pack (gam n)) (pack (del n)) bs (pack (gam n ++ t)) (pack (del n ++ u)) w hA (fun V => gamma_ok n hn' _ rfl V) (fun V => delta_ok n hn' _ rfl V) jx jy (fun A c V h => read_to (s := (n, (gam n).length, 0)) (rgamma_l _ ht A c 0 (Nat.zero_le _) V h) rx) (fun A c V h => rgamma_l _ hu A c 0 (Nat.zero_le _) V h) (fun A c V h => read_to (s := (n, (del n).length, 0)) (rdelta_l _ hu A c 0 (Nat.zero_le _) V h) ry)
      (fun A B c d V h1 h2 => same_l _ l1 A B c d V h1 h2) (fun A B c d V h1 h2 => same_l _ l2 A B c d V h1 h2) (fun A B c d V h1 h2 => same_dec _ _ l1 A B c d V h1 h2) (fun A B c d V h1 h2 => ?_) ?_
    · have := same_dec _ _ l2 A B c d V h1 h2
      have e : decide (del n = gam n) = decide (gam n = del n) := by
        by_cases h : gam n = del n
        · rw [decide_eq_true h, decide_eq_true h.symm]
        · rw [decide_eq_false h, decide_eq_false (fun h' => h h'.symm)]
      rwa [e] at this
    · intro h
      have h := of_decide_eq_true h
      have := gamR_gam [] u n hn'
      rw [h] at this
      have e : gamR (del n ++ u) 0 = (n, (del n).length, 0) := by simpa using this
      rw [e]
      exact ⟨rfl, rfl, rfl⟩
end Go.Proofs.Ytcacbekdghlncaa
