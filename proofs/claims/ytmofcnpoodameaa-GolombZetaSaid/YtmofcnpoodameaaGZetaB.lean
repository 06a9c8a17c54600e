/- The law GolombZeta, all its ways together. -/
import Derived.Test.YtmofcnpoodameaaGZeta
import Derived.Test.YtmofcnpoodameaaGApart
import Derived.Test.YtmofcnpoodameaaETellsB
namespace Go.Proofs.Ytmofcnpoodameaa
set_option maxRecDepth 100000
set_option linter.unusedVariables false
open Go.RowKit

theorem rcE_rdE (len : Int) (bs : List Nat) (p : Int) (ok : Bool) (h : rdE len bs p ≠ 0) : rcE len bs p ok = rdE len bs p := by
  unfold rcE rdE at *
  by_cases hc : chk len bs = 0
  · have hn : ¬ (chk len bs ≠ 0) := fun h => h hc
    rw [if_neg hn] at h ⊢
    rw [if_neg hn]
    by_cases hp : p < 0 ∨ len < p
    · rw [if_pos hp, if_pos]
      rcases hp with hp | hp
      · exact .inl hp
      · exact .inr (.inl hp)
    · rw [if_neg hp] at h; exact absurd rfl h
  · rw [if_pos hc, if_pos hc]
theorem rcE_no (len : Int) (bs : List Nat) (p : Int) (h : rdE len bs p = 0) : rcE len bs p false = 3 := by
  unfold rcE rdE at *
  by_cases hc : chk len bs = 0
  · rw [if_neg (fun h => h hc), if_pos (.inr (.inr rfl))]
  · rw [if_pos hc] at h; exact absurd h hc
theorem rdE_zero (len : Int) (bs : List Nat) (p : Int) (hb : ∀ b ∈ bs, b < 256) (h : rdE len bs p = 0) : ∃ (l : List Bool) (s : Nat), len = (l.length : Int) ∧ bs = pack l ∧ p = (s : Int) ∧ l.length ≤ 8192 ∧ s ≤ l.length := by
  unfold rdE at h
  by_cases hc : chk len bs = 0
  · rw [if_neg (fun h => h hc)] at h
    obtain ⟨l, rfl, hl, rfl⟩ := chk_zero len bs hb hc
    by_cases hp : p < 0 ∨ (l.length : Int) < p
    · rw [if_pos hp] at h; omega
    · obtain ⟨s, rfl⟩ := Int.eq_ofNat_of_zero_le (show 0 ≤ p by omega)
      exact ⟨l, s, rfl, rfl, rfl, hl, by omega⟩
  · rw [if_pos hc] at h; exact absurd h hc
theorem bl_only (l : List Bool) (hl : l.length ≤ 8192) (A : Option Addr) (c : Nat) (V : World) (h : Rd V V.heap.size A (pack l)) :
    Calls Try.prog 24 #[.agg #[.int .i64 (l.length : Int), .slice A (pack l).length c]] V fun e w' => ∃ A c, e = .returned (.slice A l.length c) ∧ RdV w' w'.heap.size A (ic l) ∧ Below V.heap.size V w' :=
  (bl_cap l hl A c V h).mono fun _ _ ⟨A', c', h1, h2, h3, _⟩ => ⟨A', c', h1, h2, h3⟩

theorem gzeta_law (n : Nat) (k : Int) (len : Int) (A : Option Addr) (c : Nat) (bs : List Nat) (p : Int) (w : World) (hn : n < 18446744073709551616) (_ : -9223372036854775808 ≤ k ∧ k ≤ 9223372036854775807) (hb : ∀ b ∈ bs, b < 256) (hA : Rd w w.heap.size A bs) (_ : -9223372036854775808 ≤ p ∧ p ≤ 9223372036854775807) :
    Calls Try.prog 9 #[.int .u64 (n : Int), .int .i64 k, .agg #[.int .i64 len, .slice A bs.length c], .int .i64 p] w fun e w' => e = .returned (.bool true) ∧ Below w.heap.size w w' := by
  have hbad : rdE len bs p ≠ 0 → Hid (∀ V, Rd V V.heap.size A bs → Calls Try.prog 45 #[.agg #[.int .i64 len, .slice A bs.length c], .int .i64 p, .int .i64 k] V (ReadP V 0 0 (rdE len bs p))) := fun h V hV => by
    have e := rcE_rdE len bs p (okK k) h
    have := rzeta_bad_l len A c bs p k hb (by rw [e]; exact h) V hV
    rwa [e] at this
  have herr : Hid (∀ V, Rd V V.heap.size A bs → Calls Try.prog 23 #[.agg #[.int .i64 len, .slice A bs.length c], .int .i64 p] V fun e w' => e = .returned (.int .i64 (rdE len bs p)) ∧ Below V.heap.size V w') := fun V hV => readErr_any len A c bs p V hb hV _ rfl
  by_cases hk : 1 ≤ k ∧ k ≤ 16
  · obtain ⟨j, rfl⟩ := Int.eq_ofNat_of_zero_le (show 0 ≤ k by omega)
    by_cases hn40 : n ≤ 1099511627776
    · have zl := zet_len_le n j (by omega) (by omega) hn40
      have hX : Hid (∀ V, Calls Try.prog 44 #[.int .u64 (n : Int), .int .i64 (j : Int)] V (Gv V ((zet n j).length : Int) (pack (zet n j)).length (pack (zet n j)) 0)) := fun V => zeta_ok n j (by omega) (by omega) hn40 _ rfl V
      have hZL : Hid (∀ V, Calls Try.prog 46 #[.int .u64 (n : Int), .int .i64 (j : Int)] V fun e w' => ∃ A c, e = .returned (.slice A (zet n j).length c) ∧ RdV w' w'.heap.size A (ic (zet n j)) ∧ Below V.heap.size V w') := fun V => lst_rd (zetaList_any n j (by omega) (by omega) hn40 _ rfl V)
      by_cases hr : rdE len bs p = 0
      · obtain ⟨l, s, rfl, rfl, rfl, hl, hs⟩ := rdE_zero len bs p hb hr
        rw [hr] at herr
        exact gzeta_ooo w (n : Int) (j : Int) (l.length : Int) A c (pack l).length (pack l) (s : Int) hA _ _ _ _ (zet n j) (zetR l s j).1 (zetR l s j).2.1 l.length (zetR l s j).2.2 l (by omega) (by omega) (by omega) hX (fun V hV => rzeta_l l hl j (by omega) (by omega) A c s hs V hV) herr hZL (fun A c V h => pk_rd _ zl A c V h) (same_hid _ zl) (fun V hV => bl_only l hl A c V hV) (fun A c V hV => zetaRead_any l l.length rfl hl A c s j hs (by omega) (by omega) _ rfl V hV)
      · exact gzeta_oob w (n : Int) (j : Int) len A c bs.length bs p hA _ _ _ _ (zet n j) _ hr (by omega) (by omega) (by omega) hX (hbad hr) herr hZL (fun A c V h => pk_rd _ zl A c V h) (same_hid _ zl)
    · have hX : Hid (∀ V, Calls Try.prog 44 #[.int .u64 (n : Int), .int .i64 (j : Int)] V (Gv V 0 0 [] 3)) := fun V => zeta_no n j (by omega) V
      by_cases hr : rdE len bs p = 0
      · obtain ⟨l, s, rfl, rfl, rfl, hl, hs⟩ := rdE_zero len bs p hb hr
        rw [hr] at herr
        exact gzeta_obo w (n : Int) (j : Int) (l.length : Int) A c (pack l).length (pack l) (s : Int) hA (zetR l s j).1 (zetR l s j).2.1 l.length (zetR l s j).2.2 l (by omega) (by omega) (by omega) hX (fun V hV => rzeta_l l hl j (by omega) (by omega) A c s hs V hV) herr (same_hid [] (by decide)) (fun V hV => bl_only l hl A c V hV) (fun A c V hV => zetaRead_any l l.length rfl hl A c s j hs (by omega) (by omega) _ rfl V hV)
      · exact gzeta_obb w (n : Int) (j : Int) len A c bs.length bs p hA _ hr (by omega) (by omega) (by omega) hX (hbad hr) herr (same_hid [] (by decide))
  · have hX : Hid (∀ V, Calls Try.prog 44 #[.int .u64 (n : Int), .int .i64 k] V (Gv V 0 0 [] 3)) := fun V => zeta_no n k (fun h => hk ⟨h.1, h.2.1⟩) V
    have hok : okK k = false := by unfold okK; exact decide_eq_false hk
    by_cases hr : rdE len bs p = 0
    · rw [hr] at herr
      have h3 : Hid (∀ V, Rd V V.heap.size A bs → Calls Try.prog 45 #[.agg #[.int .i64 len, .slice A bs.length c], .int .i64 p, .int .i64 k] V (ReadP V 0 0 3)) := fun V hV => by
        have e : rcE len bs p (okK k) = 3 := by rw [hok]; exact rcE_no len bs p hr
        have := rzeta_bad_l len A c bs p k hb (by rw [e]; decide) V hV
        rwa [e] at this
      by_cases hlo : k < 1
      · exact gzeta_lo w (n : Int) k len A c bs.length bs p hA hlo hX h3 herr (same_hid [] (by decide))
      · exact gzeta_ho w (n : Int) k len A c bs.length bs p hA (by omega) hX h3 herr (same_hid [] (by decide))
    · by_cases hlo : k < 1
      · exact gzeta_lb w (n : Int) k len A c bs.length bs p hA _ hr hlo hX (hbad hr) herr (same_hid [] (by decide))
      · exact gzeta_hb w (n : Int) k len A c bs.length bs p hA _ hr (by omega) hX (hbad hr) herr (same_hid [] (by decide))
end Go.Proofs.Ytmofcnpoodameaa
