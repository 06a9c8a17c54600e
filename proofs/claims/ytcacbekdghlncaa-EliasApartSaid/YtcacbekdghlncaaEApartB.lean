/- The law EliasApart, all its ways together. -/
import Derived.Test.YtcacbekdghlncaaEApart
namespace Go.Proofs.Ytcacbekdghlncaa
set_option maxRecDepth 100000
set_option linter.unusedVariables false
open Go.RowKit

theorem eapart_law (a b : Nat) (w : World) (_ : a < 18446744073709551616) (_ : b < 18446744073709551616) :
    Calls Try.prog 6 #[.int .u64 (a : Int), .int .u64 (b : Int)] w fun e w' => e = .returned (.bool true) ∧ Below w.heap.size w w' := by
  by_cases hab : b ≤ a
  · exact eapart_ge a b hab w
  · by_cases hb : 1099511627776 < b
    · exact eapart_big a b (by omega) hb w
    · have ha' : a ≤ 1099511627776 := by omega
      have hb' : b ≤ 1099511627776 := by omega
      have m1 := lg_mono (show a ≤ b by omega)
      have m2 := lg_mono m1
      have kb := lg_lt_of b 41 (by omega)
      have gx := gam_length a
      have gy := gam_length b
      have gp := del_length a
      have gq := del_length b
      have k6 := lg_lt_of (lg b) 6 (by omega)
      have tX : ((gam b).take (gam a).length).length = (gam a).length := by rw [List.length_take]; omega
      have tP : ((del b).take (del a).length).length = (del a).length := by rw [List.length_take]; omega
      have hC : Hid (∀ A c V, Rd V V.heap.size A (pack (gam b)) → Calls Try.prog 31 #[.agg #[.int .i64 ((gam b).length : Int), .slice A (pack (gam b)).length c], .int .i64 0, .int .i64 ((gam a).length : Int)] V (Gv V ((gam a).length : Int) (pack ((gam b).take (gam a).length)).length (pack ((gam b).take (gam a).length)) 0)) := fun A c V h => by
        have := cut_l0 (gam b) ((gam b).take (gam a).length) (by omega) A c (gam a).length (by omega) rfl V h
        rwa [tX] at this
      have hD : Hid (∀ A c V, Rd V V.heap.size A (pack (del b)) → Calls Try.prog 31 #[.agg #[.int .i64 ((del b).length : Int), .slice A (pack (del b)).length c], .int .i64 0, .int .i64 ((del a).length : Int)] V (Gv V ((del a).length : Int) (pack ((del b).take (del a).length)).length (pack ((del b).take (del a).length)) 0)) := fun A c V h => by
        have := cut_l0 (del b) ((del b).take (del a).length) (by omega) A c (del a).length (by omega) rfl V h
        rwa [tP] at this
      have hS : Hid (∀ A B c d V, Rd V V.heap.size A (pack ((gam b).take (gam a).length)) → Rd V V.heap.size B (pack (gam a)) → Calls Try.prog 28 #[.agg #[.int .i64 ((gam a).length : Int), .slice A (pack ((gam b).take (gam a).length)).length c], .agg #[.int .i64 ((gam a).length : Int), .slice B (pack (gam a)).length d]] V fun e w' => e = .returned (.bool false) ∧ Below V.heap.size V w') := fun A B c d V h1 h2 => by
        have := same_no ((gam b).take (gam a).length) (gam a) tX (by omega) (gam_apart a b ha' hb' (by omega)) A B c d V h1 h2
        rwa [tX] at this
      have hT : Hid (∀ A B c d V, Rd V V.heap.size A (pack ((del b).take (del a).length)) → Rd V V.heap.size B (pack (del a)) → Calls Try.prog 28 #[.agg #[.int .i64 ((del a).length : Int), .slice A (pack ((del b).take (del a).length)).length c], .agg #[.int .i64 ((del a).length : Int), .slice B (pack (del a)).length d]] V fun e w' => e = .returned (.bool false) ∧ Below V.heap.size V w') := fun A B c d V h1 h2 => by
        have := same_no ((del b).take (del a).length) (del a) tP (by omega) (del_apart a b ha' hb' (by omega)) A B c d V h1 h2
        rwa [tP] at this
      have g1 : ∀ n k, n ≤ 1099511627776 → k ≤ (gam n).length → k ≤ 64 → Hid (∀ A c V, Rd V V.heap.size A (pack (gam n)) → Calls Try.prog 32 #[.agg #[.int .i64 ((gam n).length : Int), .slice A (pack (gam n)).length c], .int .i64 0, .int .i64 (k : Int)] V (Got V (num (((gam n).drop 0).take k)) 0)) := fun n k hn h1 h2 A c V h => by
        have := lg_lt_of n 41 (by omega)
        exact got_l (gam n) (by rw [gam_length]; omega) A c 0 k h2 (by omega) V h
      by_cases h64 : (gam a).length ≤ 64
      · by_cases hl : (gam a).length = (gam b).length
        · refine eapart_es a b _ _ _ _ _ _ _ _ _ _ _ _ _ _ _ _ _ _ (by omega) hb' (by omega) (by omega) hl h64 ?_ w (fun V => gamma_ok a ha' _ rfl V) (fun V => gamma_ok b hb' _ rfl V) (fun V => delta_ok a ha' _ rfl V) (fun V => delta_ok b hb' _ rfl V) hC hD hS hT (g1 a _ ha' (Nat.le_refl _) h64) (g1 b _ hb' (by omega) h64)
          rw [List.drop_zero, List.drop_zero, List.take_length, hl, List.take_length, num_gam, num_gam]
          omega
        · exact eapart_ne a b _ _ _ _ _ _ _ _ _ _ _ _ _ _ _ _ _ _ (by omega) hb' (by omega) (by omega) hl h64 w (fun V => gamma_ok a ha' _ rfl V) (fun V => gamma_ok b hb' _ rfl V) (fun V => delta_ok a ha' _ rfl V) (fun V => delta_ok b hb' _ rfl V) hC hD hS hT (g1 a _ ha' (Nat.le_refl _) h64) (g1 b _ hb' (by omega) h64)
      · by_cases hl : (gam a).length = (gam b).length
        · exact eapart_eb a b _ _ _ _ _ _ _ _ _ _ _ _ _ _ _ _ _ _ (by omega) hb' (by omega) (by omega) hl (by omega) w (fun V => gamma_ok a ha' _ rfl V) (fun V => gamma_ok b hb' _ rfl V) (fun V => delta_ok a ha' _ rfl V) (fun V => delta_ok b hb' _ rfl V) hC hD hS hT (g1 a 64 ha' (by omega) (by omega)) (g1 b 64 hb' (by omega) (by omega))
        · exact eapart_nb a b _ _ _ _ _ _ _ _ _ _ _ _ _ _ _ _ _ _ (by omega) hb' (by omega) (by omega) hl (by omega) w (fun V => gamma_ok a ha' _ rfl V) (fun V => gamma_ok b hb' _ rfl V) (fun V => delta_ok a ha' _ rfl V) (fun V => delta_ok b hb' _ rfl V) hC hD hS hT (g1 a 64 ha' (by omega) (by omega)) (g1 b 64 hb' (by omega) (by omega))
end Go.Proofs.Ytcacbekdghlncaa
