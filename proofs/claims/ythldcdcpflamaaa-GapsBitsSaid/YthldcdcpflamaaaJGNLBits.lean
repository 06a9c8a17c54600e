/- The law GapsBits: what is written is read, behind and ahead of whatever bits; for whatever list, place, k and bits. -/
import Derived.Test.YthldcdcpflamaaaJGNLBitsA
namespace Go.Proofs.Ythldcdcpflamaaa
set_option maxRecDepth 100000
set_option linter.unusedVariables false
open Go.RowKit Go.Shelf

/-- What Join answers. -/
def jL (lx : Int) (xs : List Nat) (ly : Int) (ys : List Nat) : List Bool := if joinE lx xs ly ys = 0 then unpack lx.toNat xs ++ unpack ly.toNat ys else []
theorem join_g (lx ly : Int) (A B : Option Addr) (c d : Nat) (xs ys : List Nat) (w : World) (hx : ∀ b ∈ xs, b < 256) (hy : ∀ b ∈ ys, b < 256) (hA : Rd w w.heap.size A xs) (hB : Rd w w.heap.size B ys) :
    Calls Try.prog 30 #[.agg #[.int .i64 lx, .slice A xs.length c], .agg #[.int .i64 ly, .slice B ys.length d]] w (Gv w ((jL lx xs ly ys).length : Int) (pack (jL lx xs ly ys)).length (pack (jL lx xs ly ys)) (joinE lx xs ly ys)) := join_any lx ly A B c d xs ys w hx hA hy hB
theorem jL_no (lx ly : Int) (xs ys : List Nat) (h : joinE lx xs ly ys ≠ 0) : jL lx xs ly ys = [] := by unfold jL; rw [if_neg h]
theorem jL_ok (a b : List Bool) (h : joinE (a.length : Int) (pack a) (b.length : Int) (pack b) = 0) : jL (a.length : Int) (pack a) (b.length : Int) (pack b) = a ++ b := by
  unfold jL
  rw [if_pos h, Int.toNat_natCast, Int.toNat_natCast, unpack_pack, unpack_pack]
/-- What Write answers. -/
theorem write_gx (xs : List Int) (n : Nat) (hn : xs.length = n) (hn2 : n ≤ 9223372036854775807) (a k : Int) : ∃ (LW : List Bool) (eW : Int), (eW ≠ 0 → LW = []) ∧ LW.length ≤ 8192 ∧
    (eW = 0 → ∃ (l : List Nat) (m j : Nat), xs = ns l ∧ Rising l ∧ a = (m : Int) ∧ m ≤ 1048576 ∧ k = (j : Int) ∧ 1 ≤ j ∧ j ≤ 16 ∧ LW = zets j (gps (m : Int) l)) ∧
    ∀ A c w, RdV w w.heap.size A (zc xs) → Calls Try.prog 17 #[.slice A n c, .int .i64 a, .int .i64 k] w (Gv w (LW.length : Int) (pack LW).length (pack LW) eW) := by
  by_cases h0 : wE xs a k = 0
  · rw [wE_eq] at h0
    by_cases h1 : gE xs a = 0
    · rw [if_neg (by omega)] at h0
      by_cases h2 : okK k = true
      · obtain ⟨l, m, rfl, hl, rfl, hm⟩ := gE_zero xs a h1
        obtain ⟨j, rfl, hj1, hj2⟩ := okK_true h2
        refine ⟨_, _, fun h => ?_, ?_, fun h => ⟨l, m, j, rfl, hl, rfl, hm, rfl, hj1, hj2, ?_⟩, fun A c w h => write_any (ns l) n hn hn2 (m : Int) (j : Int) A c w h l m j rfl hl rfl hm rfl hj1 hj2⟩
        · split at h
          · exact absurd rfl h
          · rw [if_neg (by assumption)]
        · split
          · assumption
          · simp
        · split at h
          · rw [if_pos (by assumption)]
          · omega
      · rw [if_neg h2] at h0; omega
    · rw [if_pos h1] at h0; exact absurd h0 h1
  · refine ⟨[], wE xs a k, fun _ => rfl, by simp, fun h => absurd h h0, fun A c w h => ?_⟩
    simpa [pack_nil] using write_e xs n hn hn2 a k _ rfl h0 A c w h
set_option maxHeartbeats 1000000 in
theorem gapsBits_law (A : Option Addr) (c : Nat) (xs : List Int) (a k : Int) (len1 : Int) (A1 : Option Addr) (c1 : Nat) (bs1 : List Nat) (len2 : Int) (A2 : Option Addr) (c2 : Nat) (bs2 : List Nat) (w : World)
    (hc : xs.length ≤ c) (hna : A = none → c = 0) (hb : ∀ x ∈ xs, -9223372036854775808 ≤ x ∧ x ≤ 9223372036854775807) (hA : RdV w w.heap.size A (zc xs)) (hn : xs.length ≤ 9223372036854775807) (ha : -9223372036854775808 ≤ a ∧ a ≤ 9223372036854775807) (hk : -9223372036854775808 ≤ k ∧ k ≤ 9223372036854775807)
    (hb1 : ∀ b ∈ bs1, b < 256) (hR1 : Rd w w.heap.size A1 bs1) (hb2 : ∀ b ∈ bs2, b < 256) (hR2 : Rd w w.heap.size A2 bs2) :
    Calls Try.prog 6 #[.slice A xs.length c, .int .i64 a, .int .i64 k, .agg #[.int .i64 len1, .slice A1 bs1.length c1], .agg #[.int .i64 len2, .slice A2 bs2.length c2]] w fun e w' => e = .returned (.bool true) ∧ Below w.heap.size w w' := by
  obtain ⟨LW, eW, k1, k2, k3, k4⟩ := write_gx xs _ rfl hn a k
  have J1 : ∀ A3 c3 w, Rd w w.heap.size A1 bs1 → Rd w w.heap.size A3 (pack LW) → _ := fun A3 c3 w h1 h2 => join_g len1 (LW.length : Int) A1 A3 c1 c3 bs1 (pack LW) w hb1 (pack_lt LW) h1 h2
  by_cases hw : eW = 0
  · subst hw
    by_cases he1 : joinE len1 bs1 (LW.length : Int) (pack LW) = 0
    · rw [he1] at J1
      obtain ⟨a1, b1', e1, e2, e3, e4, hlen⟩ := joinE_zero _ _ _ _ hb1 (pack_lt LW) he1
      have ex : LW = b1' := by
        have h1 := congrArg (unpack LW.length) e4
        rw [unpack_pack, show LW.length = b1'.length by omega, unpack_pack] at h1
        exact h1
      subst ex
      subst e1; subst e2
      have hJ := jL_ok a1 LW he1
      rw [hJ] at J1
      have J2 : ∀ A4 c4 w, Rd w w.heap.size A4 (pack (a1 ++ LW)) → Rd w w.heap.size A2 bs2 → _ := fun A4 c4 w h1 h2 => join_g ((a1 ++ LW).length : Int) len2 A4 A2 c4 c2 (pack (a1 ++ LW)) bs2 w (pack_lt _) hb2 h1 h2
      by_cases he2 : joinE ((a1 ++ LW).length : Int) (pack (a1 ++ LW)) len2 bs2 = 0
      · rw [he2] at J2
        obtain ⟨a2, b2', g1, g2, g3, g4, hlen2⟩ := joinE_zero _ _ _ _ (pack_lt (a1 ++ LW)) hb2 he2
        have ex : a1 ++ LW = a2 := by
          have h1 := congrArg (unpack (a1 ++ LW).length) g2
          rw [unpack_pack, show (a1 ++ LW).length = a2.length by omega, unpack_pack] at h1
          exact h1
        subst ex
        subst g3; subst g4
        have hJ2 := jL_ok (a1 ++ LW) b2' he2
        rw [hJ2] at J2
        obtain ⟨l, m, j, rfl, hl, rfl, hm, rfl, hj1, hj2, rfl⟩ := k3 rfl
        have hrd := rdG_gaps j m hj1 b2' (gps (m : Int) l) a1 [] l (fun g hg => gps_le m hm l hl g hg) (bk_gps m hm l hl)
        rw [← List.append_assoc, gps_length] at hrd
        have HRd : Hid (∀ A5 c5 w, Rd w w.heap.size A5 (pack ((a1 ++ zets j (gps (m : Int) l)) ++ b2')) → Calls Try.prog 27 #[.agg #[.int .i64 (((a1 ++ zets j (gps (m : Int) l)) ++ b2').length : Int), .slice A5 (pack ((a1 ++ zets j (gps (m : Int) l)) ++ b2')).length c5], .int .i64 (a1.length : Int), .int .i64 (m : Int), .int .i64 (j : Int), .int .i64 ((ns l).length : Int)] w fun e w' => ∃ A6 c6, e = .returned (.tuple #[.slice A6 (ns l).length c6, .int .i64 ((a1.length : Int) + ((zets j (gps (m : Int) l)).length : Int)), .int .i64 0]) ∧ RdV w' w'.heap.size A6 (zc (ns l)) ∧ Below w.heap.size w w') := by
          intro A5 c5 w h
          rw [ns_length]
          have hg := gread_in _ (by rw [List.length_append]; exact hlen2) a1.length (by rw [List.length_append, List.length_append]; omega) m hm j hj1 hj2 l.length hl.1 _ _ _ hrd A5 c5 w h
          refine hg.mono fun e w' ⟨A6, c6, h1, _, _, h4, h5⟩ => ⟨A6, c6, ?_, h4, h5⟩
          rw [h1]
          simp
        exact gbits_3 A c (ns l) _ (m : Int) (j : Int) _ _ A1 A2 c1 c2 _ _ _ _ w hA hR1 hR2 rfl hn _ _ _ _ _ _ _ _ _ (by omega) (by omega) (by omega) (by omega) (Lib.hid (k4 A c)) (Lib.hid J1) (Lib.hid J2) HRd
      · have hJ2 := jL_no _ _ _ _ he2
        rw [hJ2] at J2
        exact gbits_2 A c xs _ a k _ _ A1 A2 c1 c2 _ _ _ _ w hA hR1 hR2 _ _ _ _ _ _ _ he2 (Lib.hid (k4 A c)) (Lib.hid J1) (Lib.hid (J2))
    · have hJ := jL_no _ _ _ _ he1
      rw [hJ] at J1
      have J2 : ∀ A4 c4 w, Rd w w.heap.size A4 (pack []) → Rd w w.heap.size A2 bs2 → _ := fun A4 c4 w h1 h2 => join_g 0 len2 A4 A2 c4 c2 (pack []) bs2 w (pack_lt _) hb2 h1 h2
      exact gbits_1 A c xs _ a k _ _ A1 A2 c1 c2 _ _ _ _ w hA hR1 hR2 _ _ _ _ he1 _ _ _ _ (Lib.hid (k4 A c)) (Lib.hid (J1)) (Lib.hid (J2))
  · obtain rfl := k1 hw
    have J2 : ∀ A4 c4 w, Rd w w.heap.size A4 (pack (jL len1 bs1 0 (pack []))) → Rd w w.heap.size A2 bs2 → _ := fun A4 c4 w h1 h2 => join_g ((jL len1 bs1 0 (pack [])).length : Int) len2 A4 A2 c4 c2 (pack (jL len1 bs1 0 (pack []))) bs2 w (pack_lt _) hb2 h1 h2
    exact gbits_w A c xs _ a k _ _ A1 A2 c1 c2 _ _ _ _ w hA hR1 hR2 eW hw _ _ _ _ _ _ _ _ (Lib.hid (k4 A c)) (Lib.hid (J1)) (Lib.hid J2)
end Go.Proofs.Ythldcdcpflamaaa
