/- The law GapsTell: Check, Gaps, Back and Write answer just what the document says; for whatever they are handed. -/
import Derived.Test.YthldcdcpflamaaaJGNLTellA
namespace Go.Proofs.Ythldcdcpflamaaa
set_option maxRecDepth 100000
set_option linter.unusedVariables false
open Go.RowKit Go.Shelf

/-- What is written, and the error. -/
def wrL (xs : List Int) (a k : Int) : List Bool := if wE xs a k ≠ 0 then [] else if (zets k.toNat (gps a (xs.map Int.toNat))).length ≤ 8192 then zets k.toNat (gps a (xs.map Int.toNat)) else []
def wrE (xs : List Int) (a k : Int) : Int := if wE xs a k ≠ 0 then wE xs a k else if (zets k.toNat (gps a (xs.map Int.toNat))).length ≤ 8192 then 0 else 8
theorem wrL_le (xs : List Int) (a k : Int) : (wrL xs a k).length ≤ 8192 := by
  unfold wrL
  split
  · simp
  · split
    · assumption
    · simp
theorem wr_zero (l : List Nat) (m j : Nat) (h : wE (ns l) (m : Int) (j : Int) = 0) : wrL (ns l) (m : Int) (j : Int) = (if (zets j (gps (m : Int) l)).length ≤ 8192 then zets j (gps (m : Int) l) else []) ∧ wrE (ns l) (m : Int) (j : Int) = (if (zets j (gps (m : Int) l)).length ≤ 8192 then 0 else 8) := by
  unfold wrL wrE
  rw [h, ns_nat, Int.toNat_natCast]
  simp
theorem wr_one (xs : List Int) (a k : Int) (h : wE xs a k ≠ 0) : wrL xs a k = [] ∧ wrE xs a k = wE xs a k := by
  unfold wrL wrE
  rw [if_pos h, if_pos h]; exact ⟨rfl, rfl⟩
theorem wE_zero (xs : List Int) (a k : Int) (h : wE xs a k = 0) : ∃ (l : List Nat) (m j : Nat), xs = ns l ∧ Rising l ∧ a = (m : Int) ∧ m ≤ 1048576 ∧ k = (j : Int) ∧ 1 ≤ j ∧ j ≤ 16 := by
  rw [wE_eq] at h
  by_cases h1 : gE xs a = 0
  · rw [if_neg (by omega)] at h
    by_cases h2 : okK k = true
    · obtain ⟨l, m, e1, hl, e2, hm⟩ := gE_zero xs a h1
      obtain ⟨j, e3, hj1, hj2⟩ := okK_true h2
      exact ⟨l, m, j, e1, hl, e2, hm, e3, hj1, hj2⟩
    · rw [if_neg h2] at h; omega
  · rw [if_pos h1] at h; exact absurd h h1
theorem gv_nil {w : World} {e0 : Int} {e : Ending} {w' : World} (h : Gv w 0 0 (pack []) e0 e w') : Gv w (([] : List Bool).length : Int) (pack []).length (pack []) e0 e w' := h
theorem wr_prog (xs : List Int) (n : Nat) (hn : xs.length = n) (hn2 : n ≤ 9223372036854775807) (a k : Int) (A : Option Addr) (c : Nat) (w : World) (h : RdV w w.heap.size A (zc xs)) :
    Calls Try.prog 17 #[.slice A n c, .int .i64 a, .int .i64 k] w (Gave w (wrL xs a k) (wrE xs a k)) := by
  by_cases h0 : wE xs a k = 0
  · obtain ⟨l, m, j, rfl, hl, rfl, hm, rfl, hj1, hj2⟩ := wE_zero xs a k h0
    obtain ⟨q1, q2⟩ := wr_zero l m j h0
    rw [q1, q2]
    refine write_in l hl n (by rw [ns_length] at hn; exact hn) m hm j hj1 hj2 _ rfl _ _ (fun q => ?_) (fun q => ?_) A c w h
    · rw [if_pos q, if_pos q]; exact ⟨rfl, rfl⟩
    · rw [if_neg (by omega), if_neg (by omega)]; exact ⟨rfl, rfl⟩
  · obtain ⟨q1, q2⟩ := wr_one xs a k h0
    rw [q1, q2]
    exact (write_e xs n hn hn2 a k _ rfl h0 A c w h).mono fun _ _ q => gv_nil q
theorem wr_ref (xs : List Int) (n : Nat) (hn : xs.length = n) (hn2 : n ≤ 9223372036854775807) (a k : Int) (A : Option Addr) (c : Nat) (w : World) (h : RdV w w.heap.size A (zc xs)) :
    Calls Try.prog 21 #[.slice A n c, .int .i64 a, .int .i64 k] w (Gave w (wrL xs a k) (wrE xs a k)) := by
  by_cases h0 : wE xs a k = 0
  · obtain ⟨l, m, j, rfl, hl, rfl, hm, rfl, hj1, hj2⟩ := wE_zero xs a k h0
    obtain ⟨q1, q2⟩ := wr_zero l m j h0
    rw [q1, q2]
    refine rwrite_in l hl n (by rw [ns_length] at hn; exact hn) m hm j hj1 hj2 _ rfl _ _ (fun q => ?_) (fun q => ?_) A c w h
    · rw [if_pos q, if_pos q]; exact ⟨rfl, rfl⟩
    · rw [if_neg (by omega), if_neg (by omega)]; exact ⟨rfl, rfl⟩
  · obtain ⟨q1, q2⟩ := wr_one xs a k h0
    rw [q1, q2]
    exact (rwrite_e xs n hn hn2 a k _ rfl h0 A c w h).mono fun _ _ q => gv_nil q
theorem numN {w : World} {l : List Nat} {err : Int} {e : Ending} {w' : World} (h : NumsP w l err e w') : NumN w l.length l err e w' := by
  obtain ⟨A, c, he, -, -, r, b⟩ := h; exact ⟨A, c, he, r, b⟩
theorem intN {w : World} {l : List Nat} {err : Int} {e : Ending} {w' : World} (h : IntsP w l err e w') : IntN w l.length l err e w' := by
  obtain ⟨A, c, he, -, -, r, b⟩ := h; exact ⟨A, c, he, r, b⟩
theorem bkL_len (gs : List Nat) (a : Int) : (bkL gs a).length ≤ gs.length := by
  by_cases h : bkE gs a = 0
  · obtain ⟨l, n, _, _, _, hb, e⟩ := bkE_zero gs a h
    rw [e]
    have key : ∀ (gs m r : List Nat), bk n m gs = some r → r.length = m.length + gs.length := by
      intro gs
      induction gs with
      | nil => intro m r h; unfold bk at h; cases h; simp
      | cons g gs ih =>
        intro m r h
        unfold bk at h
        split at h
        · have := ih _ _ h; simp at this ⊢; omega
        · cases h
    have := key gs [] l hb
    simp at this; omega
  · rw [bkL_no gs a h]; simp

set_option maxHeartbeats 1000000 in
theorem gapsTell_law (A : Option Addr) (c : Nat) (xs : List Int) (G : Option Addr) (d : Nat) (gs : List Nat) (a k : Int) (w : World) (hc : xs.length ≤ c) (hna : A = none → c = 0) (hb : ∀ x ∈ xs, -9223372036854775808 ≤ x ∧ x ≤ 9223372036854775807) (hA : RdV w w.heap.size A (zc xs)) (hn : xs.length ≤ 9223372036854775807)
    (hg : ∀ g ∈ gs, g < 18446744073709551616) (hG : RdV w w.heap.size G (nc gs)) (hm : gs.length ≤ 9223372036854775807) (ha : -9223372036854775808 ≤ a ∧ a ≤ 9223372036854775807) (hk : -9223372036854775808 ≤ k ∧ k ≤ 9223372036854775807) :
    Calls Try.prog 3 #[.slice A xs.length c, .slice G gs.length d, .int .i64 a, .int .i64 k] w fun e w' => e = .returned (.bool true) ∧ Below w.heap.size w w' := by
  have HGp : Hid (∀ V, RdV V V.heap.size A (zc xs) → Calls Try.prog 15 #[.slice A xs.length c, .int .i64 a] V (NumN V (gL xs a).length (gL xs a) (gE xs a))) := fun V h => (gaps_any xs _ rfl hn a A c V h).mono fun _ _ q => numN q
  have HBk : Hid (∀ V, RdV V V.heap.size G (nc gs) → Calls Try.prog 16 #[.slice G gs.length d, .int .i64 a] V (IntN V (bkL gs a).length (bkL gs a) (bkE gs a))) := fun V h => (back_any gs _ rfl hg a G d V h).mono fun _ _ q => intN q
  have HRB : Hid (∀ V, RdV V V.heap.size G (nc gs) → Calls Try.prog 20 #[.slice G gs.length d, .int .i64 a] V (IntN V (bkL gs a).length (bkL gs a) (bkE gs a))) := fun V h => (rback_any gs _ rfl hg a G d V h).mono fun _ _ q => intN q
  have HW : Hid (∀ V, RdV V V.heap.size A (zc xs) → Calls Try.prog 17 #[.slice A xs.length c, .int .i64 a, .int .i64 k] V (Gv V ((wrL xs a k).length : Int) (pack (wrL xs a k)).length (pack (wrL xs a k)) (wrE xs a k))) := fun V h => wr_prog xs _ rfl hn a k A c V h
  have HRW : Hid (∀ V, RdV V V.heap.size A (zc xs) → Calls Try.prog 21 #[.slice A xs.length c, .int .i64 a, .int .i64 k] V (Gv V ((wrL xs a k).length : Int) (pack (wrL xs a k)).length (pack (wrL xs a k)) (wrE xs a k))) := fun V h => wr_ref xs _ rfl hn a k A c V h
  have HRC : Hid (∀ V, RdV V V.heap.size A (zc xs) → Calls Try.prog 18 #[.slice A xs.length c] V fun e w' => e = .returned (.int .i64 (rchk xs)) ∧ Below V.heap.size V w') := fun V h => rising_any xs _ rfl hn A c V h
  have HCk : Hid (∀ V, RdV V V.heap.size A (zc xs) → Calls Try.prog 23 #[.slice A xs.length c] V fun e w' => e = .returned (.int .i64 (rchk xs)) ∧ Below V.heap.size V w') := fun V h => gcheck_any xs _ rfl hn A c V h
  have hbl := bkL_len gs a
  have HSI : Hid (∀ (A1 A2 : Option Addr) (c1 c2 : Nat) (V : World), RdV V V.heap.size A1 (zc (ns (bkL gs a))) → RdV V V.heap.size A2 (zc (ns (bkL gs a))) → Calls Try.prog 25 #[.slice A1 (bkL gs a).length c1, .slice A2 (bkL gs a).length c2] V fun e w' => e = .returned (.bool true) ∧ Below V.heap.size V w') := fun A1 A2 c1 c2 V h1 h2 => sameI_x (ns (bkL gs a)) _ (ns_length _) (by omega) A1 A2 c1 c2 V h1 h2
  have HSB : Hid (∀ (A1 A2 : Option Addr) (c1 c2 : Nat) (V : World), Rd V V.heap.size A1 (pack (wrL xs a k)) → Rd V V.heap.size A2 (pack (wrL xs a k)) → Calls Try.prog 26 #[.agg #[.int .i64 ((wrL xs a k).length : Int), .slice A1 (pack (wrL xs a k)).length c1], .agg #[.int .i64 ((wrL xs a k).length : Int), .slice A2 (pack (wrL xs a k)).length c2]] V fun e w' => e = .returned (.bool true) ∧ Below V.heap.size V w') := fun A1 A2 c1 c2 V h1 h2 => same_l (wrL xs a k) (wrL_le xs a k) A1 A2 c1 c2 V h1 h2
  have hgE := gE_eq xs a
  have hS0 : gE xs a ≠ 0 → ∀ (A1 : Option Addr) (c1 : Nat) (V : World), RdV V V.heap.size A1 (nc (gL xs a)) → Calls Try.prog 24 #[.slice A1 (gL xs a).length c1, .slice none 0 0] V fun e w' => e = .returned (.bool true) ∧ Below V.heap.size V w' := fun h A1 c1 V hV => by
    rw [gL_no xs a h] at hV ⊢
    exact sameN_x [] 0 rfl (by omega) A1 none c1 0 V hV (.inl rfl)
  by_cases h1 : rchk xs = 0
  · rw [h1] at HRC HCk
    rw [if_neg (by simpa using h1)] at hgE
    by_cases h2 : a < 0
    · have hok : okN a = false := by unfold okN; simp; omega
      rw [hok] at hgE
      simp only [Bool.false_eq_true, if_false] at hgE
      have HSN := Lib.hid (hS0 (by rw [hgE]; decide))
      rw [hgE] at HGp
      exact gtell2 A G c d _ _ (zc xs) (nc gs) a k _ _ _ _ _ _ _ _ _ w hA hG (by simpa using h2) HGp HBk HW HRC HCk HRB HRW HSI HSB HSN
    · by_cases h3 : 1048576 < a
      · have hok : okN a = false := by unfold okN; simp; omega
        rw [hok] at hgE
        simp only [Bool.false_eq_true, if_false] at hgE
        have HSN := Lib.hid (hS0 (by rw [hgE]; decide))
        rw [hgE] at HGp
        exact gtell3 A G c d _ _ (zc xs) (nc gs) a k _ _ _ _ _ _ _ _ _ w hA hG (by simp; omega) (by simpa using h3) HGp HBk HW HRC HCk HRB HRW HSI HSB HSN
      · have hok : okN a = true := by unfold okN; simp; omega
        rw [hok] at hgE
        simp only [if_true] at hgE
        rw [hgE] at HGp
        obtain ⟨l, m, e1, hl, e2, hm2⟩ := gE_zero xs a hgE
        have HGO : Hid (∀ V, RdV V V.heap.size A (zc xs) → Calls Try.prog 19 #[.slice A xs.length c, .int .i64 a] V fun e w' => ∃ A2 c2, e = .returned (.slice A2 (gL xs a).length c2) ∧ RdV w' w'.heap.size A2 (nc (gL xs a)) ∧ Below V.heap.size V w') := fun V hV => by
          rw [e1, e2, gL_ok l hl m hm2, gps_length, ns_length]
          rw [e1] at hV
          exact (gapsOf_in l hl _ rfl m hm2 A c V hV).mono fun _ _ ⟨A2, c2, q1, _, _, q4, q5⟩ => ⟨A2, c2, q1, q4, q5⟩
        have hgl : (gL xs a).length ≤ 300 := by rw [e1, e2, gL_ok l hl m hm2, gps_length]; exact hl.1
        have HSN : Hid (∀ (A1 A2 : Option Addr) (c1 c2 : Nat) (V : World), RdV V V.heap.size A1 (nc (gL xs a)) → RdV V V.heap.size A2 (nc (gL xs a)) → Calls Try.prog 24 #[.slice A1 (gL xs a).length c1, .slice A2 (gL xs a).length c2] V fun e w' => e = .returned (.bool true) ∧ Below V.heap.size V w') := fun A1 A2 c1 c2 V h1 h2 => sameN_x (gL xs a) _ rfl (by omega) A1 A2 c1 c2 V h1 h2
        exact gtell4 A G c d _ _ (zc xs) (nc gs) a k _ _ _ _ _ _ _ _ _ w hA hG (by simp; omega) (by simp; omega) HGp HBk HW HRC HCk HRB HRW HSI HSB HGO HSN
  · rw [if_pos h1] at hgE
    have HSN := Lib.hid (hS0 (by rw [hgE]; exact h1))
    rw [hgE] at HGp
    exact gtell1 A G c d _ _ (zc xs) (nc gs) a k _ _ _ _ _ _ _ _ _ _ w hA hG (by simpa using h1) HGp HBk HW HRC HCk HRB HRW HSI HSB HSN
end Go.Proofs.Ythldcdcpflamaaa
