/- The law FibTells for whatever is handed in: its ways put together. -/
import Derived.Test.YtjogccpnhcnedaaDoorFLTellsB
import Derived.Test.YtjogccpnhcnedaaDoorFLBack
namespace Go.Proofs.YtjogccpnhcnedaaDoor
set_option maxRecDepth 100000
set_option linter.unusedVariables false
open Go.RowKit Go.Shelf

theorem inted_off {w : World} {L : List Int} {e : Ending} {w' : World} (h : Inted w L e w') : ∃ A c, e = .returned (.slice A L.length c) ∧ (∀ b o, A = some ⟨b, o, none⟩ → w.heap.size ≤ b) ∧ RdV w' w'.heap.size A (zc L) ∧ Below w.heap.size w w' := by
  obtain ⟨A, c, h1, h2, h3⟩ := h
  refine ⟨A, c, h1, ?_, own_rdv h2, h3⟩
  rintro b o rfl
  exact (h2.lt b rfl).1

set_option maxHeartbeats 4000000 in
theorem ftells_law (i : Int) (n : Nat) (A : Option Addr) (c : Nat) (l : List Int) (len : Int) (B : Option Addr) (d : Nat) (bs : List Nat) (p : Int) (w : World) (hi : -9223372036854775808 ≤ i ∧ i ≤ 9223372036854775807) (hn : n < 18446744073709551616)
    (hA : RdV w w.heap.size A (zc l)) (hl : l.length ≤ 9223372036854775807) (hb : ∀ b ∈ bs, b < 256) (hB : Rd w w.heap.size B bs) (hp : -9223372036854775808 ≤ p ∧ p ≤ 9223372036854775807) (hN : Nm w) :
    Calls Tryd.prog 3 #[.int .i64 i, .int .u64 (n : Int), .slice A l.length c, .agg #[.int .i64 len, .slice B bs.length d], .int .i64 p] w fun e w' => e = .returned (.bool true) ∧ Below w.heap.size w w' := by
  have H1 := Lib.hid (fun w h => number_any i w h)
  have H3 : Hid (∀ w, RdV w w.heap.size A (zc l) → Nm w → Calls Tryd.prog 11 #[.slice A l.length c] w fun e w' => e = .returned (.tuple #[.int .u64 ((sumR [] l).1 : Int), .int .i64 (sumR [] l).2]) ∧ Below w.heap.size w w') := fun w h1 h2 => sum_any l _ rfl hl A c w h1 h2 _ _ rfl
  have H10 : Hid (∀ w, RdV w w.heap.size A (zc l) → Calls Tryd.prog 18 #[.slice A l.length c] w fun e w' => e = .returned (.tuple #[.int .u64 ((sumR [] l).1 : Int), .int .i64 (sumR [] l).2]) ∧ Below w.heap.size w w') := fun w h1 => fsumr_any l _ rfl hl A c w h1 _ _ rfl
  by_cases hnk : n ≤ 1099511627776
  · have h64 : n < fb 64 := by rw [fb64]; omega
    have hsl := fco_short n hnk
    have hpl := pts_len n
    have H2 := Lib.hid (parts_ok n hnk)
    have H4 := Lib.hid (code_ok n hnk)
    have H7 : Hid (∀ w, Calls Tryd.prog 15 #[.int .u64 (n : Int)] w fun e w' => ∃ A c, e = .returned (.slice A (ints (pts n)).length c) ∧ (∀ b o, A = some ⟨b, o, none⟩ → w.heap.size ≤ b) ∧ RdV w' w'.heap.size A (zc (ints (pts n))) ∧ Below w.heap.size w w') := fun w => (fpartsr_any n w h64).mono fun _ _ h => inted_off h
    have H8 : Hid (∀ w, Calls Tryd.prog 17 #[.int .u64 (n : Int)] w fun e w' => ∃ A c, e = .returned (.slice A (fco n).length c) ∧ RdV w' w'.heap.size A (ic (fco n)) ∧ Below w.heap.size w w') := fun w => (flistr_any n hnk w).mono fun _ _ ⟨A, c, h1, h2, h3⟩ => ⟨A, c, h1, own_rdv h2, h3⟩
    have H9 : Hid (∀ A c w, RdV w w.heap.size A (ic (fco n)) → Calls Tryd.prog 16 #[.slice A (fco n).length c] w fun e w' => ∃ A c, e = .returned (.agg #[.int .i64 ((fco n).length : Int), .slice A (pack (fco n)).length c]) ∧ Rd w' w'.heap.size A (pack (fco n)) ∧ Below w.heap.size w w') := fun A c w h => packBits_any (fco n) _ rfl (by omega) A c w h
    have H14 : Hid (∀ A1 c1 A2 c2 w, RdV w w.heap.size A1 (zc (ints (pts n))) → RdV w w.heap.size A2 (zc (ints (pts n))) → Calls Tryd.prog 23 #[.slice A1 (ints (pts n)).length c1, .slice A2 (ints (pts n)).length c2] w fun e w' => e = .returned (.bool true) ∧ Below w.heap.size w w') := fun A1 c1 A2 c2 w h1 h2 => by
      have := sameI_any w A1 A2 c1 c2 (ints (pts n)) (ints (pts n)) (by rw [ints_length]; omega) h1 h2
      simpa using this
    have H15 : Hid (∀ A1 c1 A2 c2 w, Rd w w.heap.size A1 (pack (fco n)) → Rd w w.heap.size A2 (pack (fco n)) → Calls Tryd.prog 24 #[.agg #[.int .i64 ((fco n).length : Int), .slice A1 (pack (fco n)).length c1], .agg #[.int .i64 ((fco n).length : Int), .slice A2 (pack (fco n)).length c2]] w fun e w' => e = .returned (.bool true) ∧ Below w.heap.size w w') := fun A1 c1 A2 c2 w h1 h2 => same_l (fco n) (by omega) A1 A2 c1 c2 w h1 h2
    by_cases hu : rdE len bs p = 0
    · obtain ⟨q, s, rfl, hq, rfl, rfl, hs⟩ := rdE_zero len bs p hb hu
      have H5 : Hid (∀ w, Rd w w.heap.size B (pack q) → Nm w → Calls Tryd.prog 13 #[.agg #[.int .i64 (q.length : Int), .slice B (pack q).length d], .int .i64 (s : Int)] w (FP w (fR q s).1 (fR q s).2.1 (fR q s).2.2)) := fun w h1 h2 => fread_l q hq B d s hs w h1 h2 _ _ _ rfl
      have H11 := Lib.hid (fun w h => readErr_any (q.length : Int) B d (pack q) (s : Int) w hb h 0 hu)
      have H12 : Hid (∀ w, Rd w w.heap.size B (pack q) → Calls Tryd.prog 21 #[.agg #[.int .i64 (q.length : Int), .slice B (pack q).length d]] w fun e w' => ∃ A c, e = .returned (.slice A q.length c) ∧ RdV w' w'.heap.size A (ic q) ∧ Below w.heap.size w w') := fun w h => (bitList_any q.length hq B _ d (pack q) rfl (by rw [pack_length]; omega) (pack_lt q) w h q (unpack_pack q).symm).mono fun _ _ ⟨A, c, h1, h2, h3⟩ => ⟨A, c, h1, own_rdv h2, h3⟩
      have H13 : Hid (∀ A c w, RdV w w.heap.size A (ic q) → Calls Tryd.prog 20 #[.slice A q.length c, .int .i64 (s : Int)] w (FP w (fR q s).1 (fR q s).2.1 (fR q s).2.2)) := fun A c w h => freadr_any q _ rfl hq A c s hs w h _ _ _ rfl
      rcases (show i < 0 ∨ 63 < i ∨ (0 ≤ i ∧ i ≤ 63) by omega) with h | h | ⟨h, h2⟩
      · exact ftells_lo_11 _ _ _ _ _ _ _ _ _ _ _ _ _ _ 0 _ 0 _ _ _ _ _ _ _ _ _ _ _ _ _ w hA hB hN H1 H2 H3 H4 H5 H7 H8 H9 H10 H11 H12 H13 H14 H15 h (by unfold ciE; rw [if_neg (by omega)]) (by unfold nuV; rw [if_neg (by omega)]) (by omega)
      · exact ftells_hi_11 _ _ _ _ _ _ _ _ _ _ _ _ _ _ 0 _ 0 _ _ _ _ _ _ _ _ _ _ _ _ _ w hA hB hN H1 H2 H3 H4 H5 H7 H8 H9 H10 H11 H12 H13 H14 H15 h (by unfold ciE; rw [if_neg (by omega)]) (by unfold nuV; rw [if_neg (by omega)]) (by omega)
      · obtain ⟨k, rfl⟩ := Int.eq_ofNat_of_zero_le h
        have H6 : Hid (∀ w, Calls Tryd.prog 14 #[.int .i64 (k : Int)] w fun e w' => e = .returned (.int .u64 (nuV (k : Int) : Int)) ∧ w = w') := fun w => by
          have := fnumr_any k (by omega) w
          unfold nuV
          rw [if_pos (by omega), Int.toNat_natCast]
          exact this
        exact ftells_in_11 _ _ _ _ _ _ _ _ _ _ _ _ _ _ 0 _ 0 _ _ _ _ _ _ _ _ _ _ _ _ _ w hA hB hN H1 H2 H3 H4 H5 H6 H7 H8 H9 H10 H11 H12 H13 H14 H15 h h2 (by unfold ciE; rw [if_pos (by omega)]) (by omega)
    · have H5 := Lib.hid (fun w (h1 : Rd w w.heap.size B bs) (h2 : Nm w) => fread_e len B d bs p hb _ rfl hu w h1)
      have H11 := Lib.hid (fun w h => readErr_any len B d bs p w hb h _ rfl)
      rcases (show i < 0 ∨ 63 < i ∨ (0 ≤ i ∧ i ≤ 63) by omega) with h | h | ⟨h, h2⟩
      · exact ftells_lo_10 _ _ _ _ _ _ _ _ _ _ _ _ _ _ 0 _ _ 0 _ 0 0 _ _ _ _ 0 _ _ [] _ w hA hB hN H1 H2 H3 H4 H5 H7 H8 H9 H10 H11 H14 H15 h (by unfold ciE; rw [if_neg (by omega)]) (by unfold nuV; rw [if_neg (by omega)]) (by omega) hu
      · exact ftells_hi_10 _ _ _ _ _ _ _ _ _ _ _ _ _ _ 0 _ _ 0 _ 0 0 _ _ _ _ 0 _ _ [] _ w hA hB hN H1 H2 H3 H4 H5 H7 H8 H9 H10 H11 H14 H15 h (by unfold ciE; rw [if_neg (by omega)]) (by unfold nuV; rw [if_neg (by omega)]) (by omega) hu
      · obtain ⟨k, rfl⟩ := Int.eq_ofNat_of_zero_le h
        have H6 : Hid (∀ w, Calls Tryd.prog 14 #[.int .i64 (k : Int)] w fun e w' => e = .returned (.int .u64 (nuV (k : Int) : Int)) ∧ w = w') := fun w => by
          have := fnumr_any k (by omega) w
          unfold nuV
          rw [if_pos (by omega), Int.toNat_natCast]
          exact this
        exact ftells_in_10 _ _ _ _ _ _ _ _ _ _ _ _ _ _ 0 _ _ 0 _ 0 0 _ _ _ _ 0 _ _ [] _ w hA hB hN H1 H2 H3 H4 H5 H6 H7 H8 H9 H10 H11 H14 H15 h h2 (by unfold ciE; rw [if_pos (by omega)]) (by omega) hu
  · have H2 : Hid (∀ w, Nm w → Calls Tryd.prog 10 #[.int .u64 (n : Int)] w fun e w' => ∃ A c, e = .returned (.tuple #[.slice A 0 c, .int .i64 3]) ∧ RdV w' w'.heap.size A [] ∧ Below w.heap.size w w') := fun w _ => parts_no n (by omega) w
    have H4 : Hid (∀ w, Nm w → Calls Tryd.prog 12 #[.int .u64 (n : Int)] w (Gv w 0 0 [] 3)) := fun w _ => code_no n (by omega) w
    have H14 : Hid (∀ A1 c1 w, Calls Tryd.prog 23 #[.slice A1 0 c1, .slice none 0 0] w fun e w' => e = .returned (.bool true) ∧ Below w.heap.size w w') := fun A1 c1 w => by
      have := sameI_any w A1 none c1 0 [] [] (by decide) (.inl rfl) (.inl rfl)
      simpa using this
    have H15 : Hid (∀ A1 c1 w, Calls Tryd.prog 24 #[.agg #[.int .i64 0, .slice A1 0 c1], .agg #[.int .i64 0, .slice none 0 0]] w fun e w' => e = .returned (.bool true) ∧ Below w.heap.size w w') := fun A1 c1 w => same_0 A1 none c1 0 w (.inl rfl)
    by_cases hu : rdE len bs p = 0
    · obtain ⟨q, s, rfl, hq, rfl, rfl, hs⟩ := rdE_zero len bs p hb hu
      have H5 : Hid (∀ w, Rd w w.heap.size B (pack q) → Nm w → Calls Tryd.prog 13 #[.agg #[.int .i64 (q.length : Int), .slice B (pack q).length d], .int .i64 (s : Int)] w (FP w (fR q s).1 (fR q s).2.1 (fR q s).2.2)) := fun w h1 h2 => fread_l q hq B d s hs w h1 h2 _ _ _ rfl
      have H11 := Lib.hid (fun w h => readErr_any (q.length : Int) B d (pack q) (s : Int) w hb h 0 hu)
      have H12 : Hid (∀ w, Rd w w.heap.size B (pack q) → Calls Tryd.prog 21 #[.agg #[.int .i64 (q.length : Int), .slice B (pack q).length d]] w fun e w' => ∃ A c, e = .returned (.slice A q.length c) ∧ RdV w' w'.heap.size A (ic q) ∧ Below w.heap.size w w') := fun w h => (bitList_any q.length hq B _ d (pack q) rfl (by rw [pack_length]; omega) (pack_lt q) w h q (unpack_pack q).symm).mono fun _ _ ⟨A, c, h1, h2, h3⟩ => ⟨A, c, h1, own_rdv h2, h3⟩
      have H13 : Hid (∀ A c w, RdV w w.heap.size A (ic q) → Calls Tryd.prog 20 #[.slice A q.length c, .int .i64 (s : Int)] w (FP w (fR q s).1 (fR q s).2.1 (fR q s).2.2)) := fun A c w h => freadr_any q _ rfl hq A c s hs w h _ _ _ rfl
      rcases (show i < 0 ∨ 63 < i ∨ (0 ≤ i ∧ i ≤ 63) by omega) with h | h | ⟨h, h2⟩
      · exact ftells_lo_01 _ _ _ _ _ _ _ _ _ _ _ _ _ _ 0 _ 0 _ _ _ _ 0 0 0 0 _ [] [] _ [] w hA hB hN H1 H2 H3 H4 H5 H10 H11 H12 H13 H14 H15 h (by unfold ciE; rw [if_neg (by omega)]) (by unfold nuV; rw [if_neg (by omega)]) (by omega)
      · exact ftells_hi_01 _ _ _ _ _ _ _ _ _ _ _ _ _ _ 0 _ 0 _ _ _ _ 0 0 0 0 _ [] [] _ [] w hA hB hN H1 H2 H3 H4 H5 H10 H11 H12 H13 H14 H15 h (by unfold ciE; rw [if_neg (by omega)]) (by unfold nuV; rw [if_neg (by omega)]) (by omega)
      · obtain ⟨k, rfl⟩ := Int.eq_ofNat_of_zero_le h
        have H6 : Hid (∀ w, Calls Tryd.prog 14 #[.int .i64 (k : Int)] w fun e w' => e = .returned (.int .u64 (nuV (k : Int) : Int)) ∧ w = w') := fun w => by
          have := fnumr_any k (by omega) w
          unfold nuV
          rw [if_pos (by omega), Int.toNat_natCast]
          exact this
        exact ftells_in_01 _ _ _ _ _ _ _ _ _ _ _ _ _ _ 0 _ 0 _ _ _ _ 0 0 0 0 _ [] [] _ [] w hA hB hN H1 H2 H3 H4 H5 H6 H10 H11 H12 H13 H14 H15 h h2 (by unfold ciE; rw [if_pos (by omega)]) (by omega)
    · have H5 := Lib.hid (fun w (h1 : Rd w w.heap.size B bs) (h2 : Nm w) => fread_e len B d bs p hb _ rfl hu w h1)
      have H11 := Lib.hid (fun w h => readErr_any len B d bs p w hb h _ rfl)
      rcases (show i < 0 ∨ 63 < i ∨ (0 ≤ i ∧ i ≤ 63) by omega) with h | h | ⟨h, h2⟩
      · exact ftells_lo_00 _ _ _ _ _ _ _ _ _ _ _ _ _ _ 0 _ _ 0 _ 0 0 0 0 0 0 0 [] [] [] [] w hA hB hN H1 H2 H3 H4 H5 H10 H11 H14 H15 h (by unfold ciE; rw [if_neg (by omega)]) (by unfold nuV; rw [if_neg (by omega)]) (by omega) hu
      · exact ftells_hi_00 _ _ _ _ _ _ _ _ _ _ _ _ _ _ 0 _ _ 0 _ 0 0 0 0 0 0 0 [] [] [] [] w hA hB hN H1 H2 H3 H4 H5 H10 H11 H14 H15 h (by unfold ciE; rw [if_neg (by omega)]) (by unfold nuV; rw [if_neg (by omega)]) (by omega) hu
      · obtain ⟨k, rfl⟩ := Int.eq_ofNat_of_zero_le h
        have H6 : Hid (∀ w, Calls Tryd.prog 14 #[.int .i64 (k : Int)] w fun e w' => e = .returned (.int .u64 (nuV (k : Int) : Int)) ∧ w = w') := fun w => by
          have := fnumr_any k (by omega) w
          unfold nuV
          rw [if_pos (by omega), Int.toNat_natCast]
          exact this
        exact ftells_in_00 _ _ _ _ _ _ _ _ _ _ _ _ _ _ 0 _ _ 0 _ 0 0 0 0 0 0 0 [] [] [] [] w hA hB hN H1 H2 H3 H4 H5 H6 H10 H11 H14 H15 h h2 (by unfold ciE; rw [if_pos (by omega)]) (by omega) hu
end Go.Proofs.YtjogccpnhcnedaaDoor
