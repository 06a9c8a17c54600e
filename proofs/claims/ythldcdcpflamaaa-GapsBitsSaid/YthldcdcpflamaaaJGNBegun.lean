/- What is asked in any case of gaps; what Gaps answers for whatever list, in one word; words for the laws of gaps. -/
import Derived.Test.YthldcdcpflamaaaJGNRead
import Derived.Test.YthldcdcpflamaaaJGNSame
namespace Go.Proofs.Ythldcdcpflamaaa
section
set_option maxRecDepth 100000
set_option linter.unusedVariables false
open Go.RowKit Go.Shelf

theorem ris349 : Rising [3, 4, 9] := ⟨by decide, by decide, by decide, by decide, by decide, by decide, by decide, trivial⟩
def L0 : List Bool := zets 2 [3, 0, 4]
theorem L0_le : L0.length ≤ 8192 := by decide +kernel
theorem n1 (w : World) : Calls Try.prog 15 #[.slice (some ⟨w.heap.size, 0, none⟩) 3 3, .int .i64 5] (w.alloc (.cells #[.int .i64 3, .int .i64 4, .int .i64 9] 3)) (NumsP (w.alloc (.cells #[.int .i64 3, .int .i64 4, .int .i64 9] 3)) [3, 0, 4] 0) :=
  gaps_ok [3, 4, 9] ris349 3 rfl 5 (by decide) _ 3 _ (rdz_new w [3, 4, 9])
theorem n2 (A : Option Addr) (c : Nat) (w : World) (h : RdV w w.heap.size A (nc [3, 0, 4])) : Calls Try.prog 16 #[.slice A 3 c, .int .i64 5] w (IntsP w [3, 4, 9] 0) := by
  have h := back_any [3, 0, 4] 3 rfl (by intro g hg; simp at hg; omega) 5 A c w h
  have e1 : bkL [3, 0, 4] 5 = [3, 4, 9] := by decide +kernel
  have e2 : bkE [3, 0, 4] 5 = 0 := by decide +kernel
  rwa [e1, e2] at h
theorem n3 (w : World) : Calls Try.prog 17 #[.slice (some ⟨w.heap.size, 0, none⟩) 3 3, .int .i64 5, .int .i64 2] (w.alloc (.cells #[.int .i64 3, .int .i64 4, .int .i64 9] 3)) (Gave (w.alloc (.cells #[.int .i64 3, .int .i64 4, .int .i64 9] 3)) L0 0) :=
  write_in [3, 4, 9] ris349 3 rfl 5 (by decide) 2 (by decide) (by decide) [3, 0, 4] rfl L0 0 (fun _ => ⟨rfl, rfl⟩) (fun h => by have := L0_le; unfold L0 at this; omega) _ 3 _ (rdz_new w [3, 4, 9])
theorem n4 (A : Option Addr) (c : Nat) (w : World) (h : Rd w w.heap.size A (pack L0)) : Calls Try.prog 27 #[.agg #[.int .i64 (L0.length : Int), .slice A (pack L0).length c], .int .i64 0, .int .i64 5, .int .i64 2, .int .i64 3] w (RdP w [3, 4, 9] L0.length 0) := by
  have e := rdG_gaps 2 5 (by decide) [] [3, 0, 4] [] [] [3, 4, 9] (by intro g hg; simp at hg; omega) (by decide +kernel)
  rw [List.nil_append, List.append_nil, List.length_nil, Nat.zero_add] at e
  exact gread_in L0 L0_le 0 (Nat.zero_le _) 5 (by decide) 2 (by decide) (by decide) 3 (by decide) _ _ _ e A c w h
theorem n5 (w : World) : Calls Try.prog 15 #[.slice (some ⟨w.heap.size, 0, none⟩) 2 2, .int .i64 5] (w.alloc (.cells #[.int .i64 3, .int .i64 3] 3)) (NumsP (w.alloc (.cells #[.int .i64 3, .int .i64 3] 3)) [] 4) :=
  gaps_e [3, 3] 2 rfl (by decide) 5 4 (by decide) (by decide) _ 2 _ (rdz_new w [3, 3])
theorem n6 (w : World) : Calls Try.prog 16 #[.slice (some ⟨w.heap.size, 0, none⟩) 1 1, .int .i64 0] (w.alloc (.cells #[.int .u64 1] 48)) (IntsP (w.alloc (.cells #[.int .u64 1] 48)) [] 3) := by
  have h := back_any [1] 1 rfl (by intro g hg; simp at hg; omega) 0 _ 1 _ (rdv_new w [1])
  have e1 : bkL [1] 0 = [] := by decide +kernel
  have e2 : bkE [1] 0 = 3 := by decide +kernel
  rwa [e1, e2] at h
theorem n7 (A : Option Addr) (c : Nat) (w : World) (h : RdV w w.heap.size A (nc [3, 0, 4])) : Calls Try.prog 24 #[.slice A 3 c, .slice (some ⟨w.heap.size, 0, none⟩) 3 3] (w.alloc (.cells #[.int .u64 3, .int .u64 0, .int .u64 4] 48)) fun e w' => e = .returned (.bool true) ∧ Below (w.alloc (.cells #[.int .u64 3, .int .u64 0, .int .u64 4] 48)).heap.size (w.alloc (.cells #[.int .u64 3, .int .u64 0, .int .u64 4] 48)) w' := by
  have h := sameN_l [3, 0, 4] [3, 0, 4] 3 3 rfl rfl (by decide) A _ c 3 _ (h.on (one_below w _)) (rdv_new w [3, 0, 4])
  rw [show decide (([3, 0, 4] : List Nat) = [3, 0, 4]) = true from by decide] at h
  exact h
theorem n8 (A : Option Addr) (c : Nat) (w : World) (h : RdV w w.heap.size A (zc (ns [3, 4, 9]))) : Calls Try.prog 25 #[.slice A 3 c, .slice (some ⟨w.heap.size, 0, none⟩) 3 3] (w.alloc (.cells #[.int .i64 3, .int .i64 4, .int .i64 9] 3)) fun e w' => e = .returned (.bool true) ∧ Below (w.alloc (.cells #[.int .i64 3, .int .i64 4, .int .i64 9] 3)).heap.size (w.alloc (.cells #[.int .i64 3, .int .i64 4, .int .i64 9] 3)) w' := by
  have h := sameI_l [3, 4, 9] [3, 4, 9] 3 3 rfl rfl (by decide) A _ c 3 _ (h.on (one_below w _)) (rdz_new w [3, 4, 9])
  rw [show decide (([3, 4, 9] : List Nat) = [3, 4, 9]) = true from by decide] at h
  exact h
theorem n9 (A B : Option Addr) (c d : Nat) (w : World) (h : RdV w w.heap.size A (zc (ns [3, 4, 9]))) (h2 : RdV w w.heap.size B (zc (ns [3, 4, 9]))) : Calls Try.prog 25 #[.slice A 3 c, .slice B 3 d] w fun e w' => e = .returned (.bool true) ∧ Below w.heap.size w w' := by
  have h := sameI_l [3, 4, 9] [3, 4, 9] 3 3 rfl rfl (by decide) A B c d w h h2
  simpa using h

set_option maxHeartbeats 4000000 in
theorem gapsbegun_true (w : World) : Calls Try.prog 22 #[] w fun e w' => e = .returned (.bool true) ∧ Below w.heap.size w w' := by
  go_enter Try.func22, Try.ntmps22
  go_wp2_with fail
  refine (n1 w).mono ?_
  rintro e w1_ ⟨A1, c1, rfl, -, -, Rq, Bq⟩
  rw [World.size_alloc] at Bq
  have Sq : Below w.heap.size w w1_ := (one_below w _).trans (Bq.mono (by omega))
  have HB : Hid (Below w.heap.size w w1_) := Sq
  clear Bq Sq
  have HR1 := Lib.hid Rq; clear Rq
  go_wp2_with fail
  refine (n2 A1 c1 w1_ HR1.out).mono ?_
  rintro e w2_ ⟨A2, c2, rfl, -, -, Rq, Bq⟩
  have Sq : Below w1_.heap.size w1_ w2_ := Bq
  replace HR1 : Hid (RdV w2_ w2_.heap.size A1 (nc [3, 0, 4])) := HR1.out.on Sq
  replace HB : Hid (Below w.heap.size w w2_) := HB.out.trans (Sq.mono HB.out.size)
  clear Bq Sq
  have HR2 := Lib.hid Rq; clear Rq
  go_wp2_with fail
  refine (n3 w2_).mono ?_
  rintro e w3_ ⟨A3, c3, rfl, Rq, Bq⟩
  rw [World.size_alloc] at Bq
  have Sq : Below w2_.heap.size w2_ w3_ := (one_below w2_ _).trans (Bq.mono (by omega))
  replace HR1 : Hid (RdV w3_ w3_.heap.size A1 (nc [3, 0, 4])) := HR1.out.on Sq
  replace HR2 : Hid (RdV w3_ w3_.heap.size A2 (zc (ns [3, 4, 9]))) := HR2.out.on Sq
  replace HB : Hid (Below w.heap.size w w3_) := HB.out.trans (Sq.mono HB.out.size)
  clear Bq Sq
  have HR3 := Lib.hid Rq; clear Rq
  go_wp2_with fail
  refine (n4 A3 c3 _ (HR3.out.on (one_below w3_ _))).mono ?_
  rintro e w4_ ⟨A4, c4, rfl, -, -, Rq, Bq⟩
  rw [World.size_alloc] at Bq
  have Sq : Below w3_.heap.size w3_ w4_ := (one_below w3_ _).trans (Bq.mono (by omega))
  have zb : w3_.heap.size < w4_.heap.size := by have := Bq.size; rw [World.size_alloc] at this; omega
  obtain ⟨pb, qb⟩ := box_at Bq
  replace HR1 : Hid (RdV w4_ w4_.heap.size A1 (nc [3, 0, 4])) := HR1.out.on Sq
  replace HR2 : Hid (RdV w4_ w4_.heap.size A2 (zc (ns [3, 4, 9]))) := HR2.out.on Sq
  replace HR3 : Hid (Rd w4_ w4_.heap.size A3 (pack L0)) := HR3.out.on Sq
  replace HB : Hid (Below w.heap.size w w4_) := HB.out.trans (Sq.mono HB.out.size)
  clear Bq Sq
  have HR4 := Lib.hid Rq; clear Rq
  go_wp2_with fail
  refine (n5 w4_).mono ?_
  rintro e w5_ ⟨A5, c5, rfl, -, -, -, Bq⟩
  rw [World.size_alloc] at Bq
  have Sq : Below w4_.heap.size w4_ w5_ := (one_below w4_ _).trans (Bq.mono (by omega))
  replace pb := (Sq.cell (p := ⟨w3_.heap.size, 0, none⟩) zb).trans pb
  replace qb := (Sq.cell (p := ⟨w3_.heap.size, 1, none⟩) zb).trans qb
  replace zb : w3_.heap.size < w5_.heap.size := Nat.lt_of_lt_of_le zb Sq.size
  replace HR1 : Hid (RdV w5_ w5_.heap.size A1 (nc [3, 0, 4])) := HR1.out.on Sq
  replace HR2 : Hid (RdV w5_ w5_.heap.size A2 (zc (ns [3, 4, 9]))) := HR2.out.on Sq
  replace HR3 : Hid (Rd w5_ w5_.heap.size A3 (pack L0)) := HR3.out.on Sq
  replace HR4 : Hid (RdV w5_ w5_.heap.size A4 (zc (ns [3, 4, 9]))) := HR4.out.on Sq
  replace HB : Hid (Below w.heap.size w w5_) := HB.out.trans (Sq.mono HB.out.size)
  clear Bq Sq
  go_wp2_with fail
  refine (n6 w5_).mono ?_
  rintro e w6_ ⟨A6, c6, rfl, -, -, -, Bq⟩
  rw [World.size_alloc] at Bq
  have Sq : Below w5_.heap.size w5_ w6_ := (one_below w5_ _).trans (Bq.mono (by omega))
  replace pb := (Sq.cell (p := ⟨w3_.heap.size, 0, none⟩) zb).trans pb
  replace qb := (Sq.cell (p := ⟨w3_.heap.size, 1, none⟩) zb).trans qb
  replace zb : w3_.heap.size < w6_.heap.size := Nat.lt_of_lt_of_le zb Sq.size
  replace HR1 : Hid (RdV w6_ w6_.heap.size A1 (nc [3, 0, 4])) := HR1.out.on Sq
  replace HR2 : Hid (RdV w6_ w6_.heap.size A2 (zc (ns [3, 4, 9]))) := HR2.out.on Sq
  replace HR3 : Hid (Rd w6_ w6_.heap.size A3 (pack L0)) := HR3.out.on Sq
  replace HR4 : Hid (RdV w6_ w6_.heap.size A4 (zc (ns [3, 4, 9]))) := HR4.out.on Sq
  replace HB : Hid (Below w.heap.size w w6_) := HB.out.trans (Sq.mono HB.out.size)
  clear Bq Sq
  go_wp2_with fail
  refine (n7 A1 c1 w6_ HR1.out).mono ?_
  rintro e w7_ ⟨rfl, Bq⟩
  rw [World.size_alloc] at Bq
  have Sq : Below w6_.heap.size w6_ w7_ := (one_below w6_ _).trans (Bq.mono (by omega))
  replace pb := (Sq.cell (p := ⟨w3_.heap.size, 0, none⟩) zb).trans pb
  replace qb := (Sq.cell (p := ⟨w3_.heap.size, 1, none⟩) zb).trans qb
  replace zb : w3_.heap.size < w7_.heap.size := Nat.lt_of_lt_of_le zb Sq.size
  replace HR1 : Hid (RdV w7_ w7_.heap.size A1 (nc [3, 0, 4])) := HR1.out.on Sq
  replace HR2 : Hid (RdV w7_ w7_.heap.size A2 (zc (ns [3, 4, 9]))) := HR2.out.on Sq
  replace HR3 : Hid (Rd w7_ w7_.heap.size A3 (pack L0)) := HR3.out.on Sq
  replace HR4 : Hid (RdV w7_ w7_.heap.size A4 (zc (ns [3, 4, 9]))) := HR4.out.on Sq
  replace HB : Hid (Below w.heap.size w w7_) := HB.out.trans (Sq.mono HB.out.size)
  clear Bq Sq
  go_wp2_with fail
  refine (n8 A2 c2 w7_ HR2.out).mono ?_
  rintro e w8_ ⟨rfl, Bq⟩
  rw [World.size_alloc] at Bq
  have Sq : Below w7_.heap.size w7_ w8_ := (one_below w7_ _).trans (Bq.mono (by omega))
  replace pb := (Sq.cell (p := ⟨w3_.heap.size, 0, none⟩) zb).trans pb
  replace qb := (Sq.cell (p := ⟨w3_.heap.size, 1, none⟩) zb).trans qb
  replace zb : w3_.heap.size < w8_.heap.size := Nat.lt_of_lt_of_le zb Sq.size
  replace HR1 : Hid (RdV w8_ w8_.heap.size A1 (nc [3, 0, 4])) := HR1.out.on Sq
  replace HR2 : Hid (RdV w8_ w8_.heap.size A2 (zc (ns [3, 4, 9]))) := HR2.out.on Sq
  replace HR3 : Hid (Rd w8_ w8_.heap.size A3 (pack L0)) := HR3.out.on Sq
  replace HR4 : Hid (RdV w8_ w8_.heap.size A4 (zc (ns [3, 4, 9]))) := HR4.out.on Sq
  replace HB : Hid (Below w.heap.size w w8_) := HB.out.trans (Sq.mono HB.out.size)
  clear Bq Sq
  go_wp2_with fail
  refine (n9 A4 A2 c4 c2 w8_ HR4.out HR2.out).mono ?_
  rintro e w9_ ⟨rfl, Bq⟩
  have Sq : Below w8_.heap.size w8_ w9_ := Bq
  replace pb := (Sq.cell (p := ⟨w3_.heap.size, 0, none⟩) zb).trans pb
  replace qb := (Sq.cell (p := ⟨w3_.heap.size, 1, none⟩) zb).trans qb
  replace zb : w3_.heap.size < w9_.heap.size := Nat.lt_of_lt_of_le zb Sq.size
  replace HR1 : Hid (RdV w9_ w9_.heap.size A1 (nc [3, 0, 4])) := HR1.out.on Sq
  replace HR2 : Hid (RdV w9_ w9_.heap.size A2 (zc (ns [3, 4, 9]))) := HR2.out.on Sq
  replace HR3 : Hid (Rd w9_ w9_.heap.size A3 (pack L0)) := HR3.out.on Sq
  replace HR4 : Hid (RdV w9_ w9_.heap.size A4 (zc (ns [3, 4, 9]))) := HR4.out.on Sq
  replace HB : Hid (Below w.heap.size w w9_) := HB.out.trans (Sq.mono HB.out.size)
  clear Bq Sq
  go_wp2
  go_ret
  exact ⟨rfl, HB.out⟩
end

section
set_option maxRecDepth 100000
set_option linter.unusedVariables false
open Go.RowKit Go.Shelf

def gL (xs : List Int) (a : Int) : List Nat := if gE xs a = 0 then gps a (xs.map Int.toNat) else []
theorem gL_ok (l : List Nat) (h : Rising l) (n : Nat) (hn : n ≤ 1048576) : gL (ns l) (n : Int) = gps (n : Int) l := by
  unfold gL; rw [gE_ok l h n hn, if_pos rfl, ns_nat]
theorem gL_no (xs : List Int) (a : Int) (h : gE xs a ≠ 0) : gL xs a = [] := by unfold gL; rw [if_neg h]
theorem gaps_any (xs : List Int) (n : Nat) (hn : xs.length = n) (hn2 : n ≤ 9223372036854775807) (a : Int) (A : Option Addr) (c : Nat) (w : World) (h : RdV w w.heap.size A (zc xs)) :
    Calls Try.prog 15 #[.slice A n c, .int .i64 a] w (NumsP w (gL xs a) (gE xs a)) := by
  by_cases h0 : gE xs a = 0
  · obtain ⟨l, m, rfl, hl, rfl, hm⟩ := gE_zero xs a h0
    rw [gL_ok l hl m hm, h0]
    exact gaps_ok l hl n (by rw [ns_length] at hn; exact hn) m hm A c w h
  · rw [gL_no xs a h0]
    exact gaps_e xs n hn hn2 a _ rfl h0 A c w h
theorem bkE_zero (gs : List Nat) (a : Int) (h : bkE gs a = 0) : ∃ (l : List Nat) (n : Nat), a = (n : Int) ∧ n ≤ 1048576 ∧ gs.length ≤ 300 ∧ bk n [] gs = some l ∧ bkL gs a = l := by
  unfold bkE at h
  unfold bkL
  by_cases h1 : 300 < gs.length
  · rw [if_pos h1] at h; omega
  · rw [if_neg h1] at h ⊢
    by_cases h2 : okN a = true
    · rw [if_pos h2] at h ⊢
      obtain ⟨n, rfl, hn⟩ := okN_true h2
      rw [Int.toNat_natCast] at h ⊢
      cases hb : bk n [] gs with
      | none => rw [hb] at h; simp at h
      | some l => exact ⟨l, n, rfl, hn, by omega, hb, rfl⟩
    · rw [if_neg h2] at h; omega
theorem bkL_no (gs : List Nat) (a : Int) (h : bkE gs a ≠ 0) : bkL gs a = [] := by
  unfold bkE at h
  unfold bkL
  by_cases h1 : 300 < gs.length
  · rw [if_pos h1]
  · rw [if_neg h1] at h ⊢
    by_cases h2 : okN a = true
    · rw [if_pos h2] at h ⊢
      cases hb : bk a.toNat [] gs with
      | none => rfl
      | some l => rw [hb] at h; simp at h
    · rw [if_neg h2]
theorem sameI_x (xs : List Int) (n : Nat) (hn : xs.length = n) (h2 : n ≤ 9223372036854775807) (A B : Option Addr) (c d : Nat) (w : World) (hA : RdV w w.heap.size A (zc xs)) (hB : RdV w w.heap.size B (zc xs)) :
    Calls Try.prog 25 #[.slice A n c, .slice B n d] w fun e w' => e = .returned (.bool true) ∧ Below w.heap.size w w' := by
  have h := sameI_any w A B c d xs xs (by omega) hA hB
  rw [hn] at h
  simpa using h
theorem sameN_x (l : List Nat) (n : Nat) (hn : l.length = n) (h2 : n ≤ 9223372036854775807) (A B : Option Addr) (c d : Nat) (w : World) (hA : RdV w w.heap.size A (nc l)) (hB : RdV w w.heap.size B (nc l)) :
    Calls Try.prog 24 #[.slice A n c, .slice B n d] w fun e w' => e = .returned (.bool true) ∧ Below w.heap.size w w' := by
  have h := sameN_any w A B c d l l (by omega) hA hB
  rw [hn] at h
  simpa using h
end
end Go.Proofs.Ythldcdcpflamaaa
