/- What Gaps of gaps answers, for whatever list and place it is handed. -/
import Derived.Test.YticdnodlapafoaaGreatJSNFold
namespace Go.Proofs.YticdnodlapafoaaGreat
set_option maxRecDepth 100000
set_option linter.unusedVariables false
open Go.RowKit Go.Shelf

/-- Numbers and an error come back. -/
def NumsP (w : World) (l : List Nat) (err : Int) (e : Ending) (w' : World) : Prop :=
  ∃ A c, e = .returned (.tuple #[.slice A l.length c, .int .i64 err]) ∧ l.length ≤ c ∧ (A = none → c = 0) ∧ RdV w' w'.heap.size A (nc l) ∧ Below w.heap.size w w'
def IntsP (w : World) (l : List Nat) (err : Int) (e : Ending) (w' : World) : Prop :=
  ∃ A c, e = .returned (.tuple #[.slice A l.length c, .int .i64 err]) ∧ l.length ≤ c ∧ (A = none → c = 0) ∧ RdV w' w'.heap.size A (zc (ns l)) ∧ Below w.heap.size w w'
/-- The error of Gaps. -/
def gE (xs : List Int) (a : Int) : Int := rgE (rchk xs) [okN a]
theorem gE_eq (xs : List Int) (a : Int) : gE xs a = if rchk xs ≠ 0 then rchk xs else if okN a = true then 0 else 3 := by
  unfold gE rgE
  by_cases h : rchk xs = 0
  · rw [h]
    cases okN a <;> simp
  · rw [if_neg (fun e => h e.1), if_pos h]
theorem okN_true {a : Int} (h : okN a = true) : ∃ n : Nat, a = (n : Int) ∧ n ≤ 1048576 := by
  unfold okN at h
  simp at h
  exact ⟨a.toNat, by omega, by omega⟩
theorem gE_zero (xs : List Int) (a : Int) (h : gE xs a = 0) : ∃ (l : List Nat) (n : Nat), xs = ns l ∧ Rising l ∧ a = (n : Int) ∧ n ≤ 1048576 := by
  rw [gE_eq] at h
  by_cases h1 : rchk xs = 0
  · rw [if_neg (by omega)] at h
    by_cases h2 : okN a = true
    · obtain ⟨l, e1, hl⟩ := rchk_zero xs h1
      obtain ⟨n, e2, hn⟩ := okN_true h2
      exact ⟨l, n, e1, hl, e2, hn⟩
    · rw [if_neg h2] at h; omega
  · rw [if_pos h1] at h; exact absurd h h1
theorem gE_ok (l : List Nat) (h : Rising l) (n : Nat) (hn : n ≤ 1048576) : gE (ns l) (n : Int) = 0 := by
  rw [gE_eq, rchk_ok l h, if_neg (by omega), if_pos (okN_nat n hn)]
set_option maxHeartbeats 400000 in
theorem gaps_e (xs : List Int) (n : Nat) (hn : xs.length = n) (hn2 : n ≤ 9223372036854775807) (a : Int) (e0 : Int) (he : gE xs a = e0) (h0 : e0 ≠ 0) (A : Option Addr) (c : Nat) (w : World) (h : RdV w w.heap.size A (zc xs)) :
    Calls Tryz.prog 129 #[.slice A n c, .int .i64 a] w (NumsP w [] e0) := by
  have HC := Lib.hid (gcheck_any xs n hn hn2 A c w h)
  have HN := Lib.hid (node_any a)
  have HR := Lib.hid (range1 (rchk xs) (okN a) e0 he)
  have t0 : (e0 != 0) = true := by simpa using h0
  clear h hn he h0
  generalize rchk xs = r at *
  generalize okN a = ok at *
  go_enter Tryz.func129, Tryz.ntmps129
  go_wp2_with fail
  refine HC.out.mono ?_
  rintro e w1 ⟨rfl, B1⟩
  have HB1 := Lib.hid B1; clear B1
  go_wp2_with fail
  refine (HN.out _).mono ?_
  rintro e _ ⟨rfl, rfl⟩
  go_wp2_with fail
  refine (HR.out _ _ rfl).mono ?_
  rintro e w2 ⟨rfl, B2⟩
  have HB2 := Lib.hid (HB1.out.trans (B2.mono HB1.out.size)); clear B2
  go_wp2
  go_ret2
  exact ⟨none, 0, rfl, Nat.le_refl _, fun _ => rfl, .inl rfl, HB2.out⟩

/-- At each round's head: the gaps of the first i. -/
def GapRel (l : List Nat) (a : Nat) (w : World) (v p : Value) (wr : World) : Prop :=
  ∃ i : Nat, i ≤ l.length ∧ p = .int .i64 (i : Int) ∧ wr.ownsRow w.heap.size 45 1 v i (nc ((gps (a : Int) l).take i)) ∧ Below w.heap.size w wr
set_option maxHeartbeats 2000000 in
theorem gaps_ok (l : List Nat) (hl : Rising l) (n : Nat) (hn : l.length = n) (a : Nat) (ha : a ≤ 1048576) (A : Option Addr) (c : Nat) (w : World) (h : RdV w w.heap.size A (zc (ns l))) :
    Calls Tryz.prog 129 #[.slice A n c, .int .i64 (a : Int)] w (NumsP w (gps (a : Int) l) 0) := by
  have h300 : n ≤ 300 := by have := hl.1; omega
  have hc0 := gcheck_any (ns l) n (by rw [ns_length]; exact hn) (by omega) A c w h
  rw [rchk_ok l hl] at hc0
  have HC := Lib.hid hc0; clear hc0
  have hn0 := node_any (a : Int)
  rw [okN_nat a ha] at hn0
  have HN := Lib.hid hn0; clear hn0
  have HR := Lib.hid (range1 0 true 0 rfl)
  obtain ⟨i0, hi, hz0, hz1, hz2⟩ := info_parts info25
  have HX := Lib.hid h; clear h
  have HL := Lib.hid hn; clear hn
  have HRis := Lib.hid hl; clear hl
  have HG : Hid ((gps (a : Int) l).length = n) := by show _ = _; rw [gps_length, HL.out]
  go_enter Tryz.func129, Tryz.ntmps129
  go_wp2_with fail
  refine HC.out.mono ?_
  rintro e w1 ⟨rfl, B1⟩
  have HB1 := Lib.hid B1; clear B1
  go_wp2_with fail
  refine (HN.out _).mono ?_
  rintro e _ ⟨rfl, rfl⟩
  go_wp2_with fail
  refine (HR.out _ _ rfl).mono ?_
  rintro e w2 ⟨rfl, B2⟩
  have HB2 := Lib.hid (HB1.out.trans (B2.mono HB1.out.size)); clear B2
  go_wp2
  go_loopw [7, 21] (fun v p wr => GapRel l a w v p wr) (fun _ p _ => n - (intOf p).toNat)
  case atStart => exact ⟨0, Nat.zero_le _, rfl, ⟨rfl, .inl ⟨rfl, rfl⟩⟩, HB2.out⟩
  case round =>
    obtain ⟨i, hi', rfl, hrow, hbel⟩ := hrel
    rw [HL.out] at hi'
    by_cases hlt : i < n
    · have hin : i < l.length := by rw [HL.out]; exact hlt
      obtain ⟨b, off, rfl, hb, hcx⟩ := (HX.out.on hbel).at_ (ns_get l i hin)
      have hx := ris_le l _ HRis.out.2 _ (at_mem l i hin)
      have hga := gps_at (a : Int) l i hin
      have htk := take_snoc (gps (a : Int) l) i (by rw [HG.out]; exact hlt)
      have HB := Lib.hid hbel
      have hnc : ∀ q : Nat, nc ((gps (a : Int) l).take i) ++ [Value.int .u64 (q : Int)] = nc ((gps (a : Int) l).take i ++ [q]) := fun q => by rw [nc_append]; rfl
      by_cases hi0 : i = 0
      · subst hi0
        rw [if_pos rfl] at hga
        rw [hga] at htk
        have hlt0 := fold_u64 ((l[0]?.getD 0 : Nat) - (a : Int)) (by omega) (by omega)
        have HF := Lib.hid (fold_any ((l[0]?.getD 0 : Nat) - (a : Int)) (by omega) (by omega))
        have hNC := hnc (fold ((l[0]?.getD 0 : Nat) - (a : Int)))
        rw [← htk] at hNC
        have HNC := Lib.hid hNC
        clear hga htk hnc hbel hNC
        generalize fold ((l[0]?.getD 0 : Nat) - (a : Int)) = q at *
        generalize l[0]?.getD 0 = x at *
        have hx2 := hx.2
        have hcx0 : wr.cell? ⟨b, off, none⟩ = some (.int .i64 (x : Int)) := by simpa using hcx
        clear hx
        go_wp2_with fail
        refine (HF.out _).mono ?_
        rintro e _ ⟨rfl, rfl⟩
        go_wp2_with (at_builtin; refine wpList_append_own _ rfl _ _ 132 rfl w.heap.size 45 i0 (.int .u64 0) 1 8 Tryz.underlying132 hi hz0 hz1 hz2 rfl (by decide) _ _ _ rfl (hrow.alloc _) ⟨wr.heap.size, 0, none⟩ 1 1 [.int .u64 (q : Int)] rfl rfl (news_row wr [.int .u64 (q : Int)] _) (by simp [Value.oneCell']) (by unfold maxLen; omega) (by omega) (by have := HB.out.size; simp; omega) ?_; intro v' w3 hown' hgrow _)
        rw [HNC.out] at hown'
        have HO3 := Lib.hid hown'
        have HB3 : Hid (Below w.heap.size w w3) := HB.out.trans (((Below.refl w.heap.size wr).alloc HB.out.size _).trans (grown_low hgrow (hrow.alloc _) (by have := HB.out.size; simp; omega)))
        clear hown' hgrow hrow
        go_roundw
        case rel => exact ⟨1, by rw [HL.out]; omega, by go_num, HO3.out, HB3.out⟩
        case measure => simp [intOf]; omega
      · rw [if_neg hi0] at hga
        rw [hga] at htk
        obtain ⟨b2, off2, hA2, hb2, hcy⟩ := (HX.out.on hbel).at_ (ns_get l (i - 1) (by omega))
        simp only [Option.some.injEq, Addr.mk.injEq, and_true] at hA2
        obtain ⟨rfl, rfl⟩ := hA2
        have hrs := ris_at l _ HRis.out.2 (i - 1) (by omega)
        rw [show i - 1 + 1 = i by omega] at hrs
        have hNC := hnc (l[i]?.getD 0 - l[i - 1]?.getD 0 - 1)
        rw [← htk] at hNC
        have HNC := Lib.hid hNC
        clear hga htk hnc hbel hNC
        generalize l[i]?.getD 0 = x at *
        generalize l[i - 1]?.getD 0 = y at *
        have hx2 := hx.2
        clear hx
        have HQ : Hid ((x : Int) - (y : Int) - 1 = ((x - y - 1 : Nat) : Int)) := by show _ = _; omega
        generalize x - y - 1 = q at *
        have ti : ((i : Int) == 0) = false := by simpa using hi0
        have tj : ((i : Int) - 1).toNat = i - 1 := by omega
        have tk0 : (0 : Int) ≤ (i : Int) - 1 := by omega
        go_wp2_with (at_builtin; rw [HQ.out]; refine wpList_append_own _ rfl _ _ 132 rfl w.heap.size 45 i0 (.int .u64 0) 1 8 Tryz.underlying132 hi hz0 hz1 hz2 rfl (by decide) _ _ _ rfl (hrow.alloc _) ⟨wr.heap.size, 0, none⟩ 1 1 [.int .u64 (q : Int)] rfl rfl (news_row wr [.int .u64 (q : Int)] _) (by simp [Value.oneCell']) (by unfold maxLen; omega) (by omega) (by have := HB.out.size; simp; omega) ?_; intro v' w3 hown' hgrow _)
        rw [HNC.out] at hown'
        have HO3 := Lib.hid hown'
        have HB3 : Hid (Below w.heap.size w w3) := HB.out.trans (((Below.refl w.heap.size wr).alloc HB.out.size _).trans (grown_low hgrow (hrow.alloc _) (by have := HB.out.size; simp; omega)))
        clear hown' hgrow hrow
        go_roundw
        case rel => exact ⟨i + 1, by rw [HL.out]; omega, by go_num, HO3.out, HB3.out⟩
        case measure => simp [intOf]; omega
    · have e : (gps (a : Int) l).take i = gps (a : Int) l := List.take_of_length_le (by rw [HG.out]; omega)
      rw [e] at hrow
      obtain rfl : i = n := by omega
      obtain ⟨Av, cv, rfl⟩ := own_slice25 hrow
      have HO := Lib.hid hrow
      have HB := Lib.hid hbel
      clear hrow hbel e
      go_wp2
      go_ret2
      exact ⟨Av, cv, (by rw [HG.out]; rfl), by rw [HG.out]; exact own_cap HO.out, own_none HO.out, own_rdv HO.out, HB.out⟩
end Go.Proofs.YticdnodlapafoaaGreat
