/- Texts of this proof, one behind the other; each fact names its conditions. -/
import Derived.Test.YtbddcokjkdoaaaaGreatSN7
import Derived.Laws.DeepNot64
import Derived.Laws.Bits64b
namespace Go.Proofs.YtbddcokjkdoaaaaGreat
section
set_option maxRecDepth 100000
set_option linter.unusedVariables false
open Go.RowKit
theorem ret_u64 {a b : Int} (h : a = b) : Ending.returned (.int .u64 a) = .returned (.int .u64 b) := by rw [h]
theorem u64_not (a : Nat) (ha : a < 18446744073709551616) : bits .xor .u64 IntKind.u64.max (a : Int) = 18446744073709551615 - (a : Int) := by
  show IntKind.u64.wrap ((BitVec.ofInt 64 IntKind.u64.max ^^^ BitVec.ofInt 64 (a : Int)).toNat : Int) = _
  have h1 : BitVec.ofInt 64 IntKind.u64.max = BitVec.allOnes 64 := by decide
  rw [h1, BitVec.allOnes_xor, BitVec.toNat_not, ofInt_u64 a (by omega)]
  simp [IntKind.wrap, IntKind.bits, IntKind.signed]
  omega
set_option maxHeartbeats 400000 in
theorem fold_any (n : Int) (h0 : -9223372036854775808 ≤ n) (h1 : n ≤ 9223372036854775807) (w : World) :
    Calls Tryz.prog 223 #[.int .i64 n] w fun e w' => e = .returned (.int .u64 (fold n : Int)) ∧ w = w' := by
  by_cases hn : n < 0
  · have e : bits BinOp.xor IntKind.u64 IntKind.u64.max (IntKind.u64.wrap (IntKind.u64.wrap n * 2)) = (fold n : Int) := by
      have e1 : IntKind.u64.wrap (IntKind.u64.wrap n * 2) = ((2 * n + 18446744073709551616).toNat : Int) := by
        rw [IntKind.wrap_u64, IntKind.wrap_u64]; omega
      rw [e1, u64_not _ (by omega)]
      unfold fold
      rw [if_pos hn]
      omega
    have HE := Lib.hid e; clear e
    go_enter Tryz.func223, Tryz.ntmps223
    go_wp2
    go_ret
    exact ⟨ret_u64 HE.out, rfl⟩
  · have HE : Hid (n * 2 = (fold n : Int)) := by show _ = _; unfold fold; rw [if_neg hn]; omega
    go_enter Tryz.func223, Tryz.ntmps223
    go_wp2
    go_ret
    exact ⟨ret_u64 HE.out, rfl⟩
set_option maxHeartbeats 400000 in
theorem unfold_any (n : Nat) (h1 : n < 18446744073709551616) (w : World) :
    Calls Tryz.prog 251 #[.int .u64 (n : Int)] w fun e w' => e = .returned (.int .i64 (unfold_ n)) ∧ w = w' := by
  by_cases hn : n % 2 = 1
  · have t1 : ((n : Int) % 2 == 1) = true := by simp; omega
    have HE : Hid (bits BinOp.xor IntKind.i64 (-1) ((n : Int) / 2) = unfold_ n) := by
      show _ = _
      rw [show (n : Int) / 2 = ((n / 2 : Nat) : Int) from by omega, i64_not _ (by omega)]
      unfold unfold_
      rw [if_pos hn]
      omega
    clear hn
    go_enter Tryz.func251, Tryz.ntmps251
    go_wp2
    go_ret
    exact ⟨ret_i64 HE.out, rfl⟩
  · have t1 : ((n : Int) % 2 == 1) = false := by simp; omega
    have HE : Hid ((n : Int) / 2 = unfold_ n) := by show _ = _; unfold unfold_; rw [if_neg hn]
    clear hn
    go_enter Tryz.func251, Tryz.ntmps251
    go_wp2
    go_ret
    exact ⟨ret_i64 HE.out, rfl⟩
end
section
set_option maxRecDepth 100000
set_option linter.unusedVariables false
open Go.RowKit Go.Shelf
def NumsP (w : World) (l : List Nat) (err : Int) (e : Ending) (w' : World) : Prop :=
  ∃ A c, e = .returned (.tuple #[.slice A l.length c, .int .i64 err]) ∧ l.length ≤ c ∧ (A = none → c = 0) ∧ RdV w' w'.heap.size A (nc l) ∧ Below w.heap.size w w'
def IntsP (w : World) (l : List Nat) (err : Int) (e : Ending) (w' : World) : Prop :=
  ∃ A c, e = .returned (.tuple #[.slice A l.length c, .int .i64 err]) ∧ l.length ≤ c ∧ (A = none → c = 0) ∧ RdV w' w'.heap.size A (zc (ns l)) ∧ Below w.heap.size w w'
theorem okN_true {a : Int} (h : okN a = true) : ∃ n : Nat, a = (n : Int) ∧ n ≤ 1048576 := by
  unfold okN at h
  simp at h
  exact ⟨a.toNat, by omega, by omega⟩
def GapRel (l : List Nat) (a : Nat) (w : World) (v p : Value) (wr : World) : Prop :=
  ∃ i : Nat, i ≤ l.length ∧ p = .int .i64 (i : Int) ∧ wr.ownsRow w.heap.size 58 1 v i (nc ((gps (a : Int) l).take i)) ∧ Below w.heap.size w wr
set_option maxHeartbeats 2000000 in
theorem gaps_ok (l : List Nat) (hl : Rising l) (n : Nat) (hn : l.length = n) (a : Nat) (ha : a ≤ 1048576) (A : Option Addr) (c : Nat) (w : World) (h : RdV w w.heap.size A (zc (ns l))) :
    Calls Tryz.prog 183 #[.slice A n c, .int .i64 (a : Int)] w (NumsP w (gps (a : Int) l) 0) := by
  have h300 : n ≤ 300 := by have := hl.1; omega
  have hc0 := gcheck_any (ns l) n (by rw [ns_length]; exact hn) (by omega) A c w h
  rw [rchk_ok l hl] at hc0
  have HC := Lib.hid hc0; clear hc0
  have hn0 := node_any (a : Int)
  rw [okN_nat a ha] at hn0
  have HN := Lib.hid hn0; clear hn0
  have HR := Lib.hid (range1 0 true 0 rfl)
  obtain ⟨i0, hi, hz0, hz1, hz2⟩ := info_parts info25
  have HX := Lib.hid h; clear h
  have HL := Lib.hid hn; clear hn
  have HRis := Lib.hid hl; clear hl
  have HG : Hid ((gps (a : Int) l).length = n) := by show _ = _; rw [gps_length, HL.out]
  go_enter Tryz.func183, Tryz.ntmps183
  go_wp2_with fail
  refine HC.out.mono ?_
  rintro e w1 ⟨rfl, B1⟩
  have HB1 := Lib.hid B1; clear B1
  go_wp2_with fail
  refine (HN.out _).mono ?_
  rintro e _ ⟨rfl, rfl⟩
  go_wp2_with fail
  refine (HR.out _ _ rfl).mono ?_
  rintro e w2 ⟨rfl, B2⟩
  have HB2 := Lib.hid (HB1.out.trans (B2.mono HB1.out.size)); clear B2
  go_wp2
  go_loopw [7, 21] (fun v p wr => GapRel l a w v p wr) (fun _ p _ => n - (intOf p).toNat)
  case atStart => exact ⟨0, Nat.zero_le _, rfl, ⟨rfl, .inl ⟨rfl, rfl⟩⟩, HB2.out⟩
  case round =>
    obtain ⟨i, hi', rfl, hrow, hbel⟩ := hrel
    rw [HL.out] at hi'
    by_cases hlt : i < n
    · have hin : i < l.length := by rw [HL.out]; exact hlt
      obtain ⟨b, off, rfl, hb, hcx⟩ := (HX.out.on hbel).at_ (ns_get l i hin)
      have hx := ris_le l _ HRis.out.2 _ (at_mem l i hin)
      have hga := gps_at (a : Int) l i hin
      have htk := take_snoc (gps (a : Int) l) i (by rw [HG.out]; exact hlt)
      have HB := Lib.hid hbel
      have hnc : ∀ q : Nat, nc ((gps (a : Int) l).take i) ++ [Value.int .u64 (q : Int)] = nc ((gps (a : Int) l).take i ++ [q]) := fun q => by rw [nc_append]; rfl
      by_cases hi0 : i = 0
      · subst hi0
        rw [if_pos rfl] at hga
        rw [hga] at htk
        have hlt0 := fold_u64 ((l[0]?.getD 0 : Nat) - (a : Int)) (by omega) (by omega)
        have HF := Lib.hid (fold_any ((l[0]?.getD 0 : Nat) - (a : Int)) (by omega) (by omega))
        have hNC := hnc (fold ((l[0]?.getD 0 : Nat) - (a : Int)))
        rw [← htk] at hNC
        have HNC := Lib.hid hNC
        clear hga htk hnc hbel hNC
        generalize fold ((l[0]?.getD 0 : Nat) - (a : Int)) = q at *
        generalize l[0]?.getD 0 = x at *
        have hx2 := hx.2
        have hcx0 : wr.cell? ⟨b, off, none⟩ = some (.int .i64 (x : Int)) := by simpa using hcx
        clear hx
        go_wp2_with fail
        refine (HF.out _).mono ?_
        rintro e _ ⟨rfl, rfl⟩
        go_wp2_with (at_builtin; refine wpList_append_own _ rfl _ _ 161 rfl w.heap.size 58 i0 (.int .u64 0) 1 8 Tryz.underlying161 hi hz0 hz1 hz2 rfl (by decide) _ _ _ rfl (hrow.alloc _) ⟨wr.heap.size, 0, none⟩ 1 1 [.int .u64 (q : Int)] rfl rfl (news_row wr [.int .u64 (q : Int)] _) (by simp [Value.oneCell']) (by unfold maxLen; omega) (by omega) (by have := HB.out.size; simp; omega) ?_; intro v' w3 hown' hgrow _)
        rw [HNC.out] at hown'
        have HO3 := Lib.hid hown'
        have HB3 : Hid (Below w.heap.size w w3) := HB.out.trans (((Below.refl w.heap.size wr).alloc HB.out.size _).trans (grown_low hgrow (hrow.alloc _) (by have := HB.out.size; simp; omega)))
        clear hown' hgrow hrow
        go_roundw
        case rel => exact ⟨1, by rw [HL.out]; omega, by go_num, HO3.out, HB3.out⟩
        case measure => simp [intOf]; omega
      · rw [if_neg hi0] at hga
        rw [hga] at htk
        obtain ⟨b2, off2, hA2, hb2, hcy⟩ := (HX.out.on hbel).at_ (ns_get l (i - 1) (by omega))
        simp only [Option.some.injEq, Addr.mk.injEq, and_true] at hA2
        obtain ⟨rfl, rfl⟩ := hA2
        have hrs := ris_at l _ HRis.out.2 (i - 1) (by omega)
        rw [show i - 1 + 1 = i by omega] at hrs
        have hNC := hnc (l[i]?.getD 0 - l[i - 1]?.getD 0 - 1)
        rw [← htk] at hNC
        have HNC := Lib.hid hNC
        clear hga htk hnc hbel hNC
        generalize l[i]?.getD 0 = x at *
        generalize l[i - 1]?.getD 0 = y at *
        have hx2 := hx.2
        clear hx
        have HQ : Hid ((x : Int) - (y : Int) - 1 = ((x - y - 1 : Nat) : Int)) := by show _ = _; omega
        generalize x - y - 1 = q at *
        have ti : ((i : Int) == 0) = false := by simpa using hi0
        have tj : ((i : Int) - 1).toNat = i - 1 := by omega
        have tk0 : (0 : Int) ≤ (i : Int) - 1 := by omega
        go_wp2_with (at_builtin; rw [HQ.out]; refine wpList_append_own _ rfl _ _ 161 rfl w.heap.size 58 i0 (.int .u64 0) 1 8 Tryz.underlying161 hi hz0 hz1 hz2 rfl (by decide) _ _ _ rfl (hrow.alloc _) ⟨wr.heap.size, 0, none⟩ 1 1 [.int .u64 (q : Int)] rfl rfl (news_row wr [.int .u64 (q : Int)] _) (by simp [Value.oneCell']) (by unfold maxLen; omega) (by omega) (by have := HB.out.size; simp; omega) ?_; intro v' w3 hown' hgrow _)
        rw [HNC.out] at hown'
        have HO3 := Lib.hid hown'
        have HB3 : Hid (Below w.heap.size w w3) := HB.out.trans (((Below.refl w.heap.size wr).alloc HB.out.size _).trans (grown_low hgrow (hrow.alloc _) (by have := HB.out.size; simp; omega)))
        clear hown' hgrow hrow
        go_roundw
        case rel => exact ⟨i + 1, by rw [HL.out]; omega, by go_num, HO3.out, HB3.out⟩
        case measure => simp [intOf]; omega
    · have e : (gps (a : Int) l).take i = gps (a : Int) l := List.take_of_length_le (by rw [HG.out]; omega)
      rw [e] at hrow
      obtain rfl : i = n := by omega
      obtain ⟨Av, cv, rfl⟩ := own_slice25 hrow
      have HO := Lib.hid hrow
      have HB := Lib.hid hbel
      clear hrow hbel e
      go_wp2
      go_ret2
      exact ⟨Av, cv, (by rw [HG.out]; rfl), by rw [HG.out]; exact own_cap HO.out, own_none HO.out, own_rdv HO.out, HB.out⟩
end
section
set_option maxRecDepth 100000
set_option linter.unusedVariables false
open Go.RowKit Go.Shelf
theorem unf_bd (g : Nat) (h : g ≤ 2097152) : -1048577 ≤ unfold_ g ∧ unfold_ g ≤ 1048576 := by unfold unfold_; split <;> omega
def elV (l : List Nat) (g a : Nat) : Int := if elE l g a = 0 then el l g a else 0
theorem last_at (l : List Nat) (n : Nat) (hn : l.length = n) : l.getLast?.getD 0 = l[n - 1]?.getD 0 := by rw [List.getLast?_eq_getElem?, hn]
theorem elE_eq (l : List Nat) (g a : Nat) (hg : g ≤ 2097152) : elE l g a = if okN (el l g a) = true then 0 else 3 := by
  unfold elE okN
  by_cases h : 0 ≤ el l g a ∧ el l g a ≤ 1048576
  · rw [if_neg (by omega), if_pos (by simpa using h)]
  · rw [if_pos (by omega), if_neg (by simpa using h)]
set_option maxHeartbeats 1000000 in
theorem elem_any (l : List Nat) (n : Nat) (hn : l.length = n) (hn3 : n ≤ 300) (hl : ∀ x ∈ l, x ≤ 1048576) (g : Nat) (hg : g < 18446744073709551616) (a : Nat) (ha : a ≤ 1048576) (A : Option Addr) (c : Nat) (w : World) (h : RdV w w.heap.size A (zc (ns l))) :
    Calls Tryz.prog 231 #[.slice A n c, .int .u64 (g : Int), .int .i64 (a : Int)] w fun e w' => e = .returned (.tuple #[.int .i64 (elV l g a), .int .i64 (elE l g a)]) ∧ w = w' := by
  by_cases hbig : 2097152 < g
  · have e1 : elE l g a = 3 := by unfold elE; rw [if_pos (.inl hbig)]
    have e2 : elV l g a = 0 := by unfold elV; rw [e1, if_neg (by omega)]
    rw [e1, e2]
    have t0 : decide ((2097152 : Int) < (g : Int)) = true := by simp; omega
    clear hbig
    go_enter Tryz.func231, Tryz.ntmps231
    go_wp2
    go_ret2
    exact ⟨rfl, rfl⟩
  · have hg2 : g ≤ 2097152 := by omega
    have t0 : decide ((2097152 : Int) < (g : Int)) = false := by simp; omega
    obtain ⟨hu1, hu2⟩ := unf_bd g hg2
    have HU := Lib.hid (unfold_any g hg)
    have HE := Lib.hid (elE_eq l g a hg2)
    have HV : Hid (elV l g a = if elE l g a = 0 then el l g a else 0) := rfl
    have HNd := Lib.hid (node_any (el l g a))
    by_cases h0 : n = 0
    · obtain rfl : l = [] := List.eq_nil_of_length_eq_zero (by omega)
      subst h0
      have he : el [] g a = (a : Int) + unfold_ g := by unfold el; rw [if_pos rfl]
      rw [he] at HE HV HNd
      generalize unfold_ g = u at *
      generalize elE [] g a = ee at *
      generalize elV [] g a = ev at *
      clear hbig he h hl hn hn3
      by_cases hok : okN ((a : Int) + u) = true
      · have k1 := HE.out; rw [if_pos hok] at k1; subst k1
        have k2 := HV.out; rw [if_pos rfl] at k2; subst k2
        rw [hok] at HNd
        clear hok HE HV
        go_enter Tryz.func231, Tryz.ntmps231
        go_wp2_with fail
        refine (HU.out _).mono ?_
        rintro e _ ⟨rfl, rfl⟩
        go_wp2_with fail
        refine (HNd.out _).mono ?_
        rintro e _ ⟨rfl, rfl⟩
        go_wp2
        go_ret2
        exact ⟨rfl, rfl⟩
      · have k1 := HE.out; rw [if_neg hok] at k1; subst k1
        have k2 := HV.out; rw [if_neg (by omega)] at k2; subst k2
        have hok2 : okN ((a : Int) + u) = false := by simpa using hok
        rw [hok2] at HNd
        clear hok hok2 HE HV
        go_enter Tryz.func231, Tryz.ntmps231
        go_wp2_with fail
        refine (HU.out _).mono ?_
        rintro e _ ⟨rfl, rfl⟩
        go_wp2_with fail
        refine (HNd.out _).mono ?_
        rintro e _ ⟨rfl, rfl⟩
        go_wp2
        go_ret2
        exact ⟨rfl, rfl⟩
    · have hne : l ≠ [] := by rintro rfl; simp at hn; omega
      have he : el l g a = ((l[n - 1]?.getD 0 : Nat) : Int) + 1 + (g : Int) := by unfold el; rw [if_neg hne, last_at l n hn]
      obtain ⟨b, off, rfl, hb, hcx⟩ := h.at_ (ns_get l (n - 1) (by omega))
      have hx := hl _ (at_mem l (n - 1) (by omega))
      rw [he] at HE HV HNd
      generalize unfold_ g = u at *
      generalize elE l g a = ee at *
      generalize elV l g a = ev at *
      generalize l[n - 1]?.getD 0 = x at *
      have t1 : decide ((0 : Int) < (n : Int)) = true := by simp; omega
      have t2 : decide (0 < n) = true := by simp; omega
      have t3 : ((n : Int) - 1).toNat = n - 1 := by omega
      have t4 : (0 : Int) ≤ (n : Int) - 1 := by omega
      clear hbig he h hl hn hne h0
      by_cases hok : okN ((x : Int) + 1 + (g : Int)) = true
      · have k1 := HE.out; rw [if_pos hok] at k1; subst k1
        have k2 := HV.out; rw [if_pos rfl] at k2; subst k2
        rw [hok] at HNd
        clear hok HE HV
        go_enter Tryz.func231, Tryz.ntmps231
        go_wp2_with fail
        refine (HU.out _).mono ?_
        rintro e _ ⟨rfl, rfl⟩
        go_wp2_with fail
        refine (HNd.out _).mono ?_
        rintro e _ ⟨rfl, rfl⟩
        go_wp2
        go_ret2
        exact ⟨rfl, rfl⟩
      · have k1 := HE.out; rw [if_neg hok] at k1; subst k1
        have k2 := HV.out; rw [if_neg (by omega)] at k2; subst k2
        have hok2 : okN ((x : Int) + 1 + (g : Int)) = false := by simpa using hok
        rw [hok2] at HNd
        clear hok hok2 HE HV
        go_enter Tryz.func231, Tryz.ntmps231
        go_wp2_with fail
        refine (HU.out _).mono ?_
        rintro e _ ⟨rfl, rfl⟩
        go_wp2_with fail
        refine (HNd.out _).mono ?_
        rintro e _ ⟨rfl, rfl⟩
        go_wp2
        go_ret2
        exact ⟨rfl, rfl⟩
theorem elE_or (l : List Nat) (g a : Nat) : elE l g a = 0 ∨ elE l g a = 3 := by unfold elE; split <;> simp
end
end Go.Proofs.YtbddcokjkdoaaaaGreat
