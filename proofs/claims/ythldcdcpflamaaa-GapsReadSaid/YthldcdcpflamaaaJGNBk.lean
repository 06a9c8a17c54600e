/- What element and Back of gaps answer, for whatever they are handed. -/
import Derived.Test.YthldcdcpflamaaaJGNGaps
namespace Go.Proofs.Ythldcdcpflamaaa
set_option maxRecDepth 100000
set_option linter.unusedVariables false
open Go.RowKit Go.Shelf

theorem unf_bd (g : Nat) (h : g ≤ 2097152) : -1048577 ≤ unfold_ g ∧ unfold_ g ≤ 1048576 := by unfold unfold_; split <;> omega
/-- The number that is answered. -/
def elV (l : List Nat) (g a : Nat) : Int := if elE l g a = 0 then el l g a else 0
theorem last_at (l : List Nat) (n : Nat) (hn : l.length = n) : l.getLast?.getD 0 = l[n - 1]?.getD 0 := by rw [List.getLast?_eq_getElem?, hn]
theorem elE_eq (l : List Nat) (g a : Nat) (hg : g ≤ 2097152) : elE l g a = if okN (el l g a) = true then 0 else 3 := by
  unfold elE okN
  by_cases h : 0 ≤ el l g a ∧ el l g a ≤ 1048576
  · rw [if_neg (by omega), if_pos (by simpa using h)]
  · rw [if_pos (by omega), if_neg (by simpa using h)]
set_option maxHeartbeats 1000000 in
theorem elem_any (l : List Nat) (n : Nat) (hn : l.length = n) (hn3 : n ≤ 300) (hl : ∀ x ∈ l, x ≤ 1048576) (g : Nat) (hg : g < 18446744073709551616) (a : Nat) (ha : a ≤ 1048576) (A : Option Addr) (c : Nat) (w : World) (h : RdV w w.heap.size A (zc (ns l))) :
    Calls Try.prog 42 #[.slice A n c, .int .u64 (g : Int), .int .i64 (a : Int)] w fun e w' => e = .returned (.tuple #[.int .i64 (elV l g a), .int .i64 (elE l g a)]) ∧ w = w' := by
  by_cases hbig : 2097152 < g
  · have e1 : elE l g a = 3 := by unfold elE; rw [if_pos (.inl hbig)]
    have e2 : elV l g a = 0 := by unfold elV; rw [e1, if_neg (by omega)]
    rw [e1, e2]
    have t0 : decide ((2097152 : Int) < (g : Int)) = true := by simp; omega
    clear hbig
    go_enter Try.func42, Try.ntmps42
    go_wp2
    go_ret2
    exact ⟨rfl, rfl⟩
  · have hg2 : g ≤ 2097152 := by omega
    have t0 : decide ((2097152 : Int) < (g : Int)) = false := by simp; omega
    obtain ⟨hu1, hu2⟩ := unf_bd g hg2
    have HU := Lib.hid (unfold_any g hg)
    have HE := Lib.hid (elE_eq l g a hg2)
    have HV : Hid (elV l g a = if elE l g a = 0 then el l g a else 0) := rfl
    have HNd := Lib.hid (node_any (el l g a))
    by_cases h0 : n = 0
    · obtain rfl : l = [] := List.eq_nil_of_length_eq_zero (by omega)
      subst h0
      have he : el [] g a = (a : Int) + unfold_ g := by unfold el; rw [if_pos rfl]
      rw [he] at HE HV HNd
      generalize unfold_ g = u at *
      generalize elE [] g a = ee at *
      generalize elV [] g a = ev at *
      clear hbig he h hl hn hn3
      by_cases hok : okN ((a : Int) + u) = true
      · have k1 := HE.out; rw [if_pos hok] at k1; subst k1
        have k2 := HV.out; rw [if_pos rfl] at k2; subst k2
        rw [hok] at HNd
        clear hok HE HV
        go_enter Try.func42, Try.ntmps42
        go_wp2_with fail
        refine (HU.out _).mono ?_
        rintro e _ ⟨rfl, rfl⟩
        go_wp2_with fail
        refine (HNd.out _).mono ?_
        rintro e _ ⟨rfl, rfl⟩
        go_wp2
        go_ret2
        exact ⟨rfl, rfl⟩
      · have k1 := HE.out; rw [if_neg hok] at k1; subst k1
        have k2 := HV.out; rw [if_neg (by omega)] at k2; subst k2
        have hok2 : okN ((a : Int) + u) = false := by simpa using hok
        rw [hok2] at HNd
        clear hok hok2 HE HV
        go_enter Try.func42, Try.ntmps42
        go_wp2_with fail
        refine (HU.out _).mono ?_
        rintro e _ ⟨rfl, rfl⟩
        go_wp2_with fail
        refine (HNd.out _).mono ?_
        rintro e _ ⟨rfl, rfl⟩
        go_wp2
        go_ret2
        exact ⟨rfl, rfl⟩
    · have hne : l ≠ [] := by rintro rfl; simp at hn; omega
      have he : el l g a = ((l[n - 1]?.getD 0 : Nat) : Int) + 1 + (g : Int) := by unfold el; rw [if_neg hne, last_at l n hn]
      obtain ⟨b, off, rfl, hb, hcx⟩ := h.at_ (ns_get l (n - 1) (by omega))
      have hx := hl _ (at_mem l (n - 1) (by omega))
      rw [he] at HE HV HNd
      generalize unfold_ g = u at *
      generalize elE l g a = ee at *
      generalize elV l g a = ev at *
      generalize l[n - 1]?.getD 0 = x at *
      have t1 : decide ((0 : Int) < (n : Int)) = true := by simp; omega
      have t2 : decide (0 < n) = true := by simp; omega
      have t3 : ((n : Int) - 1).toNat = n - 1 := by omega
      have t4 : (0 : Int) ≤ (n : Int) - 1 := by omega
      clear hbig he h hl hn hne h0
      by_cases hok : okN ((x : Int) + 1 + (g : Int)) = true
      · have k1 := HE.out; rw [if_pos hok] at k1; subst k1
        have k2 := HV.out; rw [if_pos rfl] at k2; subst k2
        rw [hok] at HNd
        clear hok HE HV
        go_enter Try.func42, Try.ntmps42
        go_wp2_with fail
        refine (HU.out _).mono ?_
        rintro e _ ⟨rfl, rfl⟩
        go_wp2_with fail
        refine (HNd.out _).mono ?_
        rintro e _ ⟨rfl, rfl⟩
        go_wp2
        go_ret2
        exact ⟨rfl, rfl⟩
      · have k1 := HE.out; rw [if_neg hok] at k1; subst k1
        have k2 := HV.out; rw [if_neg (by omega)] at k2; subst k2
        have hok2 : okN ((x : Int) + 1 + (g : Int)) = false := by simpa using hok
        rw [hok2] at HNd
        clear hok hok2 HE HV
        go_enter Try.func42, Try.ntmps42
        go_wp2_with fail
        refine (HU.out _).mono ?_
        rintro e _ ⟨rfl, rfl⟩
        go_wp2_with fail
        refine (HNd.out _).mono ?_
        rintro e _ ⟨rfl, rfl⟩
        go_wp2
        go_ret2
        exact ⟨rfl, rfl⟩
theorem bk_le (a : Nat) : ∀ (gs m r : List Nat), bk a m gs = some r → (∀ x ∈ m, x ≤ 1048576) → ∀ x ∈ r, x ≤ 1048576
  | [], m, r, h, hm => by unfold bk at h; cases h; exact hm
  | g :: gs, m, r, h, hm => by
    unfold bk at h
    split at h
    · rename_i he
      refine bk_le a gs _ r h (fun x hx => ?_)
      rcases List.mem_append.1 hx with hx | hx
      · exact hm x hx
      · obtain rfl : x = (el m g a).toNat := by simpa using hx
        unfold elE at he
        split at he
        · omega
        · omega
    · cases h
theorem elE_or (l : List Nat) (g a : Nat) : elE l g a = 0 ∨ elE l g a = 3 := by unfold elE; split <;> simp

/-- At each round's head: what the first i gaps tell. -/
def BkRel (gs : List Nat) (a : Nat) (w : World) (v p : Value) (wr : World) : Prop :=
  ∃ (i : Nat) (l : List Nat), i ≤ gs.length ∧ p = .int .i64 (i : Int) ∧ bk a [] (gs.take i) = some l ∧ wr.ownsRow w.heap.size 3 1 v i (zc (ns l)) ∧ Below w.heap.size w wr
/-- What Back answers. -/
def bkE (gs : List Nat) (a : Int) : Int := if 300 < gs.length then 2 else if okN a = true then (if bk a.toNat [] gs = none then 3 else 0) else 3
def bkL (gs : List Nat) (a : Int) : List Nat := if 300 < gs.length then [] else if okN a = true then (bk a.toNat [] gs).getD [] else []
set_option maxHeartbeats 400000 in
theorem back_many (n : Nat) (h : 300 < n) (a : Int) (A : Option Addr) (c : Nat) (w : World) :
    Calls Try.prog 16 #[.slice A n c, .int .i64 a] w (IntsP w [] 2) := by
  have t0 : decide ((300 : Int) < (n : Int)) = true := by simp; omega
  have t1 : decide (300 < n) = true := by simp; omega
  go_enter Try.func16, Try.ntmps16
  go_wp2
  go_ret2
  exact ⟨none, 0, rfl, Nat.le_refl _, fun _ => rfl, .inl rfl, Below.refl _ _⟩
set_option maxHeartbeats 400000 in
theorem back_at (n : Nat) (h : n ≤ 300) (a : Int) (ha : okN a = false) (A : Option Addr) (c : Nat) (w : World) :
    Calls Try.prog 16 #[.slice A n c, .int .i64 a] w (IntsP w [] 3) := by
  have t0 : decide ((300 : Int) < (n : Int)) = false := by simp; omega
  have t1 : decide (300 < n) = false := by simp; omega
  have hn0 := node_any a
  rw [ha] at hn0
  have HN := Lib.hid hn0; clear hn0
  have HR := Lib.hid (range1 0 false 3 rfl)
  go_enter Try.func16, Try.ntmps16
  go_wp2_with fail
  refine (HN.out _).mono ?_
  rintro e _ ⟨rfl, rfl⟩
  go_wp2_with fail
  refine (HR.out _ _ rfl).mono ?_
  rintro e w2 ⟨rfl, B2⟩
  go_wp2
  go_ret2
  exact ⟨none, 0, rfl, Nat.le_refl _, fun _ => rfl, .inl rfl, B2⟩
set_option maxHeartbeats 2000000 in
theorem back_in (gs : List Nat) (n : Nat) (hn : gs.length = n) (h300 : n ≤ 300) (hg : ∀ g ∈ gs, g < 18446744073709551616) (a : Nat) (ha : a ≤ 1048576) (R : List Nat) (e0 : Int) (hR : R = (bk a [] gs).getD []) (he0 : e0 = if bk a [] gs = none then 3 else 0) (A : Option Addr) (c : Nat) (w : World) (h : RdV w w.heap.size A (nc gs)) :
    Calls Try.prog 16 #[.slice A n c, .int .i64 (a : Int)] w (IntsP w R e0) := by
  have HRR := Lib.hid hR; clear hR
  have HE0 := Lib.hid he0; clear he0
  have t0 : decide ((300 : Int) < (n : Int)) = false := by simp; omega
  have t1 : decide (300 < n) = false := by simp; omega
  have hn0 := node_any (a : Int)
  rw [okN_nat a ha] at hn0
  have HN := Lib.hid hn0; clear hn0
  have HR := Lib.hid (range1 0 true 0 rfl)
  obtain ⟨i0, hi, hz0, hz1, hz2⟩ := info_parts info3
  have HX := Lib.hid h; clear h
  have HL := Lib.hid hn; clear hn
  have HGs := Lib.hid hg; clear hg
  go_enter Try.func16, Try.ntmps16
  go_wp2_with fail
  refine (HN.out _).mono ?_
  rintro e _ ⟨rfl, rfl⟩
  go_wp2_with fail
  refine (HR.out _ _ rfl).mono ?_
  rintro e w2 ⟨rfl, B2⟩
  have HB2 := Lib.hid B2; clear B2
  clear t0 t1
  go_wp2
  go_loopw [7, 24] (fun v p wr => BkRel gs a w v p wr) (fun _ p _ => n - (intOf p).toNat)
  case atStart => exact ⟨0, [], Nat.zero_le _, rfl, rfl, ⟨rfl, .inl ⟨rfl, rfl⟩⟩, HB2.out⟩
  case round =>
    obtain ⟨i, l, hi', rfl, hbk, hrow, hbel⟩ := hrel
    rw [HL.out] at hi'
    by_cases hlt : i < n
    · have hin : i < gs.length := by rw [HL.out]; exact hlt
      obtain ⟨b, off, rfl, hb, hcx⟩ := (HX.out.on hbel).at_ (nc_get gs i hin)
      have hg0 := HGs.out _ (at_mem gs i hin)
      have htk := take_snoc gs i hin
      have hsn := bk_snoc a (gs.take i) [] (gs[i]?.getD 0)
      rw [← htk, hbk, Option.bind_some] at hsn
      have hpre := fun h => bk_pre a (gs.take (i + 1)) [] (gs.drop (i + 1)) h
      rw [List.take_append_drop] at hpre
      have hll := bk_length a _ _ _ hbk
      rw [List.length_take, Nat.min_eq_left (by omega)] at hll
      have hle := bk_le a _ _ _ hbk (by simp)
      have HB := Lib.hid hbel
      clear htk hbel
      generalize gs[i]?.getD 0 = g at *
      obtain ⟨Av, cv, rfl⟩ := own_slice3 hrow
      have hE := elem_any l i (by simpa using hll) (by omega) hle g hg0 a ha Av cv wr (own_rdv hrow)
      unfold elV at hE
      by_cases h0 : elE l g a = 0
      · rw [h0, if_pos rfl] at hE
        rw [if_pos h0] at hsn
        have HE := Lib.hid hE
        have hel : ∃ x : Nat, el l g a = (x : Int) := by
          unfold elE at h0
          split at h0
          · omega
          · exact ⟨(el l g a).toNat, by omega⟩
        obtain ⟨x, hx⟩ := hel
        rw [hx] at HE
        rw [hx, Int.toNat_natCast] at hsn
        have HSn := Lib.hid hsn
        clear hsn hpre hE hx h0 hbk hle hll
        go_wp2_with fail
        refine HE.out.mono ?_
        rintro e _ ⟨rfl, rfl⟩
        go_wp2_with (at_builtin; refine wpList_append_own _ rfl _ _ 22 rfl w.heap.size 3 i0 (.int .i64 0) 1 8 Try.underlying22 hi hz0 hz1 hz2 rfl (by decide) _ _ _ rfl (hrow.alloc _) ⟨wr.heap.size, 0, none⟩ 1 1 [.int .i64 (x : Int)] rfl rfl (news_row wr [.int .i64 (x : Int)] _) (by simp [Value.oneCell']) (by unfold maxLen; omega) (by omega) (by have := HB.out.size; simp; omega) ?_; intro v' w3 hown' hgrow _)
        have hzz : zc (ns l) ++ [Value.int .i64 (x : Int)] = zc (ns (l ++ [x])) := by rw [ns_append, zc_append]; rfl
        rw [hzz] at hown'
        have HO3 := Lib.hid hown'
        have HB3 : Hid (Below w.heap.size w w3) := HB.out.trans (((Below.refl w.heap.size wr).alloc HB.out.size _).trans (grown_low hgrow (hrow.alloc _) (by have := HB.out.size; simp; omega)))
        clear hown' hgrow hrow hzz
        go_roundw
        case rel => exact ⟨i + 1, l ++ [x], by rw [HL.out]; omega, by go_num, HSn.out, HO3.out, HB3.out⟩
        case measure => simp [intOf]; omega
      · have h3 : elE l g a = 3 := by rcases elE_or l g a with h | h <;> omega
        rw [h3, if_neg (by omega)] at hE
        rw [if_neg h0] at hsn
        have HNo := Lib.hid (hpre hsn)
        have HE := Lib.hid hE
        clear hsn hpre hE h0 h3 hbk hle hll
        go_wp2_with fail
        refine HE.out.mono ?_
        rintro e _ ⟨rfl, rfl⟩
        obtain rfl : R = [] := by rw [HRR.out, HNo.out]; rfl
        obtain rfl : e0 = 3 := by rw [HE0.out, HNo.out]; rfl
        clear HRR HE0 HNo
        go_wp2
        go_ret2
        exact ⟨none, 0, rfl, Nat.le_refl _, fun _ => rfl, .inl rfl, HB.out⟩
    · have e : gs.take i = gs := List.take_of_length_le (by rw [HL.out]; omega)
      rw [e] at hbk
      obtain rfl : i = n := by omega
      obtain ⟨Av, cv, rfl⟩ := own_slice3 hrow
      have hll := bk_length a _ _ _ hbk
      have HO := Lib.hid hrow
      have HB := Lib.hid hbel
      have HBk := Lib.hid hbk
      have HLl : Hid (l.length = i) := by show _ = _; rw [hll, HL.out]; simp
      obtain rfl : R = l := by rw [HRR.out, hbk]; rfl
      obtain rfl : e0 = 0 := by rw [HE0.out, hbk]; rfl
      clear hrow hbel e hbk hll HRR HE0
      go_wp2
      go_ret2
      exact ⟨Av, cv, (by rw [HLl.out]; rfl), by rw [HLl.out]; exact own_cap HO.out, own_none HO.out, own_rdv HO.out, HB.out⟩
theorem back_any (gs : List Nat) (n : Nat) (hn : gs.length = n) (hg : ∀ g ∈ gs, g < 18446744073709551616) (a : Int) (A : Option Addr) (c : Nat) (w : World) (h : RdV w w.heap.size A (nc gs)) :
    Calls Try.prog 16 #[.slice A n c, .int .i64 a] w (IntsP w (bkL gs a) (bkE gs a)) := by
  unfold bkL bkE
  rw [hn]
  by_cases h1 : 300 < n
  · rw [if_pos h1, if_pos h1]
    exact back_many n h1 a A c w
  · rw [if_neg h1, if_neg h1]
    by_cases h2 : okN a = true
    · rw [if_pos h2, if_pos h2]
      obtain ⟨m, rfl, hm⟩ := okN_true h2
      rw [Int.toNat_natCast]
      exact back_in gs n hn (by omega) hg m hm _ _ rfl rfl A c w h
    · rw [if_neg h2, if_neg h2]
      exact back_at n (by omega) a (by simpa using h2) A c w
end Go.Proofs.Ythldcdcpflamaaa
