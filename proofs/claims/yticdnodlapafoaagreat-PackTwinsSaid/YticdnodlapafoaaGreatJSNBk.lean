/- What element and Back of gaps answer, for whatever they are handed. -/
import Derived.Test.YticdnodlapafoaaGreatJSNGaps
namespace Go.Proofs.YticdnodlapafoaaGreat
set_option maxRecDepth 100000
set_option linter.unusedVariables false
open Go.RowKit Go.Shelf

theorem unf_bd (g : Nat) (h : g ≤ 2097152) : -1048577 ≤ unfold_ g ∧ unfold_ g ≤ 1048576 := by unfold unfold_; split <;> omega
/-- The number that is answered. -/
def elV (l : List Nat) (g a : Nat) : Int := if elE l g a = 0 then el l g a else 0
theorem last_at (l : List Nat) (n : Nat) (hn : l.length = n) : l.getLast?.getD 0 = l[n - 1]?.getD 0 := by rw [List.getLast?_eq_getElem?, hn]
theorem elE_eq (l : List Nat) (g a : Nat) (hg : g ≤ 2097152) : elE l g a = if okN (el l g a) = true then 0 else 3 := by
  unfold elE okN
  by_cases h : 0 ≤ el l g a ∧ el l g a ≤ 1048576
  · rw [if_neg (by omega), if_pos (by simpa using h)]
  · rw [if_pos (by omega), if_neg (by simpa using h)]
set_option maxHeartbeats 1000000 in
theorem elem_any (l : List Nat) (n : Nat) (hn : l.length = n) (hn3 : n ≤ 300) (hl : ∀ x ∈ l, x ≤ 1048576) (g : Nat) (hg : g < 18446744073709551616) (a : Nat) (ha : a ≤ 1048576) (A : Option Addr) (c : Nat) (w : World) (h : RdV w w.heap.size A (zc (ns l))) :
    Calls Tryz.prog 164 #[.slice A n c, .int .u64 (g : Int), .int .i64 (a : Int)] w fun e w' => e = .returned (.tuple #[.int .i64 (elV l g a), .int .i64 (elE l g a)]) ∧ w = w' := by
  by_cases hbig : 2097152 < g
  · have e1 : elE l g a = 3 := by unfold elE; rw [if_pos (.inl hbig)]
    have e2 : elV l g a = 0 := by unfold elV; rw [e1, if_neg (by omega)]
    rw [e1, e2]
    have t0 : decide ((2097152 : Int) < (g : Int)) = true := by simp; omega
    clear hbig
    go_enter Tryz.func164, Tryz.ntmps164
    go_wp2
    go_ret2
    exact ⟨rfl, rfl⟩
  · have hg2 : g ≤ 2097152 := by omega
    have t0 : decide ((2097152 : Int) < (g : Int)) = false := by simp; omega
    obtain ⟨hu1, hu2⟩ := unf_bd g hg2
    have HU := Lib.hid (unfold_any g hg)
    have HE := Lib.hid (elE_eq l g a hg2)
    have HV : Hid (elV l g a = if elE l g a = 0 then el l g a else 0) := rfl
    have HNd := Lib.hid (node_any (el l g a))
    by_cases h0 : n = 0
    · obtain rfl : l = [] := List.eq_nil_of_length_eq_zero (by omega)
      subst h0
      have he : el [] g a = (a : Int) + unfold_ g := by unfold el; rw [if_pos rfl]
      rw [he] at HE HV HNd
      generalize unfold_ g = u at *
      generalize elE [] g a = ee at *
      generalize elV [] g a = ev at *
      clear hbig he h hl hn hn3
      by_cases hok : okN ((a : Int) + u) = true
      · have k1 := HE.out; rw [if_pos hok] at k1; subst k1
        have k2 := HV.out; rw [if_pos rfl] at k2; subst k2
        rw [hok] at HNd
        clear hok HE HV
        go_enter Tryz.func164, Tryz.ntmps164
        go_wp2_with fail
        refine (HU.out _).mono ?_
        rintro e _ ⟨rfl, rfl⟩
        go_wp2_with fail
        refine (HNd.out _).mono ?_
        rintro e _ ⟨rfl, rfl⟩
        go_wp2
        go_ret2
        exact ⟨rfl, rfl⟩
      · have k1 := HE.out; rw [if_neg hok] at k1; subst k1
        have k2 := HV.out; rw [if_neg (by omega)] at k2; subst k2
        have hok2 : okN ((a : Int) + u) = false := by simpa using hok
        rw [hok2] at HNd
        clear hok hok2 HE HV
        go_enter Tryz.func164, Tryz.ntmps164
        go_wp2_with fail
        refine (HU.out _).mono ?_
        rintro e _ ⟨rfl, rfl⟩
        go_wp2_with fail
        refine (HNd.out _).mono ?_
        rintro e _ ⟨rfl, rfl⟩
        go_wp2
        go_ret2
        exact ⟨rfl, rfl⟩
    · have hne : l ≠ [] := by rintro rfl; simp at hn; omega
      have he : el l g a = ((l[n - 1]?.getD 0 : Nat) : Int) + 1 + (g : Int) := by unfold el; rw [if_neg hne, last_at l n hn]
      obtain ⟨b, off, rfl, hb, hcx⟩ := h.at_ (ns_get l (n - 1) (by omega))
      have hx := hl _ (at_mem l (n - 1) (by omega))
      rw [he] at HE HV HNd
      generalize unfold_ g = u at *
      generalize elE l g a = ee at *
      generalize elV l g a = ev at *
      generalize l[n - 1]?.getD 0 = x at *
      have t1 : decide ((0 : Int) < (n : Int)) = true := by simp; omega
      have t2 : decide (0 < n) = true := by simp; omega
      have t3 : ((n : Int) - 1).toNat = n - 1 := by omega
      have t4 : (0 : Int) ≤ (n : Int) - 1 := by omega
      clear hbig he h hl hn hne h0
      by_cases hok : okN ((x : Int) + 1 + (g : Int)) = true
      · have k1 := HE.out; rw [if_pos hok] at k1; subst k1
        have k2 := HV.out; rw [if_pos rfl] at k2; subst k2
        rw [hok] at HNd
        clear hok HE HV
        go_enter Tryz.func164, Tryz.ntmps164
        go_wp2_with fail
        refine (HU.out _).mono ?_
        rintro e _ ⟨rfl, rfl⟩
        go_wp2_with fail
        refine (HNd.out _).mono ?_
        rintro e _ ⟨rfl, rfl⟩
        go_wp2
        go_ret2
        exact ⟨rfl, rfl⟩
      · have k1 := HE.out; rw [if_neg hok] at k1; subst k1
        have k2 := HV.out; rw [if_neg (by omega)] at k2; subst k2
        have hok2 : okN ((x : Int) + 1 + (g : Int)) = false := by simpa using hok
        rw [hok2] at HNd
        clear hok hok2 HE HV
        go_enter Tryz.func164, Tryz.ntmps164
        go_wp2_with fail
        refine (HU.out _).mono ?_
        rintro e _ ⟨rfl, rfl⟩
        go_wp2_with fail
        refine (HNd.out _).mono ?_
        rintro e _ ⟨rfl, rfl⟩
        go_wp2
        go_ret2
        exact ⟨rfl, rfl⟩
theorem bk_le (a : Nat) : ∀ (gs m r : List Nat), bk a m gs = some r → (∀ x ∈ m, x ≤ 1048576) → ∀ x ∈ r, x ≤ 1048576
  | [], m, r, h, hm => by unfold bk at h; cases h; exact hm
  | g :: gs, m, r, h, hm => by
    unfold bk at h
    split at h
    · rename_i he
      refine bk_le a gs _ r h (fun x hx => ?_)
      rcases List.mem_append.1 hx with hx | hx
      · exact hm x hx
      · obtain rfl : x = (el m g a).toNat := by simpa using hx
        unfold elE at he
        split at he
        · omega
        · omega
    · cases h
theorem elE_or (l : List Nat) (g a : Nat) : elE l g a = 0 ∨ elE l g a = 3 := by unfold elE; split <;> simp

/-- At each round's head: what the first i gaps tell. -/
def BkRel (gs : List Nat) (a : Nat) (w : World) (v p : Value) (wr : World) : Prop :=
  ∃ (i : Nat) (l : List Nat), i ≤ gs.length ∧ p = .int .i64 (i : Int) ∧ bk a [] (gs.take i) = some l ∧ wr.ownsRow w.heap.size 3 1 v i (zc (ns l)) ∧ Below w.heap.size w wr
/-- What Back answers. -/
def bkE (gs : List Nat) (a : Int) : Int := if 300 < gs.length then 2 else if okN a = true then (if bk a.toNat [] gs = none then 3 else 0) else 3
def bkL (gs : List Nat) (a : Int) : List Nat := if 300 < gs.length then [] else if okN a = true then (bk a.toNat [] gs).getD [] else []
end Go.Proofs.YticdnodlapafoaaGreat
