/- Counting 1 bits, and where they stand: plain facts; no condition but those that each fact names. -/
import Derived.Test.YtgibbokhdfblmaaUOnes
namespace Go.Proofs.Ytgibbokhdfblmaa
set_option linter.unusedVariables false

/-- How many 1 bits. -/
def cnt (l : List Bool) : Nat := l.count true
theorem cnt_append (a b : List Bool) : cnt (a ++ b) = cnt a + cnt b := by simp [cnt]
theorem cnt_le (l : List Bool) : cnt l ≤ l.length := List.count_le_length
theorem cnt_cons (b : Bool) (l : List Bool) : cnt (b :: l) = cnt l + b.toNat := by cases b <;> simp [cnt]
theorem pos_len (l : List Bool) : ∀ o, (pos o l).length = cnt l := by
  induction l with
  | nil => intro o; rfl
  | cons b l ih => intro o; rw [cnt_cons]; cases b <;> simp [pos, ih]
theorem cnt_take_succ (l : List Bool) (i : Nat) (h : i < l.length) : cnt (l.take (i + 1)) = cnt (l.take i) + (l[i]?.getD false).toNat := by
  rw [List.take_succ_eq_append_getElem h, cnt_append, List.getElem?_eq_getElem h]; cases l[i] <;> rfl
theorem cnt_take_le (l : List Bool) (i : Nat) : cnt (l.take i) ≤ i := Nat.le_trans (cnt_le _) (by rw [List.length_take]; omega)
theorem cnt_take_mono (l : List Bool) (i j : Nat) (h : i ≤ j) : cnt (l.take i) ≤ cnt (l.take j) := by
  have e : l.take j = l.take i ++ (l.take j).drop i := by
    conv => lhs; rw [← List.take_append_drop i (l.take j)]
    rw [List.take_take, Nat.min_eq_left h]
  rw [e, cnt_append]; omega
theorem cnt_take_all (l : List Bool) (i : Nat) : cnt (l.take i) ≤ cnt l := by
  have := cnt_take_mono l i (max i l.length) (by omega)
  rwa [List.take_of_length_le (l := l) (i := max i l.length) (by omega)] at this
theorem cnt_between (l : List Bool) (fr to : Nat) (h : fr ≤ to) : cnt ((l.drop fr).take (to - fr)) = cnt (l.take to) - cnt (l.take fr) := by
  have e : l.take to = l.take fr ++ (l.drop fr).take (to - fr) := by
    rw [← List.take_append_drop fr (l.take to), List.take_take, Nat.min_eq_left h, List.drop_take]
  rw [e, cnt_append]; omega
theorem cnt_eqs_false (l : List Bool) : cnt (eqs false l) + cnt l = l.length := by
  induction l with
  | nil => rfl
  | cons b l ih => rw [show eqs false (b :: l) = (b == false) :: eqs false l from rfl, cnt_cons, cnt_cons, List.length_cons]; cases b <;> simp <;> omega
theorem vis_count (l : List Bool) (fr to : Nat) (h : fr ≤ to) : (vis true l fr to).length = cnt (l.take to) - cnt (l.take fr) := by
  unfold vis
  rw [pos_len, eqs_true, cnt_between l fr to h]
/-- The position of a 1 bit, by how many are ahead. -/
theorem pos_idx (l : List Bool) : ∀ o p, l[p]? = some true → (pos o l)[cnt (l.take p)]? = some (o + p) := by
  induction l with
  | nil => intro o p h; simp at h
  | cons b l ih =>
    intro o p h
    cases p with
    | zero => simp at h; subst h; simp [pos, cnt]
    | succ p =>
      have := ih (o + 1) p (by simpa using h)
      rw [List.take_succ_cons, cnt_cons]
      cases b
      · simp only [pos, Bool.toNat_false, Nat.add_zero]; rw [this]; congr 1; omega
      · simp only [pos, Bool.toNat_true, List.getElem?_cons_succ]; rw [this]; congr 1; omega
theorem pos_inv (l : List Bool) : ∀ o i q, (pos o l)[i]? = some q → ∃ p, q = o + p ∧ l[p]? = some true ∧ cnt (l.take p) = i := by
  induction l with
  | nil => intro o i q h; simp [pos] at h
  | cons b l ih =>
    intro o i q h
    cases b
    · obtain ⟨p, rfl, h1, h2⟩ := ih (o + 1) i q h
      exact ⟨p + 1, by omega, by simpa using h1, by rw [List.take_succ_cons, cnt_cons, h2]; rfl⟩
    · cases i with
      | zero => simp [pos] at h; exact ⟨0, by omega, by simp, by simp [cnt]⟩
      | succ i =>
        obtain ⟨p, rfl, h1, h2⟩ := ih (o + 1) i q (by simpa [pos] using h)
        exact ⟨p + 1, by omega, by simpa using h1, by rw [List.take_succ_cons, cnt_cons, h2]; rfl⟩
/-- How many bits of a value are ahead of a position. -/
def ahd (v : Bool) (l : List Bool) (p : Nat) : Nat := cnt (eqs v (l.take p))
theorem ahd_true (l : List Bool) (p : Nat) : ahd true l p = cnt (l.take p) := by unfold ahd; rw [eqs_true]
theorem ahd_false (l : List Bool) (p : Nat) (h : p ≤ l.length) : ahd false l p + cnt (l.take p) = p := by
  unfold ahd; rw [cnt_eqs_false, List.length_take]; omega
theorem eqs_take (v : Bool) (l : List Bool) (p : Nat) : (eqs v l).take p = eqs v (l.take p) := by simp [eqs, List.map_take]
theorem eqs_at (v : Bool) (l : List Bool) (p : Nat) : (eqs v l)[p]? = some true ↔ l[p]? = some v := by
  unfold eqs
  rw [List.getElem?_map]
  cases l[p]? with
  | none => simp
  | some b => simp
/-- What Select finds. -/
def sel (v : Bool) (l : List Bool) (i : Nat) : Option Nat := (vis v l 0 l.length)[i]?
theorem sel_eq (v : Bool) (l : List Bool) (i : Nat) : sel v l i = (pos 0 (eqs v l))[i]? := by
  unfold sel vis
  rw [List.drop_zero, Nat.sub_zero, List.take_of_length_le (Nat.le_refl _)]
theorem sel_some (v : Bool) (l : List Bool) (i p : Nat) : sel v l i = some p ↔ l[p]? = some v ∧ ahd v l p = i := by
  rw [sel_eq]
  constructor
  · intro h
    obtain ⟨q, rfl, h1, h2⟩ := pos_inv _ _ _ _ h
    rw [Nat.zero_add]
    exact ⟨(eqs_at v l q).1 h1, by rw [eqs_take] at h2; exact h2⟩
  · rintro ⟨h1, rfl⟩
    have := pos_idx _ 0 p ((eqs_at v l p).2 h1)
    rw [eqs_take, Nat.zero_add] at this
    exact this
theorem sel_none (v : Bool) (l : List Bool) (i : Nat) : sel v l i = none ↔ cnt (eqs v l) ≤ i := by
  rw [sel_eq, List.getElem?_eq_none_iff, pos_len]
/-- What an index holds. -/
def bx (l : List Bool) (e : Nat) : List Nat := (List.range (l.length / e + 1)).map fun j => cnt (l.take (j * e))
theorem bx_length (l : List Bool) (e : Nat) : (bx l e).length = l.length / e + 1 := by simp [bx]
theorem bx_get (l : List Bool) (e j : Nat) (h : j ≤ l.length / e) : (bx l e)[j]? = some (cnt (l.take (j * e))) := by
  unfold bx
  rw [List.getElem?_map, List.getElem?_range (by omega)]; rfl
theorem bx_take_succ (l : List Bool) (e j : Nat) (h : j ≤ l.length / e) : (bx l e).take (j + 1) = (bx l e).take j ++ [cnt (l.take (j * e))] := by
  have hj : j < (bx l e).length := by rw [bx_length]; omega
  have h1 := bx_get l e j h
  rw [List.getElem?_eq_getElem hj] at h1
  have h2 : (bx l e)[j] = cnt (l.take (j * e)) := by simpa using h1
  rw [List.take_succ_eq_append_getElem hj, h2]
/-- By an index it is as many. -/
theorem bx_by (l : List Bool) (e at_ : Nat) (h : at_ ≤ l.length) : (bx l e)[at_ / e]?.getD 0 + (cnt (l.take at_) - cnt (l.take (at_ / e * e))) = cnt (l.take at_) := by
  rw [bx_get l e _ (Nat.div_le_div_right h)]
  have := cnt_take_mono l (at_ / e * e) at_ (Nat.div_mul_le_self _ _)
  simp only [Option.getD_some]; omega
end Go.Proofs.Ytgibbokhdfblmaa
