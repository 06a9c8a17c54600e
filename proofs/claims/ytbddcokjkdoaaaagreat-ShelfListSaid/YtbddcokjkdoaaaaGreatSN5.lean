/- Texts of this proof, one behind the other; each fact names its conditions. -/
namespace Go.Proofs.YtbddcokjkdoaaaaGreat
set_option linter.unusedVariables false
def fold (n : Int) : Nat := if n < 0 then (-2 * n - 1).toNat else (2 * n).toNat
def unfold_ (n : Nat) : Int := if n % 2 = 1 then -((n : Int) / 2) - 1 else (n : Int) / 2
theorem fold_u64 (n : Int) (h0 : -9223372036854775808 ≤ n) (h1 : n ≤ 9223372036854775807) : fold n < 18446744073709551616 := by unfold fold; split <;> omega
theorem unfold_fold (n : Int) : unfold_ (fold n) = n := by
  unfold unfold_ fold
  split <;> split <;> omega
def ns (l : List Nat) : List Int := l.map (fun (x : Nat) => (x : Int))
theorem ns_length (l : List Nat) : (ns l).length = l.length := by simp [ns]
theorem ns_cons (x : Nat) (l : List Nat) : ns (x :: l) = (x : Int) :: ns l := rfl
theorem ns_append (a b : List Nat) : ns (a ++ b) = ns a ++ ns b := by simp [ns]
theorem ns_nat (l : List Nat) : (ns l).map Int.toNat = l := by
  unfold ns
  rw [List.map_map]
  exact (List.map_congr_left fun x _ => by simp).trans (List.map_id l)
theorem ns_inj {a b : List Nat} (h : ns a = ns b) : a = b := by rw [← ns_nat a, h, ns_nat]
def rck : Int → List Int → Int
  | _, [] => 0
  | v, x :: t => if x < 0 ∨ 1048576 < x then 3 else if x ≤ v then 4 else rck x t
def rchk (xs : List Int) : Int := if 300 < xs.length then 2 else rck (-1) xs
def Ris : Int → List Nat → Prop
  | _, [] => True
  | v, x :: t => v < (x : Int) ∧ x ≤ 1048576 ∧ Ris (x : Int) t
def Rising (l : List Nat) : Prop := l.length ≤ 300 ∧ Ris (-1) l
theorem rck_ris : ∀ (xs : List Int) (v : Int), rck v xs = 0 → ∃ l, xs = ns l ∧ Ris v l
  | [], v, _ => ⟨[], rfl, trivial⟩
  | x :: t, v, h => by
    unfold rck at h
    by_cases h1 : x < 0 ∨ 1048576 < x
    · rw [if_pos h1] at h; omega
    · rw [if_neg h1] at h
      by_cases h2 : x ≤ v
      · rw [if_pos h2] at h; omega
      · rw [if_neg h2] at h
        obtain ⟨l, rfl, hl⟩ := rck_ris t x h
        obtain ⟨n, rfl⟩ : ∃ n : Nat, x = (n : Int) := ⟨x.toNat, by omega⟩
        exact ⟨n :: l, rfl, by omega, by omega, hl⟩
theorem ris_rck : ∀ (l : List Nat) (v : Int), Ris v l → rck v (ns l) = 0
  | [], v, _ => rfl
  | x :: t, v, ⟨h1, h2, h3⟩ => by
    rw [ns_cons]; unfold rck
    rw [if_neg (by omega), if_neg (by omega)]
    exact ris_rck t _ h3
theorem rchk_zero (xs : List Int) (h : rchk xs = 0) : ∃ l, xs = ns l ∧ Rising l := by
  unfold rchk at h
  by_cases h1 : 300 < xs.length
  · rw [if_pos h1] at h; omega
  · rw [if_neg h1] at h
    obtain ⟨l, rfl, hl⟩ := rck_ris xs (-1) h
    exact ⟨l, rfl, by rw [ns_length] at h1; omega, hl⟩
theorem rchk_ok (l : List Nat) (h : Rising l) : rchk (ns l) = 0 := by
  unfold rchk
  rw [if_neg (by rw [ns_length]; have := h.1; omega)]
  exact ris_rck l (-1) h.2
theorem ris_le : ∀ (l : List Nat) (v : Int), Ris v l → ∀ x ∈ l, v < (x : Int) ∧ x ≤ 1048576
  | [], _, _ => by simp
  | y :: t, v, ⟨h1, h2, h3⟩ => by
    intro x hx
    rcases List.mem_cons.1 hx with rfl | hx
    · exact ⟨h1, h2⟩
    · have := ris_le t _ h3 x hx; omega
theorem ris_at : ∀ (l : List Nat) (v : Int), Ris v l → ∀ i, i + 1 < l.length → l[i]?.getD 0 < l[i + 1]?.getD 0
  | [], _, _, i, h => by simp at h
  | [x], _, _, i, h => by simp at h
  | x :: y :: t, v, ⟨h1, h2, h3⟩, 0, h => by have := h3.1; simp; omega
  | x :: y :: t, v, ⟨h1, h2, h3⟩, i + 1, h => by
    have := ris_at (y :: t) _ h3 i (by simpa using h)
    simpa using this
def gp : Nat → List Nat → List Nat
  | _, [] => []
  | v, x :: t => (x - v - 1) :: gp x t
def gps (a : Int) : List Nat → List Nat
  | [] => []
  | x :: t => fold ((x : Int) - a) :: gp x t
theorem gp_length : ∀ (l : List Nat) (v : Nat), (gp v l).length = l.length
  | [], _ => rfl
  | x :: t, v => by simp [gp, gp_length t x]
theorem gps_length (a : Int) (l : List Nat) : (gps a l).length = l.length := by
  cases l with
  | nil => rfl
  | cons x t => simp [gps, gp_length]
theorem gp_at : ∀ (l : List Nat) (v i : Nat), i < l.length → (gp v l)[i]?.getD 0 = l[i]?.getD 0 - (if i = 0 then v else l[i - 1]?.getD 0) - 1
  | [], _, i, h => by simp at h
  | x :: t, v, 0, h => by simp [gp]
  | x :: t, v, i + 1, h => by
    have := gp_at t x i (by simpa using h)
    rw [if_neg (by omega)]
    simp only [gp, List.getElem?_cons_succ, Nat.add_sub_cancel]
    rw [this]
    rcases i with _ | i <;> simp
theorem gps_at (a : Int) (l : List Nat) (i : Nat) (h : i < l.length) : (gps a l)[i]?.getD 0 = if i = 0 then fold ((l[i]?.getD 0 : Nat) - a) else l[i]?.getD 0 - l[i - 1]?.getD 0 - 1 := by
  cases l with
  | nil => simp at h
  | cons x t =>
    rcases i with _ | i
    · simp [gps]
    · rw [if_neg (by omega)]
      have := gp_at t x i (by simpa using h)
      simp only [gps, List.getElem?_cons_succ, Nat.add_sub_cancel]
      rw [this]
      rcases i with _ | i <;> simp
theorem gp_le : ∀ (l : List Nat) (v : Nat), Ris (v : Int) l → ∀ g ∈ gp v l, g ≤ 1048576
  | [], _, _ => by simp [gp]
  | x :: t, v, ⟨h1, h2, h3⟩ => by
    intro g hg
    rcases List.mem_cons.1 hg with rfl | hg
    · omega
    · exact gp_le t x h3 g hg
theorem gps_le (a : Nat) (ha : a ≤ 1048576) (l : List Nat) (h : Rising l) : ∀ g ∈ gps (a : Int) l, g ≤ 2097152 := by
  intro g hg
  cases l with
  | nil => simp [gps] at hg
  | cons x t =>
    obtain ⟨h1, h2, h3⟩ := h.2
    rcases List.mem_cons.1 hg with rfl | hg
    · unfold fold; split <;> omega
    · have := gp_le t x h3 g hg; omega
def el (l : List Nat) (g a : Nat) : Int := if l = [] then (a : Int) + unfold_ g else (l.getLast?.getD 0 : Nat) + 1 + (g : Int)
def elE (l : List Nat) (g a : Nat) : Int := if 2097152 < g ∨ el l g a < 0 ∨ 1048576 < el l g a then 3 else 0
def bk (a : Nat) : List Nat → List Nat → Option (List Nat)
  | l, [] => some l
  | l, g :: t => if elE l g a = 0 then bk a (l ++ [(el l g a).toNat]) t else none
theorem last_snoc (l : List Nat) (x : Nat) : (l ++ [x]).getLast?.getD 0 = x := by simp
theorem bk_gp (a : Nat) : ∀ (t m : List Nat) (v : Nat), m ≠ [] → m.getLast?.getD 0 = v → Ris (v : Int) t → bk a m (gp v t) = some (m ++ t)
  | [], m, v, _, _, _ => by simp [gp, bk]
  | x :: t, m, v, hm, hv, ⟨h1, h2, h3⟩ => by
    have e : el m (x - v - 1) a = (x : Int) := by unfold el; rw [if_neg hm, hv]; omega
    unfold gp bk
    rw [if_pos (by unfold elE; rw [e, if_neg (by omega)]), e]
    have := bk_gp a t (m ++ [x]) x (by simp) (last_snoc m x) h3
    simpa using this
theorem bk_gps (a : Nat) (ha : a ≤ 1048576) (l : List Nat) (h : Rising l) : bk a [] (gps (a : Int) l) = some l := by
  cases l with
  | nil => rfl
  | cons x t =>
    obtain ⟨h1, h2, h3⟩ := h.2
    have e : el [] (fold ((x : Int) - a)) a = (x : Int) := by unfold el; rw [if_pos rfl, unfold_fold]; omega
    unfold gps bk
    rw [if_pos (by unfold elE; rw [e, if_neg]; unfold fold; split <;> omega), e]
    have := bk_gp a t [x] x (by simp) (by simp) h3
    simpa using this
end Go.Proofs.YtbddcokjkdoaaaaGreat
