/- Plain facts on rising lists, their gaps, and lists that gaps tell; nothing here speaks of a program; each fact names its conditions. -/
namespace Go.Proofs.YticdnodlapafoaaGreat
set_option linter.unusedVariables false

/-- A number is folded. -/
def fold (n : Int) : Nat := if n < 0 then (-2 * n - 1).toNat else (2 * n).toNat
def unfold_ (n : Nat) : Int := if n % 2 = 1 then -((n : Int) / 2) - 1 else (n : Int) / 2
theorem fold_u64 (n : Int) (h0 : -9223372036854775808 ≤ n) (h1 : n ≤ 9223372036854775807) : fold n < 18446744073709551616 := by unfold fold; split <;> omega
theorem unfold_bd (n : Nat) (h : n < 18446744073709551616) : -9223372036854775808 ≤ unfold_ n ∧ unfold_ n ≤ 9223372036854775807 := by unfold unfold_; split <;> omega
theorem unfold_fold (n : Int) : unfold_ (fold n) = n := by
  unfold unfold_ fold
  split <;> split <;> omega
theorem fold_unfold (n : Nat) : fold (unfold_ n) = n := by
  unfold unfold_ fold
  split <;> split <;> omega

def ns (l : List Nat) : List Int := l.map (fun (x : Nat) => (x : Int))
theorem ns_length (l : List Nat) : (ns l).length = l.length := by simp [ns]
theorem ns_cons (x : Nat) (l : List Nat) : ns (x :: l) = (x : Int) :: ns l := rfl
theorem ns_append (a b : List Nat) : ns (a ++ b) = ns a ++ ns b := by simp [ns]
theorem ns_nat (l : List Nat) : (ns l).map Int.toNat = l := by
  unfold ns
  rw [List.map_map]
  exact (List.map_congr_left fun x _ => by simp).trans (List.map_id l)
theorem ns_inj {a b : List Nat} (h : ns a = ns b) : a = b := by rw [← ns_nat a, h, ns_nat]

/-- The error of the numbers of a list behind a number. -/
def rck : Int → List Int → Int
  | _, [] => 0
  | v, x :: t => if x < 0 ∨ 1048576 < x then 3 else if x ≤ v then 4 else rck x t
def rchk (xs : List Int) : Int := if 300 < xs.length then 2 else rck (-1) xs
/-- All rise behind a number, and none is too great. -/
def Ris : Int → List Nat → Prop
  | _, [] => True
  | v, x :: t => v < (x : Int) ∧ x ≤ 1048576 ∧ Ris (x : Int) t
def Rising (l : List Nat) : Prop := l.length ≤ 300 ∧ Ris (-1) l
theorem rck_ris : ∀ (xs : List Int) (v : Int), rck v xs = 0 → ∃ l, xs = ns l ∧ Ris v l
  | [], v, _ => ⟨[], rfl, trivial⟩
  | x :: t, v, h => by
    unfold rck at h
    by_cases h1 : x < 0 ∨ 1048576 < x
    · rw [if_pos h1] at h; omega
    · rw [if_neg h1] at h
      by_cases h2 : x ≤ v
      · rw [if_pos h2] at h; omega
      · rw [if_neg h2] at h
        obtain ⟨l, rfl, hl⟩ := rck_ris t x h
        obtain ⟨n, rfl⟩ : ∃ n : Nat, x = (n : Int) := ⟨x.toNat, by omega⟩
        exact ⟨n :: l, rfl, by omega, by omega, hl⟩
theorem ris_rck : ∀ (l : List Nat) (v : Int), Ris v l → rck v (ns l) = 0
  | [], v, _ => rfl
  | x :: t, v, ⟨h1, h2, h3⟩ => by
    rw [ns_cons]; unfold rck
    rw [if_neg (by omega), if_neg (by omega)]
    exact ris_rck t _ h3
theorem rchk_zero (xs : List Int) (h : rchk xs = 0) : ∃ l, xs = ns l ∧ Rising l := by
  unfold rchk at h
  by_cases h1 : 300 < xs.length
  · rw [if_pos h1] at h; omega
  · rw [if_neg h1] at h
    obtain ⟨l, rfl, hl⟩ := rck_ris xs (-1) h
    exact ⟨l, rfl, by rw [ns_length] at h1; omega, hl⟩
theorem rchk_ok (l : List Nat) (h : Rising l) : rchk (ns l) = 0 := by
  unfold rchk
  rw [if_neg (by rw [ns_length]; have := h.1; omega)]
  exact ris_rck l (-1) h.2
theorem rck_or : ∀ (xs : List Int) (v : Int), rck v xs = 0 ∨ rck v xs = 3 ∨ rck v xs = 4
  | [], v => .inl rfl
  | x :: t, v => by
    unfold rck
    split
    · simp
    · split
      · simp
      · exact rck_or t x
theorem rchk_or (xs : List Int) : rchk xs = 0 ∨ rchk xs = 2 ∨ rchk xs = 3 ∨ rchk xs = 4 := by
  unfold rchk
  split
  · simp
  · have := rck_or xs (-1); omega
theorem ris_le : ∀ (l : List Nat) (v : Int), Ris v l → ∀ x ∈ l, v < (x : Int) ∧ x ≤ 1048576
  | [], _, _ => by simp
  | y :: t, v, ⟨h1, h2, h3⟩ => by
    intro x hx
    rcases List.mem_cons.1 hx with rfl | hx
    · exact ⟨h1, h2⟩
    · have := ris_le t _ h3 x hx; omega
theorem ris_weak : ∀ (l : List Nat) (v u : Int), u ≤ v → Ris v l → Ris u l
  | [], _, _, _, _ => trivial
  | y :: t, v, u, h, ⟨h1, h2, h3⟩ => ⟨by omega, h2, h3⟩
theorem ris_app : ∀ (a b : List Nat) (v : Int), Ris v (a ++ b) ↔ Ris v a ∧ Ris ((a.getLast?.map (fun (x : Nat) => (x : Int))).getD v) b
  | [], b, v => by simp [Ris]
  | x :: t, b, v => by
    have ih := ris_app t b (x : Int)
    show (v < (x : Int) ∧ x ≤ 1048576 ∧ Ris (x : Int) (t ++ b)) ↔ (v < (x : Int) ∧ x ≤ 1048576 ∧ Ris (x : Int) t) ∧ _
    rw [ih]
    have e : ((x :: t).getLast?.map (fun (x : Nat) => (x : Int))).getD v = (t.getLast?.map (fun (x : Nat) => (x : Int))).getD (x : Int) := by
      cases t with
      | nil => simp
      | cons y t => simp [List.getLast?_cons]
    rw [e]
    constructor
    · rintro ⟨a, b, c, d⟩; exact ⟨⟨a, b, c⟩, d⟩
    · rintro ⟨⟨a, b, c⟩, d⟩; exact ⟨a, b, c, d⟩
theorem ris_at : ∀ (l : List Nat) (v : Int), Ris v l → ∀ i, i + 1 < l.length → l[i]?.getD 0 < l[i + 1]?.getD 0
  | [], _, _, i, h => by simp at h
  | [x], _, _, i, h => by simp at h
  | x :: y :: t, v, ⟨h1, h2, h3⟩, 0, h => by have := h3.1; simp; omega
  | x :: y :: t, v, ⟨h1, h2, h3⟩, i + 1, h => by
    have := ris_at (y :: t) _ h3 i (by simpa using h)
    simpa using this
theorem ris_of_at : ∀ (l : List Nat) (v : Int), (∀ x ∈ l, v < (x : Int) ∧ x ≤ 1048576) → (∀ i, i + 1 < l.length → l[i]?.getD 0 < l[i + 1]?.getD 0) → Ris v l
  | [], _, _, _ => trivial
  | [x], v, h, _ => ⟨(h x (by simp)).1, (h x (by simp)).2, trivial⟩
  | x :: y :: t, v, h, hi => by
    refine ⟨(h x (by simp)).1, (h x (by simp)).2, ris_of_at (y :: t) x ?_ (fun i hh => by have := hi (i + 1) (by simpa using hh); simpa using this)⟩
    have h0 : x < y := by have := hi 0 (by simp); simpa using this
    have key : ∀ j, j < (y :: t).length → x < (y :: t)[j]?.getD 0 := by
      intro j
      induction j with
      | zero => intro _; simpa using h0
      | succ j ih =>
        intro hj
        have a := ih (by omega)
        have b := hi (j + 1) (by simpa using hj)
        have b2 : (y :: t)[j]?.getD 0 < (y :: t)[j + 1]?.getD 0 := by simpa using b
        omega
    intro z hz
    obtain ⟨j, hj, rfl⟩ := List.getElem_of_mem hz
    have a := key j hj
    rw [List.getElem?_eq_getElem hj] at a
    simp only [Option.getD_some] at a
    exact ⟨by exact_mod_cast a, (h _ (List.mem_cons_of_mem _ hz)).2⟩

/-- The gaps behind a number, and behind a place. -/
def gp : Nat → List Nat → List Nat
  | _, [] => []
  | v, x :: t => (x - v - 1) :: gp x t
def gps (a : Int) : List Nat → List Nat
  | [] => []
  | x :: t => fold ((x : Int) - a) :: gp x t
theorem gp_length : ∀ (l : List Nat) (v : Nat), (gp v l).length = l.length
  | [], _ => rfl
  | x :: t, v => by simp [gp, gp_length t x]
theorem gps_length (a : Int) (l : List Nat) : (gps a l).length = l.length := by
  cases l with
  | nil => rfl
  | cons x t => simp [gps, gp_length]
theorem gp_at : ∀ (l : List Nat) (v i : Nat), i < l.length → (gp v l)[i]?.getD 0 = l[i]?.getD 0 - (if i = 0 then v else l[i - 1]?.getD 0) - 1
  | [], _, i, h => by simp at h
  | x :: t, v, 0, h => by simp [gp]
  | x :: t, v, i + 1, h => by
    have := gp_at t x i (by simpa using h)
    rw [if_neg (by omega)]
    simp only [gp, List.getElem?_cons_succ, Nat.add_sub_cancel]
    rw [this]
    rcases i with _ | i <;> simp
theorem gps_at (a : Int) (l : List Nat) (i : Nat) (h : i < l.length) : (gps a l)[i]?.getD 0 = if i = 0 then fold ((l[i]?.getD 0 : Nat) - a) else l[i]?.getD 0 - l[i - 1]?.getD 0 - 1 := by
  cases l with
  | nil => simp at h
  | cons x t =>
    rcases i with _ | i
    · simp [gps]
    · rw [if_neg (by omega)]
      have := gp_at t x i (by simpa using h)
      simp only [gps, List.getElem?_cons_succ, Nat.add_sub_cancel]
      rw [this]
      rcases i with _ | i <;> simp
theorem gp_le : ∀ (l : List Nat) (v : Nat), Ris (v : Int) l → ∀ g ∈ gp v l, g ≤ 1048576
  | [], _, _ => by simp [gp]
  | x :: t, v, ⟨h1, h2, h3⟩ => by
    intro g hg
    rcases List.mem_cons.1 hg with rfl | hg
    · omega
    · exact gp_le t x h3 g hg
theorem gps_le (a : Nat) (ha : a ≤ 1048576) (l : List Nat) (h : Rising l) : ∀ g ∈ gps (a : Int) l, g ≤ 2097152 := by
  intro g hg
  cases l with
  | nil => simp [gps] at hg
  | cons x t =>
    obtain ⟨h1, h2, h3⟩ := h.2
    rcases List.mem_cons.1 hg with rfl | hg
    · unfold fold; split <;> omega
    · have := gp_le t x h3 g hg; omega

/-- What number a gap tells, behind a list; less than 0: none. -/
def el (l : List Nat) (g a : Nat) : Int := if l = [] then (a : Int) + unfold_ g else (l.getLast?.getD 0 : Nat) + 1 + (g : Int)
def elE (l : List Nat) (g a : Nat) : Int := if 2097152 < g ∨ el l g a < 0 ∨ 1048576 < el l g a then 3 else 0
/-- The list that gaps tell, behind those that are told already. -/
def bk (a : Nat) : List Nat → List Nat → Option (List Nat)
  | l, [] => some l
  | l, g :: t => if elE l g a = 0 then bk a (l ++ [(el l g a).toNat]) t else none
theorem bk_snoc (a : Nat) : ∀ (gs l : List Nat) (g : Nat), bk a l (gs ++ [g]) = (bk a l gs).bind fun m => if elE m g a = 0 then some (m ++ [(el m g a).toNat]) else none
  | [], l, g => by simp [bk]
  | h :: t, l, g => by
    rw [List.cons_append]
    unfold bk
    split
    · rw [bk_snoc a t _ g]
    · rfl
theorem bk_pre (a : Nat) : ∀ (gs l : List Nat) (t : List Nat), bk a l gs = none → bk a l (gs ++ t) = none
  | [], l, t, h => by simp [bk] at h
  | g :: gs, l, t, h => by
    rw [List.cons_append]
    unfold bk at h ⊢
    split
    · rename_i he
      rw [if_pos he] at h
      exact bk_pre a gs _ t h
    · rfl
theorem bk_length (a : Nat) : ∀ (gs l m : List Nat), bk a l gs = some m → m.length = l.length + gs.length
  | [], l, m, h => by unfold bk at h; cases h; simp
  | g :: gs, l, m, h => by
    unfold bk at h
    split at h
    · have := bk_length a gs _ m h
      simp at this ⊢; omega
    · cases h
theorem last_snoc (l : List Nat) (x : Nat) : (l ++ [x]).getLast?.getD 0 = x := by simp
theorem bk_gp (a : Nat) : ∀ (t m : List Nat) (v : Nat), m ≠ [] → m.getLast?.getD 0 = v → Ris (v : Int) t → bk a m (gp v t) = some (m ++ t)
  | [], m, v, _, _, _ => by simp [gp, bk]
  | x :: t, m, v, hm, hv, ⟨h1, h2, h3⟩ => by
    have e : el m (x - v - 1) a = (x : Int) := by unfold el; rw [if_neg hm, hv]; omega
    unfold gp bk
    rw [if_pos (by unfold elE; rw [e, if_neg (by omega)]), e]
    have := bk_gp a t (m ++ [x]) x (by simp) (last_snoc m x) h3
    simpa using this
/-- A rising list is told by its gaps. -/
theorem bk_gps (a : Nat) (ha : a ≤ 1048576) (l : List Nat) (h : Rising l) : bk a [] (gps (a : Int) l) = some l := by
  cases l with
  | nil => rfl
  | cons x t =>
    obtain ⟨h1, h2, h3⟩ := h.2
    have e : el [] (fold ((x : Int) - a)) a = (x : Int) := by unfold el; rw [if_pos rfl, unfold_fold]; omega
    unfold gps bk
    rw [if_pos (by unfold elE; rw [e, if_neg]; unfold fold; split <;> omega), e]
    have := bk_gp a t [x] x (by simp) (by simp) h3
    simpa using this
theorem bk_back (a : Nat) : ∀ (gs m r : List Nat) (v : Nat), m ≠ [] → m.getLast?.getD 0 = v → bk a m gs = some r → ∃ t, r = m ++ t ∧ Ris (v : Int) t ∧ gp v t = gs
  | [], m, r, v, _, _, h => by unfold bk at h; cases h; exact ⟨[], by simp, trivial, rfl⟩
  | g :: gs, m, r, v, hm, hv, h => by
    unfold bk at h
    split at h
    · rename_i he
      have e : el m g a = ((v + 1 + g : Nat) : Int) := by unfold el; rw [if_neg hm, hv]; omega
      rw [e, Int.toNat_natCast] at h
      unfold elE at he
      rw [e] at he
      split at he
      · omega
      · rename_i hb
        obtain ⟨t, rfl, h2, h3⟩ := bk_back a gs (m ++ [v + 1 + g]) r (v + 1 + g) (by simp) (last_snoc _ _) h
        exact ⟨(v + 1 + g) :: t, by simp, ⟨by omega, by omega, h2⟩, by unfold gp; rw [h3]; congr 1; omega⟩
    · cases h
/-- Gaps are told by the list that they tell. -/
theorem gps_bk (a : Nat) (gs l : List Nat) (hg : gs.length ≤ 300) (h : bk a [] gs = some l) : Rising l ∧ gps (a : Int) l = gs := by
  cases gs with
  | nil => unfold bk at h; cases h; exact ⟨⟨by simp, trivial⟩, rfl⟩
  | cons g gs =>
    have hl := bk_length a _ _ _ h
    unfold bk at h
    split at h
    · rename_i he
      unfold elE at he
      split at he
      · omega
      · rename_i hb
        obtain ⟨x, hx⟩ : ∃ x : Nat, el [] g a = (x : Int) := ⟨(el [] g a).toNat, by omega⟩
        rw [hx, Int.toNat_natCast] at h
        rw [hx] at hb
        obtain ⟨t, rfl, h2, h3⟩ := bk_back a gs ([] ++ [x]) l x (by simp) (by simp) h
        refine ⟨⟨by simp at hl hg ⊢; omega, by omega, by omega, h2⟩, ?_⟩
        show fold ((x : Int) - a) :: gp x t = _
        rw [h3]
        congr 1
        unfold el at hx
        rw [if_pos rfl] at hx
        rw [show (x : Int) - a = unfold_ g by omega, fold_unfold]
    · cases h

/-- All further by as much. -/
theorem gp_shift (d : Int) : ∀ (l m : List Nat) (v u : Nat), (u : Int) = v + d → ns m = (ns l).map (· + d) → gp u m = gp v l
  | [], m, v, u, h, hm => by
    have : m = [] := by cases m with
      | nil => rfl
      | cons y t => simp [ns] at hm
    subst this; rfl
  | x :: t, [], v, u, h, hm => by simp [ns] at hm
  | x :: t, y :: s, v, u, h, hm => by
    simp only [ns_cons, List.map_cons, List.cons.injEq] at hm
    unfold gp
    rw [gp_shift d t s x y hm.1 hm.2]
    congr 1
    omega
theorem gps_shift (d a : Int) (l m : List Nat) (hm : ns m = (ns l).map (· + d)) : gps (a + d) m = gps a l := by
  cases l with
  | nil =>
    have : m = [] := by cases m with
      | nil => rfl
      | cons y t => simp [ns] at hm
    subst this; rfl
  | cons x t =>
    cases m with
    | nil => simp [ns] at hm
    | cons y s =>
      simp only [ns_cons, List.map_cons, List.cons.injEq] at hm
      show fold ((y : Int) - (a + d)) :: gp y s = fold ((x : Int) - a) :: gp x t
      rw [gp_shift d t s x y hm.1 hm.2, show (y : Int) - (a + d) = (x : Int) - a by omega]
theorem rck_shift (d : Int) : ∀ (l : List Nat) (v u : Int), u ≤ v + d → Ris v l → rck u ((ns l).map (· + d)) = 0 ∨ rck u ((ns l).map (· + d)) = 3
  | [], _, _, _, _ => .inl rfl
  | x :: t, v, u, h, ⟨h1, h2, h3⟩ => by
    rw [ns_cons, List.map_cons]
    unfold rck
    split
    · exact .inr rfl
    · rw [if_neg (by omega)]
      exact rck_shift d t x _ (Int.le_refl _) h3
theorem rchk_shift (d : Int) (l : List Nat) (h : Rising l) : rchk ((ns l).map (· + d)) = 0 ∨ rchk ((ns l).map (· + d)) = 3 := by
  unfold rchk
  rw [if_neg (by simp [ns]; exact h.1)]
  cases l with
  | nil => exact .inl rfl
  | cons x t =>
    obtain ⟨h1, h2, h3⟩ := h.2
    rw [ns_cons, List.map_cons]
    unfold rck
    split
    · exact .inr rfl
    · rw [if_neg (by omega)]
      exact rck_shift d t x _ (Int.le_refl _) h3

theorem gp_take : ∀ (l : List Nat) (v n : Nat), gp v (l.take n) = (gp v l).take n
  | [], v, n => by simp [gp]
  | x :: t, v, 0 => by simp [gp]
  | x :: t, v, n + 1 => by simp [gp, gp_take t x n]
theorem gps_take (a : Int) (l : List Nat) (n : Nat) : gps a (l.take n) = (gps a l).take n := by
  cases l with
  | nil => simp [gps]
  | cons x t =>
    rcases n with _ | n
    · simp [gps]
    · simp [gps, gp_take t x n]
theorem gp_drop : ∀ (l : List Nat) (v n : Nat), n < l.length → gp (if n = 0 then v else l[n - 1]?.getD 0) (l.drop n) = (gp v l).drop n
  | [], v, n, h => by simp at h
  | x :: t, v, 0, h => by simp
  | x :: t, v, n + 1, h => by
    have := gp_drop t x n (by simpa using h)
    rw [if_neg (by omega), Nat.add_sub_cancel]
    simp only [gp, List.drop_succ_cons]
    rw [← this]
    rcases n with _ | n <;> simp
theorem ris_take : ∀ (l : List Nat) (v : Int) (n : Nat), Ris v l → Ris v (l.take n)
  | [], _, _, _ => by simp [Ris]
  | x :: t, v, 0, _ => by simp [Ris]
  | x :: t, v, n + 1, ⟨h1, h2, h3⟩ => ⟨h1, h2, ris_take t x n h3⟩
theorem ris_drop : ∀ (l : List Nat) (v : Int) (n : Nat), Ris v l → Ris v (l.drop n)
  | [], _, _, _ => by simp [Ris]
  | x :: t, v, 0, h => by simpa using h
  | x :: t, v, n + 1, ⟨h1, h2, h3⟩ => by
    rw [List.drop_succ_cons]
    exact ris_weak _ _ _ (by omega) (ris_drop t x n h3)
theorem rising_take (l : List Nat) (n : Nat) (h : Rising l) : Rising (l.take n) := ⟨by have := h.1; rw [List.length_take]; omega, ris_take l _ n h.2⟩
theorem rising_drop (l : List Nat) (n : Nat) (h : Rising l) : Rising (l.drop n) := ⟨by have := h.1; rw [List.length_drop]; omega, ris_drop l _ n h.2⟩
/-- Those behind are told from the last one ahead. -/
theorem gps_ahead (a : Int) (l : List Nat) (n : Nat) (h : Rising l) (h1 : 1 ≤ n) (h2 : n < l.length) :
    gps ((l[n - 1]?.getD 0 : Nat) : Int) (l.drop n) = 2 * ((gps a l)[n]?.getD 0 + 1) :: (gps a l).drop (n + 1) := by
  have hd := List.drop_eq_getElem_cons h2
  have hr := ris_at l (-1) h.2 (n - 1) (by omega)
  rw [show n - 1 + 1 = n by omega] at hr
  rw [gps_at a l n h2, if_neg (by omega)]
  have e0 : l[n]?.getD 0 = l[n] := by rw [List.getElem?_eq_getElem h2]; rfl
  rw [e0] at hr ⊢
  rw [hd]
  show fold ((l[n] : Nat) - ((l[n - 1]?.getD 0 : Nat) : Int)) :: gp l[n] (l.drop (n + 1)) = _
  congr 1
  · unfold fold; rw [if_neg (by omega)]; omega
  · cases l with
    | nil => simp at h2
    | cons x t =>
      obtain ⟨m, rfl⟩ : ∃ m, n = m + 1 := ⟨n - 1, by omega⟩
      show gp _ (t.drop (m + 1)) = (gp x t).drop (m + 1)
      by_cases hm : m + 1 < t.length
      · have := gp_drop t x (m + 1) hm
        rw [if_neg (by omega), Nat.add_sub_cancel] at this
        rw [← this]
        congr 1
        simp at h2
        rw [List.getElem?_eq_getElem (by omega)]; simp
      · rw [List.drop_eq_nil_of_le (by omega), List.drop_eq_nil_of_le (by rw [gp_length]; omega)]; rfl
end Go.Proofs.YticdnodlapafoaaGreat
