/- Plain facts on lists that are told by another list: blocks that copy, what is left, what is joined; nothing here speaks of a program; each fact names its conditions. -/
import Derived.Test.YtfcmjjmlijidcaaJQRNPure
namespace Go.Proofs.Ytfcmjjmlijidcaa
set_option linter.unusedVariables false

/-- The blocks that the turns of a row of flags are, behind k flags that are p. -/
def blk : List Bool → Nat → Bool → List Nat
  | [], _, _ => []
  | f :: t, k, p => if f = p then blk t (k + 1) p else k :: blk t 1 (!p)
/-- What blocks copy. -/
def cp {α : Type} : Bool → List Nat → List α → List α
  | p, [], F => if p then F else []
  | p, b :: t, F => (if p then F.take b else []) ++ cp (!p) t (F.drop b)
/-- Whether a place is copied. -/
def pr : Bool → List Nat → Nat → Bool
  | p, [], _ => p
  | p, b :: t, i => if i < b then p else pr (!p) t (i - b)
/-- The flags that blocks tell. -/
def flg : Bool → List Nat → Nat → List Bool
  | p, [], n => List.replicate n p
  | p, b :: t, n => List.replicate (min b n) p ++ flg (!p) t (n - b)
def inL (l : List Nat) (x : Nat) : Bool := decide (x ∈ l)
def notin (F l : List Nat) : List Nat := l.filter (fun x => !inL F x)
def both (F l : List Nat) : List Nat := F.filter (fun x => inL l x)
/-- The blocks of a list by another one. -/
def bks (F l : List Nat) : List Nat := blk (F.map (inL l)) 0 true
theorem cp_nil {α : Type} : ∀ (B : List Nat) (p : Bool), cp p B ([] : List α) = []
  | [], p => by unfold cp; split <;> rfl
  | b :: t, p => by unfold cp; rw [List.drop_nil, cp_nil t, List.take_nil]; split <;> rfl
theorem cp_snoc {α : Type} : ∀ (B : List Nat) (p : Bool) (F : List α) (x : α), cp p B (F ++ [x]) = cp p B F ++ (if pr p B F.length then [x] else [])
  | [], p, F, x => by unfold cp pr; cases p <;> simp
  | b :: t, p, F, x => by
    unfold cp pr
    by_cases h : F.length < b
    · rw [if_pos h, List.take_of_length_le (by simp; omega), List.take_of_length_le (l := F) (by omega), List.drop_of_length_le (by simp; omega), List.drop_of_length_le (l := F) (by omega), cp_nil]
      cases p <;> simp
    · rw [if_neg h, List.take_append_of_le_length (by omega), List.drop_append_of_le_length (by omega), cp_snoc t (!p) (F.drop b) x, List.length_drop, List.append_assoc]
theorem cp_len {α : Type} : ∀ (B : List Nat) (p : Bool) (F : List α), (cp p B F).Sublist F
  | [], p, F => by unfold cp; cases p <;> simp
  | b :: t, p, F => by
    unfold cp
    have h := cp_len t (!p) (F.drop b)
    cases p
    · simpa using h.trans (List.drop_sublist b F)
    · have := h.append_left (F.take b)
      rwa [List.take_append_drop] at this
theorem blk_len : ∀ (fs : List Bool) (k : Nat) (p : Bool), (blk fs k p).length ≤ fs.length
  | [], _, _ => by simp [blk]
  | f :: t, k, p => by
    unfold blk
    split
    · have := blk_len t (k + 1) p; simp; omega
    · have := blk_len t 1 (!p); simp; omega
theorem blk_sum : ∀ (fs : List Bool) (k : Nat) (p : Bool), (blk fs k p).sum ≤ fs.length + k
  | [], _, _ => by simp [blk]
  | f :: t, k, p => by
    unfold blk
    split
    · have := blk_sum t (k + 1) p; simp; omega
    · have := blk_sum t 1 (!p); simp; omega
theorem blk_pos : ∀ (fs : List Bool) (k : Nat) (p : Bool), 1 ≤ k → ∀ b ∈ blk fs k p, 1 ≤ b
  | [], _, _, _ => by simp [blk]
  | f :: t, k, p, h => by
    unfold blk
    split
    · exact blk_pos t (k + 1) p (by omega)
    · intro b hb
      rcases List.mem_cons.1 hb with rfl | hb
      · exact h
      · exact blk_pos t 1 (!p) (Nat.le_refl _) b hb
theorem blk_tail : ∀ (fs : List Bool) (k : Nat) (p : Bool), ∀ b ∈ (blk fs k p).drop 1, 1 ≤ b
  | [], _, _ => by simp [blk]
  | f :: t, k, p => by
    unfold blk
    split
    · exact blk_tail t (k + 1) p
    · intro b hb
      exact blk_pos t 1 (!p) (Nat.le_refl _) b (by simpa using hb)
theorem cp_blk {α : Type} (q : α → Bool) : ∀ (F X : List α) (p : Bool), (∀ x ∈ X, q x = p) → cp p (blk (F.map q) X.length p) (X ++ F) = (if p then X else []) ++ F.filter q
  | [], X, p, h => by simp [blk, cp]
  | f :: t, X, p, h => by
    rw [List.map_cons]
    unfold blk
    by_cases e : q f = p
    · rw [if_pos e]
      have := cp_blk q t (X ++ [f]) p (fun x hx => by rcases List.mem_append.1 hx with hx | hx; exact h x hx; simp at hx; rw [hx]; exact e)
      rw [List.length_append, List.append_assoc] at this
      rw [show X ++ f :: t = X ++ ([f] ++ t) by simp, show X.length + 1 = X.length + [f].length from rfl, this, List.filter_cons, e]
      cases p <;> simp
    · rw [if_neg e]
      have e2 : q f = !p := by cases h1 : q f <;> cases h2 : p <;> simp_all
      have := cp_blk q t [f] (!p) (fun x hx => by simp at hx; rw [hx]; exact e2)
      unfold cp
      rw [List.take_append_of_le_length (Nat.le_refl _), List.take_of_length_le (Nat.le_refl _), List.drop_append_of_le_length (Nat.le_refl _), List.drop_of_length_le (Nat.le_refl _), List.nil_append, show f :: t = [f] ++ t from rfl, show (1 : Nat) = [f].length from rfl, this, show [f] ++ t = f :: t from rfl, List.filter_cons, e2]
      cases p <;> simp
/-- Blocks copy what both have. -/
theorem cp_bks (F l : List Nat) : cp true (bks F l) F = both F l := by
  have := cp_blk (inL l) F [] true (by simp)
  simpa [bks, both] using this

/-! the errors of blocks -/
def bbad : Bool → List Int → Bool
  | _, [] => false
  | fst, b :: t => decide (b < 0 ∨ b = 0 ∧ fst = false) || bbad false t
def bfit : Int → List Int → Bool
  | _, [] => true
  | m, b :: t => decide (b ≤ m) && bfit (m - b) t
def bchk (bs : List Int) (m : Nat) : Int := if m + 1 < bs.length then 2 else if bbad true bs = true then 3 else if bfit m bs = true then 0 else 8
/-- Blocks that are right. -/
def BOk (B : List Nat) (m : Nat) : Prop := B.length ≤ m + 1 ∧ (∀ b ∈ B.drop 1, 1 ≤ b) ∧ B.sum ≤ m
theorem bfit_ns : ∀ (B : List Nat) (m : Nat), bfit m (ns B) = decide (B.sum ≤ m)
  | [], m => by simp [bfit, ns]
  | b :: t, m => by
    rw [ns_cons]
    unfold bfit
    by_cases h : b ≤ m
    · have ih := bfit_ns t (m - b)
      rw [show ((m - b : Nat) : Int) = (m : Int) - (b : Int) by omega] at ih
      rw [ih, List.sum_cons]
      rw [decide_eq_true (show (b : Int) ≤ (m : Int) by omega), Bool.true_and]
      congr 1; apply propext; omega
    · rw [decide_eq_false (show ¬ (b : Int) ≤ (m : Int) by omega), Bool.false_and, List.sum_cons, decide_eq_false (by omega)]
theorem bbad_false : ∀ (bs : List Int) (f : Bool), bbad f bs = false → ∃ B, bs = ns B ∧ (f = false → ∀ b ∈ B, 1 ≤ b) ∧ ∀ b ∈ B.drop 1, 1 ≤ b
  | [], f, _ => ⟨[], rfl, by simp, by simp⟩
  | b :: t, f, h => by
    unfold bbad at h
    rw [Bool.or_eq_false_iff, decide_eq_false_iff_not] at h
    obtain ⟨B, rfl, h1, h2⟩ := bbad_false t false h.2
    obtain ⟨k, rfl⟩ : ∃ k : Nat, b = (k : Int) := ⟨b.toNat, by omega⟩
    refine ⟨k :: B, rfl, fun hf => ?_, by simpa using h1 rfl⟩
    intro c hc
    rcases List.mem_cons.1 hc with rfl | hc
    · have := h.1; subst hf; simp at this; omega
    · exact h1 rfl c hc
theorem bbad_ns : ∀ (B : List Nat) (f : Bool), (f = false → ∀ b ∈ B, 1 ≤ b) → (∀ b ∈ B.drop 1, 1 ≤ b) → bbad f (ns B) = false
  | [], f, _, _ => rfl
  | b :: t, f, h1, h2 => by
    rw [ns_cons]
    unfold bbad
    rw [Bool.or_eq_false_iff, decide_eq_false_iff_not]
    refine ⟨?_, bbad_ns t false (fun _ => by simpa using h2) (fun c hc => by simp at h2; exact h2 c (List.mem_of_mem_drop hc))⟩
    rintro (h | ⟨h, hf⟩)
    · omega
    · have := h1 hf b (by simp); omega
theorem bchk_zero (bs : List Int) (m : Nat) (h : bchk bs m = 0) : ∃ B, bs = ns B ∧ BOk B m := by
  unfold bchk at h
  split at h
  · omega
  · rename_i h1
    split at h
    · omega
    · rename_i h2
      split at h
      · rename_i h3
        obtain ⟨B, rfl, _, h4⟩ := bbad_false bs true (by simpa using h2)
        rw [bfit_ns, decide_eq_true_eq] at h3
        exact ⟨B, rfl, by rw [ns_length] at h1; omega, h4, h3⟩
      · omega
theorem bchk_ok (B : List Nat) (m : Nat) (h : BOk B m) : bchk (ns B) m = 0 := by
  unfold bchk
  rw [if_neg (by rw [ns_length]; have := h.1; omega), if_neg (by rw [bbad_ns B true (by simp) h.2.1]; simp), bfit_ns, if_pos (by simpa using h.2.2)]
theorem bchk_or (bs : List Int) (m : Nat) : bchk bs m = 0 ∨ bchk bs m = 2 ∨ bchk bs m = 3 ∨ bchk bs m = 8 := by
  unfold bchk
  split
  · simp
  · split
    · simp
    · split <;> simp
theorem bks_ok (F l : List Nat) : BOk (bks F l) F.length := by
  have h1 := blk_len (F.map (inL l)) 0 true
  have h2 := blk_sum (F.map (inL l)) 0 true
  rw [List.length_map] at h1 h2
  exact ⟨by unfold bks; omega, blk_tail _ _ _, by unfold bks; omega⟩
theorem bks_len (F l : List Nat) : (bks F l).length ≤ F.length := by
  have h1 := blk_len (F.map (inL l)) 0 true
  rwa [List.length_map] at h1

/-! all calls' answers -/
def pbE (xs ys : List Int) : Int := if rchk xs ≠ 0 then rchk xs else rchk ys
def tn (xs : List Int) : List Nat := xs.map Int.toNat
theorem tn_ns (l : List Nat) : tn (ns l) = l := ns_nat l
def pbB (xs ys : List Int) : List Nat := if pbE xs ys ≠ 0 then [] else bks (tn xs) (tn ys)
def pbR (xs ys : List Int) : List Nat := if pbE xs ys ≠ 0 then [] else notin (tn xs) (tn ys)
def cpE (xs bs : List Int) : Int := if rchk xs ≠ 0 then rchk xs else bchk bs xs.length
def cpA (xs bs : List Int) : List Nat := if cpE xs bs ≠ 0 then [] else cp true (tn bs) (tn xs)
/-- What two lists are put together to. -/
def un (a b : List Nat) : List Nat × Int := if tw (nso (a ++ b)) = true then ([], 6) else if 300 < (nso (a ++ b)).length then ([], 2) else (nso (a ++ b), 0)
def jnE (xs bs ys : List Int) : Int := if cpE xs bs ≠ 0 then cpE xs bs else rchk ys
def jnA (xs bs ys : List Int) : List Nat × Int := if jnE xs bs ys ≠ 0 then ([], jnE xs bs ys) else un (cp true (tn bs) (tn xs)) (tn ys)
theorem mg_un (R : List Rn) (r : List Nat) : mg R r = un (flatR R) r := rfl
theorem un_mi {L X out : List Nat} (h : Mi L X out L.length X.length) : un L X = if 300 < out.length then ([], 2) else (out, 0) := by
  obtain ⟨e1, e2⟩ := mi_end h
  unfold un
  rw [if_neg (by rw [e2]; simp), e1]
theorem un_dup (L X : List Nat) (x : Nat) (h1 : x ∈ L) (h2 : x ∈ X) : un L X = ([], 6) := by
  unfold un
  rw [if_pos (tw_dup _ _ x h1 h2)]
theorem un_or (a b : List Nat) : un a b = ([], 6) ∨ un a b = ([], 2) ∨ (un a b = (nso (a ++ b), 0) ∧ (nso (a ++ b)).length ≤ 300) := by
  unfold un
  split
  · exact .inl rfl
  · split
    · exact .inr (.inl rfl)
    · exact .inr (.inr ⟨rfl, by omega⟩)
theorem un_nil (a : List Nat) (h : Rising a) : un a [] = (a, 0) := by
  have hp := ((ris_pairwise a (-1)).1 h.2).2
  have e : nso (a ++ []) = a := by rw [List.append_nil]; exact nso_uniq (.refl _) (hp.imp (fun h => by omega))
  unfold un
  rw [e, if_neg (by rw [(tw_false a (hp.imp (fun h => by omega))).2 hp]; simp), if_neg (by have := h.1; omega)]
theorem inL_mem (l : List Nat) (x : Nat) : inL l x = true ↔ x ∈ l := by simp [inL]
theorem both_rising (F l : List Nat) (h : Rising F) : Rising (both F l) := rising_sub List.filter_sublist h
theorem notin_rising (F l : List Nat) (h : Rising l) : Rising (notin F l) := rising_sub List.filter_sublist h
theorem ris_nodup (l : List Nat) (h : Rising l) : l.Nodup := (((ris_pairwise l (-1)).1 h.2).2).imp (fun h => by omega)
theorem ris_uniq (a b : List Nat) (ha : Rising a) (hb : Rising b) (h : ∀ x, x ∈ a ↔ x ∈ b) : a = b := by
  have h1 := ((ris_pairwise a (-1)).1 ha.2).2
  have h2 := ((ris_pairwise b (-1)).1 hb.2).2
  refine sorted_uniq a b ?_ (h1.imp (fun h => by omega)) (h2.imp (fun h => by omega))
  exact (List.perm_ext_iff_of_nodup (ris_nodup a ha) (ris_nodup b hb)).2 h
theorem both_mem (F l : List Nat) (x : Nat) : x ∈ both F l ↔ x ∈ F ∧ x ∈ l := by simp [both, inL]
theorem notin_mem (F l : List Nat) (x : Nat) : x ∈ notin F l ↔ x ∈ l ∧ x ∉ F := by simp [notin, inL]
theorem both_swap (F l : List Nat) (h1 : Rising F) (h2 : Rising l) : both F l = both l F :=
  ris_uniq _ _ (both_rising _ _ h1) (both_rising _ _ h2) fun x => by rw [both_mem, both_mem]; exact And.comm
theorem split_perm (q : Nat → Bool) : ∀ l : List Nat, (l.filter q ++ l.filter (fun x => !q x)).Perm l
  | [] => .refl _
  | x :: t => by
    have ih := split_perm q t
    rw [List.filter_cons, List.filter_cons]
    cases h : q x
    · simp only [Bool.false_eq_true, if_false, Bool.not_false, if_true]
      exact List.perm_middle.trans (ih.cons x)
    · simpa using ih.cons x
/-- What is copied and what is left are all. -/
theorem both_perm (F l : List Nat) (h1 : Rising F) (h2 : Rising l) : (both F l ++ notin F l).Perm l := by
  rw [both_swap F l h1 h2]
  exact split_perm (inL F) l
theorem un_back (F l : List Nat) (h1 : Rising F) (h2 : Rising l) : un (both F l) (notin F l) = (l, 0) := by
  have hp := ((ris_pairwise l (-1)).1 h2.2).2
  have e : nso (both F l ++ notin F l) = l := nso_uniq (both_perm F l h1 h2).symm (hp.imp (fun h => by omega))
  unfold un
  rw [e, if_neg (by rw [(tw_false l (hp.imp (fun h => by omega))).2 hp]; simp), if_neg (by have := h2.1; omega)]
theorem both_len (F l : List Nat) (h1 : Rising F) (h2 : Rising l) : (both F l).length + (notin F l).length = l.length := by
  rw [← List.length_append, (both_perm F l h1 h2).length_eq]
theorem filter_len (q : Nat → Bool) (l : List Nat) : (l.filter q).length + (l.filter (fun x => !q x)).length = l.length := by
  rw [← List.length_append, (split_perm q l).length_eq]

/-! blocks that are told again -/
theorem flg_length : ∀ (B : List Nat) (p : Bool) (n : Nat), B.sum ≤ n → (flg p B n).length = n
  | [], p, n, _ => by simp [flg]
  | b :: t, p, n, h => by
    rw [List.sum_cons] at h
    unfold flg
    rw [List.length_append, List.length_replicate, flg_length t (!p) (n - b) (by omega)]; omega
def rsd : Nat → List Nat → Nat → List Nat
  | k, [], m => if m = 0 then [] else [k]
  | k, b :: t, m => k :: rsd b t (m - b)
theorem blk_rep (p : Bool) : ∀ (m : Nat) (fs : List Bool) (k : Nat), blk (List.replicate m p ++ fs) k p = blk fs (k + m) p
  | 0, fs, k => by simp
  | m + 1, fs, k => by
    rw [List.replicate_succ, List.cons_append]
    show (if p = p then _ else _) = _
    rw [if_pos rfl, blk_rep p m fs (k + 1)]
    congr 1; omega
theorem blk_rep' (p : Bool) (m : Nat) (fs : List Bool) (k : Nat) (h : 1 ≤ m) : blk (List.replicate m (!p) ++ fs) k p = k :: blk fs m (!p) := by
  obtain ⟨j, rfl⟩ : ∃ j, m = j + 1 := ⟨m - 1, by omega⟩
  rw [List.replicate_succ, List.cons_append]
  show (if (!p) = p then _ else _) = _
  rw [if_neg (by cases p <;> simp), blk_rep, Nat.add_comm]
theorem blk_flg : ∀ (t : List Nat) (k m : Nat) (p : Bool), (∀ b ∈ t, 1 ≤ b) → t.sum ≤ m → blk (flg (!p) t m) k p = rsd k t m
  | [], k, m, p, _, _ => by
    unfold flg rsd
    by_cases h : m = 0
    · subst h; rfl
    · rw [if_neg h]
      have := blk_rep' p m [] k (by omega)
      simpa [blk] using this
  | b :: t, k, m, p, h, hs => by
    rw [List.sum_cons] at hs
    unfold flg rsd
    rw [Nat.min_eq_left (by omega), blk_rep' p b _ k (h b (by simp)), blk_flg t b (m - b) (!p) (fun c hc => h c (by simp [hc])) (by omega)]
theorem rsd_spec : ∀ (t : List Nat) (k m : Nat), (rsd k t m).length ≤ t.length + 1 ∧ t.length ≤ (rsd k t m).length ∧ rsd k t m = (k :: t).take (rsd k t m).length
  | [], k, m => by
    unfold rsd
    split <;> simp
  | b :: t, k, m => by
    obtain ⟨h1, h2, h3⟩ := rsd_spec t b (m - b)
    unfold rsd
    refine ⟨by simp; omega, by simp; omega, ?_⟩
    rw [List.length_cons, List.take_succ_cons, ← h3]
theorem blk_again (B : List Nat) (n : Nat) (h : BOk B n) : (blk (flg true B n) 0 true).length ≤ B.length ∧ B.length ≤ (blk (flg true B n) 0 true).length + 1 ∧ blk (flg true B n) 0 true = B.take (blk (flg true B n) 0 true).length := by
  cases B with
  | nil =>
    have := blk_rep true n [] 0
    simp [flg, blk] at this ⊢
    rw [this]
  | cons b t =>
    have hs := h.2.2
    rw [List.sum_cons] at hs
    have e : blk (flg true (b :: t) n) 0 true = rsd b t (n - b) := by
      unfold flg
      rw [Nat.min_eq_left (by omega), blk_rep, Nat.zero_add]
      exact blk_flg t b (n - b) true (by simpa using h.2.1) (by omega)
    rw [e]
    obtain ⟨h1, h2, h3⟩ := rsd_spec t b (n - b)
    exact ⟨by simpa using h1, by simp; omega, h3⟩
theorem flg_pr : ∀ (B : List Nat) (p : Bool) (n : Nat), B.sum ≤ n → ∀ i, i < n → (flg p B n)[i]? = some (pr p B i)
  | [], p, n, _, i, hi => by simp [flg, pr, hi]
  | b :: t, p, n, h, i, hi => by
    rw [List.sum_cons] at h
    unfold flg pr
    rw [Nat.min_eq_left (by omega)]
    by_cases hb : i < b
    · rw [if_pos hb, List.getElem?_append_left (by simpa using hb)]; simp [hb]
    · rw [if_neg hb, List.getElem?_append_right (by simp; omega), List.length_replicate]
      exact flg_pr t (!p) (n - b) (by omega) (i - b) (by omega)
/-- Whether an element is copied. -/
theorem cp_mem : ∀ (B : List Nat) (p : Bool) (F : List Nat) (i : Nat), F.Nodup → (h : i < F.length) → (F[i] ∈ cp p B F ↔ pr p B i = true)
  | [], p, F, i, hn, h => by unfold cp pr; cases p <;> simp
  | b :: t, p, F, i, hn, h => by
    unfold cp pr
    have hd : (F.take b ++ F.drop b).Nodup := by rw [List.take_append_drop]; exact hn
    obtain ⟨_, d2, d3⟩ := List.nodup_append.1 hd
    by_cases hb : i < b
    · rw [if_pos hb]
      have hm : F[i] ∈ F.take b := by rw [List.mem_take_iff_getElem]; exact ⟨i, by omega, rfl⟩
      have hnm : F[i] ∉ cp (!p) t (F.drop b) := fun hx => d3 _ hm _ ((cp_len t (!p) (F.drop b)).subset hx) rfl
      cases p
      · simp only [Bool.not_false] at hnm; simp [hnm]
      · simp [hm]
    · rw [if_neg hb]
      have hi : i - b < (F.drop b).length := by rw [List.length_drop]; omega
      have ih := cp_mem t (!p) (F.drop b) (i - b) d2 hi
      rw [List.getElem_drop] at ih
      have e : F[b + (i - b)]'(by omega) = F[i] := by congr 1; omega
      rw [e] at ih
      have hx : F[i] ∈ F.drop b := by rw [← e]; exact List.mem_drop_iff_getElem.2 ⟨i - b, by omega, rfl⟩
      have hnm : F[i] ∉ F.take b := fun hx2 => d3 _ hx2 _ hx rfl
      rw [List.mem_append, ← ih]
      cases p <;> simp [hnm]
theorem flags_cp (B F : List Nat) (h : BOk B F.length) (hn : F.Nodup) : F.map (inL (cp true B F)) = flg true B F.length := by
  refine List.ext_getElem? fun i => ?_
  by_cases hi : i < F.length
  · rw [List.getElem?_map, List.getElem?_eq_getElem hi, flg_pr B true F.length h.2.2 i hi]
    have := cp_mem B true F i hn hi
    simp only [Option.map_some, Option.some.injEq]
    cases hp : pr true B i
    · rw [hp] at this; simp [inL]; exact fun hh => by simpa using this.1 hh
    · rw [hp] at this; simp [inL]; exact this.2 rfl
  · rw [List.getElem?_eq_none (by simpa using hi), List.getElem?_eq_none (by rw [flg_length B true _ h.2.2]; omega)]
/-- PartsFew. -/
theorem bks_again (B F : List Nat) (h : BOk B F.length) (hn : Rising F) : (bks F (cp true B F)).length ≤ B.length ∧ B.length ≤ (bks F (cp true B F)).length + 1 ∧ bks F (cp true B F) = B.take (bks F (cp true B F)).length := by
  unfold bks
  rw [flags_cp B F h (ris_nodup F hn)]
  exact blk_again B F.length h
theorem cp_rising (B F : List Nat) (h : Rising F) : Rising (cp true B F) := rising_sub (cp_len B true F) h
theorem notin_cp (B F : List Nat) : notin F (cp true B F) = [] := by
  unfold notin
  rw [List.filter_eq_nil_iff]
  intro x hx
  simp [inL]
  exact (cp_len B true F).subset hx
theorem bks_self (l : List Nat) : bks l l = [] := by
  have : l.map (inL l) = List.replicate l.length true := by
    refine List.eq_replicate_iff.2 ⟨by simp, fun b hb => ?_⟩
    obtain ⟨x, hx, rfl⟩ := List.mem_map.1 hb
    simp [inL, hx]
  unfold bks
  rw [this]
  have h := blk_rep true l.length [] 0
  simpa [blk] using h
theorem notin_self (l : List Nat) : notin l l = [] := by unfold notin; rw [List.filter_eq_nil_iff]; intro x hx; simp [inL, hx]
theorem bks_nil (l : List Nat) : bks [] l = [] := rfl
theorem notin_nil (l : List Nat) : notin [] l = l := by unfold notin; rw [List.filter_eq_self]; intro x hx; simp [inL]
/-- One step of the blocks. -/
theorem blk_cons (f : Bool) (t : List Bool) (k : Nat) (p : Bool) : blk (f :: t) k p = if f = p then blk t (k + 1) p else k :: blk t 1 (!p) := rfl
end Go.Proofs.Ytfcmjjmlijidcaa
