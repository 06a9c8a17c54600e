/- Plain facts about unary codes and the positions of their 1 bits; no condition but those that each fact names. -/
import Derived.Test.YtgibbokhdfblmaaUAllA
namespace Go.Proofs.Ytgibbokhdfblmaa
open Go.RowKit

/-- The numbers whose codes stand in bits, z noughts having come. -/
def prs : Nat → List Bool → List Nat
  | _, [] => []
  | z, true :: l => z :: prs 0 l
  | z, false :: l => prs (z + 1) l

theorem clamp0_of (x : Nat) (h : x < 8192) : clamp 0 x = x := clamp_of 0 x (Nat.zero_le _) h
theorem gaps_pos (l : List Bool) : ∀ a o, a ≤ o → o + l.length ≤ 8192 → gaps a (pos o l) = prs (o - a) l := by
  induction l with
  | nil => intro a o _ _; rfl
  | cons b l ih =>
    intro a o h1 h2
    rw [List.length_cons] at h2
    cases b
    · simp only [pos, prs]
      rw [ih a (o + 1) (by omega) (by omega)]
      congr 1; omega
    · simp only [pos, prs, gaps]
      rw [clamp0_of o (by omega), ih (o + 1) (o + 1) (by omega) (by omega)]
      unfold gap
      rw [if_pos h1, Nat.sub_self]
theorem gaps_take (xs : List Nat) : ∀ a m, gaps a (xs.take m) = (gaps a xs).take m := by
  induction xs with
  | nil => intro a m; simp [gaps]
  | cons x xs ih =>
    intro a m
    cases m with
    | zero => simp [gaps]
    | succ m => simp [gaps, ih]
theorem pos_prs_length (l : List Bool) : ∀ o z, (pos o l).length = (prs z l).length := by
  induction l with
  | nil => intro o z; rfl
  | cons b l ih =>
    intro o z
    cases b
    · simp only [pos, prs]; exact ih _ _
    · simp only [pos, prs, List.length_cons]; rw [ih _ 0]

def aftF (a : Nat) (xs : List Nat) : Nat := match xs.getLast? with | none => a | some x => clamp 0 x + 1
theorem aftF_cons (a x : Nat) (xs : List Nat) : aftF a (x :: xs) = aftF (clamp 0 x + 1) xs := by
  unfold aftF
  cases xs with
  | nil => rfl
  | cons y ys =>
    rw [List.getLast?_cons_cons]
    cases h : (y :: ys).getLast? with
    | none => simp at h
    | some q => rfl
theorem aft_eq (xs : List Nat) : aft xs = aftF 0 xs := rfl
theorem aft_pos (l : List Bool) : ∀ a o m, a ≤ o → o + l.length ≤ 8192 → aftF a ((pos o l).take m) = a + (ucs ((prs (o - a) l).take m)).length := by
  induction l with
  | nil => intro a o m _ _; simp [pos, prs, aftF, ucs]
  | cons b l ih =>
    intro a o m h1 h2
    rw [List.length_cons] at h2
    cases b
    · simp only [pos, prs]
      rw [ih a (o + 1) m (by omega) (by omega), show o + 1 - a = o - a + 1 from by omega]
    · simp only [pos, prs]
      cases m with
      | zero => simp [aftF, ucs]
      | succ m =>
        rw [List.take_succ_cons, List.take_succ_cons, aftF_cons, clamp0_of o (by omega), ih (o + 1) (o + 1) m (by omega) (by omega), Nat.sub_self]
        have e : ucs ((o - a) :: (prs 0 l).take m) = uc (o - a) ++ ucs ((prs 0 l).take m) := rfl
        rw [e, List.length_append, uc_length]
        omega

theorem prs_zeros (n : Nat) (t : List Bool) : ∀ z, prs z (List.replicate n false ++ t) = prs (z + n) t := by
  induction n with
  | zero => intro z; simp
  | succ n ih => intro z; rw [List.replicate_succ, List.cons_append, prs, ih]; congr 1; omega
theorem prs_uc (n : Nat) (t : List Bool) : prs 0 (uc n ++ t) = n :: prs 0 t := by
  unfold uc
  rw [List.append_assoc, prs_zeros, Nat.zero_add]
  rfl
theorem prs_ucs (ns : List Nat) (t : List Bool) : prs 0 (ucs ns ++ t) = ns ++ prs 0 t := by
  induction ns with
  | nil => rfl
  | cons n ns ih =>
    have e : ucs (n :: ns) = uc n ++ ucs ns := rfl
    rw [e, List.append_assoc, prs_uc, ih]
    rfl
theorem parse (l : List Bool) : ∀ z, ∃ k, List.replicate z false ++ l = ucs (prs z l) ++ List.replicate k false := by
  induction l with
  | nil => intro z; exact ⟨z, by simp [prs, ucs]⟩
  | cons b l ih =>
    intro z
    cases b
    · obtain ⟨k, hk⟩ := ih (z + 1)
      refine ⟨k, ?_⟩
      rw [prs, ← hk, List.replicate_succ']
      simp
    · obtain ⟨k, hk⟩ := ih 0
      refine ⟨k, ?_⟩
      have e : ucs (z :: prs 0 l) = uc z ++ ucs (prs 0 l) := rfl
      rw [List.replicate_zero, List.nil_append] at hk
      rw [prs, e, List.append_assoc, ← hk]
      simp [uc]
/-- Bits begin with the codes of what is read of them. -/
theorem parse_take (l : List Bool) (m : Nat) : l.take (ucs ((prs 0 l).take m)).length = ucs ((prs 0 l).take m) ∧ (ucs ((prs 0 l).take m)).length ≤ l.length := by
  obtain ⟨k, hk⟩ := parse l 0
  rw [List.replicate_zero, List.nil_append] at hk
  have e : prs 0 l = (prs 0 l).take m ++ (prs 0 l).drop m := (List.take_append_drop m _).symm
  have e2 : l = ucs ((prs 0 l).take m) ++ (ucs ((prs 0 l).drop m) ++ List.replicate k false) := by
    rw [← List.append_assoc, ← ucs_append, ← e]; exact hk
  generalize ucs ((prs 0 l).drop m) ++ List.replicate k false = r at e2
  generalize ucs ((prs 0 l).take m) = q at *
  subst e2
  exact ⟨List.take_left, by rw [List.length_append]; omega⟩

theorem pos_zeros (n : Nat) : ∀ o, pos o (List.replicate n false) = [] := by
  induction n with
  | zero => intro o; rfl
  | succ n ih => intro o; rw [List.replicate_succ, pos]; exact ih _
theorem pos_uc (n : Nat) (o : Nat) : pos o (uc n) = [o + n] := by
  unfold uc
  rw [pos_append, pos_zeros, List.length_replicate]
  rfl
/-- Where the codes of numbers have room each number fits. -/
theorem manyE_of_len (ns : List Nat) (h : (ucs ns).length ≤ 8192) : manyE ns = 0 := by
  unfold manyE
  have ha : ns.any (fun n => decide (8192 ≤ n)) = false := by
    rw [List.any_eq_false]
    intro x hx
    have : (uc x).length ≤ (ucs ns).length := by
      unfold ucs
      obtain ⟨s, t, rfl⟩ := List.append_of_mem hx
      rw [List.flatMap_append, List.length_append, List.flatMap_cons, List.length_append]
      omega
    rw [uc_length] at this
    simp; omega
  rw [ha, if_neg (by decide), if_neg (by omega)]
theorem manyE_zero (ns : List Nat) (h : manyE ns = 0) : (ucs ns).length ≤ 8192 := by
  unfold manyE at h
  split at h
  · omega
  · split at h
    · omega
    · omega
theorem ucs_len_ge (ns : List Nat) : ns.length ≤ (ucs ns).length := by
  induction ns with
  | nil => simp
  | cons n ns ih =>
    have e : ucs (n :: ns) = uc n ++ ucs ns := rfl
    rw [e, List.length_append, uc_length, List.length_cons]
    omega

theorem read_l (l : List Bool) (hl : l.length ≤ 8192) (A : Option Addr) (c p : Nat) (hp : p ≤ l.length) (x : Nat) (xs : List Nat) (hx : pos p (l.drop p) = x :: xs) (rn rt : Nat) (h1 : rn = x - p) (h2 : rt = x + 1) (w : World) (h : Rd w w.heap.size A (pack l)) :
    Calls Try.prog 16 #[.agg #[.int .i64 (l.length : Int), .slice A (pack l).length c], .int .i64 (p : Int)] w (ReadP w rn rt 0) :=
  read_in l hl A c p w h hp rn rt 0 (.inr ⟨x, xs, hx, h1, h2, rfl⟩)
theorem read_none (l : List Bool) (hl : l.length ≤ 8192) (A : Option Addr) (c p : Nat) (hp : p ≤ l.length) (hx : pos p (l.drop p) = []) (w : World) (h : Rd w w.heap.size A (pack l)) :
    Calls Try.prog 16 #[.agg #[.int .i64 (l.length : Int), .slice A (pack l).length c], .int .i64 (p : Int)] w (ReadP w 0 0 7) :=
  read_in l hl A c p w h hp 0 0 7 (.inl ⟨hx, rfl, rfl, rfl⟩)
end Go.Proofs.Ytgibbokhdfblmaa
