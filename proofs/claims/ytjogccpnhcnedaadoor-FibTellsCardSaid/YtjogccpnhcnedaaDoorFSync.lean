/- Plain facts: reading finds its way again at the end of a code in which a bit has turned; each fact names its conditions. -/
import Derived.Test.YtjogccpnhcnedaaDoorFPure
namespace Go.Proofs.YtjogccpnhcnedaaDoor
set_option maxRecDepth 100000
set_option linter.unusedVariables false

theorem ri_sync (t : List Bool) : ∀ (Y : List Bool) (k : Nat) (b : Bool) (d : List Nat), ∃ d' k', ri (Y ++ (false :: true :: true :: t)) k b d = some (d', k') ∧ (k' = k + Y.length + 3 ∨ k' ≤ k + Y.length) ∧ k < k' := by
  intro Y
  induction Y with
  | nil =>
    intro k b d
    refine ⟨(k + 1) :: d, k + 1 + 1 + 1, ?_, .inl rfl, by omega⟩
    rw [List.nil_append, ri_zero, ri_one, ri_end]
  | cons c Y ih =>
    intro k b d
    rw [List.cons_append, List.length_cons]
    by_cases h : b = true ∧ c = true
    · refine ⟨d, k + 1, ?_, .inr (by omega), by omega⟩
      rw [ri, if_pos h]
    · obtain ⟨d', k', h1, h2, h3⟩ := ih (k + 1) c (if c = true then k :: d else d)
      refine ⟨d', k', ?_, by omega, by omega⟩
      rw [ri, if_neg h]
      exact h1

/-- A code of four bits or more ends so. -/
theorem fco_end (n : Nat) (hn : n + 1 < fb 64) (h : 4 ≤ (fco n).length) : ∃ Y : List Bool, fco n = Y ++ [false, true, true] ∧ (fco n).length = Y.length + 3 := by
  obtain ⟨x, xs, e, hx, hd, _, _⟩ := ptd_ne (n + 1) hn (by omega)
  have hl := fz_cons_length x xs hd
  have hxs := fz_len_le x xs hd
  have hlen : (fco n).length = x + 2 := by unfold fco; rw [e, List.length_append, hl]; rfl
  have e2 : fco n = (fz xs ++ List.replicate (x - (fz xs).length - 1) false) ++ [false, true, true] := by
    unfold fco
    rw [e]
    simp only [fz]
    have e3 : List.replicate (x - (fz xs).length) false = List.replicate (x - (fz xs).length - 1) false ++ [false] := by
      rw [← List.replicate_succ']
      congr 1
      omega
    rw [e3]
    simp
  refine ⟨_, e2, ?_⟩
  have := congrArg List.length e2
  rw [List.length_append] at this
  exact this
/-- A bit turned. -/
def turn (a : List Bool) (p : Nat) : List Bool := a.take p ++ ([!(a[p]?.getD false)] ++ a.drop (p + 1))
theorem turn_length (a : List Bool) (p : Nat) (h : p < a.length) : (turn a p).length = a.length := by
  simp [turn]; omega
theorem turn_end (Y s : List Bool) (p : Nat) (h : p < Y.length) : turn (Y ++ s) p = turn Y p ++ s := by
  unfold turn
  rw [List.take_append_of_le_length (by omega), List.getElem?_append_left h, List.drop_append_of_le_length (by omega)]
  simp
/-- From wherever reading begins, ahead of the last three, it comes to the end or ends ahead of the last three. -/
theorem fR_sync (n p : Nat) (hn : n ≤ 274877906944) (hp : p + 3 < (fco n).length) (t : List Bool) (s : Nat) (hs : s + 3 ≤ (fco n).length) :
    ∃ v to, fR (turn (fco n) p ++ t) s = (v, to, 0) ∧ s < to ∧ (to = (fco n).length ∨ to + 3 ≤ (fco n).length) := by
  have h64 : n + 1 < fb 64 := by rw [fb64]; omega
  obtain ⟨x, lx, _, fx1, _⟩ := fco_length n h64
  have hx : x < 55 := by
    rcases Nat.lt_or_ge x 55 with h | h
    · exact h
    · have := fb_mono h; rw [fb55] at this; omega
  obtain ⟨Y, eY, lY⟩ := fco_end n h64 (by omega)
  have eT : turn (fco n) p ++ t = turn Y p ++ (false :: true :: true :: t) := by
    rw [eY, turn_end Y _ p (by omega)]; simp
  have lT : (turn Y p).length = Y.length := turn_length Y p (by omega)
  have eD : (turn (fco n) p ++ t).drop s = (turn Y p).drop s ++ (false :: true :: true :: t) := by
    rw [eT, List.drop_append_of_le_length (by omega)]
  obtain ⟨d, k, h1, h2, h3⟩ := ri_sync t ((turn Y p).drop s) 0 false []
  rw [← eD] at h1
  rw [List.length_drop, lT] at h2
  obtain ⟨q1, q2, q3, q4⟩ := ri_start _ d k h1
  have hfs := fsum_lt d (k - 1) q3
  have hm := fb_mono (show k - 1 ≤ 55 by omega)
  rw [fb55] at hm
  refine ⟨fsum d - 1, s + k, ?_, by omega, by omega⟩
  rw [fR_some _ s d k h1, if_neg (by omega), if_neg (by omega)]
theorem fR_after (n m p : Nat) (hp : p < (fco n).length) (hm : m ≤ 1099511627776) : fR (turn (fco n) p ++ fco m) (fco n).length = (m, (fco n).length + (fco m).length, 0) := by
  have := fR_fco (turn (fco n) p) [] m hm
  rw [List.append_nil, turn_length _ _ hp] at this
  exact this
theorem turn_parts (a : List Bool) (p : Nat) (h : p < a.length) : a.take p ++ nb (1 - (a[p]?.getD false).toNat) 1 ++ (a.drop (p + 1)).take (a.length - (p + 1)) = turn a p := by
  have e : (a.drop (p + 1)).take (a.length - (p + 1)) = a.drop (p + 1) := List.take_of_length_le (by rw [List.length_drop]; omega)
  rw [e]
  unfold turn
  rw [List.append_assoc]
  congr 2
  cases a[p]?.getD false <;> decide
end Go.Proofs.YtjogccpnhcnedaaDoor
