/- Plain facts: what lengths by joining groups cost, and what follows. No condition but those that each fact names. -/
import Derived.Test.YthfjfkbolfnkkaaKP4
namespace Go.Proofs.Ythfjfkbolfnkkaa
set_option linter.unusedVariables false

/-- Those that stand, with their lengths. -/
def sel : List Nat → List Nat → List (Nat × Nat)
  | o :: os, l :: ls => if o = 0 then sel os ls else (o, l) :: sel os ls
  | _, _ => []
theorem sel_cost : ∀ os ls, costp (sel os ls) = dot os ls
  | [], ls => rfl
  | o :: os, [] => rfl
  | o :: os, l :: ls => by
    unfold sel dot
    split
    · rename_i h; rw [h, sel_cost os ls]; simp
    · simp [costp, sel_cost os ls]
theorem sel_fst : ∀ (os ls : List Nat) (i : Nat), os.length = ls.length → (sel os ls).map (·.1) = (groups i os).map (·.1)
  | [], ls, i, _ => rfl
  | o :: os, [], i, h => by simp at h
  | o :: os, l :: ls, i, h => by
    unfold sel groups
    split
    · exact sel_fst os ls (i + 1) (by simpa using h)
    · simp [sel_fst os ls (i + 1) (by simpa using h)]
theorem sel_room : ∀ os ls, os.length = ls.length → (∀ i o l : Nat, os[i]? = some o → ls[i]? = some l → o ≠ 0 → l ≠ 0) → ksum 24 ((sel os ls).map (·.2)) ≤ tkn ls
  | [], ls, _, _ => Nat.zero_le _
  | o :: os, [], h, _ => by simp at h
  | o :: os, l :: ls, h, h0 => by
    have ih := sel_room os ls (by simpa using h) (fun i o l h1 h2 => h0 (i + 1) o l (by simpa using h1) (by simpa using h2))
    unfold sel tkn
    split
    · omega
    · rename_i ho
      have := h0 0 o l rfl rfl ho
      simp only [List.map_cons, ksum, tk, if_neg this]
      omega
theorem sel_mem : ∀ (os ls : List Nat) (p : Nat × Nat), p ∈ sel os ls → p.2 ∈ ls
  | [], ls, p, h => by simp [sel] at h
  | o :: os, [], p, h => by simp [sel] at h
  | o :: os, l :: ls, p, h => by
    unfold sel at h
    split at h
    · exact List.mem_cons_of_mem _ (sel_mem os ls p h)
    · rcases List.mem_cons.1 h with rfl | h
      · exact List.mem_cons_self
      · exact List.mem_cons_of_mem _ (sel_mem os ls p h)

/-- How many stand. -/
def stand (os : List Nat) : Nat := (groups 0 os).length
theorem usd_stand (os : List Nat) : (usd 0 os).length = stand os := by
  have : ∀ (os : List Nat) (i : Nat), (usd i os).length = (groups i os).length := by
    intro os
    induction os with
    | nil => intro i; rfl
    | cons o t ih => intro i; unfold usd groups; split <;> simp [ih]
  exact this os 0

def oAt (os : List Nat) (s : Nat) : Nat := os[s]?.getD 0
theorem usd_pos (os : List Nat) (s : Nat) : s ∈ usd 0 os ↔ oAt os s ≠ 0 := by
  rw [usd_mem]
  unfold oAt
  constructor
  · rintro ⟨j, rfl, n, h1, h2⟩
    rw [Nat.zero_add, h1]; exact h2
  · intro h
    cases e : os[s]? with
    | none => rw [e] at h; simp at h
    | some n => rw [e] at h; exact ⟨s, by simp, n, e, h⟩
theorem groups_osum : ∀ (os : List Nat) (i : Nat) (f : Nat → Nat), (∀ j, f (i + j) = os[j]?.getD 0) → ∀ g ∈ groups i os, g.1 = osum f g.2.2
  | [], i, f, _, g, h => by simp [groups] at h
  | o :: t, i, f, hf, g, h => by
    have ih := groups_osum t (i + 1) f (fun j => by have := hf (j + 1); rw [show i + (j + 1) = i + 1 + j by omega] at this; simpa using this)
    unfold groups at h
    split at h
    · exact ih g h
    · rcases List.mem_cons.1 h with rfl | h
      · have := hf 0
        simp [osum] at this ⊢
        exact this.symm
      · exact ih g h
theorem groups_one : ∀ (os : List Nat) (i : Nat), ∀ g ∈ groups i os, g.2.2 = [g.2.1]
  | [], i, g, h => by simp [groups] at h
  | o :: t, i, g, h => by
    unfold groups at h
    split at h
    · exact groups_one t (i + 1) g h
    · rcases List.mem_cons.1 h with rfl | h
      · rfl
      · exact groups_one t (i + 1) g h
theorem dot_sumN : ∀ (os ls : List Nat), os.length = ls.length → dot os ls = sumN (fun s => oAt os s * oAt ls s) os.length := by
  intro os ls h
  have shift : ∀ (f : Nat → Nat) n, sumN f (n + 1) = f 0 + sumN (fun s => f (s + 1)) n := by
    intro f n
    induction n with
    | zero => simp [sumN]
    | succ n ih => rw [sumN, ih]; simp [sumN]; omega
  induction os generalizing ls with
  | nil => rfl
  | cons o t ih =>
    cases ls with
    | nil => simp at h
    | cons l t' =>
      rw [List.length_cons, shift]
      simp only [dot]
      rw [ih t' (by simpa using h)]
      simp [oAt]
theorem hl_at (os : List Nat) {s : Nat} (hs : s < os.length) : oAt (hl os) s = lens os s := by
  unfold oAt hl
  rw [List.getElem?_map, List.getElem?_range hs]; rfl
theorem lens_one (os : List Nat) (g : Gp) (h : groups 0 os = [g]) : lens os = fun s => if s = g.2.1 then 1 else 0 := by unfold lens; rw [h]
theorem lens_many (os : List Nat) (h : stand os ≠ 1) : lens os = hrun (stand os - 1) (groups 0 os) (fun _ => 0) := by
  unfold lens stand at *
  match hg : groups 0 os, h with
  | [], _ => rfl
  | [_], h => simp at h
  | _ :: _ :: _, _ => rfl
theorem oAt_lt {os : List Nat} {s : Nat} (h : oAt os s ≠ 0) : s < os.length := by
  rcases Nat.lt_or_ge s os.length with h' | h'
  · exact h'
  · unfold oAt at h; rw [List.getElem?_eq_none h'] at h; simp at h
/-- Who stands has bits; who never stands has none. -/
theorem lens_pos (os : List Nat) (s : Nat) : lens os s ≠ 0 ↔ oAt os s ≠ 0 := by
  have hf := flat_groups os 0
  rw [← usd_pos]
  by_cases h1 : stand os = 1
  · obtain ⟨g, hg⟩ := List.length_eq_one_iff.1 h1
    rw [lens_one os g hg]
    have : usd 0 os = [g.2.1] := by
      rw [← hf, hg]
      have := groups_one os 0 g (by rw [hg]; exact List.mem_cons_self)
      simp [flat, this]
    rw [this]
    by_cases hs : s = g.2.1 <;> simp [hs]
  · rw [lens_many os h1]
    by_cases hs : s ∈ usd 0 os
    · have h0 : stand os ≠ 0 := by
        rw [← usd_stand]
        intro h
        rw [List.eq_nil_of_length_eq_zero h] at hs
        simp at hs
      obtain ⟨n, hn⟩ : ∃ n, stand os = n + 2 := ⟨stand os - 2, by omega⟩
      have := hrun_pos n (groups 0 os) (fun _ => 0) s hn (by rw [hf]; exact hs)
      rw [hn]
      simp only [hs, iff_true]
      show hrun (n + 1) _ _ s ≠ 0
      omega
    · rw [hrun_out _ _ _ s (by rw [hf]; exact hs)]
      simp [hs]
/-- Where two stand, or more, no room is left. -/
theorem lens_full (os : List Nat) (h2 : 2 ≤ stand os) : full (lens os) (usd 0 os) := by
  rw [lens_many os (by omega), ← flat_groups os 0]
  refine hrun_full _ _ _ (by unfold stand at *; omega) (by rw [flat_groups]; exact usd_nodup os) (fun g hg => ?_)
  rw [groups_one os 0 g hg]
  intro d hd
  simp [ksum]
/-- What the lengths cost. -/
theorem hl_cost (os : List Nat) (h2 : stand os ≠ 1) : dot os (hl os) = hcs (stand os - 1) ((groups 0 os).map (·.1)) := by
  rw [dot_sumN os (hl os) (hl_length os).symm]
  have e : sumN (fun s => oAt os s * oAt (hl os) s) os.length = sumN (fun s => oAt os s * lens os s) os.length := by
    have : ∀ n, n ≤ os.length → sumN (fun s => oAt os s * oAt (hl os) s) n = sumN (fun s => oAt os s * lens os s) n := by
      intro n
      induction n with
      | zero => intro _; rfl
      | succ n ih => intro hn; simp only [sumN]; rw [ih (by omega), hl_at os (by omega)]
    exact this _ (Nat.le_refl _)
  rw [e, lens_many os h2]
  by_cases h0 : stand os = 0
  · have hg : groups 0 os = [] := List.eq_nil_of_length_eq_zero h0
    rw [h0, hg]
    exact sumN_zero _ _ (fun s _ => rfl)
  · have := hrun_cost (oAt os) os.length (stand os - 1) (groups 0 os) (fun _ => 0) (by unfold stand at *; omega) (groups_osum os 0 (oAt os) (fun j => by rw [Nat.zero_add]; rfl)) (fun s hs => by
      rw [flat_groups, usd_pos] at hs
      exact oAt_lt hs)
    rw [this, sumN_zero _ _ (fun s _ => Nat.mul_zero _), Nat.zero_add]
/-- HUFFMAN: no lengths for which there is room cost less. -/
theorem least (os ls : List Nat) (hlen : os.length = ls.length) (h0 : ∀ i o l : Nat, os[i]? = some o → ls[i]? = some l → o ≠ 0 → l ≠ 0) (h24 : ∀ l ∈ ls, l ≤ 24) (hr : tkn ls ≤ 2 ^ 24) : dot os (hl os) ≤ dot os ls := by
  have hsf := sel_fst os ls 0 hlen
  have hl1 : (sel os ls).length = stand os := by have := congrArg List.length hsf; simpa [stand] using this
  rw [← sel_cost os ls]
  by_cases h1 : stand os = 1
  · obtain ⟨g, hg⟩ := List.length_eq_one_iff.1 h1
    rw [hg] at hsf
    obtain ⟨p, hp⟩ := List.length_eq_one_iff.1 (hl1.trans h1)
    rw [← sel_cost os (hl os)]
    have hsf2 := sel_fst os (hl os) 0 (hl_length os).symm
    rw [hg] at hsf2
    have hl2 : (sel os (hl os)).length = 1 := by have := congrArg List.length hsf2; simpa using this
    obtain ⟨q, hq⟩ := List.length_eq_one_iff.1 hl2
    rw [hp] at hsf
    rw [hq] at hsf2
    rw [hp, hq]
    simp at hsf hsf2
    have hq2 : q.2 ≤ 1 := by
      have : q.2 ∈ hl os := sel_mem os (hl os) q (by rw [hq]; exact List.mem_cons_self)
      unfold hl at this
      obtain ⟨s, _, e⟩ := List.mem_map.1 this
      rw [lens_one os g hg] at e
      rw [← e]
      by_cases hs : s = g.2.1 <;> simp [hs]
    have hp2 : p.2 ≠ 0 := by
      have key : ∀ (os ls : List Nat), (∀ i o l : Nat, os[i]? = some o → ls[i]? = some l → o ≠ 0 → l ≠ 0) → ∀ p ∈ sel os ls, p.2 ≠ 0 := by
        intro os
        induction os with
        | nil => intro ls _ p hp; simp [sel] at hp
        | cons o t ih =>
          intro ls h p hp
          cases ls with
          | nil => simp [sel] at hp
          | cons l t' =>
            have ih' := ih t' (fun i o l h1 h2 => h (i + 1) o l (by simpa using h1) (by simpa using h2))
            unfold sel at hp
            by_cases ho : o = 0
            · rw [if_pos ho] at hp; exact ih' p hp
            · rw [if_neg ho] at hp
              rcases List.mem_cons.1 hp with rfl | hp
              · exact h 0 o l rfl rfl ho
              · exact ih' p hp
      exact key os ls h0 p (by rw [hp]; exact List.mem_cons_self)
    simp only [costp]
    rw [hsf, hsf2]
    have := Nat.mul_le_mul_left g.1 (show q.2 ≤ p.2 by omega)
    omega
  · rw [hl_cost os h1, ← hsf]
    by_cases hs0 : stand os = 0
    · rw [hs0]; exact Nat.zero_le _
    · exact huffman (stand os - 1) (sel os ls) (by omega) ⟨24, fun x hx => by
        obtain ⟨p, hp, rfl⟩ := List.mem_map.1 hx
        exact h24 _ (sel_mem os ls p hp), Nat.le_trans (sel_room os ls hlen h0) hr⟩

/-- Room that lengths take, said by those that stand. -/
theorem tkn_range (L : Nat → Nat) (os : List Nat) (h : ∀ s, s < os.length → (L s ≠ 0 ↔ oAt os s ≠ 0)) : tkn ((List.range os.length).map L) = ksum 24 ((usd 0 os).map L) := by
  have key : ∀ (t : List Nat) (i : Nat), (∀ j, j < t.length → (L (i + j) ≠ 0 ↔ t[j]?.getD 0 ≠ 0)) → tkn ((List.range' i t.length).map L) = ksum 24 ((usd i t).map L) := by
    intro t
    induction t with
    | nil => intro i _; rfl
    | cons o t ih =>
      intro i h
      have h' := ih (i + 1) (fun j hj => by have := h (j + 1) (by simp; omega); rw [show i + (j + 1) = i + 1 + j by omega] at this; simpa using this)
      have h0 := h 0 (by simp)
      simp only [Nat.add_zero, List.getElem?_cons_zero, Option.getD_some] at h0
      rw [List.length_cons, List.range'_succ, List.map_cons]
      unfold usd tkn tk
      rw [h']
      by_cases ho : o = 0
      · rw [if_pos ho, if_pos (by omega)]; omega
      · rw [if_neg ho, if_neg (h0.2 ho)]
        simp [ksum]
  rw [List.range_eq_range']
  exact key os 0 (fun j hj => by rw [Nat.zero_add]; exact h j hj)
theorem hl_room2 (os : List Nat) (h2 : 2 ≤ stand os) (h24 : ∀ l ∈ hl os, l ≤ 24) : tkn (hl os) = 2 ^ 24 := by
  unfold hl
  rw [tkn_range (lens os) os (fun s _ => lens_pos os s)]
  exact lens_full os h2 24 (fun s hs => by
    have hlt := oAt_lt ((usd_pos os s).1 hs)
    have : lens os s ∈ hl os := List.mem_map.2 ⟨s, List.mem_range.2 hlt, rfl⟩
    exact h24 _ this)
theorem hl_room1 (os : List Nat) (h2 : stand os = 1) : tkn (hl os) = 2 ^ 23 := by
  unfold hl
  rw [tkn_range (lens os) os (fun s _ => lens_pos os s)]
  obtain ⟨g, hg⟩ := List.length_eq_one_iff.1 h2
  have : usd 0 os = [g.2.1] := by
    rw [← flat_groups os 0, hg]
    have := groups_one os 0 g (by rw [hg]; exact List.mem_cons_self)
    simp [flat, this]
  rw [this, lens_one os g hg]
  simp [ksum]
theorem hl_room0 (os : List Nat) (h2 : stand os = 0) : tkn (hl os) = 0 := by
  unfold hl
  rw [tkn_range (lens os) os (fun s _ => lens_pos os s)]
  have : usd 0 os = [] := List.eq_nil_of_length_eq_zero (by rw [usd_stand]; exact h2)
  rw [this]; rfl
theorem hl_room (os : List Nat) (h24 : ∀ l ∈ hl os, l ≤ 24) : tkn (hl os) ≤ 2 ^ 24 := by
  rcases (show stand os = 0 ∨ stand os = 1 ∨ 2 ≤ stand os by omega) with h | h | h
  · rw [hl_room0 os h]; exact Nat.zero_le _
  · rw [hl_room1 os h]; decide
  · rw [hl_room2 os h h24]; exact Nat.le_refl _
theorem hl_pos (os : List Nat) : ∀ i o l : Nat, os[i]? = some o → (hl os)[i]? = some l → (o ≠ 0 ↔ l ≠ 0) := by
  intro i o l h1 h2
  have h3 := lens_pos os i
  have hlt : i < os.length := (List.getElem?_eq_some_iff.1 h1).1
  rw [← hl_at os hlt] at h3
  unfold oAt at h3
  rw [h1, h2] at h3
  exact h3.symm

/-! ### What follows -/
theorem dot_set : ∀ (os ls : List Nat) (i v : Nat), i < os.length → i < ls.length → dot os (ls.set i v) + oAt os i * oAt ls i = dot os ls + oAt os i * v
  | [], ls, i, v, h, _ => by simp at h
  | o :: os, [], i, v, _, h => by simp at h
  | o :: os, l :: ls, 0, v, _, _ => by simp [dot, oAt]; omega
  | o :: os, l :: ls, i + 1, v, h1, h2 => by
    have ih := dot_set os ls i v (by simpa using h1) (by simpa using h2)
    simp only [List.set_cons_succ, dot, oAt, List.getElem?_cons_succ] at ih ⊢
    omega
theorem tkn_set : ∀ (ls : List Nat) (i v : Nat), i < ls.length → tkn (ls.set i v) + tk (oAt ls i) = tkn ls + tk v
  | [], i, v, h => by simp at h
  | l :: ls, 0, v, _ => by simp [tkn, oAt]; omega
  | l :: ls, i + 1, v, h => by
    have ih := tkn_set ls i v (by simpa using h)
    simp only [List.set_cons_succ, tkn, oAt, List.getElem?_cons_succ] at ih ⊢
    omega
theorem oAt_set (ls : List Nat) (i v j : Nat) (hi : i < ls.length) : oAt (ls.set i v) j = if j = i then v else oAt ls j := by
  unfold oAt
  rw [List.getElem?_set]
  by_cases h : i = j
  · subst h; simp [hi]
  · rw [if_neg h, if_neg (fun e => h e.symm)]
/-- WHO STANDS MORE OFTEN HAS NO MORE BITS. -/
theorem often_le (os : List Nat) (h24 : ∀ l ∈ hl os, l ≤ 24) (s t : Nat) (hs : s < os.length) (ht : t < os.length) (h : oAt os t < oAt os s) (h0 : oAt os t ≠ 0) : oAt (hl os) s ≤ oAt (hl os) t := by
  rcases Nat.lt_or_ge (oAt (hl os) t) (oAt (hl os) s) with hlt | hge
  · exfalso
    have hst : s ≠ t := by rintro rfl; omega
    have ll := hl_length os
    have hs' : s < (hl os).length := by omega
    have ht' : t < (hl os).length := by omega
    have h1 := dot_set os (hl os) s (oAt (hl os) t) hs hs'
    have h2 := dot_set os ((hl os).set s (oAt (hl os) t)) t (oAt (hl os) s) ht (by simpa using ht')
    have k1 := tkn_set (hl os) s (oAt (hl os) t) hs'
    have k2 := tkn_set ((hl os).set s (oAt (hl os) t)) t (oAt (hl os) s) (by simpa using ht')
    rw [oAt_set _ _ _ _ hs', if_neg (fun e => hst e.symm)] at h2 k2
    have m1 : oAt (hl os) s ∈ hl os := by unfold oAt; rw [List.getElem?_eq_getElem hs']; exact List.getElem_mem hs'
    have m2 : oAt (hl os) t ∈ hl os := by unfold oAt; rw [List.getElem?_eq_getElem ht']; exact List.getElem_mem ht'
    have hroom := hl_room os h24
    have hle := least os (((hl os).set s (oAt (hl os) t)).set t (oAt (hl os) s)) (by simp [ll]) (fun i o l e1 e2 ho => by
      have p : ∀ i, oAt os i ≠ 0 → oAt (hl os) i ≠ 0 := fun i hi => by rw [hl_at os (oAt_lt hi)]; exact (lens_pos os i).2 hi
      have e3 : l = oAt (((hl os).set s (oAt (hl os) t)).set t (oAt (hl os) s)) i := by unfold oAt at e2 ⊢; rw [e2]; rfl
      rw [e3, oAt_set _ _ _ _ (by simpa using ht'), oAt_set _ _ _ _ hs']
      have e4 : oAt os i = o := by unfold oAt; rw [e1]; rfl
      split
      · exact p s (by omega)
      · split
        · exact p t h0
        · exact p i (by omega)) (fun l hl' => by
      rcases List.mem_or_eq_of_mem_set hl' with hl' | rfl
      · rcases List.mem_or_eq_of_mem_set hl' with hl' | rfl
        · exact h24 l hl'
        · exact h24 _ m2
      · exact h24 _ m1) (by omega)
    generalize dot os (((hl os).set s (oAt (hl os) t)).set t (oAt (hl os) s)) = D2 at *
    generalize dot os ((hl os).set s (oAt (hl os) t)) = D1 at *
    clear k1 k2 m1 m2
    obtain ⟨d, hd⟩ := Nat.exists_eq_add_of_lt h
    obtain ⟨e, he⟩ := Nat.exists_eq_add_of_lt hlt
    rw [hd, he] at h1
    rw [he] at h2
    simp only [Nat.add_mul, Nat.mul_add, Nat.mul_one, Nat.one_mul] at h1 h2
    omega
  · exact hge
/-- WHERE ALL STAND SO MANY TIMES AS OFTEN the lengths are the same. -/
def scale (k : Nat) (g : Gp) : Gp := (k * g.1, g.2)
theorem gle_scale (k : Nat) (hk : 1 ≤ k) (a b : Gp) : gle (scale k a) (scale k b) ↔ gle a b := by
  unfold gle scale
  simp only
  rw [Nat.mul_lt_mul_left hk, Nat.mul_right_inj (by omega)]
theorem gins_scale (k : Nat) (hk : 1 ≤ k) (x : Gp) : ∀ t, gins (scale k x) (t.map (scale k)) = (gins x t).map (scale k)
  | [] => rfl
  | y :: t => by
    simp only [List.map_cons, gins, gle_scale k hk]
    split
    · rfl
    · simp [gins_scale k hk x t]
theorem gsort_scale (k : Nat) (hk : 1 ≤ k) : ∀ l, gsort (l.map (scale k)) = (gsort l).map (scale k)
  | [] => rfl
  | x :: t => by simp only [List.map_cons, gsort, gsort_scale k hk t, gins_scale k hk]
theorem hrun_scale (k : Nat) (hk : 1 ≤ k) : ∀ n gs L, hrun n (gs.map (scale k)) L = hrun n gs L
  | 0, gs, L => rfl
  | n + 1, gs, L => by
    unfold hrun
    rw [gsort_scale k hk]
    generalize gsort gs = ss
    match ss with
    | [] => rfl
    | [_] => rfl
    | a :: b :: r =>
      show hrun n (r.map (scale k) ++ [joinG (scale k a) (scale k b)]) (bump L (a.2.2 ++ b.2.2)) = hrun n (r ++ [joinG a b]) (bump L (a.2.2 ++ b.2.2))
      have e : r.map (scale k) ++ [joinG (scale k a) (scale k b)] = (r ++ [joinG a b]).map (scale k) := by simp [joinG, scale, Nat.mul_add]
      rw [e, hrun_scale k hk n]
theorem groups_scale (k : Nat) (hk : 1 ≤ k) : ∀ (os : List Nat) (i : Nat), groups i (os.map (k * ·)) = (groups i os).map (scale k)
  | [], i => rfl
  | o :: t, i => by
    unfold groups
    simp only [List.map_cons]
    have : k * o = 0 ↔ o = 0 := by
      constructor
      · intro h
        rcases Nat.mul_eq_zero.1 h with h | h
        · omega
        · exact h
      · intro h; rw [h]; rfl
    by_cases ho : o = 0
    · rw [if_pos (this.2 ho), if_pos ho, groups_scale k hk t]
    · rw [if_neg (fun h => ho (this.1 h)), if_neg ho, groups_scale k hk t]; rfl
theorem hl_scale (k : Nat) (hk : 1 ≤ k) (os : List Nat) : hl (os.map (k * ·)) = hl os := by
  have : lens (os.map (k * ·)) = lens os := by
    unfold lens
    rw [groups_scale k hk]
    match groups 0 os with
    | [] => rfl
    | [g] => rfl
    | a :: b :: t => 
      show hrun _ ((a :: b :: t).map (scale k)) _ = _
      rw [hrun_scale k hk]; simp
  unfold hl
  rw [this, List.length_map]
theorem dot_scale (k : Nat) : ∀ os ls : List Nat, dot (os.map (k * ·)) ls = k * dot os ls
  | [], ls => rfl
  | o :: os, [] => rfl
  | o :: os, l :: ls => by simp only [List.map_cons, dot, dot_scale k os ls, Nat.mul_add, Nat.mul_assoc]
/-- WHICHEVER SIGN COMES FIRST all cost as much. -/
theorem dot_snoc : ∀ (os ls : List Nat) (o l : Nat), os.length = ls.length → dot (os ++ [o]) (ls ++ [l]) = dot os ls + o * l
  | [], [], o, l, _ => by simp [dot]
  | [], _ :: _, o, l, h => by simp at h
  | _ :: _, [], o, l, h => by simp at h
  | a :: os, b :: ls, o, l, h => by simp only [List.cons_append, dot, dot_snoc os ls o l (by simpa using h)]; omega
theorem dot_reverse : ∀ (os ls : List Nat), os.length = ls.length → dot os.reverse ls.reverse = dot os ls
  | [], [], _ => rfl
  | [], _ :: _, h => by simp at h
  | _ :: _, [], h => by simp at h
  | a :: os, b :: ls, h => by
    have h' : os.length = ls.length := by simpa using h
    rw [List.reverse_cons, List.reverse_cons, dot_snoc _ _ _ _ (by simpa using h'), dot_reverse os ls h']
    simp only [dot]; omega
theorem turn_le (os : List Nat) (h24 : ∀ l ∈ hl os.reverse, l ≤ 24) : dot os (hl os) ≤ dot os.reverse (hl os.reverse) := by
  have e : dot os (hl os.reverse).reverse = dot os.reverse (hl os.reverse) := by
    have := dot_reverse os.reverse (hl os.reverse) (hl_length _).symm
    rwa [List.reverse_reverse] at this
  rw [← e]
  have ll := hl_length os.reverse
  rw [List.length_reverse] at ll
  refine least os _ (by rw [List.length_reverse, ll]) (fun i o l h1 h2 ho => ?_) (fun l hl' => h24 l (List.mem_reverse.1 hl')) (by rw [tkn_reverse]; exact hl_room _ h24)
  have hi : i < os.length := (List.getElem?_eq_some_iff.1 h1).1
  rw [List.getElem?_reverse (by omega)] at h2
  have h3 : os.reverse[(hl os.reverse).length - 1 - i]? = some o := by
    rw [List.getElem?_reverse (by omega), ll]
    rw [show os.length - 1 - (os.length - 1 - i) = i by omega]; exact h1
  exact (hl_pos os.reverse _ o l h3 h2).1 ho
theorem turn_eq (os : List Nat) (h24 : ∀ l ∈ hl os, l ≤ 24) (h24' : ∀ l ∈ hl os.reverse, l ≤ 24) : dot os (hl os) = dot os.reverse (hl os.reverse) := by
  have h1 := turn_le os h24'
  have h2 := turn_le os.reverse (by rw [List.reverse_reverse]; exact h24)
  rw [List.reverse_reverse] at h2
  omega
/-- WHERE A SIGN STANDS ONCE MORE. -/
theorem dot_mono : ∀ (os qs ls : List Nat), os.length = qs.length → (∀ i, oAt os i ≤ oAt qs i) → dot os ls ≤ dot qs ls
  | [], [], ls, _, _ => Nat.le_refl _
  | [], _ :: _, ls, h, _ => by simp at h
  | _ :: _, [], ls, h, _ => by simp at h
  | a :: os, b :: qs, [], h, _ => Nat.le_refl _
  | a :: os, b :: qs, l :: ls, h, hle => by
    have := dot_mono os qs ls (by simpa using h) (fun i => by have := hle (i + 1); simpa [oAt] using this)
    have h0 := hle 0
    simp [oAt] at h0
    have := Nat.mul_le_mul_right l h0
    simp only [dot]; omega
theorem dot_set_l : ∀ (os ls : List Nat) (i v : Nat), i < os.length → i < ls.length → dot (os.set i v) ls + oAt os i * oAt ls i = dot os ls + v * oAt ls i
  | [], ls, i, v, h, _ => by simp at h
  | o :: os, [], i, v, _, h => by simp at h
  | o :: os, l :: ls, 0, v, _, _ => by simp [dot, oAt]; omega
  | o :: os, l :: ls, i + 1, v, h1, h2 => by
    have ih := dot_set_l os ls i v (by simpa using h1) (by simpa using h2)
    simp only [List.set_cons_succ, dot, oAt, List.getElem?_cons_succ] at ih ⊢
    omega
theorem at_some {l : List Nat} {i o : Nat} (h : l[i]? = some o) : oAt l i = o := by unfold oAt; rw [h]; rfl
theorem more_ge (os : List Nat) (i : Nat) (hi : i < os.length) (h24 : ∀ l ∈ hl (os.set i (oAt os i + 1)), l ≤ 24) :
    dot os (hl os) ≤ dot (os.set i (oAt os i + 1)) (hl (os.set i (oAt os i + 1))) := by
  have ll := hl_length (os.set i (oAt os i + 1))
  rw [List.length_set] at ll
  refine Nat.le_trans (least os (hl (os.set i (oAt os i + 1))) ll.symm (fun j o l h1 h2 ho => ?_) h24 (hl_room _ h24)) (dot_mono os _ _ (by simp) (fun j => ?_))
  · have hj : j < os.length := (List.getElem?_eq_some_iff.1 h1).1
    have h3 : oAt (os.set i (oAt os i + 1)) j ≠ 0 := by
      rw [oAt_set _ _ _ _ hi]
      split
      · omega
      · rw [at_some h1]; exact ho
    have h4 := (lens_pos _ j).2 h3
    rw [← hl_at _ (by rw [List.length_set]; exact hj), at_some h2] at h4
    exact h4
  · rw [oAt_set _ _ _ _ hi]
    split
    · rename_i h; subst h; omega
    · exact Nat.le_refl _
theorem more_le (os : List Nat) (i : Nat) (hi : i < os.length) (h0 : oAt os i ≠ 0) (h24 : ∀ l ∈ hl os, l ≤ 24) :
    dot (os.set i (oAt os i + 1)) (hl (os.set i (oAt os i + 1))) ≤ dot os (hl os) + oAt (hl os) i := by
  have ll := hl_length os
  have h1 := least (os.set i (oAt os i + 1)) (hl os) (by simp [ll]) (fun j o l h1 h2 ho => by
    have hj : j < os.length := by have := (List.getElem?_eq_some_iff.1 h1).1; simpa using this
    have h3 : oAt os j ≠ 0 := by
      have := at_some h1
      rw [oAt_set _ _ _ _ hi] at this
      by_cases e : j = i
      · subst e; exact h0
      · rw [if_neg e] at this; omega
    have h4 := (lens_pos os j).2 h3
    rw [← hl_at os hj, at_some h2] at h4
    exact h4) h24 (hl_room _ h24)
  have h2 := dot_set_l os (hl os) i (oAt os i + 1) hi (by omega)
  rw [Nat.add_mul, Nat.one_mul] at h2
  omega
end Go.Proofs.Ythfjfkbolfnkkaa
