/- Texts of this proof, one behind the other; each fact names its conditions. -/
import Derived.Test.YtbddcokjkdoaaaaGreatSN9
import Derived.Test.YtbddcokjkdoaaaaGreatSN7
namespace Go.Proofs.YtbddcokjkdoaaaaGreat
set_option linter.unusedVariables false
def ndF (g : List (List Nat)) (i r : Nat) : List Nat := if r = 0 then [] else row g (i - r)
def ndB (B ls k : Nat) (g : List (List Nat)) (i r : Nat) : List Bool := (if B = 0 then [] else gam r) ++ sbits i r ls k (row g i) (ndF g i r)
def fw (B ls k : Nat) (g : List (List Nat)) (i : Nat) : Nat → Nat
  | 0 => 0
  | r + 1 => if (ndB B ls k g i (r + 1)).length < (ndB B ls k g i (fw B ls k g i r)).length then r + 1 else fw B ls k g i r
def bst (B ls k : Nat) (g : List (List Nat)) (i : Nat) : Nat := fw B ls k g i (min B i)
def pkB (B ls k : Nat) (g : List (List Nat)) : Nat → List Bool
  | 0 => []
  | n + 1 => pkB B ls k g n ++ ndB B ls k g n (bst B ls k g n)
theorem pkB_succ (B ls k : Nat) (g : List (List Nat)) (n : Nat) : pkB B ls k g (n + 1) = pkB B ls k g n ++ ndB B ls k g n (bst B ls k g n) := rfl
def pkS (B ls k : Nat) (g : List (List Nat)) (n : Nat) : List Nat := (List.range n).map fun i => (pkB B ls k g i).length
def pkA (B ls k : Nat) (g : List (List Nat)) (n : Nat) : List Nat := (List.range n).map (bst B ls k g)
theorem pkS_succ (B ls k : Nat) (g : List (List Nat)) (n : Nat) : pkS B ls k g (n + 1) = pkS B ls k g n ++ [(pkB B ls k g n).length] := by unfold pkS; rw [List.range_succ, List.map_append]; rfl
theorem pkA_succ (B ls k : Nat) (g : List (List Nat)) (n : Nat) : pkA B ls k g (n + 1) = pkA B ls k g n ++ [bst B ls k g n] := by unfold pkA; rw [List.range_succ, List.map_append]; rfl
theorem pkS_length (B ls k : Nat) (g : List (List Nat)) (n : Nat) : (pkS B ls k g n).length = n := by simp [pkS]
theorem pkS_get {B ls k : Nat} {g : List (List Nat)} {n i : Nat} (h : i < n) : (pkS B ls k g n)[i]? = some (pkB B ls k g i).length := by unfold pkS; rw [List.getElem?_map, List.getElem?_range h]; rfl
theorem fw_le (B ls k : Nat) (g : List (List Nat)) (i : Nat) : ∀ r, fw B ls k g i r ≤ r
  | 0 => Nat.le_refl _
  | r + 1 => by have := fw_le B ls k g i r; unfold fw; split <;> omega
theorem bst_le (B ls k : Nat) (g : List (List Nat)) (i : Nat) : bst B ls k g i ≤ min B i := fw_le B ls k g i _
theorem pkB_pre (B ls k : Nat) (g : List (List Nat)) : ∀ n m, n ≤ m → pkB B ls k g n <+: pkB B ls k g m
  | n, 0, h => by obtain rfl : n = 0 := by omega
                  exact List.prefix_rfl
  | n, m + 1, h => by
    rcases Nat.lt_or_ge m n with q | q
    · obtain rfl : n = m + 1 := by omega
      exact List.prefix_rfl
    · exact (pkB_pre B ls k g n m q).trans (List.prefix_append _ _)
theorem pkB_le (B ls k : Nat) (g : List (List Nat)) {n m : Nat} (h : n ≤ m) : (pkB B ls k g n).length ≤ (pkB B ls k g m).length := (pkB_pre B ls k g n m h).length_le
theorem row_takeP (g : List (List Nat)) (n i : Nat) (h : i < n) : row (g.take n) i = row g i := by unfold row; rw [List.getElem?_take, if_pos h]
def rdN (L : List Bool) (B ls k : Nat) (g : List (List Nat)) (i s : Nat) : Option (List Nat × Nat) :=
  if B = 0 then
    if (sread L i 0 ls k [] s).2.2 = 0 then some ((sread L i 0 ls k [] s).1, (sread L i 0 ls k [] s).2.1) else none
  else if (gamR L s).2.2 = 0 ∧ (gamR L s).1 ≤ min B i then
    if (sread L i (gamR L s).1 ls k (ndF g i (gamR L s).1) (gamR L s).2.1).2.2 = 0 then
      some ((sread L i (gamR L s).1 ls k (ndF g i (gamR L s).1) (gamR L s).2.1).1, (sread L i (gamR L s).1 ls k (ndF g i (gamR L s).1) (gamR L s).2.1).2.1) else none
  else none
def rdA (L : List Bool) (B ls k : Nat) : Nat → Option (List (List Nat) × Nat)
  | 0 => some ([], 0)
  | n + 1 => match rdA L B ls k n with
    | none => none
    | some (g, s) => match rdN L B ls k g n s with
      | none => none
      | some (l, s') => some (g ++ [l], s')
theorem rdA_len (L : List Bool) (B ls k : Nat) : ∀ n g s, rdA L B ls k n = some (g, s) → g.length = n
  | 0, g, s, h => by simp only [rdA, Option.some.injEq, Prod.mk.injEq] at h; rw [← h.1]; rfl
  | n + 1, g, s, h => by
    unfold rdA at h
    cases e : rdA L B ls k n with
    | none => rw [e] at h; cases h
    | some p =>
      obtain ⟨g', s'⟩ := p
      rw [e] at h
      simp only at h
      cases e2 : rdN L B ls k g' n s' with
      | none => rw [e2] at h; cases h
      | some q =>
        rw [e2] at h
        simp only [Option.some.injEq, Prod.mk.injEq] at h
        rw [← h.1, List.length_append, rdA_len L B ls k n g' s' e]; rfl
def RowsR (g : List (List Nat)) : Prop := ∀ l ∈ g, Rising l
theorem row_rising {g : List (List Nat)} (h : RowsR g) (i : Nat) : Rising (row g i) := by
  unfold row
  by_cases hi : i < g.length
  · rw [List.getElem?_eq_getElem hi]; exact h _ (List.getElem_mem hi)
  · rw [List.getElem?_eq_none (by omega)]; exact ⟨by decide, trivial⟩
theorem ndF_rising {g : List (List Nat)} (h : RowsR g) (i r : Nat) : r ≠ 0 → Rising (ndF g i r) := fun hr => by unfold ndF; rw [if_neg hr]; exact row_rising h _
theorem rdN_nd (B ls k : Nat) (hk : 1 ≤ k) (hB : B ≤ 7) (g : List (List Nat)) (hg : RowsR g) (i r : Nat) (hi : i ≤ 1048576) (hr : r ≤ min B i) (p t : List Bool) :
    rdN (p ++ (ndB B ls k g i r ++ t)) B ls k g i p.length = some (row g i, p.length + (ndB B ls k g i r).length) := by
  unfold rdN ndB
  by_cases hb : B = 0
  · obtain rfl : r = 0 := by omega
    rw [if_pos hb, if_pos hb, List.nil_append]
    have e : ndF g i 0 = [] := rfl
    rw [e]
    rw [sread_bits i 0 ls k hi hk (row g i) [] (row_rising hg i) (fun h => absurd rfl h) p t]
    rfl
  · rw [if_neg hb, if_neg hb]
    have hg1 : gamR (p ++ ((gam r ++ sbits i r ls k (row g i) (ndF g i r)) ++ t)) p.length = (r, p.length + (gam r).length, 0) := by
      rw [List.append_assoc]; exact gamR_gam p _ r (by omega)
    rw [hg1]
    have h2 := sread_bits i r ls k hi hk (row g i) (ndF g i r) (row_rising hg i) (ndF_rising hg i r) (p ++ gam r) t
    have e : p ++ ((gam r ++ sbits i r ls k (row g i) (ndF g i r)) ++ t) = (p ++ gam r) ++ (sbits i r ls k (row g i) (ndF g i r) ++ t) := by simp
    rw [e, if_pos ⟨rfl, hr⟩]
    rw [List.length_append] at h2
    simp only [h2]
    rw [if_pos trivial, List.length_append, ← Nat.add_assoc]
theorem ndF_take (g : List (List Nat)) (i r : Nat) (h : r ≤ i) : ndF (g.take i) i r = ndF g i r := by
  unfold ndF
  by_cases h0 : r = 0
  · rw [if_pos h0, if_pos h0]
  · rw [if_neg h0, if_neg h0]; exact row_takeP g i (i - r) (by omega)
theorem rdN_take (L : List Bool) (B ls k : Nat) (g : List (List Nat)) (i s : Nat) : rdN L B ls k (g.take i) i s = rdN L B ls k g i s := by
  unfold rdN
  by_cases hb : B = 0
  · rw [if_pos hb, if_pos hb]
  · rw [if_neg hb, if_neg hb]
    by_cases hr : (gamR L s).2.2 = 0 ∧ (gamR L s).1 ≤ min B i
    · rw [if_pos hr, if_pos hr, ndF_take g i _ (by have := hr.2; omega)]
    · rw [if_neg hr, if_neg hr]
theorem take_row (g : List (List Nat)) (n : Nat) (h : n < g.length) : g.take (n + 1) = g.take n ++ [row g n] := by
  unfold row
  rw [List.take_add_one, List.getElem?_eq_getElem h]; rfl
theorem rdA_pk (B ls k : Nat) (hk : 1 ≤ k) (hB : B ≤ 7) (g : List (List Nat)) (hg : RowsR g) (hn : g.length ≤ 1048576) (t : List Bool) : ∀ n, n ≤ g.length → ∀ T, pkB B ls k g g.length ++ t = pkB B ls k g n ++ T → rdA (pkB B ls k g g.length ++ t) B ls k n = some (g.take n, (pkB B ls k g n).length)
  | 0, _, _, _ => by simp [rdA, pkB]
  | n + 1, h, T, hT => by
    have e : pkB B ls k g g.length ++ t = pkB B ls k g n ++ (ndB B ls k g n (bst B ls k g n) ++ T) := by rw [hT, pkB_succ, List.append_assoc]
    unfold rdA
    rw [rdA_pk B ls k hk hB g hg hn t n (by omega) _ e]
    simp only
    rw [rdN_take, e, rdN_nd B ls k hk hB g hg n _ (by omega) (bst_le B ls k g n) (pkB B ls k g n) T]
    simp only
    rw [take_row g n (by omega), pkB_succ, List.length_append]
theorem rdA_all (B ls k : Nat) (hk : 1 ≤ k) (hB : B ≤ 7) (g : List (List Nat)) (hg : RowsR g) (hn : g.length ≤ 1048576) : rdA (pkB B ls k g g.length) B ls k g.length = some (g, (pkB B ls k g g.length).length) := by
  have h := rdA_pk B ls k hk hB g hg hn [] g.length (Nat.le_refl _) [] rfl
  rw [List.append_nil, List.take_of_length_le (Nat.le_refl _)] at h
  exact h
theorem gam_le (n m : Nat) (h : n + 1 < 2 ^ (m + 1)) : (gam n).length ≤ 2 * m + 1 := by
  have := lg_lt_of n (m + 1) h
  rw [gam_length]; omega
theorem gams_le (m : Nat) : ∀ xs : List Nat, (∀ x ∈ xs, x + 1 < 2 ^ (m + 1)) → (gams xs).length ≤ xs.length * (2 * m + 1)
  | [], _ => by simp [gams]
  | x :: t, h => by
    have a := gam_le x m (h x List.mem_cons_self)
    have b := gams_le m t (fun y hy => h y (List.mem_cons_of_mem _ hy))
    rw [gams_cons, List.length_append, List.length_cons, Nat.add_mul]
    omega
theorem zet_le (g k : Nat) (hk : 1 ≤ k) (hk2 : k ≤ 16) (hg : g < 255) : (zet g k).length ≤ 31 := by
  have h0 := lg_lt_of g 8 (by omega)
  have h1 : lg g / k ≤ lg g := Nat.div_le_self _ _
  have h2 : lg g / k * k ≤ lg g := Nat.div_mul_le_self _ _
  unfold zet
  have h3 := lst_length_le (g + 1 - 2 ^ (lg g / k * k)) (zq (lg g / k) k)
  have h4 : sz (zq (lg g / k) k) ≤ lg g / k * k + k := sz_le _ _ (by unfold zq; exact Nat.sub_le _ _)
  rw [List.length_append, uc_length]
  omega
theorem zets_le (k : Nat) (hk : 1 ≤ k) (hk2 : k ≤ 16) : ∀ gs : List Nat, (∀ g ∈ gs, g < 255) → (zets k gs).length ≤ gs.length * 31
  | [], _ => by simp [zets]
  | x :: t, h => by
    have a := zet_le x k hk hk2 (h x List.mem_cons_self)
    have b := zets_le k hk hk2 t (fun y hy => h y (List.mem_cons_of_mem _ hy))
    rw [zets_cons, List.length_append, List.length_cons, Nat.add_mul]
    omega
theorem fold_le (x a : Nat) (hx : x < 101) (ha : a < 101) : fold ((x : Int) - (a : Int)) < 255 := by unfold fold; split <;> omega
theorem gp_le1 : ∀ (l : List Nat) (v : Nat), (∀ x ∈ l, x < 101) → ∀ y ∈ gp v l, y < 255
  | [], _, _, y, hy => by cases hy
  | x :: t, v, h, y, hy => by
    unfold gp at hy
    have hx := h x List.mem_cons_self
    rcases List.mem_cons.1 hy with e | e
    · omega
    · exact gp_le1 t x (fun z hz => h z (List.mem_cons_of_mem _ hz)) y e
theorem gps_le1 (a : Nat) (ha : a < 101) (l : List Nat) (h : ∀ x ∈ l, x < 101) : ∀ y ∈ gps (a : Int) l, y < 255 := by
  cases l with
  | nil => intro y hy; cases hy
  | cons x t =>
    intro y hy
    unfold gps at hy
    rcases List.mem_cons.1 hy with e | e
    · rw [e]; exact fold_le x a (h x List.mem_cons_self) ha
    · exact gp_le1 t x (fun z hz => h z (List.mem_cons_of_mem _ hz)) y e
theorem rnx_le (ls : Nat) : ∀ (R : List Rn) (e : Nat), (∀ q ∈ R, q.1 < 101 ∧ q.2 < 101) → ∀ y ∈ rnx ls e R, y < 255
  | [], _, _, y, hy => by cases hy
  | p :: t, e, h, y, hy => by
    unfold rnx at hy
    have hx := h p List.mem_cons_self
    rcases List.mem_cons.1 hy with q | q
    · omega
    · rcases List.mem_cons.1 q with q | q
      · omega
      · exact rnx_le ls t _ (fun z hz => h z (List.mem_cons_of_mem _ hz)) y q
theorem rnx_length (ls : Nat) : ∀ (R : List Rn) (e : Nat), (rnx ls e R).length = 2 * R.length
  | [], _ => rfl
  | p :: t, e => by unfold rnx; rw [List.length_cons, List.length_cons, rnx_length ls t, List.length_cons]; omega
theorem rnu_le (a ls : Nat) (ha : a < 101) (R : List Rn) (h : ∀ q ∈ R, q.1 < 101 ∧ q.2 < 101) : ∀ y ∈ rnu (a : Int) ls R, y < 255 := by
  cases R with
  | nil => intro y hy; cases hy
  | cons p t =>
    intro y hy
    unfold rnu at hy
    have hx := h p List.mem_cons_self
    rcases List.mem_cons.1 hy with q | q
    · rw [q]; exact fold_le p.1 a hx.1 ha
    · rcases List.mem_cons.1 q with q | q
      · omega
      · exact rnx_le ls t _ (fun z hz => h z (List.mem_cons_of_mem _ hz)) y q
theorem rnu_length (a : Int) (ls : Nat) (R : List Rn) : (rnu a ls R).length = 2 * R.length := by
  cases R with
  | nil => rfl
  | cons p t => unfold rnu; rw [List.length_cons, List.length_cons, rnx_length, List.length_cons]; omega
theorem rs_pos : ∀ l : List Nat, ∀ q ∈ rs l, 1 ≤ q.2
  | [], q, h => by cases h
  | x :: t, q, h => by
    have ih := rs_pos t
    unfold rs at h
    split at h
    · rename_i f m r e
      rw [e] at ih
      by_cases hf : f = x + 1
      · rw [if_pos hf] at h
        rcases List.mem_cons.1 h with e | e
        · rw [e]; exact Nat.succ_le_succ (Nat.zero_le _)
        · exact ih q (List.mem_cons_of_mem _ e)
      · rw [if_neg hf] at h
        rcases List.mem_cons.1 h with e | e
        · rw [e]; exact Nat.le_refl _
        · exact ih q e
    · rcases List.mem_cons.1 h with e | e
      · rw [e]; exact Nat.le_refl _
      · cases e
theorem rs_in (l : List Nat) (q : Rn) (hq : q ∈ rs l) : q.1 ∈ l := by
  have h : q.1 ∈ flatR (rs l) := by
    unfold flatR
    exact List.mem_flatMap.2 ⟨q, hq, (nums_mem q q.1).2 ⟨Nat.le_refl _, by have := rs_pos l q hq; omega⟩⟩
  rwa [rs_flat] at h
theorem rs_few (l : List Nat) : (rs l).length ≤ l.length := by
  have := flatR_len_ge (rs l) (rs_pos l)
  rwa [rs_flat] at this
theorem rs_room (l : List Nat) (hl : l.length ≤ 100) (h : ∀ x ∈ l, x < 101) : ∀ q ∈ rs l, q.1 < 101 ∧ q.2 < 101 := fun q hq => by
  have a := flatR_len_mem (rs l) q hq
  rw [rs_flat] at a
  exact ⟨h _ (rs_in l q hq), by omega⟩
theorem ris_room : ∀ (l : List Nat) (v n : Nat), (v :: l).Pairwise (· < ·) → (∀ x ∈ v :: l, x < n) → v + l.length < n
  | [], v, n, _, h => by have := h v List.mem_cons_self; simpa using this
  | x :: t, v, n, hp, h => by
    have a := ris_room t x n (List.pairwise_cons.1 hp).2 (fun y hy => h y (List.mem_cons_of_mem _ hy))
    have b := (List.pairwise_cons.1 hp).1 x List.mem_cons_self
    rw [List.length_cons]; omega
theorem ris_few (l : List Nat) (n : Nat) (hp : l.Pairwise (· < ·)) (h : ∀ x ∈ l, x < n) : l.length ≤ n := by
  cases l with
  | nil => exact Nat.zero_le _
  | cons x t => have := ris_room t x n hp h; rw [List.length_cons]; omega
theorem bnums_le (l : List Nat) (m : Nat) (h : ∀ x ∈ l, x ≤ m) : ∀ y ∈ bnums l, y ≤ m := by
  cases l with
  | nil => intro y hy; cases hy
  | cons b t =>
    intro y hy
    unfold bnums at hy
    rcases List.mem_cons.1 hy with e | e
    · rw [e]; exact h b List.mem_cons_self
    · obtain ⟨z, hz, rfl⟩ := List.mem_map.1 e
      have := h z (List.mem_cons_of_mem _ hz)
      omega
theorem bnums_length (l : List Nat) : (bnums l).length = l.length := by
  cases l with
  | nil => rfl
  | cons b t => simp [bnums]
theorem sbits_room (a bk ls k : Nat) (ha : a < 101) (hk : 1 ≤ k) (hk2 : k ≤ 16) (l F : List Nat) (hl : l.length ≤ 100) (hF : F.length ≤ 100) (h : ∀ x ∈ l, x < 101) : (sbits a bk ls k l F).length ≤ 8000 := by
  have h0 := gam_le l.length 6 (by omega)
  unfold sbits
  rw [List.length_append]
  by_cases hn : l = []
  · rw [if_pos hn]; simp; omega
  rw [if_neg hn, List.length_append]
  have hB : (bksB bk F l).length ≤ 1400 := by
    unfold bksB
    by_cases hb : bk = 0
    · rw [if_pos hb]; simp
    rw [if_neg hb, List.length_append]
    have b1 := blk_len (F.map (inL l)) 0 true
    have b2 := blk_sum (F.map (inL l)) 0 true
    rw [List.length_map] at b1 b2
    have b3 : (bks F l).length ≤ 100 := by unfold bks; omega
    have b4 : ∀ x ∈ bks F l, x ≤ 100 := fun x hx => by have := le_sum _ x hx; unfold bks at this; omega
    have g1 := gam_le (bks F l).length 6 (by omega)
    have g2 := gams_le 6 (bnums (bks F l)) (fun x hx => by have := bnums_le _ 100 b4 x hx; omega)
    rw [bnums_length] at g2
    omega
  have hr : (bksR bk F l).length ≤ 100 ∧ ∀ x ∈ bksR bk F l, x < 101 := by
    unfold bksR
    by_cases hb : bk = 0
    · rw [if_pos hb]; exact ⟨hl, h⟩
    · rw [if_neg hb]; unfold notin
      exact ⟨Nat.le_trans (List.length_filter_le _ _) hl, fun x hx => h x (List.mem_filter.1 hx).1⟩
  generalize bksR bk F l = r at hr ⊢
  have hR : (restB a ls k r).length ≤ 6200 := by
    unfold restB
    by_cases hb : r = []
    · rw [if_pos hb]; simp
    rw [if_neg hb, List.length_append]
    have hq := rs_room r hr.1 hr.2
    have hf := rs_few r
    have r1 : (runB a ls r).length ≤ 3013 := by
      unfold runB
      by_cases h0 : ls = 0
      · rw [if_pos h0]; simp
      rw [if_neg h0, List.length_append]
      have c1 : (rsR ls r).length ≤ 100 := by unfold rsR lng; rw [if_neg h0]; exact Nat.le_trans (List.length_filter_le _ _) (by omega)
      have c2 : ∀ q ∈ rsR ls r, q.1 < 101 ∧ q.2 < 101 := fun q hh => by unfold rsR lng at hh; rw [if_neg h0] at hh; exact hq q (List.mem_filter.1 hh).1
      have g1 := gam_le (rsR ls r).length 6 (by omega)
      have g2 := gams_le 7 (rnu (a : Int) ls (rsR ls r)) (fun x hx => by have := rnu_le a ls ha _ c2 x hx; omega)
      rw [rnu_length] at g2
      omega
    have r2 : (rsS ls r).length ≤ 100 ∧ ∀ x ∈ rsS ls r, x < 101 := by
      unfold rsS
      by_cases h0 : ls = 0
      · rw [if_pos h0]; exact hr
      rw [if_neg h0]
      have s1 := flatR_len_split ls (rs r)
      rw [rs_flat] at s1
      refine ⟨by omega, fun x hx => ?_⟩
      have s2 := (lng_sht ls (rs r)).mem_iff (a := x)
      rw [rs_flat] at s2
      exact hr.2 x (s2.1 (List.mem_append_right _ hx))
    have z := zets_le k hk hk2 (gps (a : Int) (rsS ls r)) (gps_le1 a ha _ r2.2)
    rw [gps_length] at z
    have := r2.1
    omega
  omega
theorem ndB_room (B ls k : Nat) (hB : B ≤ 7) (hk : 1 ≤ k) (hk2 : k ≤ 16) (g : List (List Nat)) (hg : GOk g) (i r : Nat) (hi : i < g.length) (hr : r ≤ min B i) :
    (sbits i r ls k (row g i) (ndF g i r)).length ≤ 8000 ∧ (ndB B ls k g i r).length ≤ 8007 := by
  have hn := hg.nodes
  have hb : ∀ j, ∀ x ∈ row g j, x < g.length := fun j x hx => by
    by_cases hj : j < g.length
    · exact hg.bd _ (row_mem hj) x hx
    · rw [row_out (by omega)] at hx; cases hx
  have hl : ∀ j, (row g j).length ≤ 100 := fun j => Nat.le_trans (ris_few _ _ (row_ris hg j) (hb j)) hn
  have h1 : (ndF g i r).length ≤ 100 := by unfold ndF; split; exact Nat.zero_le _; exact hl _
  have h := sbits_room i r ls k (by omega) hk hk2 (row g i) (ndF g i r) (hl i) h1 (fun x hx => by have := hb i x hx; omega)
  refine ⟨h, ?_⟩
  unfold ndB
  rw [List.length_append]
  have hgm := gam_le r 3 (by omega)
  by_cases h0 : B = 0
  · rw [if_pos h0]; simp; omega
  · rw [if_neg h0]; omega
theorem gok_rows {g : List (List Nat)} (h : GOk g) : RowsR g := fun l hl => by
  have hn := h.nodes
  have hp := h.ris l hl
  have hb := h.bd l hl
  refine ⟨Nat.le_trans (ris_few l g.length hp hb) (by omega), ?_⟩
  have : ∀ (m : List Nat) (v : Int), m.Pairwise (· < ·) → (∀ x ∈ m, v < (x : Int) ∧ x < 1048577) → Ris v m := by
    intro m
    induction m with
    | nil => intro v _ _; exact trivial
    | cons x t ih =>
      intro v hp hb
      obtain ⟨p1, p2⟩ := List.pairwise_cons.1 hp
      have hx := hb x List.mem_cons_self
      exact ⟨hx.1, by omega, ih x p2 (fun y hy => ⟨by exact_mod_cast p1 y hy, (hb y (List.mem_cons_of_mem _ hy)).2⟩)⟩
  exact this l (-1) hp (fun x hx => ⟨by omega, by have := hb x hx; omega⟩)
end Go.Proofs.YtbddcokjkdoaaaaGreat
