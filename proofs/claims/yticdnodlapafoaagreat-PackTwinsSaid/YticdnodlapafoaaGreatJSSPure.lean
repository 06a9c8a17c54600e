/- Plain facts on the bits of a list of a node: what is written, what is read of it; nothing here speaks of a program; each fact names its conditions. -/
import Derived.Test.YticdnodlapafoaaGreatJS5
import Derived.Test.YticdnodlapafoaaGreatJSNRead
namespace Go.Proofs.YticdnodlapafoaaGreat
set_option linter.unusedVariables false

def gams (xs : List Nat) : List Bool := xs.flatMap gam
theorem gams_nil : gams [] = [] := rfl
theorem gams_cons (x : Nat) (t : List Nat) : gams (x :: t) = gam x ++ gams t := by simp [gams]
theorem gams_append (a b : List Nat) : gams (a ++ b) = gams a ++ gams b := by simp [gams]
/-- The numbers that are written of blocks. -/
def bnums : List Nat → List Nat
  | [] => []
  | b :: t => b :: t.map (· - 1)
/-- The numbers that are written of runs behind an end. -/
def rnx (ls : Nat) : Nat → List Rn → List Nat
  | _, [] => []
  | e, p :: t => (p.1 - e) :: (p.2 - ls) :: rnx ls (p.1 + p.2 + 1) t
def rnu (a : Int) (ls : Nat) : List Rn → List Nat
  | [] => []
  | p :: t => fold ((p.1 : Int) - a) :: (p.2 - ls) :: rnx ls (p.1 + p.2 + 1) t
def rsR (ls : Nat) (r : List Nat) : List Rn := if ls = 0 then [] else lng ls (rs r)
def rsS (ls : Nat) (r : List Nat) : List Nat := if ls = 0 then r else flatR (sht ls (rs r))
def runB (a ls : Nat) (r : List Nat) : List Bool := if ls = 0 then [] else gam (rsR ls r).length ++ gams (rnu (a : Int) ls (rsR ls r))
def restB (a ls k : Nat) (r : List Nat) : List Bool := if r = [] then [] else runB a ls r ++ zets k (gps (a : Int) (rsS ls r))
def bksB (bk : Nat) (F l : List Nat) : List Bool := if bk = 0 then [] else gam (bks F l).length ++ gams (bnums (bks F l))
def bksR (bk : Nat) (F l : List Nat) : List Nat := if bk = 0 then l else notin F l
/-- What is written. -/
def sbits (a bk ls k : Nat) (l F : List Nat) : List Bool := gam l.length ++ if l = [] then [] else bksB bk F l ++ restB a ls k (bksR bk F l)

/-! what is read: none where it is not of its form -/
def pnum (L : List Bool) (s most : Nat) : Option (Nat × Nat) := if (gamR L s).2.2 = 0 ∧ (gamR L s).1 ≤ most then some ((gamR L s).1, (gamR L s).2.1) else none
def pbl (L : List Bool) : Nat → List Nat → Nat → Option (List Nat × Nat)
  | 0, acc, s => some (acc, s)
  | m + 1, acc, s => match pnum L s 300 with
    | none => none
    | some (x, s') => pbl L m (acc ++ [x + (if acc = [] then 0 else 1)]) s'
def pblocks (L : List Bool) (s : Nat) : Option (List Nat × Nat) := match pnum L s 300 with
  | none => none
  | some (n, s') => pbl L n [] s'
def fro (a : Nat) (g : Nat) (acc : List (Int × Int)) : Int := match acc.getLast? with
  | none => (a : Int) + unfold_ g
  | some p => p.1 + p.2 + 1 + (g : Int)
def prn (L : List Bool) (a ls : Nat) : Nat → List (Int × Int) → Nat → Option (List (Int × Int) × Nat)
  | 0, acc, s => some (acc, s)
  | m + 1, acc, s => match pnum L s 2097152 with
    | none => none
    | some (g, s1) => match pnum L s1 300 with
      | none => none
      | some (x, s2) => prn L a ls m (acc ++ [(fro a g acc, ((ls + x : Nat) : Int))]) s2
def pruns (L : List Bool) (a ls s : Nat) : Option (List (Int × Int) × Nat) := match pnum L s 300 with
  | none => none
  | some (n, s') => prn L a ls n [] s'
def prest (L : List Bool) (a ls k : Nat) (many : Int) (s : Nat) : Option (List Nat × Nat) :=
  if many = 0 then some ([], s) else
  match (if ls = 0 then some ([], s) else pruns L a ls s) with
  | none => none
  | some (r, s1) =>
    if (mgA r []).2 ≠ 0 then none else if many - ((mgA r []).1.length : Int) < 0 then none else
    if (rdG L k a (many - ((mgA r []).1.length : Int)).toNat [] s1).2.2 ≠ 0 then none else
    if (mgA r (ns (rdG L k a (many - ((mgA r []).1.length : Int)).toNat [] s1).1)).2 ≠ 0 then none else
    some ((mgA r (ns (rdG L k a (many - ((mgA r []).1.length : Int)).toNat [] s1).1)).1, (rdG L k a (many - ((mgA r []).1.length : Int)).toNat [] s1).2.1)
def ptold (L : List Bool) (a ls k : Nat) (F : List Nat) (n s : Nat) : Option (List Nat × Nat) :=
  match pblocks L s with
  | none => none
  | some (B, s2) => if bchk (ns B) F.length ≠ 0 then none else
    match prest L a ls k ((n : Int) - ((cp true B F).length : Int)) s2 with
    | none => none
    | some (r, s3) => if (un (cp true B F) r).2 ≠ 0 then none else some ((un (cp true B F) r).1, s3)
def ptake (L : List Bool) (a bk ls k : Nat) (F : List Nat) (s : Nat) : Option (List Nat × Nat) :=
  match pnum L s 300 with
  | none => none
  | some (n, s1) => if n = 0 then some ([], s1) else if bk = 0 then prest L a ls k (n : Int) s1 else ptold L a ls k F n s1
/-- What Read answers. -/
def sread (L : List Bool) (a bk ls k : Nat) (F : List Nat) (s : Nat) : List Nat × Nat × Int :=
  match ptake L a bk ls k F s with
  | none => ([], 0, 1)
  | some (l, s') => if (L.drop s).take (sbits a bk ls k l F).length = sbits a bk ls k l F then (l, s', 0) else ([], 0, 1)

/-! what was written is read -/
theorem pnum_gam (p t : List Bool) (n most : Nat) (h : n ≤ most) (hn : n ≤ 1099511627776) : pnum (p ++ (gam n ++ t)) p.length most = some (n, p.length + (gam n).length) := by
  unfold pnum
  rw [gamR_gam p t n hn]
  exact if_pos ⟨rfl, h⟩
theorem pbl_gams : ∀ (B acc : List Nat) (p t : List Bool), acc ≠ [] → (∀ b ∈ B, 1 ≤ b ∧ b ≤ 301) →
    pbl (p ++ (gams (B.map (· - 1)) ++ t)) B.length acc p.length = some (acc ++ B, p.length + (gams (B.map (· - 1))).length)
  | [], acc, p, t, _, _ => by simp [pbl, gams]
  | b :: B, acc, p, t, ha, hb => by
    have h1 := hb b (by simp)
    have e := pnum_gam p (gams (B.map (· - 1)) ++ t) (b - 1) 300 (by omega) (by omega)
    rw [List.map_cons, gams_cons, List.append_assoc]
    show pbl _ (B.length + 1) acc _ = _
    unfold pbl
    rw [e]
    simp only
    rw [if_neg ha, show b - 1 + 1 = b by omega]
    have ih := pbl_gams B (acc ++ [b]) (p ++ gam (b - 1)) t (by simp) (fun c hc => hb c (by simp [hc]))
    rw [List.append_assoc, List.length_append] at ih
    rw [ih]
    simp [Nat.add_assoc]
theorem pblocks_gams (B : List Nat) (p t : List Bool) (hl : B.length ≤ 300) (h1 : ∀ b ∈ B, b ≤ 300) (h2 : ∀ b ∈ B.drop 1, 1 ≤ b) :
    pblocks (p ++ (gam B.length ++ (gams (bnums B) ++ t))) p.length = some (B, p.length + (gam B.length).length + (gams (bnums B)).length) := by
  unfold pblocks
  rw [pnum_gam p _ B.length 300 hl (by omega)]
  simp only
  cases B with
  | nil => simp [pbl, bnums, gams]
  | cons b t2 =>
    have hb := h1 b (by simp)
    show pbl _ (t2.length + 1) [] _ = _
    unfold pbl bnums
    rw [gams_cons]
    have e := pnum_gam (p ++ gam (t2.length + 1)) (gams (t2.map (· - 1)) ++ t) b 300 hb (by omega)
    rw [List.append_assoc, List.length_append] at e
    rw [List.append_assoc, List.length_cons, e]
    simp only
    rw [if_pos trivial, show b + 0 = b from rfl, List.nil_append]
    have ih := pbl_gams t2 [b] (p ++ (gam (t2.length + 1) ++ gam b)) t (by simp) (fun c hc => ⟨by simp at h2; exact h2 c hc, by have := h1 c (by simp [hc]); omega⟩)
    rw [List.append_assoc, List.append_assoc, List.length_append, List.length_append] at ih
    rw [← Nat.add_assoc] at ih
    rw [ih]
    simp [Nat.add_assoc]
theorem prn_gams (a ls : Nat) : ∀ (R : List Rn) (e : Nat) (acc : List (Int × Int)) (p t : List Bool), (∀ g, fro a g acc = (e : Int) + (g : Int)) → Sep ((e : Int) - 1) R → (∀ q ∈ R, ls ≤ q.2 ∧ q.2 ≤ 300 ∧ q.1 + q.2 ≤ 1048577) →
    prn (p ++ (gams (rnx ls e R) ++ t)) a ls R.length acc p.length = some (acc ++ rz R, p.length + (gams (rnx ls e R)).length)
  | [], e, acc, p, t, _, _, _ => by simp [prn, rnx, gams, rz]
  | q :: R, e, acc, p, t, hf, hs, hb => by
    obtain ⟨s1, s2, s3⟩ := hs
    obtain ⟨b1, b2, b3⟩ := hb q (by simp)
    unfold rnx
    rw [gams_cons, gams_cons]
    have e1 := pnum_gam p (gam (q.2 - ls) ++ (gams (rnx ls (q.1 + q.2 + 1) R) ++ t)) (q.1 - e) 2097152 (by omega) (by omega)
    have e2 := pnum_gam (p ++ gam (q.1 - e)) (gams (rnx ls (q.1 + q.2 + 1) R) ++ t) (q.2 - ls) 300 (by omega) (by omega)
    rw [List.append_assoc, List.length_append] at e2
    rw [List.append_assoc, List.append_assoc]
    show prn _ a ls (R.length + 1) acc _ = _
    unfold prn
    rw [e1]
    simp only
    rw [e2]
    simp only
    rw [hf, show (e : Int) + ((q.1 - e : Nat) : Int) = (q.1 : Int) by omega, show ls + (q.2 - ls) = q.2 by omega]
    have ih := prn_gams a ls R (q.1 + q.2 + 1) (acc ++ [((q.1 : Int), (q.2 : Int))]) (p ++ (gam (q.1 - e) ++ gam (q.2 - ls))) t (fun g => by simp [fro]) (by
      rwa [show ((q.1 + q.2 + 1 : Nat) : Int) - 1 = ((q.1 + q.2 : Nat) : Int) by omega]) (fun c hc => hb c (by simp [hc]))
    rw [List.append_assoc, List.append_assoc, List.length_append, List.length_append, ← Nat.add_assoc] at ih
    rw [ih]
    simp [rz, Nat.add_assoc]
theorem pruns_gams (a ls : Nat) (ha : a ≤ 1048576) (R : List Rn) (p t : List Bool) (hl : R.length ≤ 300) (hs : Sep (-1) R) (hb : ∀ q ∈ R, ls ≤ q.2 ∧ q.2 ≤ 300 ∧ q.1 + q.2 ≤ 1048577) :
    pruns (p ++ (gam R.length ++ (gams (rnu (a : Int) ls R) ++ t))) a ls p.length = some (rz R, p.length + (gam R.length).length + (gams (rnu (a : Int) ls R)).length) := by
  unfold pruns
  rw [pnum_gam p _ R.length 300 hl (by omega)]
  simp only
  cases R with
  | nil => simp [prn, rnu, gams, rz]
  | cons q R =>
    obtain ⟨s1, s2, s3⟩ := hs
    obtain ⟨b1, b2, b3⟩ := hb q (by simp)
    have hfo : fold ((q.1 : Int) - (a : Int)) ≤ 2097152 := by unfold fold; split <;> omega
    show prn _ a ls (R.length + 1) [] _ = _
    unfold rnu
    rw [gams_cons, gams_cons]
    have e1 := pnum_gam (p ++ gam (R.length + 1)) (gam (q.2 - ls) ++ (gams (rnx ls (q.1 + q.2 + 1) R) ++ t)) (fold ((q.1 : Int) - (a : Int))) 2097152 hfo (by omega)
    have e2 := pnum_gam (p ++ (gam (R.length + 1) ++ gam (fold ((q.1 : Int) - (a : Int))))) (gams (rnx ls (q.1 + q.2 + 1) R) ++ t) (q.2 - ls) 300 (by omega) (by omega)
    rw [List.append_assoc, List.length_append] at e1
    rw [List.append_assoc, List.append_assoc, List.length_append, List.length_append, ← Nat.add_assoc] at e2
    rw [List.append_assoc, List.append_assoc, List.length_cons]
    unfold prn
    rw [e1]
    simp only
    rw [e2]
    simp only
    rw [show fro a (fold ((q.1 : Int) - (a : Int))) [] = (q.1 : Int) from (by
      show (a : Int) + unfold_ _ = _
      rw [unfold_fold]; omega), show ls + (q.2 - ls) = q.2 by omega]
    have ih := prn_gams a ls R (q.1 + q.2 + 1) ([] ++ [((q.1 : Int), (q.2 : Int))]) (p ++ (gam (R.length + 1) ++ (gam (fold ((q.1 : Int) - (a : Int))) ++ gam (q.2 - ls)))) t (fun g => by simp [fro]) (by
      rwa [show ((q.1 + q.2 + 1 : Nat) : Int) - 1 = ((q.1 + q.2 : Nat) : Int) by omega]) (fun c hc => hb c (by simp [hc]))
    rw [List.append_assoc, List.append_assoc, List.append_assoc, List.length_append, List.length_append, List.length_append, ← Nat.add_assoc, ← Nat.add_assoc] at ih
    rw [ih]
    simp [rz, Nat.add_assoc]
theorem rsR_ok (ls : Nat) (r : List Nat) (h : Rising r) : OkR (rsR ls r) := by
  unfold rsR
  split
  · exact ⟨by simp, trivial, by simp⟩
  · exact okR_filter _ _ (rs_okR r h)
theorem rsR_ge (ls : Nat) (r : List Nat) : ∀ q ∈ rsR ls r, ls ≤ q.2 := by
  unfold rsR
  split
  · simp
  · intro q hq; have := (List.mem_filter.1 hq).2; simpa using this
theorem rsS_rising (ls : Nat) (r : List Nat) (h : Rising r) : Rising (rsS ls r) := by
  unfold rsS
  split
  · exact h
  · exact sht_rising ls r h
theorem rs_merge (ls : Nat) (r : List Nat) (h : Rising r) : mg (rsR ls r) (rsS ls r) = (r, 0) := by
  unfold rsR rsS
  split
  · exact mg_of (R := []) (by simp [flatR]) h
  · exact mg_split ls r h
theorem rsR_flat (ls : Nat) (r : List Nat) (h : Rising r) : mg (rsR ls r) [] = (flatR (rsR ls r), 0) ∧ (flatR (rsR ls r)).length + (rsS ls r).length = r.length := by
  have hm := (mg_zero (rsR_ok ls r h) (rsS_rising ls r h) (rs_merge ls r h)).2
  have hl : (flatR (rsR ls r)).length + (rsS ls r).length = r.length := by have := hm.length_eq; rwa [List.length_append] at this
  have hr : Rising (flatR (rsR ls r)) := flatR_sep_rising _ (rsR_ok ls r h) (by have := h.1; omega)
  exact ⟨mg_of (by rw [List.append_nil]) hr, hl⟩
theorem prest_bits (a ls k : Nat) (ha : a ≤ 1048576) (hk : 1 ≤ k) (r : List Nat) (h : Rising r) (p t : List Bool) :
    prest (p ++ (restB a ls k r ++ t)) a ls k (r.length : Int) p.length = some (r, p.length + (restB a ls k r).length) := by
  unfold prest restB
  by_cases h0 : r = []
  · subst h0; simp
  · rw [if_neg h0, if_neg (by have : r.length ≠ 0 := fun e => h0 (List.eq_nil_of_length_eq_zero e); omega)]
    obtain ⟨f1, f2⟩ := rsR_flat ls r h
    have hR := rsR_ok ls r h
    have hS := rsS_rising ls r h
    have e1 : (if ls = 0 then some ([], p.length) else pruns (p ++ (runB a ls r ++ zets k (gps (a : Int) (rsS ls r)) ++ t)) a ls p.length) = some (rz (rsR ls r), p.length + (runB a ls r).length) := by
      by_cases hz : ls = 0
      · rw [if_pos hz]; simp [rsR, runB, hz, rz]
      · rw [if_neg hz]
        have := pruns_gams a ls ha (rsR ls r) p (zets k (gps (a : Int) (rsS ls r)) ++ t) hR.1 hR.2.1 (fun q hq => ⟨rsR_ge ls r q hq, hR.2.2 q hq⟩)
        unfold runB
        rw [if_neg hz]
        simp only [List.append_assoc] at this ⊢
        rw [this, List.length_append, Nat.add_assoc]
    rw [e1]
    simp only
    rw [show ([] : List Int) = ns [] from rfl, mgA_ok _ hR [] ⟨by simp, trivial⟩, f1]
    simp only
    have e2 := rdG_gaps k a hk t (gps (a : Int) (rsS ls r)) (p ++ runB a ls r) [] (rsS ls r) (gps_le a ha _ hS) (bk_gps a ha _ hS)
    rw [gps_length, List.length_append, List.append_assoc] at e2
    rw [if_neg (by simp), if_neg (by omega), show ((r.length : Int) - ((flatR (rsR ls r)).length : Int)).toNat = (rsS ls r).length by omega, List.append_assoc, e2]
    simp only
    rw [mgA_ok _ hR _ hS, rs_merge ls r h]
    simp [Nat.add_assoc]
theorem le_sum : ∀ (B : List Nat) (b : Nat), b ∈ B → b ≤ B.sum
  | [], b, h => by simp at h
  | c :: t, b, h => by
    rw [List.sum_cons]
    rcases List.mem_cons.1 h with rfl | h
    · omega
    · have := le_sum t b h; omega
theorem bks_le (F l : List Nat) (h : F.length ≤ 300) : (bks F l).length ≤ 300 ∧ ∀ b ∈ bks F l, b ≤ 300 := by
  have h1 := bks_len F l
  have h2 := (bks_ok F l).2.2
  refine ⟨by omega, fun b hb => ?_⟩
  have := le_sum _ b hb
  omega
theorem ptake_bits (a bk ls k : Nat) (ha : a ≤ 1048576) (hk : 1 ≤ k) (l F : List Nat) (h : Rising l) (hF : bk ≠ 0 → Rising F) (p t : List Bool) :
    ptake (p ++ (sbits a bk ls k l F ++ t)) a bk ls k F p.length = some (l, p.length + (sbits a bk ls k l F).length) := by
  unfold ptake sbits
  rw [List.append_assoc, pnum_gam p _ l.length 300 h.1 (by have := h.1; omega)]
  simp only
  by_cases h0 : l = []
  · subst h0; simp
  · have hl : l.length ≠ 0 := fun e => h0 (List.eq_nil_of_length_eq_zero e)
    rw [if_neg hl, if_neg h0]
    by_cases hb : bk = 0
    · rw [if_pos hb]
      simp only [bksB, bksR, if_pos hb, List.nil_append]
      have := prest_bits a ls k ha hk l h (p ++ gam l.length) t
      rw [List.append_assoc, List.length_append] at this
      rw [this]
      simp [Nat.add_assoc]
    · rw [if_neg hb]
      simp only [bksB, bksR, if_neg hb]
      have hF := hF hb
      obtain ⟨q1, q2⟩ := bks_le F l hF.1
      unfold ptold
      have e1 := pblocks_gams (bks F l) (p ++ gam l.length) (restB a ls k (notin F l) ++ t) q1 q2 (bks_ok F l).2.1
      have e2 := prest_bits a ls k ha hk (notin F l) (notin_rising F l h) (p ++ (gam l.length ++ (gam (bks F l).length ++ gams (bnums (bks F l))))) t
      simp only [List.append_assoc, List.length_append] at e1 e2 ⊢
      rw [e1]
      simp only
      rw [if_neg (by rw [bchk_ok _ _ (bks_ok F l)]; simp), cp_bks]
      have hlen := both_len F l hF h
      rw [show (l.length : Int) - ((both F l).length : Int) = ((notin F l).length : Int) by omega]
      simp only [Nat.add_assoc] at e2 ⊢
      rw [e2]
      simp only
      rw [un_back F l hF h]
      simp
/-- Read, of what was written. -/
theorem sread_bits (a bk ls k : Nat) (ha : a ≤ 1048576) (hk : 1 ≤ k) (l F : List Nat) (h : Rising l) (hF : bk ≠ 0 → Rising F) (p t : List Bool) :
    sread (p ++ (sbits a bk ls k l F ++ t)) a bk ls k F p.length = (l, p.length + (sbits a bk ls k l F).length, 0) := by
  unfold sread
  rw [ptake_bits a bk ls k ha hk l F h hF p t]
  simp only
  rw [if_pos (by rw [List.drop_append_of_le_length (Nat.le_refl _), List.drop_length, List.nil_append, List.take_append_of_le_length (Nat.le_refl _), List.take_length])]

/-! what is read is right, and was so written -/
theorem mgA_rising (r : List (Int × Int)) (xs : List Int) (h : (mgA r xs).2 = 0) : Rising (mgA r xs).1 := by
  unfold mgA at h ⊢
  by_cases h0 : mgE0 r xs = 0
  · rw [if_neg (by simpa using h0)] at h ⊢
    obtain ⟨R, l, rfl, hR, rfl, hl⟩ := mgA_zero r xs h0
    rw [rn_rz, show (ns l).map Int.toNat = l from ns_nat l] at h ⊢
    exact (mg_zero hR hl (Prod.ext rfl h)).1
  · rw [if_pos (by simpa using h0)]; exact ⟨by simp, trivial⟩
theorem un_rising (a b : List Nat) (ha : Rising a) (hb : Rising b) (h : (un a b).2 = 0) : Rising (un a b).1 := by
  rcases un_or a b with e | e | ⟨e, hl⟩
  · rw [e]; exact ⟨by simp, trivial⟩
  · rw [e]; exact ⟨by simp, trivial⟩
  · rw [e]
    refine ⟨hl, (ris_pairwise _ _).2 ⟨fun x hx => ?_, ?_⟩⟩
    · rcases List.mem_append.1 ((nso_perm (a ++ b)).subset hx) with h | h
      · exact ris_le a _ ha.2 x h
      · exact ris_le b _ hb.2 x h
    · have ht : tw (nso (a ++ b)) = false := by
        cases hh : tw (nso (a ++ b)) with
        | false => rfl
        | true => unfold un at e; rw [if_pos hh] at e; simp at e
      exact (tw_false _ (nso_sorted _)).1 ht
theorem prest_rising (L : List Bool) (a ls k : Nat) (many : Int) (s : Nat) (l : List Nat) (s' : Nat) (h : prest L a ls k many s = some (l, s')) : Rising l := by
  unfold prest at h
  split at h
  · cases h; exact ⟨by simp, trivial⟩
  · split at h
    · cases h
    · split at h
      · cases h
      · split at h
        · cases h
        · split at h
          · cases h
          · split at h
            · cases h
            · rename_i hh
              cases h
              exact mgA_rising _ _ (by simpa using hh)
theorem ptake_rising (L : List Bool) (a bk ls k : Nat) (F : List Nat) (hF : bk ≠ 0 → Rising F) (s : Nat) (l : List Nat) (s' : Nat) (h : ptake L a bk ls k F s = some (l, s')) : Rising l := by
  unfold ptake at h
  split at h
  · cases h
  · split at h
    · cases h; exact ⟨by simp, trivial⟩
    · split at h
      · exact prest_rising _ _ _ _ _ _ _ _ h
      · rename_i hb
        unfold ptold at h
        split at h
        · cases h
        · split at h
          · cases h
          · split at h
            · cases h
            · rename_i hp
              split at h
              · cases h
              · rename_i hu
                cases h
                exact un_rising _ _ (cp_rising _ _ (hF hb)) (prest_rising _ _ _ _ _ _ _ _ hp) (by simpa using hu)
theorem sread_cases (L : List Bool) (a bk ls k : Nat) (F : List Nat) (s : Nat) : (sread L a bk ls k F s).2.2 = 0 ∨ sread L a bk ls k F s = ([], 0, 1) := by
  unfold sread
  split
  · exact .inr rfl
  · split
    · exact .inl rfl
    · exact .inr rfl
theorem sread_only (L : List Bool) (a bk ls k : Nat) (ha : a ≤ 1048576) (hk : 1 ≤ k) (F : List Nat) (hF : bk ≠ 0 → Rising F) (s : Nat) (hs : s ≤ L.length) (l : List Nat) (s' : Nat) (h : sread L a bk ls k F s = (l, s', 0)) :
    Rising l ∧ s' = s + (sbits a bk ls k l F).length ∧ (L.drop s).take (sbits a bk ls k l F).length = sbits a bk ls k l F := by
  unfold sread at h
  split at h
  · cases h
  · rename_i l2 s2 hp
    split at h
    · rename_i he
      cases h
      have hr := ptake_rising L a bk ls k F hF s l s' hp
      have hd : L = L.take s ++ (sbits a bk ls k l F ++ (L.drop s).drop (sbits a bk ls k l F).length) := by
        conv => lhs; rw [← List.take_append_drop s L, ← List.take_append_drop (sbits a bk ls k l F).length (L.drop s), he]
      have hl : (L.take s).length = s := by rw [List.length_take]; omega
      have := ptake_bits a bk ls k ha hk l F hr hF (L.take s) ((L.drop s).drop (sbits a bk ls k l F).length)
      rw [← hd, hl, hp] at this
      simp only [Option.some.injEq, Prod.mk.injEq] at this
      exact ⟨hr, this.2, he⟩
    · cases h
/-- The bits of which list they are: at most of one. -/
theorem sread_uniq (L : List Bool) (a bk ls k : Nat) (ha : a ≤ 1048576) (hk : 1 ≤ k) (F : List Nat) (hF : bk ≠ 0 → Rising F) (s : Nat) (hs : s ≤ L.length) (l : List Nat) (hl : Rising l) (h : (L.drop s).take (sbits a bk ls k l F).length = sbits a bk ls k l F) :
    sread L a bk ls k F s = (l, s + (sbits a bk ls k l F).length, 0) := by
  have hd : L = L.take s ++ (sbits a bk ls k l F ++ (L.drop s).drop (sbits a bk ls k l F).length) := by
    conv => lhs; rw [← List.take_append_drop s L, ← List.take_append_drop (sbits a bk ls k l F).length (L.drop s), h]
  have hl2 : (L.take s).length = s := by rw [List.length_take]; omega
  have := sread_bits a bk ls k ha hk l F hl hF (L.take s) ((L.drop s).drop (sbits a bk ls k l F).length)
  rwa [← hd, hl2] at this
end Go.Proofs.YticdnodlapafoaaGreat
