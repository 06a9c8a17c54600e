/- The document's own codes: length by length, each one the number behind the last one; plain facts: they are the codes of the words. -/
import Derived.Test.YthfjfkbolfnkkaaKRefA
import Derived.Test.YthfjfkbolfnkkaaRefNumA
import Derived.Test.YthfjfkbolfnkkaaKCodes
import Derived.Test.YthfjfkbolfnkkaaRefPack
import Derived.Test.YthfjfkbolfnkkaaRefGen
namespace Go.Proofs.Ythfjfkbolfnkkaa

section
set_option maxRecDepth 100000
set_option linter.unusedVariables false

def sb (p q : Wd) : Prop := p.2 < q.2 ∨ (p.2 = q.2 ∧ p.1 < q.1)
instance (p q : Wd) : Decidable (sb p q) := by unfold sb; exact inferInstance
theorem sb_irr (p : Wd) : ¬ sb p p := by unfold sb; omega
theorem sb_as {p q : Wd} (h : sb p q) : ¬ sb q p := by unfold sb at *; omega
theorem wn_st : ∀ (t : List Wd) (a : Nat), t.Pairwise sb → (∀ p ∈ t, 2 ^ (24 - p.2) ∣ a) → ∀ x ∈ wn a t, st x = a + tot (t.filter (fun p => decide (sb p (x.1, x.2.1))))
  | [], a, _, _, x, hx => by simp [wn] at hx
  | p :: t, a, hs, hd, x, hx => by
    have h1 := List.pairwise_cons.1 hs
    have hp := hd p List.mem_cons_self
    have e0 : a / 2 ^ (24 - p.2) * 2 ^ (24 - p.2) = a := Nat.div_mul_cancel hp
    unfold wn at hx
    rcases List.mem_cons.1 hx with rfl | hx
    · have e : (p :: t).filter (fun q => decide (sb q (p.1, p.2))) = [] := by
        rw [List.filter_eq_nil_iff]
        intro q hq
        rcases List.mem_cons.1 hq with rfl | hq
        · simpa using sb_irr q
        · simpa using sb_as (h1.1 q hq)
      simp only at e ⊢
      rw [e]
      unfold st
      simp only [tot]
      rw [e0]; rfl
    · have ih := wn_st t (a + 2 ^ (24 - p.2)) h1.2 (fun q hq => Nat.dvd_add (hd q (List.mem_cons_of_mem _ hq)) (pow_dvd (by have := h1.1 q hq; unfold sb at this; omega))) x hx
      have hm : (x.1, x.2.1) ∈ t := by
        have := List.mem_map_of_mem (f := fun x : Nat × Nat × Nat => (x.1, x.2.1)) hx
        rwa [wn_fst] at this
      rw [ih, List.filter_cons, if_pos (by simpa using h1.1 _ hm)]
      simp only [tot]; omega
theorem tot_before (n c : Nat) (h1 : 1 ≤ n) (h2 : n ≤ 24) : ∀ (l : List Nat) (i : Nat), tot ((uws i l).filter (fun p => decide (sb p (c, n)))) = 2 ^ (24 - n) * (2 * tkU (n - 1) l + (l.take (c - i)).count n)
  | [], i => by simp [uws, tot, tkU]
  | x :: t, i => by
    have ih := tot_before n c h1 h2 t (i + 1)
    unfold uws tkU
    have htk : ((x :: t).take (c - i)).count n = (t.take (c - (i + 1))).count n + if i < c ∧ x = n then 1 else 0 := by
      by_cases hc : i < c
      · rw [show c - i = (c - (i + 1)) + 1 by omega, List.take_succ_cons, List.count_cons]
        by_cases hx : x = n
        · simp [hx, hc]
        · simp [hx]
      · rw [show c - i = 0 by omega, show c - (i + 1) = 0 by omega]; simp; omega
    rw [htk]
    by_cases h0 : x = 0
    · have hD : (if x = 0 ∨ n - 1 < x then 0 else 2 ^ (n - 1 - x)) = 0 := if_pos (.inl h0)
      have hE : (if i < c ∧ x = n then 1 else 0) = 0 := if_neg (by omega)
      rw [hD, hE, if_pos h0, ih]; simp
    · rw [if_neg h0, List.filter_cons]
      by_cases hlt : x < n
      · have hC : decide (sb (i, x) (c, n)) = true := by simp [sb, hlt]
        have hD : (if x = 0 ∨ n - 1 < x then 0 else 2 ^ (n - 1 - x)) = 2 ^ (n - 1 - x) := if_neg (by omega)
        have hE : (if i < c ∧ x = n then 1 else 0) = 0 := if_neg (by omega)
        rw [hD, hE, hC, if_pos rfl]
        simp only [tot]
        rw [ih]
        have e : 2 ^ (24 - x) = 2 ^ (24 - n) * (2 * 2 ^ (n - 1 - x)) := by
          rw [show 2 * 2 ^ (n - 1 - x) = 2 ^ (n - 1 - x + 1) by rw [Nat.pow_succ]; omega, ← Nat.pow_add]; congr 1; omega
        rw [e, ← Nat.mul_add]; congr 1; omega
      · have hD : (if x = 0 ∨ n - 1 < x then 0 else 2 ^ (n - 1 - x)) = 0 := if_pos (by omega)
        rw [hD]
        by_cases hx : x = n
        · by_cases hc : i < c
          · have hC : decide (sb (i, x) (c, n)) = true := by simp [sb, hc, hx]
            have hE : (if i < c ∧ x = n then 1 else 0) = 1 := if_pos ⟨hc, hx⟩
            rw [hE, hC, if_pos rfl]
            simp only [tot]
            rw [ih, hx, show 2 * (0 + tkU (n - 1) t) + ((t.take (c - (i + 1))).count n + 1) = (2 * tkU (n - 1) t + (t.take (c - (i + 1))).count n) + 1 by omega, Nat.mul_succ]
            exact Nat.add_comm _ _
          · have hC : decide (sb (i, x) (c, n)) = false := by simp [sb, hc, hx]
            have hE : (if i < c ∧ x = n then 1 else 0) = 0 := if_neg (by omega)
            rw [hE, hC, if_neg (by simp), ih]; congr 1; omega
        · have hC : decide (sb (i, x) (c, n)) = false := decide_eq_false_iff_not.2 (by simp only [sb]; omega)
          have hE : (if i < c ∧ x = n then 1 else 0) = 0 := if_neg (by omega)
          rw [hE, hC, if_neg (by simp), ih]; congr 1; omega
/-- The number of the code of a symbol, as the document counts. -/
def cnm (l : List Nat) (s : Nat) : Nat := 2 * tkU (l[s]?.getD 0 - 1) l + (l.take s).count (l[s]?.getD 0)
theorem codOf_cnm (l : List Nat) (h24 : ∀ w ∈ l, w ≤ 24) (s : Nat) (hs : s < l.length) (h0 : l[s]?.getD 0 ≠ 0) : codOf (words l) s = nb (cnm l s) (l[s]?.getD 0) := by
  have hW := words_ok l h24
  have hls : l[s]? = some (l[s]?.getD 0) := by rw [List.getElem?_eq_getElem hs]; rfl
  obtain ⟨m, hm⟩ := hW.has s _ hls h0
  have hb := (hW.mem _ hm).2
  simp only at hb
  have hp := wsort_perm (uws 0 l)
  have hd : (wsort (uws 0 l)).Pairwise (fun a b => a.1 ≠ b.1) :=
    (hp.symm.pairwise_iff (R := fun a b : Wd => a.1 ≠ b.1) (fun h => h.symm)).1 ((uws_sorted l 0).imp (fun h => by omega))
  have hsb : (wsort (uws 0 l)).Pairwise sb := ((wsort_sorted (uws 0 l)).and hd).imp (fun ⟨a, b⟩ => by unfold wle at a; unfold sb; omega)
  have hst := wn_st (wsort (uws 0 l)) 0 hsb (fun p _ => Nat.dvd_zero _) _ hm
  rw [tot_perm (hp.filter _), Nat.zero_add] at hst
  have ht := tot_before (l[s]?.getD 0) s hb.1 hb.2 l 0
  simp only at hst
  rw [ht, Nat.sub_zero] at hst
  have hc := codOf_mem hW hm
  simp only at hc
  rw [hc]
  unfold code
  simp only
  congr 1
  unfold st at hst
  simp only at hst
  rw [Nat.mul_comm] at hst
  exact Nat.eq_of_mul_eq_mul_left (Nat.two_pow_pos _) hst
end

section
set_option maxRecDepth 100000
set_option linter.unusedVariables false
open Go.RowKit

/-- At each round's head: q places are still to be filled. -/
def NBRel (w : World) (n k : Nat) (v p : Value) (wr : World) : Prop :=
  ∃ q : Nat, q ≤ k ∧ p = .int .i64 ((q : Int) - 1) ∧ v = .int .u64 ((n / 2 ^ (k - q) : Nat) : Int) ∧ wr.ownsRow w.heap.size 3 1 (.slice (some ⟨w.heap.size, 0, none⟩) k k) k (ic (List.replicate q false ++ (nb n k).drop q)) ∧ Below w.heap.size w wr

theorem nb_fill (n k q : Nat) (h : q < k) : (ic (List.replicate (q + 1) false ++ (nb n k).drop (q + 1))).set q (.int .i64 ((n / 2 ^ (k - (q + 1)) % 2 : Nat) : Int)) = ic (List.replicate q false ++ (nb n k).drop q) := by
  have e1 : (nb n k).drop q = (n / 2 ^ (k - (q + 1)) % 2 == 1) :: (nb n k).drop (q + 1) := by
    rw [List.drop_eq_getElem_cons (by rw [nb_length]; exact h)]
    congr 1
    simp only [nb, List.getElem_map, List.getElem_range]
    rw [show k - 1 - q = k - (q + 1) from by omega]
  have e2 : (((n / 2 ^ (k - (q + 1)) % 2 == 1).toNat : Nat) : Int) = ((n / 2 ^ (k - (q + 1)) % 2 : Nat) : Int) := by
    generalize n / 2 ^ (k - (q + 1)) = y
    rcases (show y % 2 = 0 ∨ y % 2 = 1 by omega) with h | h <;> rw [h] <;> rfl
  rw [e1, List.replicate_succ', List.append_assoc]
  simp only [ic, List.map_append, List.map_cons, List.singleton_append]
  rw [List.set_append_right _ _ (by simp)]
  simp only [List.length_map, List.length_replicate, Nat.sub_self, List.set_cons_zero, e2]

set_option maxHeartbeats 1000000 in
theorem numBits_any (n k : Nat) (hk : k ≤ 64) (hn : n < 18446744073709551616) (L : List Bool) (hL : L = nb n k) (w : World) :
    Calls Try.prog 51 #[.int .u64 (n : Int), .int .i64 (k : Int)] w (Listed w L) := by
  obtain ⟨i0, hi, hz0, hz1, hz2⟩ := info_parts info3
  have HL := Lib.hid hL; clear hL
  go_enter Try.func51, Try.ntmps51
  go_wp2_with (first | (at_make; refine wpList_make_full _ rfl _ _ 22 rfl w.heap.size 3 i0 (.int .i64 0) 1 Try.underlying22 hi hz0 hz1 _ _ _ _ k rfl rfl rfl rfl (by rw [hz2]; omega) (by unfold maxLen; omega) (by omega) ?_; intro w1 hown1 hgrow1; rw [made_zero] at hown1; have HO := Lib.hid hown1; have HG : Hid (Below w.heap.size w w1) := (Below.refl _ w).grown hgrow1 (Nat.le_refl _) (fun k hk => by cases hk); clear hown1 hgrow1))
  go_loopw [0, 6] (fun v p wr => NBRel w n k v p wr) (fun _ p _ => (intOf p + 1).toNat)
  case atStart => exact ⟨k, Nat.le_refl _, rfl, by rw [Nat.sub_self, Nat.pow_zero, Nat.div_one], by rw [List.drop_of_length_le (by rw [nb_length]; omega), List.append_nil]; exact HO.out, HG.out⟩
  case round =>
    obtain ⟨q, hqk, hp, rfl, hrow, hbel⟩ := hrel
    have hyn : n / 2 ^ (k - q) ≤ n := Nat.div_le_self _ _
    rcases q with _ | q
    · have hp' := hp.trans (show Value.int .i64 (((0 : Nat) : Int) - 1) = Value.int .i64 (-1) from rfl)
      clear hp
      subst hp'
      have HF : Hid (Listed w L (.returned (.slice (some ⟨w.heap.size, 0, none⟩) k k)) wr) := by
        have hLl : L.length = k := by rw [HL.out, nb_length]
        refine ⟨_, k, by rw [hLl], ?_, hbel⟩
        rw [hLl, HL.out]
        simpa using hrow
      clear hrow hbel
      generalize n / 2 ^ (k - 0) = y at *
      go_wp2
      go_ret
      exact HF.out
    · have hp' := hp.trans (show Value.int .i64 (((q + 1 : Nat) : Int) - 1) = Value.int .i64 (q : Int) from by congr 1; omega)
      clear hp
      subst hp'
      have HS := Lib.hid (own_set (i := q) hrow (.int .i64 ((n / 2 ^ (k - (q + 1)) % 2 : Nat) : Int)))
      rw [nb_fill n k q (by omega)] at HS
      obtain ⟨cq, fq⟩ := own_cell hrow (i := q) (ic_get _ q (by rw [List.length_append, List.length_replicate]; omega))
      have HBel := Lib.hid hbel; clear hbel hrow
      have HH : Hid (n / 2 ^ (k - q) = n / 2 ^ (k - (q + 1)) / 2) := by
        show _ = _
        rw [show k - q = k - (q + 1) + 1 from by omega, Nat.pow_succ, Nat.div_div_eq_div_mul]
      generalize ((List.replicate (q + 1) false ++ (nb n k).drop (q + 1))[q]?.getD false).toNat = oldv at *
      generalize n / 2 ^ (k - (q + 1)) = y at *
      have iq0 : (0 : Int) ≤ (q : Int) := by omega
      have iq1 : (q : Int) < (k : Int) := by omega
      go_wp2
      refine ⟨⟨q, by omega, rfl, by rw [HH.out]; go_num, ?_, HBel.out.setCell (p := ⟨w.heap.size, q, none⟩) (Nat.le_refl _) _⟩, by simp [intOf]⟩
      have e : ((y : Int) % 2) = ((y % 2 : Nat) : Int) := by omega
      rw [e]
      exact HS.out
end

section
set_option maxRecDepth 100000
set_option linter.unusedVariables false
open Go.RowKit Go.Shelf Go.Sort

/-- The codes that stand behind length k and s symbols of it. -/
def cdp (l : List Nat) (k s t : Nat) : List Bool := if l[t]?.getD 0 ≠ 0 ∧ (l[t]?.getD 0 < k ∨ (l[t]?.getD 0 = k ∧ t < s)) then nb (cnm l t) (l[t]?.getD 0) else []
theorem cdp_start (l : List Nat) (t : Nat) : cdp l 1 0 t = [] := by unfold cdp; rw [if_neg (by omega)]
theorem cdp_next (l : List Nat) (k t : Nat) (ht : t < l.length) : cdp l k l.length t = cdp l (k + 1) 0 t := by
  unfold cdp
  have : (l[t]?.getD 0 ≠ 0 ∧ (l[t]?.getD 0 < k ∨ (l[t]?.getD 0 = k ∧ t < l.length))) ↔ (l[t]?.getD 0 ≠ 0 ∧ (l[t]?.getD 0 < k + 1 ∨ (l[t]?.getD 0 = k + 1 ∧ t < 0))) := by omega
  by_cases h : l[t]?.getD 0 ≠ 0 ∧ (l[t]?.getD 0 < k ∨ (l[t]?.getD 0 = k ∧ t < l.length))
  · rw [if_pos h, if_pos (this.1 h)]
  · rw [if_neg h, if_neg (fun q => h (this.2 q))]
theorem cdp_skip (l : List Nat) (k s t : Nat) (h : l[s]?.getD 0 ≠ k) : cdp l k (s + 1) t = cdp l k s t := by
  unfold cdp
  by_cases ht : t = s
  · subst ht
    have : (l[t]?.getD 0 ≠ 0 ∧ (l[t]?.getD 0 < k ∨ (l[t]?.getD 0 = k ∧ t < t + 1))) ↔ (l[t]?.getD 0 ≠ 0 ∧ (l[t]?.getD 0 < k ∨ (l[t]?.getD 0 = k ∧ t < t))) := by omega
    by_cases q : l[t]?.getD 0 ≠ 0 ∧ (l[t]?.getD 0 < k ∨ (l[t]?.getD 0 = k ∧ t < t))
    · rw [if_pos q, if_pos (this.2 q)]
    · rw [if_neg q, if_neg (fun z => q (this.1 z))]
  · have : (l[t]?.getD 0 ≠ 0 ∧ (l[t]?.getD 0 < k ∨ (l[t]?.getD 0 = k ∧ t < s + 1))) ↔ (l[t]?.getD 0 ≠ 0 ∧ (l[t]?.getD 0 < k ∨ (l[t]?.getD 0 = k ∧ t < s))) := by omega
    by_cases q : l[t]?.getD 0 ≠ 0 ∧ (l[t]?.getD 0 < k ∨ (l[t]?.getD 0 = k ∧ t < s))
    · rw [if_pos q, if_pos (this.2 q)]
    · rw [if_neg q, if_neg (fun z => q (this.1 z))]
theorem cdp_set (l : List Nat) (k s t : Nat) (hk : 1 ≤ k) (h : l[s]?.getD 0 = k) : cdp l k (s + 1) t = if t = s then nb (2 * tkU (k - 1) l + (l.take s).count k) k else cdp l k s t := by
  by_cases ht : t = s
  · subst ht
    rw [if_pos rfl]
    unfold cdp cnm
    rw [if_pos (by omega), h]
  · rw [if_neg ht]
    unfold cdp
    have : (l[t]?.getD 0 ≠ 0 ∧ (l[t]?.getD 0 < k ∨ (l[t]?.getD 0 = k ∧ t < s + 1))) ↔ (l[t]?.getD 0 ≠ 0 ∧ (l[t]?.getD 0 < k ∨ (l[t]?.getD 0 = k ∧ t < s))) := by omega
    by_cases q : l[t]?.getD 0 ≠ 0 ∧ (l[t]?.getD 0 < k ∨ (l[t]?.getD 0 = k ∧ t < s))
    · rw [if_pos q, if_pos (this.2 q)]
    · rw [if_neg q, if_neg (fun z => q (this.1 z))]
theorem cdp_end (l : List Nat) (h24 : ∀ w ∈ l, w ≤ 24) (t : Nat) (ht : t < l.length) : cdp l 25 0 t = codOf (words l) t := by
  have hle : l[t]?.getD 0 ≤ 24 := by rw [List.getElem?_eq_getElem ht]; exact h24 _ (List.getElem_mem ht)
  by_cases h0 : l[t]?.getD 0 = 0
  · rw [codOf_none (words_ok l h24) (fun w hw => by rw [hw] at h0; exact h0)]
    unfold cdp; rw [if_neg (fun q => q.1 h0)]
  · rw [codOf_cnm l h24 t ht h0]
    unfold cdp; rw [if_pos ⟨h0, .inl (by omega)⟩]
def ListK (w : World) (n : Nat) (l : List Bool) (e : Ending) (w' : World) : Prop :=
  ∃ A c, e = .returned (.slice A n c) ∧ RdV w' w'.heap.size A (ic l) ∧ Below w.heap.size w w'
def PkK (w : World) (k : Nat) (l : List Bool) (e : Ending) (w' : World) : Prop :=
  ∃ A c, e = .returned (.agg #[.int .i64 (k : Int), .slice A (pack l).length c]) ∧ Rd w' w'.heap.size A (pack l) ∧ Below w.heap.size w w'
def RowC (l : List Nat) (f : Nat → List Bool) (w2 : World) (g n : Nat) (wr : World) : Prop :=
  ∃ bs : List Bx, bs.map (fun x : Bx => x.1) = (List.range l.length).map f ∧
    wr.ownsRow w2.heap.size 26 2 (.slice (some ⟨g, 0, none⟩) n n) n (bs.flatMap encB) ∧ (∀ x ∈ bs, Rd wr wr.heap.size x.2.1 (pack x.1)) ∧ Below w2.heap.size w2 wr
theorem RowC.congr {l : List Nat} {f f' : Nat → List Bool} {w2 wr : World} {g n : Nat} (h : RowC l f w2 g n wr) (e : ∀ t, t < l.length → f t = f' t) : RowC l f' w2 g n wr := by
  obtain ⟨bs, h1, h2, h3, h4⟩ := h
  exact ⟨bs, h1.trans (List.map_congr_left fun t ht => e t (List.mem_range.1 ht)), h2, h3, h4⟩
def CrO (l : List Nat) (w2 : World) (g n : Nat) (v p : Value) (wr : World) : Prop :=
  ∃ k : Nat, 1 ≤ k ∧ k ≤ 25 ∧ p = .int .i64 (k : Int) ∧ v = .int .u64 ((tkU (k - 1) l : Nat) : Int) ∧ RowC l (cdp l k 0) w2 g n wr
def CrI (l : List Nat) (k : Nat) (w2 : World) (g n : Nat) (v p : Value) (wr : World) : Prop :=
  ∃ s : Nat, s ≤ n ∧ p = .int .i64 (s : Int) ∧ v = .int .u64 ((2 * tkU (k - 1) l + (l.take s).count k : Nat) : Int) ∧ RowC l (cdp l k s) w2 g n wr

set_option maxHeartbeats 4000000 in
theorem refcodes_ok (l : List Nat) (n : Nat) (hn : l.length = n) (h64 : n ≤ 64) (h24 : ∀ x ∈ l, x ≤ 24) (hr : tkn l ≤ 16777216) (A : Option Addr) (c : Nat) (w : World) (h : RdV w w.heap.size A (zc (ns l))) :
    Calls Try.prog 18 #[.slice A n c] w (GotC w (codes l)) := by
  obtain ⟨i0, hi, hz0, hz1, hz2⟩ := info_parts info_bits
  have HC0 := refchk_any (ns l) n (by rw [ns_length]; exact hn) (by omega) A c w h
  rw [show kchk (ns l) = 0 from kchk_ok l (by omega) h24] at HC0
  have HC := Lib.hid HC0
  have HRm : Hid (∀ V, Below w.heap.size w V → Calls Try.prog 17 #[.slice A n c] V fun e w' => e = .returned (.int .i64 (16777216 - (tkn l : Int))) ∧ Below V.heap.size V w') := fun V hV => refroom_ok l n hn h64 h24 A c V (h.on hV)
  have HX := Lib.hid h
  have HN := Lib.hid hn
  have HEnd : Hid (∀ t, t < l.length → cdp l 25 0 t = codOf (words l) t) := fun t ht => cdp_end l h24 t ht
  have HTb : Hid (∀ k, k ≤ 24 → tkU k l ≤ 536870912) := fun k hk => by have := tkU_bd k hk l; omega
  have tr : decide (16777216 - (tkn l : Int) < 0) = false := by simp; omega
  clear HC0 h hr h24
  go_enter Try.func18, Try.ntmps18
  go_wp2_with fail
  refine HC.out.mono ?_
  rintro e w1 ⟨rfl, b1⟩
  have HB1 := Lib.hid b1
  clear b1
  go_wp2_with fail
  refine (HRm.out w1 HB1.out).mono ?_
  rintro e w2 ⟨rfl, b2⟩
  have HB : Hid (Below w.heap.size w w2) := HB1.out.trans (b2.mono HB1.out.size)
  clear b2
  clear HB1 HRm HC
  generalize (16777216 - (tkn l : Int)) = rm at *
  go_wp2_with (at_make; refine wpList_make_full _ rfl _ _ 23 rfl w2.heap.size 26 i0 (.agg #[.int .i64 0, .slice none 0 0]) 2 Try.underlying23 hi hz0 hz1 _ _ _ _ n rfl rfl rfl rfl (by rw [hz2]; omega) (by unfold maxLen; omega) (Nat.le_refl _) ?_; intro w3 hown1 hgrow1)
  rw [bits_made] at hown1
  have HG : Hid (Below w2.heap.size w2 w3) := (Below.refl _ w2).grown hgrow1 (Nat.le_refl _) (fun k hk => by cases hk)
  have HO1 := Lib.hid hown1
  clear hown1 hgrow1
  obtain ⟨g, hg⟩ : ∃ g, w2.heap.size = g := ⟨_, rfl⟩
  rw [hg] at HO1
  rw [hg]
  have HRow0 : Hid (RowC l (cdp l 1 0) w2 g n w3) := by
    refine ⟨List.replicate n ([], none, 0), ?_, by rw [hg]; exact HO1.out, ?_, HG.out⟩
    · rw [HN.out]
      apply List.ext_getElem
      · simp
      · intro i h1 h2; simp [cdp_start]
    · intro x hx
      rw [(List.mem_replicate.1 hx).2]
      exact .inl rfl
  clear HO1 HG tr
  go_wp2
  go_loopw [6, 7] (fun v p wr => CrO l w2 g n v p wr) (fun _ p _ => 25 - (intOf p).toNat)
  case atStart => exact ⟨1, Nat.le_refl _, by decide, rfl, by rw [show 1 - 1 = 0 from rfl, tkU_zero]; rfl, HRow0.out⟩
  case round =>
    obtain ⟨k, hk1, hk2, rfl, rfl, hrow⟩ := hrel
    have HRw := Lib.hid hrow
    clear hrow
    by_cases hk : k ≤ 24
    · have hT := HTb.out (k - 1) (by omega)
      have HSu : Hid (2 * tkU (k - 1) l + l.count k = tkU k l) := by
        have := tkU_succ (k - 1) l
        rw [Nat.sub_add_cancel hk1] at this
        exact this.symm
      have HTk : Hid (tkU (k - 1) l = tkU (k - 1) l) := rfl
      have t1 : decide ((k : Int) ≤ 24) = true := by simp; omega
      have t2 : decide (k ≤ 24) = true := by simpa using hk
      obtain ⟨T, hTT⟩ : ∃ T, tkU (k - 1) l = T := ⟨_, rfl⟩
      rw [hTT] at hT
      have HTT := Lib.hid hTT
      rw [hTT]
      have tw : IntKind.u64.wrap (2 * (T : Int)) = 2 * (T : Int) := by simp [IntKind.wrap, IntKind.bits, IntKind.signed]; omega
      clear hTT HTk
      go_wp2
      go_loopw [6, 8] (fun v p w' => CrI l k w2 g n v p w') (fun _ p _ => n - (intOf p).toNat)
      case atStart => exact ⟨0, Nat.zero_le _, rfl, by rw [HTT.out]; simp, HRw.out⟩
      case round =>
        obtain ⟨s, hs, rfl, hv, hrow⟩ := hrel
        rw [HTT.out] at hv
        have hct : (l.take s).count k ≤ 64 := Nat.le_trans List.count_le_length (by rw [List.length_take]; have := HN.out; omega)
        have HRow := Lib.hid hrow
        by_cases hlt : s < n
        · have hin : s < l.length := by rw [HN.out]; exact hlt
          obtain ⟨bs, hbs, hro, hrd, hbel⟩ := hrow
          have hbn : bs.length = n := by have := congrArg List.length hbs; simpa [HN.out] using this
          obtain ⟨b, off, rfl, hb, hc1⟩ := (HX.out.on (HB.out.trans (hbel.mono HB.out.size))).at_ (ns_get l s hin)
          have hcs : (l.take (s + 1)).count k = (l.take s).count k + if l[s]?.getD 0 = k then 1 else 0 := by
            rw [take_snoc l s hin, List.count_append, List.count_singleton]; simp
          have HSet : Hid (l[s]?.getD 0 = k → ∀ t, cdp l k (s + 1) t = if t = s then nb (2 * T + (l.take s).count k) k else cdp l k s t) := fun h t => by rw [cdp_set l k s t hk1 h, HTT.out]
          have HSkip : Hid (l[s]?.getD 0 ≠ k → ∀ t, cdp l k s t = cdp l k (s + 1) t) := fun h t => (cdp_skip l k s t h).symm
          generalize l[s]?.getD 0 = x at *
          generalize hC : (l.take s).count k = C at *
          obtain ⟨M, hM⟩ : ∃ M, 2 * T + C = M := ⟨_, rfl⟩
          rw [hM] at hv HSet
          have t3 : decide ((s : Int) < (n : Int)) = true := by simp; omega
          have t4 : decide (s < n) = true := by simpa using hlt
          have t5 : (0 : Int) ≤ (s : Int) := by omega
          have t6 : (s : Int) < (n : Int) := by omega
          subst hv
          by_cases hx : x = k
          · rw [if_pos hx] at hcs
            have HV : Hid (2 * tkU (k - 1) l + (l.take (s + 1)).count k = M + 1) := by show _ = _; rw [HTT.out, hcs]; omega
            have HSn := Lib.hid (HSet.out hx)
            have t7 : ((x : Int) == (k : Int)) = true := by rw [hx]; simp
            have hMb : M ≤ 2000000000 := by omega
            obtain ⟨L, hLL⟩ : ∃ L, nb M k = L := ⟨_, rfl⟩
            have hLn : L.length = k := by rw [← hLL, nb_length]
            rw [hLL] at HSn
            have HNB : Hid (∀ V, Calls Try.prog 51 #[.int .u64 (M : Int), .int .i64 (k : Int)] V (ListK V k L)) := fun V =>
              (numBits_any M k (by omega) (by omega) L hLL.symm V).mono fun _ _ ⟨A', c', h1, h2, h3⟩ => ⟨A', c', by rw [h1, hLn], own_rdv h2, h3⟩
            have HPk : Hid (∀ (A5 : Option Addr) (c5 : Nat) (V : World), RdV V V.heap.size A5 (ic L) → Calls Try.prog 50 #[.slice A5 k c5] V (PkK V k L)) := fun A5 c5 V h =>
              (packBits_any L k hLn (by omega) A5 c5 V h).mono fun _ _ ⟨A', c', h1, h2, h3⟩ => ⟨A', c', by rw [h1, hLn], h2, h3⟩
            have d0 := own_at hro (encBs_get bs s 0 (by omega) (by omega))
            have hgw : g < wr.heap.size := d0.2.2.2
            have hgb : w2.heap.size ≤ g := d0.2.2.1
            have HRo := Lib.hid hro; have HRd := Lib.hid hrd; have HBel := Lib.hid hbel; have HBs := Lib.hid hbs; have HCl := Lib.hid hLn
            have HD : Hid (∀ w' : World, Below wr.heap.size wr w' → w'.ownsRow w2.heap.size 26 2 (.slice (some ⟨g, 0, none⟩) n n) n (bs.flatMap encB)) := fun w' hw => own_keep HRo.out hw.block
            have HD0 : Hid (∀ w' : World, Below wr.heap.size wr w' → w'.cell? ⟨g, s * 2, none⟩ = some (.int .i64 ((bAt bs s).1.length : Int)) ∧ w'.frozen? ⟨g, s * 2, none⟩ = false ∧ w'.cell? ⟨g, s * 2 + 1, none⟩ = some (.slice (bAt bs s).2.1 (pack (bAt bs s).1).length (bAt bs s).2.2) ∧ w'.frozen? ⟨g, s * 2 + 1, none⟩ = false) := by
              intro w' hw
              have q0 := own_at (HD.out w' hw) (encBs_get bs s 0 (by omega) (by omega))
              have q1 := own_at (HD.out w' hw) (encBs_get bs s 1 (by omega) (by omega))
              exact ⟨q0.1, q0.2.1, q1.1, q1.2.1⟩
            generalize hu0 : (Value.int .i64 ((bAt bs s).1.length : Int)) = u0 at *
            generalize hu1 : (Value.slice (bAt bs s).2.1 (pack (bAt bs s).1).length (bAt bs s).2.2) = u1 at *
            have tw9 : IntKind.u64.wrap ((M : Int) + 1) = (M : Int) + 1 := by simp [IntKind.wrap, IntKind.bits, IntKind.signed]; omega
            clear hu0 hu1 d0 hro hrd hbel hbs hcs hC hM hct hLL hLn HSet HSkip HRow HRw hx
            go_wp2_with fail
            refine (HNB.out _).mono ?_
            rintro e w4 ⟨A5, c5, rfl, r5, b4⟩
            have HR5 := Lib.hid r5; have HB4 := Lib.hid b4
            clear r5 b4
            go_wp2_with fail
            refine (HPk.out A5 c5 w4 HR5.out).mono ?_
            rintro e w5 ⟨A1, c1', rfl, r1, b5⟩
            have hr1 := Lib.hid r1
            have HB5 : Hid (Below wr.heap.size wr w5) := HB4.out.trans (b5.mono HB4.out.size)
            clear r1 b5 HB4 HR5 HPk HNB
            obtain ⟨q1, q2, q3, q4⟩ := HD0.out w5 HB5.out
            have hb5 := HB5.out
            have row5 := HD.out w5 hb5
            have hwl : (k : Int) = (L.length : Int) := by rw [HCl.out]
            have HRow6 : Hid (((w5.setCell ⟨g, s * 2, none⟩ (.int .i64 (k : Int))).setCell ⟨g, s * 2 + 1, none⟩ (.slice A1 (pack L).length c1')).ownsRow w2.heap.size 26 2 (.slice (some ⟨g, 0, none⟩) n n) n ((bs.set s (L, A1, c1')).flatMap encB)) := by
              show World.ownsRow _ _ _ _ _ _ _
              rw [encBs_set bs s (by omega), ← hwl]
              exact own_put (own_put row5 _ _) _ _
            have HRd6 : Hid (∀ x ∈ bs.set s (L, A1, c1'), Rd ((w5.setCell ⟨g, s * 2, none⟩ (.int .i64 (k : Int))).setCell ⟨g, s * 2 + 1, none⟩ (.slice A1 (pack L).length c1')) ((w5.setCell ⟨g, s * 2, none⟩ (.int .i64 (k : Int))).setCell ⟨g, s * 2 + 1, none⟩ (.slice A1 (pack L).length c1')).heap.size x.2.1 (pack x.1)) := by
              intro x hx
              have key : ∀ A' by', Rd w5 w5.heap.size A' by' → Rd ((w5.setCell ⟨g, s * 2, none⟩ (.int .i64 (k : Int))).setCell ⟨g, s * 2 + 1, none⟩ (.slice A1 (pack L).length c1')) ((w5.setCell ⟨g, s * 2, none⟩ (.int .i64 (k : Int))).setCell ⟨g, s * 2 + 1, none⟩ (.slice A1 (pack L).length c1')).heap.size A' by' := by
                intro A' by' h
                have h2 := rd_row row5 h ((w5.setCell ⟨g, s * 2, none⟩ (.int .i64 (k : Int))).setCell ⟨g, s * 2 + 1, none⟩ (.slice A1 (pack L).length c1')) (fun b hb => by rw [Below.heap_setCell _ _ _ _ hb, Below.heap_setCell _ _ _ _ hb])
                simpa [World.setCell] using h2
              rcases List.mem_or_eq_of_mem_set hx with hx | rfl
              · exact key _ _ ((HRd.out x hx).below hb5 hb5.size)
              · exact key _ _ hr1.out
            have HB6 : Hid (Below w2.heap.size w2 ((w5.setCell ⟨g, s * 2, none⟩ (.int .i64 (k : Int))).setCell ⟨g, s * 2 + 1, none⟩ (.slice A1 (pack L).length c1'))) := ((HBel.out.trans (hb5.mono HBel.out.size)).setCell hgb _).setCell hgb _
            have HBs6 : Hid ((bs.set s (L, A1, c1')).map (fun x : Bx => x.1) = (List.range l.length).map (cdp l k (s + 1))) := by
              show _ = _
              rw [List.map_set, HBs.out]
              apply List.ext_getElem?
              intro t
              rw [List.getElem?_set, List.length_map, List.length_range, List.getElem?_map, List.getElem?_map]
              by_cases ht : t < l.length
              · rw [List.getElem?_range ht, Option.map_some, Option.map_some, HSn.out t]
                by_cases hst : s = t
                · rw [if_pos hst, if_pos (by omega), if_pos hst.symm]
                · rw [if_neg hst, if_neg (fun e => hst e.symm)]
              · rw [List.getElem?_eq_none (by simp; omega)]
                simp
                omega
            clear hwl hb5 row5 hr1 HB5 HD HD0
            go_wp2
            go_roundw
            case rel => exact ⟨s + 1, by omega, by go_num, by rw [HV.out]; go_num, bs.set s (L, A1, c1'), HBs6.out, HRow6.out, HRd6.out, HB6.out⟩
            case measure => simp [intOf]; omega
          · rw [if_neg hx] at hcs
            have HV : Hid (2 * tkU (k - 1) l + (l.take (s + 1)).count k = M) := by show _ = _; rw [HTT.out, hcs]; omega
            have HR2 := Lib.hid (HRow.out.congr (fun t _ => HSkip.out hx t))
            have t7 : ((x : Int) == (k : Int)) = false := by simp; omega
            clear hro hrd hbel hbs hcs hC hM hct HSet HSkip HRow HRw hx
            go_wp2
            go_roundw
            case rel => exact ⟨s + 1, by omega, by go_num, by rw [HV.out], HR2.out⟩
            case measure => simp [intOf]; omega
        · obtain rfl : s = n := by omega
          have HR2 : Hid (RowC l (cdp l (k + 1) 0) w2 g s wr) := HRow.out.congr (fun t ht => by rw [← HN.out]; exact cdp_next l k t ht)
          have HV : Hid (2 * T + (l.take s).count k = tkU k l) := by show _ = _; rw [List.take_of_length_le (by rw [HN.out]; omega), ← HTT.out]; exact HSu.out
          rw [HV.out] at hv
          subst hv
          have t3 : decide ((s : Int) < (s : Int)) = false := by simp
          have t4 : decide (s < s) = false := by simp
          clear hrow hct HRow HRw
          generalize hTk : tkU k l = Tk at *
          have HTk := Lib.hid hTk
          clear hTk
          go_wp2
          go_roundw
          case rel => exact ⟨k + 1, by omega, by omega, by go_num, by rw [Nat.add_sub_cancel, HTk.out], HR2.out⟩
          case measure => simp [intOf]; omega
    · obtain rfl : k = 25 := by omega
      obtain ⟨bs, h1, h2, h3, h4⟩ := HRw.out.congr HEnd.out
      have HBs : Hid (bs.map (fun x : Bx => x.1) = codes l) := h1
      have HRr := Lib.hid (own_rdr h2 h3)
      have HBel := Lib.hid h4
      have HLn : Hid ((codes l).length = n) := by show _ = _; rw [codes_length, HN.out]
      clear h1 h2 h3 h4 hk
      go_wp2
      go_ret2
      exact ⟨_, n, bs, by rw [HLn.out]; rfl, HBs.out, HRr.out, HB.out.trans (HBel.out.mono HB.out.size)⟩
end
end Go.Proofs.Ythfjfkbolfnkkaa
