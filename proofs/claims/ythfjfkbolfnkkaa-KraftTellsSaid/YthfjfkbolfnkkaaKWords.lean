/- The words of lengths with their numbers: what wordsOf answers. -/
import Derived.Test.YthfjfkbolfnkkaaKSort
namespace Go.Proofs.Ythfjfkbolfnkkaa
set_option maxRecDepth 100000
set_option linter.unusedVariables false
open Go.RowKit Go.Shelf Go.Sort

/-- The first k words with their numbers, the others without. -/
def wmix (k : Nat) (W : List Wn) : List Wn := W.take k ++ (W.drop k).map (fun x => (x.1, x.2.1, 0))
theorem wmix_len (k : Nat) (W : List Wn) : (wmix k W).length = W.length := by simp [wmix]; omega
theorem wmix_one (W : List Wn) (h : ∀ x, W[0]? = some x → x.2.2 = 0) : wmix 1 W = W.map (fun x => (x.1, x.2.1, 0)) := by
  cases W with
  | nil => rfl
  | cons x t =>
    have := h x rfl
    obtain ⟨a, b, c⟩ := x
    simp at this
    subst this
    simp [wmix]
theorem wmix_all (k : Nat) (W : List Wn) (h : W.length ≤ k) : wmix k W = W := by
  unfold wmix
  rw [List.take_of_length_le h, List.drop_eq_nil_of_le h]; simp
def wAt (W : List Wn) (i : Nat) : Wn := W[i]?.getD (0, 0, 0)
theorem wmix_lo (k : Nat) (W : List Wn) (i : Nat) (h : i < k) (hW : i < W.length) : (wmix k W)[i]? = some (wAt W i) := by
  unfold wmix wAt
  rw [List.getElem?_append_left (by simp; omega), List.getElem?_take_of_lt h, List.getElem?_eq_getElem hW]; rfl
theorem wmix_hi (k : Nat) (W : List Wn) (i : Nat) (h : k ≤ i) (hW : i < W.length) : (wmix k W)[i]? = some ((wAt W i).1, (wAt W i).2.1, 0) := by
  unfold wmix wAt
  rw [List.getElem?_append_right (by simp; omega), List.getElem?_map, List.getElem?_drop]
  have : k + (i - (W.take k).length) = i := by simp; omega
  rw [this, List.getElem?_eq_getElem hW]; rfl
theorem wmix_succ (k : Nat) (W : List Wn) (h : k < W.length) : wmix (k + 1) W = (wmix k W).set k (wAt W k) := by
  apply List.ext_getElem?
  intro i
  rw [List.getElem?_set]
  by_cases hi : i < W.length
  · by_cases hk : k = i
    · subst hk
      rw [if_pos rfl, if_pos (by rw [wmix_len]; exact h), wmix_lo _ _ _ (by omega) hi]
    · rw [if_neg hk]
      rcases Nat.lt_or_ge i k with h' | h'
      · rw [wmix_lo _ _ _ (by omega) hi, wmix_lo _ _ _ h' hi]
      · rw [wmix_hi _ _ _ (by omega) hi, wmix_hi _ _ _ h' hi]
  · rw [List.getElem?_eq_none (by rw [wmix_len]; omega), if_neg (by omega), List.getElem?_eq_none (by rw [wmix_len]; omega)]
/-- Each number is told by the word ahead. -/
theorem wn_nums : ∀ (t : List Wd) (a : Nat), t.Pairwise (fun p q => p.2 ≤ q.2) → (∀ p ∈ t, p.2 ≤ 24 ∧ 2 ^ (24 - p.2) ∣ a) → ∀ i, i + 1 < t.length →
    (wAt (wn a t) (i + 1)).2.2 = ((wAt (wn a t) i).2.2 + 1) * 2 ^ ((wAt (wn a t) (i + 1)).2.1 - (wAt (wn a t) i).2.1) ∧ (wAt (wn a t) i).2.1 ≤ (wAt (wn a t) (i + 1)).2.1
  | [], a, _, _, i, h => by simp at h
  | [p], a, _, _, i, h => by simp at h
  | p :: q :: t, a, hs, hd, i, h => by
    have h1 := List.pairwise_cons.1 hs
    have dp := hd p List.mem_cons_self
    have dq := hd q (List.mem_cons_of_mem _ List.mem_cons_self)
    cases i with
    | zero =>
      have hpq := h1.1 q List.mem_cons_self
      have := wn_step p q t a dp.2 hpq dq.1
      simp only [wn, wAt, List.getElem?_cons_zero, List.getElem?_cons_succ, Option.getD_some]
      exact ⟨this, hpq⟩
    | succ i =>
      have ih := wn_nums (q :: t) (a + 2 ^ (24 - p.2)) h1.2 (fun r hr => ⟨(hd r (List.mem_cons_of_mem _ hr)).1, Nat.dvd_add (hd r (List.mem_cons_of_mem _ hr)).2 (pow_dvd (by have := h1.1 r hr; omega))⟩) i (by simpa using h)
      simp only [wn, wAt, List.getElem?_cons_succ] at ih ⊢
      exact ih
theorem words_step (l : List Nat) (h24 : ∀ w ∈ l, w ≤ 24) (i : Nat) (h : i + 1 < (words l).length) :
    (wAt (words l) (i + 1)).2.2 = ((wAt (words l) i).2.2 + 1) * 2 ^ ((wAt (words l) (i + 1)).2.1 - (wAt (words l) i).2.1) ∧ (wAt (words l) i).2.1 ≤ (wAt (words l) (i + 1)).2.1 := by
  refine wn_nums _ 0 ((wsort_sorted _).imp (fun h => by unfold wle at h; omega)) (fun p hp => ⟨?_, Nat.dvd_zero _⟩) i (by rw [← wn_length (wsort (uws 0 l)) 0]; exact h)
  obtain ⟨j, h1, h2, h3⟩ := (uws_mem l 0 p).1 ((wsort_perm _).subset hp)
  exact h24 _ (List.mem_of_getElem? h2)
theorem words_first (l : List Nat) : ∀ x, (words l)[0]? = some x → x.2.2 = 0 := by
  intro x hx
  unfold words at hx
  match hq : wsort (uws 0 l), hx with
  | [], hx => simp [wn] at hx
  | p :: t, hx => simp [wn] at hx; subst hx; simp
theorem words_w0 (l : List Nat) : (words l).map (fun x => (x.1, x.2.1, 0)) = w0 (wsort (uws 0 l)) := by
  rw [← words_map, w0, List.map_map]; rfl
theorem words_len (l : List Nat) : (words l).length = (uws 0 l).length := by
  unfold words; rw [wn_length, (wsort_perm _).length_eq]
theorem wAt_mem (W : List Wn) (i : Nat) (h : i < W.length) : wAt W i ∈ W := by unfold wAt; rw [List.getElem?_eq_getElem h]; exact List.getElem_mem h

theorem own_base {w : World} {base base' : Nat} {e : TypeId} {size n : Nat} {v : Value} {xs : List Value} (h : w.ownsRow base e size v n xs) (hb : base' ≤ base) : w.ownsRow base' e size v n xs := by
  refine ⟨h.1, ?_⟩
  rcases h.2 with h | ⟨g, cap, cur, h1, h2, h3⟩
  · exact .inl h
  · exact .inr ⟨g, cap, cur, h1, by omega, h3⟩
theorem own_at {w : World} {base : Nat} {e : TypeId} {k g n cap : Nat} {xs : List Value} (h : w.ownsRow base e k (.slice (some ⟨g, 0, none⟩) n cap) n xs) {j : Nat} {u : Value} (hu : xs[j]? = some u) :
    w.cell? ⟨g, j, none⟩ = some u ∧ w.frozen? ⟨g, j, none⟩ = false ∧ base ≤ g ∧ g < w.heap.size := by
  rcases h.2 with ⟨h, _⟩ | ⟨g', cap', cur, hv, hb, hg, h1, h2, h3, h4⟩
  · cases h
  · simp only [Value.slice.injEq, Option.some.injEq, Addr.mk.injEq, and_true, true_and] at hv
    obtain ⟨rfl, rfl⟩ := hv
    refine ⟨?_, by simp [World.frozen?, hg], hb, (Array.getElem?_eq_some_iff.1 hg).1⟩
    rw [cell_at hg, ← hu, ← h4]
    have hj : j < n * k := by have := (List.getElem?_eq_some_iff.1 hu).1; rw [h.1] at this; exact this
    rw [List.getElem?_take_of_lt hj]; simp
theorem own_put {w : World} {base : Nat} {e : TypeId} {k g n cap : Nat} {xs : List Value} (h : w.ownsRow base e k (.slice (some ⟨g, 0, none⟩) n cap) n xs) (j : Nat) (u : Value) :
    (w.setCell ⟨g, j, none⟩ u).ownsRow base e k (.slice (some ⟨g, 0, none⟩) n cap) n (xs.set j u) := by
  refine ⟨by simpa using h.1, .inr ?_⟩
  rcases h.2 with ⟨h, _⟩ | ⟨g', cap', cur, hv, hb, hg, h1, h2, h3, h4⟩
  · cases h
  · simp only [Value.slice.injEq, Option.some.injEq, Addr.mk.injEq, and_true, true_and] at hv
    obtain ⟨rfl, rfl⟩ := hv
    refine ⟨g, cap, cur.setIfInBounds j u, rfl, hb, ?_, h1, h2, by simpa using h3, ?_⟩
    · simp [World.setCell, Array.getElem?_modify, hg]
    · rw [Array.toList_setIfInBounds, List.take_set, h4]
theorem encs_get (W : List Wn) (i c : Nat) (hi : i < W.length) (hc : c < 3) : (W.flatMap encW)[i * 3 + c]? = (encW (wAt W i))[c]? := by
  have hl := flatMap_len encW 3 encW_len W
  have h := flatMap_get encW 3 encW_len W (i * 3 + c) (by omega)
  rw [show (i * 3 + c) / 3 = i by omega, show (i * 3 + c) % 3 = c by omega] at h
  have e1 : W[i]?.getD default = wAt W i := rfl
  rw [e1] at h
  rw [List.getElem?_eq_getElem (show i * 3 + c < (W.flatMap encW).length by omega)] at h ⊢
  rw [List.getElem?_eq_getElem (show c < (encW (wAt W i)).length from hc)] at h ⊢
  exact congrArg some h
theorem encs_set (W : List Wn) (i : Nat) (hi : i < W.length) (v : Nat) : (W.set i ((wAt W i).1, (wAt W i).2.1, v)).flatMap encW = (W.flatMap encW).set (i * 3 + 2) (.int .u64 (v : Int)) := by
  apply List.ext_getElem?
  intro t
  have hl := flatMap_len encW 3 encW_len W
  have hl2 := flatMap_len encW 3 encW_len (W.set i ((wAt W i).1, (wAt W i).2.1, v))
  rw [List.length_set] at hl2
  rw [List.getElem?_set]
  by_cases ht : t < W.length * 3
  · have et : t = t / 3 * 3 + t % 3 := by omega
    have h3 : t % 3 < 3 := Nat.mod_lt _ (by omega)
    have hq : t / 3 < W.length := by omega
    have e1 := encs_get (W.set i ((wAt W i).1, (wAt W i).2.1, v)) (t / 3) (t % 3) (by rw [List.length_set]; exact hq) h3
    have e2 := encs_get W (t / 3) (t % 3) hq h3
    rw [← et] at e1 e2
    rw [e1, e2]
    have e3 : wAt (W.set i ((wAt W i).1, (wAt W i).2.1, v)) (t / 3) = if t / 3 = i then ((wAt W i).1, (wAt W i).2.1, v) else wAt W (t / 3) := by
      unfold wAt
      rw [List.getElem?_set]
      by_cases h : i = t / 3
      · rw [if_pos h, if_pos hi, if_pos h.symm]; rfl
      · rw [if_neg h, if_neg (fun e => h e.symm)]
    rw [e3]
    by_cases h : t / 3 = i
    · rw [if_pos h, h]
      by_cases hc : i * 3 + 2 = t
      · rw [if_pos hc, if_pos (by rw [hl]; omega)]
        have : t % 3 = 2 := by omega
        rw [this]; rfl
      · rw [if_neg hc]
        have : t % 3 = 0 ∨ t % 3 = 1 := by omega
        rcases this with h' | h' <;> rw [h'] <;> rfl
    · rw [if_neg h, if_neg (by omega)]
  · rw [List.getElem?_eq_none (by omega), if_neg (by omega), List.getElem?_eq_none (by omega)]

/-- At each round's head: i words have their numbers. -/
def WoRel (l : List Nat) (w : World) (v p : Value) (wr : World) : Prop :=
  ∃ i : Nat, 1 ≤ i ∧ p = .int .i64 (i : Int) ∧ wr.ownsRow w.heap.size 60 3 v (words l).length ((wmix i (words l)).flatMap encW) ∧ Below w.heap.size w wr

set_option maxHeartbeats 1000000 in
theorem wordsOf_ok (l : List Nat) (n : Nat) (hn : l.length = n) (h64 : n ≤ 64) (h24 : ∀ x ∈ l, x ≤ 24) (hr : tkn l ≤ 16777216) (A : Option Addr) (c : Nat) (w : World) (h : RdV w w.heap.size A (zc (ns l))) :
    Calls Try.prog 36 #[.slice A n c] w fun e w' => ∃ v, e = .returned (.tuple #[v, .int .i64 0]) ∧ w'.ownsRow w.heap.size 60 3 v (words l).length ((words l).flatMap encW) ∧ Below w.heap.size w w' := by
  have HC := Lib.hid (room_ok l n hn h64 h24 A c w h)
  have HS : Hid (∀ V, Below w.heap.size w V → Calls Try.prog 69 #[.slice A n c] V fun e w' => ∃ v, e = .returned v ∧ w'.ownsRow w.heap.size 60 3 v (words l).length ((wmix 1 (words l)).flatMap encW) ∧ Below w.heap.size w w') := by
    intro V hV
    refine (sorted_ok l n hn h64 A c V (h.below hV hV.size)).mono ?_
    rintro e w' ⟨v, he, ho, hb⟩
    rw [wmix_one _ (words_first l), words_w0, words_len]
    exact ⟨v, he, own_base ho hV.size, hV.trans (hb.mono hV.size)⟩
  have HW := Lib.hid (words_step l h24)
  have HQ : Hid (∀ i, i < (words l).length → (wAt (words l) i).2.2 < 16777216 ∧ (wAt (words l) i).2.1 ≤ 24) := by
    intro i hi
    have hw := words_ok l h24
    have hm := wAt_mem _ i hi
    have h1 := words_lt hw hr hm
    have h2 := (hw.mem _ hm).2
    have h3 : 2 ^ (wAt (words l) i).2.1 ≤ 2 ^ 24 := Nat.pow_le_pow_right (by omega) h2.2
    exact ⟨by omega, h2.2⟩
  have HL : Hid ((words l).length ≤ 64) := by show _ ≤ _; rw [words_len]; have := uws_len l 0; omega
  clear h hn
  have hT : ¬ ((16777216 : Int) - (tkn l : Int) < 0) := by omega
  generalize (16777216 : Int) - (tkn l : Int) = R at *
  go_enter Try.func36, Try.ntmps36
  go_wp2_with fail
  refine HC.out.mono ?_
  rintro e w1 ⟨rfl, b1⟩
  go_wp2_with fail
  refine (HS.out w1 b1).mono ?_
  rintro e w2 ⟨v, rfl, o2, b2⟩
  clear b1
  rcases o2.2 with ⟨rfl, h0⟩ | ⟨g, cap, cur, rfl, hb, hg, h1, h2, h3, h4⟩
  · have HO : Hid (w2.ownsRow w.heap.size 60 3 (.slice none 0 0) (words l).length ((words l).flatMap encW)) := by
      have e0 : words l = [] := List.eq_nil_of_length_eq_zero h0
      show World.ownsRow _ _ _ _ _ _ _
      rw [e0]
      exact ⟨rfl, .inl ⟨rfl, rfl⟩⟩
    have HB := Lib.hid b2
    clear o2 b2 h0
    go_wp2
    refine wp_loop_rounds 1 ?_
    rw [rounds_succ]
    go_wp2
    go_ret2
    exact ⟨_, rfl, HO.out, HB.out⟩
  · have HO := Lib.hid o2; have HB := Lib.hid b2
    have hm : (words l).length ≤ 64 := HL.out
    clear o2 b2 hg h3 h4 hb
    generalize hmm : (words l).length = m at *
    have HM := Lib.hid hmm; clear hmm
    go_wp2
    go_loopw [7] (fun p wr => WoRel l w (.slice (some ⟨g, 0, none⟩) m cap) p wr) (fun p _ => m - (intOf p).toNat)
    case atStart => exact ⟨1, Nat.le_refl _, rfl, by rw [HM.out]; exact HO.out, HB.out⟩
    case round =>
      obtain ⟨i, hi1, rfl, hrow, hbel⟩ := hrel
      rw [HM.out] at hrow
      by_cases hlt : i < m
      · obtain ⟨ew, elw⟩ := HW.out (i - 1) (by omega)
        rw [show i - 1 + 1 = i by omega] at ew elw
        have l0 := wmix_lo i (words l) (i - 1) (by omega) (by rw [HM.out]; omega)
        have l1 := wmix_hi i (words l) i (Nat.le_refl _) (by rw [HM.out]; omega)
        have f0 := fun c hc => encs_get (wmix i (words l)) (i - 1) c (by rw [wmix_len, HM.out]; omega) hc
        have f1 := fun c hc => encs_get (wmix i (words l)) i c (by rw [wmix_len, HM.out]; omega) hc
        have g0 : wAt (wmix i (words l)) (i - 1) = wAt (words l) (i - 1) := by unfold wAt at l0 ⊢; rw [l0]; rfl
        have g1 : wAt (wmix i (words l)) i = ((wAt (words l) i).1, (wAt (words l) i).2.1, 0) := by unfold wAt at l1 ⊢; rw [l1]; rfl
        rw [g0] at f0
        rw [g1] at f1
        have hset : (wmix (i + 1) (words l)).flatMap encW = ((wmix i (words l)).flatMap encW).set (i * 3 + 2) (.int .u64 ((wAt (words l) i).2.2 : Int)) := by
          rw [wmix_succ i _ (by rw [HM.out]; exact hlt), ← encs_set _ i (by rw [wmix_len, HM.out]; omega), g1]
        have hn24 := HQ.out i hlt
        obtain ⟨a0, a1⟩ : ∃ s0 : Nat, (wAt (words l) (i - 1)).1 = s0 := ⟨_, rfl⟩
        obtain ⟨c00, z00, hbg, hgs⟩ := own_at hrow (show ((wmix i (words l)).flatMap encW)[(i - 1) * 3]? = some (.int .i64 ((wAt (words l) (i - 1)).1 : Int)) from f0 0 (by omega))
        have c01 := (own_at hrow (show ((wmix i (words l)).flatMap encW)[(i - 1) * 3 + 1]? = some (.int .i64 ((wAt (words l) (i - 1)).2.1 : Int)) from f0 1 (by omega))).1
        have c02 := (own_at hrow (show ((wmix i (words l)).flatMap encW)[(i - 1) * 3 + 2]? = some (.int .u64 ((wAt (words l) (i - 1)).2.2 : Int)) from f0 2 (by omega))).1
        have c11 := (own_at hrow (show ((wmix i (words l)).flatMap encW)[i * 3 + 1]? = some (.int .i64 ((wAt (words l) i).2.1 : Int)) from f1 1 (by omega))).1
        obtain ⟨c12, z12, _, _⟩ := own_at hrow (show ((wmix i (words l)).flatMap encW)[i * 3 + 2]? = some (.int .u64 (0 : Int)) from f1 2 (by omega))
        have HO' := Lib.hid hrow; have HB' := Lib.hid hbel; have HSet := Lib.hid hset
        clear hrow hbel hset l0 l1 f0 f1 g0 g1 z00 a0 a1
        generalize (wAt (words l) (i - 1)).1 = s0 at *
        generalize (wAt (words l) (i - 1)).2.1 = wb at *
        generalize (wAt (words l) (i - 1)).2.2 = nb0 at *
        generalize (wAt (words l) i).2.1 = wi at *
        generalize (wAt (words l) i).2.2 = nn at *
        obtain ⟨q, hq⟩ : ∃ q : Nat, 2 ^ (wi - wb) = q := ⟨_, rfl⟩
        have hqp : 0 < q := by rw [← hq]; exact Nat.two_pow_pos _
        have hq2 : (2 : Int) ^ (wi - wb) = (q : Int) := by rw [← hq]; simp
        rw [hq] at ew
        have e2 : (2 : Int) ^ ((wi : Int) - (wb : Int)).toNat = (q : Int) := by rw [show ((wi : Int) - (wb : Int)).toNat = wi - wb by omega]; exact hq2
        have hnb : nb0 < 18446744073709551615 := by
          have : (nb0 + 1) * 1 ≤ (nb0 + 1) * q := Nat.mul_le_mul_left _ hqp
          omega
        have hw01 : ¬ ((wi : Int) - (wb : Int) < 0) := by omega
        have HEW := Lib.hid ew
        have ew2 : ((nb0 : Int) + 1) * (q : Int) = (nn : Int) := by rw [ew]; simp
        clear hq ew
        go_wp2
        go_region
        have hbs : w.heap.size ≤ wr.heap.size := HB'.out.size
        have HO2 : Hid (((wr.setCell ⟨g, i * 3 + 2, none⟩ (.int .u64 (nn : Int))).alloc (.cells #[.int .i64 (s0 : Int), .int .i64 (wb : Int), .int .u64 (nb0 : Int)] 60)).drew.ownsRow w.heap.size 60 3 (.slice (some ⟨g, 0, none⟩) m cap) m ((wmix (i + 1) (words l)).flatMap encW)) := by
          show World.ownsRow _ _ _ _ _ _ _
          rw [HSet.out]
          exact (own_put HO'.out (i * 3 + 2) (.int .u64 (nn : Int))).alloc _
        have HB2 : Hid (Below w.heap.size w ((wr.setCell ⟨g, i * 3 + 2, none⟩ (.int .u64 (nn : Int))).alloc (.cells #[.int .i64 (s0 : Int), .int .i64 (wb : Int), .int .u64 (nb0 : Int)] 60)).drew) :=
          ((HB'.out.setCell hbg _).alloc (by simpa [World.setCell] using hbs) _).drew
        go_wp2
        go_roundw
        case rel => exact ⟨i + 1, by omega, by go_num, by rw [HM.out]; exact HO2.out, HB2.out⟩
        case measure => simp [intOf]; omega
      · have he := wmix_all i (words l) (by rw [HM.out]; omega)
        rw [he] at hrow
        have HO' := Lib.hid hrow; have HB' := Lib.hid hbel
        clear hrow hbel he
        go_wp2
        go_ret2
        exact ⟨_, rfl, by rw [HM.out]; exact HO'.out, HB'.out⟩

set_option maxHeartbeats 400000 in
theorem wordsOf_e (xs : List Int) (n : Nat) (hn : xs.length = n) (hn2 : n ≤ 9223372036854775807) (r : Int) (hr : kchk xs = r) (h0 : r ≠ 0) (A : Option Addr) (c : Nat) (w : World) (h : RdV w w.heap.size A (zc xs)) :
    Calls Try.prog 36 #[.slice A n c] w fun e w' => e = .returned (.tuple #[.slice none 0 0, .int .i64 r]) ∧ Below w.heap.size w w' := by
  have HC := Lib.hid (room_e xs n hn hn2 r hr h0 A c w h)
  clear h hn hr
  have t0 : (r == 0) = false := by simpa using h0
  clear h0
  go_enter Try.func36, Try.ntmps36
  go_wp2_with fail
  refine HC.out.mono ?_
  rintro e w1 ⟨rfl, b1⟩
  go_wp2
  go_ret2
  exact ⟨rfl, b1⟩
set_option maxHeartbeats 400000 in
theorem wordsOf_full (l : List Nat) (n : Nat) (hn : l.length = n) (h64 : n ≤ 64) (h24 : ∀ x ∈ l, x ≤ 24) (hr : 16777216 < tkn l) (A : Option Addr) (c : Nat) (w : World) (h : RdV w w.heap.size A (zc (ns l))) :
    Calls Try.prog 36 #[.slice A n c] w fun e w' => e = .returned (.tuple #[.slice none 0 0, .int .i64 8]) ∧ Below w.heap.size w w' := by
  have HC := Lib.hid (room_ok l n hn h64 h24 A c w h)
  clear h hn
  have hT : (16777216 : Int) - (tkn l : Int) < 0 := by omega
  generalize (16777216 : Int) - (tkn l : Int) = R at *
  go_enter Try.func36, Try.ntmps36
  go_wp2_with fail
  refine HC.out.mono ?_
  rintro e w1 ⟨rfl, b1⟩
  go_wp2
  go_ret2
  exact ⟨rfl, b1⟩
end Go.Proofs.Ythfjfkbolfnkkaa
