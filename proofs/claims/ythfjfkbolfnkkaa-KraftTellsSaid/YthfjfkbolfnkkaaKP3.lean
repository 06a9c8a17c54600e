/- Plain facts: codes for lengths begin with no other one, and are read back. No condition but those that each fact names. -/
import Derived.Test.YthfjfkbolfnkkaaKP2
namespace Go.Proofs.Ythfjfkbolfnkkaa
set_option linter.unusedVariables false

abbrev Wn := Nat × Nat × Nat
def words (l : List Nat) : List Wn := wn 0 (wsort (uws 0 l))
def code (x : Wn) : List Bool := nb x.2.2 x.2.1
theorem code_length (x : Wn) : (code x).length = x.2.1 := nb_length _ _

theorem pair_or {α : Type} {R : α → α → Prop} : ∀ {l : List α}, l.Pairwise R → ∀ {x y : α}, x ∈ l → y ∈ l → x ≠ y → R x y ∨ R y x
  | [], _, x, y, h, _, _ => by simp at h
  | a :: t, hp, x, y, hx, hy, hn => by
    have h := List.pairwise_cons.1 hp
    rcases List.mem_cons.1 hx with e1 | k1
    · rcases List.mem_cons.1 hy with e2 | k2
      · exact absurd (e1.trans e2.symm) hn
      · exact .inl (e1 ▸ h.1 y k2)
    · rcases List.mem_cons.1 hy with e2 | k2
      · exact .inr (e2 ▸ h.1 x k1)
      · exact pair_or h.2 k1 k2 hn

/-- What words of lengths are. -/
structure Words (l : List Nat) (W : List Wn) : Prop where
  mem : ∀ x ∈ W, l[x.1]? = some x.2.1 ∧ 1 ≤ x.2.1 ∧ x.2.1 ≤ 24
  has : ∀ s w, l[s]? = some w → w ≠ 0 → ∃ n, (s, w, n) ∈ W
  row : W.Pairwise (fun x y => en x ≤ st y ∧ wle (x.1, x.2.1) (y.1, y.2.1) ∧ x.1 ≠ y.1)
  top : ∀ x ∈ W, en x ≤ tkn l
theorem words_map (l : List Nat) : (words l).map (fun x => (x.1, x.2.1)) = wsort (uws 0 l) := wn_fst _ _
theorem words_ok (l : List Nat) (h24 : ∀ w ∈ l, w ≤ 24) : Words l (words l) := by
  have hp := wsort_perm (uws 0 l)
  have hs := wsort_sorted (uws 0 l)
  have hm := words_map l
  have hb : ∀ p ∈ wsort (uws 0 l), 1 ≤ p.2 ∧ p.2 ≤ 24 := by
    intro p hpp
    obtain ⟨j, h1, h2, h3⟩ := (uws_mem l 0 p).1 (hp.subset hpp)
    exact ⟨by omega, h24 _ (List.mem_of_getElem? h2)⟩
  have ha := wn_all (wsort (uws 0 l)) 0 hb (hs.imp (fun h => by unfold wle at h; omega)) (fun p _ => Nat.dvd_zero _)
  rw [tot_perm hp, tot_uws, Nat.zero_add] at ha
  have hd : (wsort (uws 0 l)).Pairwise (fun a b => a.1 ≠ b.1) :=
    (hp.symm.pairwise_iff (R := fun a b : Wd => a.1 ≠ b.1) (fun h => h.symm)).1 ((uws_sorted l 0).imp (fun h => by omega))
  have mem : ∀ x ∈ words l, (x.1, x.2.1) ∈ wsort (uws 0 l) := fun x hx => by
    rw [← hm]; exact List.mem_map_of_mem hx
  refine ⟨fun x hx => ?_, fun s w h h0 => ?_, ?_, fun x hx => (ha.1 x hx).2⟩
  · have := mem x hx
    obtain ⟨j, h1, h2, h3⟩ := (uws_mem l 0 _).1 (hp.subset this)
    have h4 := hb _ this
    simp at h1 h2 h4
    subst h1
    exact ⟨h2, h4.1, h4.2⟩
  · have : (s, w) ∈ wsort (uws 0 l) := hp.symm.subset ((uws_mem l 0 (s, w)).2 ⟨s, by simp, h, h0⟩)
    rw [← hm] at this
    obtain ⟨x, hx, e⟩ := List.mem_map.1 this
    simp only [Prod.mk.injEq] at e
    exact ⟨x.2.2, by rw [← e.1, ← e.2]; exact hx⟩
  · rw [← hm] at hs hd
    exact ha.2.and ((List.pairwise_map.1 hs).and ((List.pairwise_map (f := fun x : Wn => (x.1, x.2.1)) (R := fun a b : Wd => a.1 ≠ b.1)).1 hd))

theorem words_lt {l : List Nat} {W : List Wn} (h : Words l W) (hr : tkn l ≤ 2 ^ 24) {x : Wn} (hx : x ∈ W) : x.2.2 + 1 ≤ 2 ^ x.2.1 := by
  have h1 := h.top x hx
  have h2 := (h.mem x hx).2
  unfold en at h1
  have e : 2 ^ 24 = 2 ^ x.2.1 * 2 ^ (24 - x.2.1) := by rw [← Nat.pow_add]; congr 1; omega
  rw [e] at hr
  exact Nat.le_of_mul_le_mul_right (Nat.le_trans h1 hr) (Nat.two_pow_pos _)
theorem words_num {l : List Nat} {W : List Wn} (h : Words l W) (hr : tkn l ≤ 2 ^ 24) {x : Wn} (hx : x ∈ W) : num (code x) = x.2.2 := by
  unfold code
  rw [num_nb, Nat.mod_eq_of_lt (by have := words_lt h hr hx; omega)]
theorem words_pf {l : List Nat} {W : List Wn} (h : Words l W) (hr : tkn l ≤ 2 ^ 24) {x y : Wn} (hx : x ∈ W) (hy : y ∈ W) (hxy : en x ≤ st y) : pf (code x) (code y) := by
  have nx := words_num h hr hx
  have ny := words_num h hr hy
  have bx := (h.mem x hx).2
  have by' := (h.mem y hy).2
  constructor
  · intro hp
    obtain ⟨hl, hn⟩ := (prefix_num _ _).1 hp
    rw [nx, ny, code_length, code_length] at hn
    rw [code_length, code_length] at hl
    have h1 := Nat.lt_div_mul_add (a := y.2.2) (Nat.two_pow_pos (y.2.1 - x.2.1))
    rw [← hn] at h1
    have h2 : y.2.2 < (x.2.2 + 1) * 2 ^ (y.2.1 - x.2.1) := by rw [Nat.add_mul, Nat.one_mul]; exact h1
    have h3 : st y < (x.2.2 + 1) * 2 ^ (y.2.1 - x.2.1) * 2 ^ (24 - y.2.1) := Nat.mul_lt_mul_of_pos_right h2 (Nat.two_pow_pos _)
    rw [Nat.mul_assoc, ← Nat.pow_add, show y.2.1 - x.2.1 + (24 - y.2.1) = 24 - x.2.1 by omega] at h3
    unfold en at hxy
    omega
  · intro hp
    obtain ⟨hl, hn⟩ := (prefix_num _ _).1 hp
    rw [nx, ny, code_length, code_length] at hn
    rw [code_length, code_length] at hl
    have h1 : y.2.2 * 2 ^ (x.2.1 - y.2.1) ≤ x.2.2 := by rw [hn]; exact Nat.div_mul_le_self _ _
    have h3 : y.2.2 * 2 ^ (x.2.1 - y.2.1) * 2 ^ (24 - x.2.1) ≤ x.2.2 * 2 ^ (24 - x.2.1) := Nat.mul_le_mul_right _ h1
    rw [Nat.mul_assoc, ← Nat.pow_add, show x.2.1 - y.2.1 + (24 - x.2.1) = 24 - y.2.1 by omega] at h3
    have := en_st x
    have := Nat.two_pow_pos (24 - x.2.1)
    unfold st at *
    omega
theorem words_row {l : List Nat} {W : List Wn} (h : Words l W) (hr : tkn l ≤ 2 ^ 24) {x y : Wn} (hx : x ∈ W) (hy : y ∈ W) (hn : x ≠ y) : pf (code x) (code y) := by
  rcases pair_or h.row hx hy hn with k | k
  · exact words_pf h hr hx hy k.1
  · exact pf_symm (words_pf h hr hy hx k.1)
theorem words_same {l : List Nat} {W : List Wn} (h : Words l W) {x y : Wn} (hx : x ∈ W) (hy : y ∈ W) (he : x.1 = y.1) : x = y := by
  by_cases hn : x = y
  · exact hn
  · rcases pair_or h.row hx hy hn with k | k
    · exact absurd he k.2.2
    · exact absurd he.symm k.2.2

/-! ### The code of each sign -/
def codOf (W : List Wn) (s : Nat) : List Bool := match W.find? (fun x => x.1 == s) with
  | some x => code x
  | none => []
def codes (l : List Nat) : List (List Bool) := (List.range l.length).map (codOf (words l))
theorem codes_length (l : List Nat) : (codes l).length = l.length := by simp [codes]
theorem codOf_mem {l : List Nat} {W : List Wn} (h : Words l W) {x : Wn} (hx : x ∈ W) : codOf W x.1 = code x := by
  unfold codOf
  cases hf : W.find? (fun y => y.1 == x.1) with
  | none => have := List.find?_eq_none.1 hf x hx; simp at this
  | some y =>
    have h1 := List.find?_some hf
    have h2 := List.mem_of_find?_eq_some hf
    rw [words_same h h2 hx (by simpa using h1)]
theorem codOf_none {l : List Nat} {W : List Wn} (h : Words l W) {s : Nat} (hs : ∀ w, l[s]? = some w → w = 0) : codOf W s = [] := by
  unfold codOf
  cases hf : W.find? (fun y => y.1 == s) with
  | none => rfl
  | some y =>
    have h1 := List.find?_some hf
    have h2 := h.mem y (List.mem_of_find?_eq_some hf)
    have e : y.1 = s := by simpa using h1
    rw [e] at h2
    have := hs _ h2.1
    omega
theorem codOf_len {l : List Nat} {W : List Wn} (h : Words l W) {s : Nat} (hs : s < l.length) : (codOf W s).length = l[s]?.getD 0 := by
  have e : l[s]? = some l[s] := List.getElem?_eq_getElem hs
  by_cases h0 : l[s] = 0
  · rw [codOf_none h (fun w hw => by rw [e] at hw; cases hw; exact h0), e]; simp [h0]
  · obtain ⟨n, hn⟩ := h.has s _ e h0
    rw [codOf_mem h hn, code_length, e]; rfl
theorem codes_get (l : List Nat) {s : Nat} (hs : s < l.length) : (codes l)[s]?.getD [] = codOf (words l) s := by
  unfold codes
  rw [List.getElem?_map, List.getElem?_range hs]; rfl

/-! ### Which sign stands there -/
def sgn (left : List Bool) : List Wn → Nat × Nat × Int
  | [] => (0, 0, 5)
  | x :: t => if num (left.take (min x.2.1 left.length)) = x.2.2 / 2 ^ (x.2.1 - min x.2.1 left.length) then (if min x.2.1 left.length < x.2.1 then (0, 0, 7) else (x.1, x.2.1, 0)) else sgn left t
def hit (left : List Bool) (x : Wn) : Prop := code x <+: left ∨ left <+: code x
theorem hit_iff {left : List Bool} {x : Wn} (hn : num (code x) = x.2.2) : num (left.take (min x.2.1 left.length)) = x.2.2 / 2 ^ (x.2.1 - min x.2.1 left.length) ↔ hit left x := by
  unfold hit
  rw [prefix_num, prefix_num, code_length, hn]
  rcases Nat.le_total x.2.1 left.length with h | h
  · rw [Nat.min_eq_left h, Nat.sub_self, Nat.pow_zero, Nat.div_one, num_take _ _ h]
    constructor
    · intro e; exact .inl ⟨h, e.symm⟩
    · rintro (⟨_, e⟩ | ⟨h2, e⟩)
      · exact e.symm
      · have : x.2.1 = left.length := by omega
        rw [this] at e ⊢
        simpa using e
  · rw [Nat.min_eq_right h, List.take_length]
    constructor
    · intro e; exact .inr ⟨h, e⟩
    · rintro (⟨h2, e⟩ | ⟨_, e⟩)
      · have : x.2.1 = left.length := by omega
        rw [this] at e ⊢
        simpa using e.symm
      · exact e
theorem sgn_found {l : List Nat} {V : List Wn} (h : Words l V) (hr : tkn l ≤ 2 ^ 24) {left : List Bool} {x : Wn} (hx : code x <+: left) : ∀ W : List Wn, (∀ y ∈ W, y ∈ V) → x ∈ W → sgn left W = (x.1, x.2.1, 0)
  | [], _, hm => by simp at hm
  | y :: t, hs, hm => by
    have hy := hs y List.mem_cons_self
    have hxV := hs x hm
    have ny := words_num h hr hy
    have hl := hx.length_le
    rw [code_length] at hl
    unfold sgn
    by_cases he : x = y
    · subst he
      rw [if_pos ((hit_iff ny).2 (.inl hx)), if_neg (by omega)]
    · have hp := words_row h hr hxV hy he
      rw [if_neg (fun k => by
        rcases (hit_iff ny).1 k with k | k
        · rcases Nat.le_total (code x).length (code y).length with hle | hle
          · exact hp.1 (List.prefix_of_prefix_length_le hx k hle)
          · exact hp.2 (List.prefix_of_prefix_length_le k hx hle)
        · exact hp.1 (hx.trans k))]
      rcases List.mem_cons.1 hm with e | hm
      · exact absurd e he
      · exact sgn_found h hr hx t (fun z hz => hs z (List.mem_cons_of_mem _ hz)) hm
theorem sgn_cases {l : List Nat} {V : List Wn} (h : Words l V) (hr : tkn l ≤ 2 ^ 24) (left : List Bool) : ∀ W : List Wn, (∀ y ∈ W, y ∈ V) →
    (∃ x ∈ W, code x <+: left ∧ sgn left W = (x.1, x.2.1, 0)) ∨ (∃ x ∈ W, left <+: code x ∧ left.length < x.2.1 ∧ sgn left W = (0, 0, 7)) ∨ ((∀ x ∈ W, ¬ hit left x) ∧ sgn left W = (0, 0, 5))
  | [], _ => .inr (.inr ⟨by simp, rfl⟩)
  | y :: t, hs => by
    have ny := words_num h hr (hs y List.mem_cons_self)
    unfold sgn
    by_cases hh : hit left y
    · rw [if_pos ((hit_iff ny).2 hh)]
      by_cases hl : min y.2.1 left.length < y.2.1
      · rw [if_pos hl]
        refine .inr (.inl ⟨y, List.mem_cons_self, ?_, by omega, rfl⟩)
        rcases hh with k | k
        · have := k.length_le; rw [code_length] at this; omega
        · exact k
      · rw [if_neg hl]
        refine .inl ⟨y, List.mem_cons_self, ?_, rfl⟩
        rcases hh with k | k
        · exact k
        · have h1 := k.length_le
          rw [code_length] at h1
          rw [k.eq_of_length (by rw [code_length]; omega)]
          exact List.prefix_refl _
    · rw [if_neg (fun k => hh ((hit_iff ny).1 k))]
      rcases sgn_cases h hr left t (fun z hz => hs z (List.mem_cons_of_mem _ hz)) with ⟨x, h1, h2⟩ | ⟨x, h1, h2⟩ | ⟨h1, h2⟩
      · exact .inl ⟨x, List.mem_cons_of_mem _ h1, h2⟩
      · exact .inr (.inl ⟨x, List.mem_cons_of_mem _ h1, h2⟩)
      · refine .inr (.inr ⟨fun x hx => ?_, h2⟩)
        rcases List.mem_cons.1 hx with rfl | hx
        · exact hh
        · exact h1 x hx

/-! ### Where no room is left -/
theorem wn_cover : ∀ (t : List Wd) (a v : Nat), (∀ p ∈ t, 2 ^ (24 - p.2) ∣ a) → t.Pairwise (fun p q => p.2 ≤ q.2) → a ≤ v → v < a + tot t → ∃ x ∈ wn a t, st x ≤ v ∧ v < en x
  | [], a, v, _, _, h1, h2 => by simp [tot] at h2; omega
  | p :: t, a, v, hd, hs, h1, h2 => by
    have e0 : a / 2 ^ (24 - p.2) * 2 ^ (24 - p.2) = a := Nat.div_mul_cancel (hd p List.mem_cons_self)
    have s0 : st (p.1, p.2, a / 2 ^ (24 - p.2)) = a := e0
    have hp := List.pairwise_cons.1 hs
    by_cases hv : v < a + 2 ^ (24 - p.2)
    · refine ⟨(p.1, p.2, a / 2 ^ (24 - p.2)), List.mem_cons_self, ?_, ?_⟩
      · rw [s0]; exact h1
      · rw [en_st, s0]; exact hv
    · unfold tot at h2
      obtain ⟨x, hx, h⟩ := wn_cover t (a + 2 ^ (24 - p.2)) v (fun q hq => Nat.dvd_add (hd q (List.mem_cons_of_mem _ hq)) (pow_dvd (by have := hp.1 q hq; omega))) hp.2 (by omega) (by omega)
      exact ⟨x, List.mem_cons_of_mem _ hx, h⟩
theorem full_hit (l : List Nat) (h24 : ∀ w ∈ l, w ≤ 24) (hr : tkn l = 2 ^ 24) (left : List Bool) : ∃ x ∈ words l, hit left x ∧ (24 ≤ left.length → code x <+: left) := by
  have h := words_ok l h24
  have hp := wsort_perm (uws 0 l)
  have key : ∀ v, v < 2 ^ 24 → ∃ x ∈ words l, st x ≤ v ∧ v < en x := fun v hv =>
    wn_cover _ 0 v (fun _ _ => Nat.dvd_zero _) ((wsort_sorted _).imp (fun h => by unfold wle at h; omega)) (Nat.zero_le _) (by rw [tot_perm hp, tot_uws, hr]; omega)
  have quot : ∀ x : Wn, ∀ v, st x ≤ v → v < en x → v / 2 ^ (24 - x.2.1) = x.2.2 := fun x v h1 h2 => by
    unfold st at h1; unfold en at h2
    exact Nat.div_eq_of_lt_le h1 (by exact h2)
  rcases Nat.lt_or_ge left.length 24 with hl | hl
  · have hv : num left * 2 ^ (24 - left.length) < 2 ^ 24 := by
      have := Nat.mul_lt_mul_of_pos_right (num_lt left) (Nat.two_pow_pos (24 - left.length))
      rwa [← Nat.pow_add, show left.length + (24 - left.length) = 24 by omega] at this
    obtain ⟨x, hx, h1, h2⟩ := key _ hv
    have hq := quot x _ h1 h2
    have hn := words_num h (by omega) hx
    have hb := (h.mem x hx).2
    refine ⟨x, hx, ?_, fun h => by omega⟩
    unfold hit
    rw [prefix_num, prefix_num, code_length, hn]
    rcases Nat.le_total x.2.1 left.length with hw | hw
    · refine .inl ⟨hw, ?_⟩
      rw [← hq, show 24 - x.2.1 = (left.length - x.2.1) + (24 - left.length) by omega, Nat.pow_add, Nat.mul_div_mul_right _ _ (Nat.two_pow_pos _)]
    · refine .inr ⟨hw, ?_⟩
      rw [← hq, show 24 - left.length = (x.2.1 - left.length) + (24 - x.2.1) by omega, Nat.pow_add, ← Nat.mul_assoc, Nat.mul_div_cancel _ (Nat.two_pow_pos _), Nat.mul_div_cancel _ (Nat.two_pow_pos _)]
  · have hv := num_lt (left.take 24)
    have hlen : (left.take 24).length = 24 := by simp; omega
    rw [hlen] at hv
    obtain ⟨x, hx, h1, h2⟩ := key _ hv
    have hq := quot x _ h1 h2
    have hn := words_num h (by omega) hx
    have hb := (h.mem x hx).2
    have : code x <+: left.take 24 := (prefix_num _ _).2 ⟨by rw [code_length]; omega, by rw [hn, hlen, code_length]; exact hq.symm⟩
    have := this.trans (List.take_prefix 24 left)
    exact ⟨x, hx, .inl this, fun _ => this⟩
theorem ones_miss (l : List Nat) (h24 : ∀ w ∈ l, w ≤ 24) (hr : tkn l < 2 ^ 24) : sgn (List.replicate 24 true) (words l) = (0, 0, 5) := by
  have h := words_ok l h24
  have hn : num (List.replicate 24 true) = 2 ^ 24 - 1 := by decide
  have miss : ∀ x ∈ words l, ¬ hit (List.replicate 24 true) x := by
    intro x hx hh
    have hb := (h.mem x hx).2
    have nx := words_num h (by omega) hx
    have ht := h.top x hx
    have hp : code x <+: List.replicate 24 true := by
      rcases hh with k | k
      · exact k
      · have h1 := k.length_le
        rw [code_length, List.length_replicate] at h1
        rw [k.eq_of_length (by rw [code_length, List.length_replicate]; omega)]
        exact List.prefix_refl _
    have e := ((prefix_num _ _).1 hp).2
    rw [nx, hn, List.length_replicate, code_length] at e
    have h2 := Nat.lt_div_mul_add (a := 2 ^ 24 - 1) (Nat.two_pow_pos (24 - x.2.1))
    rw [← e] at h2
    unfold en at ht
    rw [Nat.add_mul, Nat.one_mul] at ht
    omega
  rcases sgn_cases h (by omega) (List.replicate 24 true) (words l) (fun y hy => hy) with ⟨x, h1, h2, _⟩ | ⟨x, h1, h2, _⟩ | ⟨_, h2⟩
  · exact absurd (.inl h2) (miss x h1)
  · exact absurd (.inr h2) (miss x h1)
  · exact h2
end Go.Proofs.Ythfjfkbolfnkkaa
