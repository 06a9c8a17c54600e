/- How close nodes are, plain: the greatest k for which a node is of a set in which each has k near it (dg, Ks, InK, Cn; Pe: nodes taken away one by one; peel: k by k), threes (trs, trz: in two orders; tcn: of how many a node is), pairs (cpr, pst, pairing, Pg), and who is near whom in a graph (near); nothing here speaks of a program; each fact names its conditions. -/
import Derived.Test.YtnbjhldpadjgfaaWPure
import Derived.Test.YtnbjhldpadjgfaaWEnd
import Derived.Lib.MinMax
import Derived.Test.YtnbjhldpadjgfaaWCol
import Derived.Maps.OwnSet
import Derived.Maps.Range
import Derived.WideKeyElems3
import Derived.DeepKeys4
import Derived.Deep.RegionHeld3
import Derived.Test.YtnbjhldpadjgfaaRows
import Derived.Shelf.SlSortCmp.WholeK
import Derived.Shelf.SlicesG.Cmp
import Derived.Shelf.SlSortCmp.NoneTotal
import Derived.Deep.QuietTactic
import Derived.BigQuiet
import Derived.Sort.Grow
import Derived.Shelf.SlicesE.DeleteFunc
import Derived.RangeFuncNested
import Derived.LoopNIn
import Derived.Test.YtnbjhldpadjgfaaDJA
import Derived.BigRegion
import Derived.Test.YtnbjhldpadjgfaaDJB
namespace Go.Proofs.Ytnbjhldpadjgfaa

section
set_option linter.unusedVariables false

/-- How many of the set are near a node. -/
def dg (f : Nat → Nat → Bool) (N : Nat) (S : Nat → Bool) (i : Nat) : Nat := ((List.range N).filter fun m => S m && f i m).length
theorem flen_le {p q : Nat → Bool} : ∀ l : List Nat, (∀ m, m ∈ l → p m = true → q m = true) → (l.filter p).length ≤ (l.filter q).length
  | [], _ => Nat.le_refl _
  | x :: t, h => by
    have ih := flen_le t (fun m hm => h m (List.mem_cons_of_mem _ hm))
    have hx := h x (List.mem_cons_self ..)
    rw [List.filter_cons, List.filter_cons]
    cases hp : p x with
    | true => rw [hp] at hx; rw [hx rfl]; simp; exact ih
    | false =>
      simp only [Bool.false_eq_true, if_false]
      cases q x <;> simp <;> omega
theorem dg_mono {f g : Nat → Nat → Bool} {N : Nat} {S T : Nat → Bool} {i : Nat} (h : ∀ m, m < N → S m = true → f i m = true → T m = true ∧ g i m = true) : dg f N S i ≤ dg g N T i :=
  flen_le _ fun m hm q => by
    rw [Bool.and_eq_true] at q ⊢
    exact h m (List.mem_range.1 hm) q.1 q.2
theorem dg_eq {f g : Nat → Nat → Bool} {N : Nat} {S T : Nat → Bool} {i : Nat} (h : ∀ m, m < N → (S m && f i m) = (T m && g i m)) : dg f N S i = dg g N T i := by
  unfold dg
  congr 1
  exact List.filter_congr fun m hm => h m (List.mem_range.1 hm)
/-- Each of the set has at least so many near it within the set. -/
def Ks (f : Nat → Nat → Bool) (N : Nat) (S : Nat → Bool) (k : Nat) : Prop := ∀ j, j < N → S j = true → k ≤ dg f N S j
def InK (f : Nat → Nat → Bool) (N : Nat) (k i : Nat) : Prop := ∃ S, S i = true ∧ Ks f N S k
/-- The greatest k for which a node is of such a set. -/
def Cn (f : Nat → Nat → Bool) (N : Nat) (i k : Nat) : Prop := InK f N k i ∧ ¬ InK f N (k + 1) i
theorem Ks.mono {f : Nat → Nat → Bool} {N : Nat} {S : Nat → Bool} {k m : Nat} (h : Ks f N S k) (hm : m ≤ k) : Ks f N S m := fun j h1 h2 => Nat.le_trans hm (h j h1 h2)
theorem InK.mono {f : Nat → Nat → Bool} {N k m i : Nat} (h : InK f N k i) (hm : m ≤ k) : InK f N m i := by
  obtain ⟨S, h1, h2⟩ := h; exact ⟨S, h1, h2.mono hm⟩
theorem InK.zero (f : Nat → Nat → Bool) (N i : Nat) : InK f N 0 i := ⟨fun _ => true, rfl, fun _ _ _ => Nat.zero_le _⟩
theorem InK.le {f : Nat → Nat → Bool} {N k i : Nat} (h : InK f N k i) (hi : i < N) : k ≤ dg f N (fun _ => true) i := by
  obtain ⟨S, h1, h2⟩ := h
  exact Nat.le_trans (h2 i hi h1) (dg_mono fun m _ _ q => ⟨rfl, q⟩)
theorem dg_le (f : Nat → Nat → Bool) (N : Nat) (S : Nat → Bool) (i : Nat) : dg f N S i ≤ N := by
  unfold dg
  have := List.length_filter_le (fun m => S m && f i m) (List.range N)
  rwa [List.length_range] at this
theorem dg_lt {f : Nat → Nat → Bool} {N : Nat} {S : Nat → Bool} {i : Nat} (hf : f i i = false) (hi : i < N) : dg f N S i < N := by
  unfold dg
  have h : ((List.range N).filter fun m => S m && f i m).length ≠ (List.range N).length := fun e => by
    have := (List.length_filter_eq_length_iff.1 e) i (List.mem_range.2 hi)
    rw [hf, Bool.and_false] at this
    cases this
  have := List.length_filter_le (fun m => S m && f i m) (List.range N)
  rw [List.length_range] at h this
  omega
theorem Cn.uniq {f : Nat → Nat → Bool} {N i k m : Nat} (h : Cn f N i k) (q : Cn f N i m) : k = m := by
  rcases Nat.lt_trichotomy k m with e | e | e
  · exact absurd (q.1.mono e) h.2
  · exact e
  · exact absurd (h.1.mono e) q.2
theorem Cn.ex (f : Nat → Nat → Bool) (N i : Nat) (hi : i < N) : ∃ k, Cn f N i k := by
  have h : ∀ n k, n + k = N + 1 → InK f N k i → ∃ k, Cn f N i k := by
    intro n
    induction n with
    | zero => intro k e q; have := q.le hi; have := dg_le f N (fun _ => true) i; omega
    | succ n ih =>
      intro k e q
      by_cases q2 : InK f N (k + 1) i
      · exact ih (k + 1) (by omega) q2
      · exact ⟨k, q, q2⟩
  exact h (N + 1) 0 (by omega) (InK.zero f N i)
theorem Cn.le_iff {f : Nat → Nat → Bool} {N i k : Nat} (h : Cn f N i k) (m : Nat) : m ≤ k ↔ InK f N m i :=
  ⟨fun q => h.1.mono q, fun q => by
    by_cases e : m ≤ k
    · exact e
    · exact absurd (q.mono (by omega)) h.2⟩
/-- Whoever is of a set has at least so many near in all sets that hold it. -/
theorem kall {f : Nat → Nat → Bool} {N k : Nat} {T : Nat → Bool} (hT : ∀ i, i < N → InK f N k i → T i = true) {i : Nat} (hi : i < N) (h : InK f N k i) : k ≤ dg f N T i := by
  obtain ⟨S, h1, h2⟩ := h
  exact Nat.le_trans (h2 i hi h1) (dg_mono fun m hm q1 q2 => ⟨hT m hm ⟨S, q1, h2⟩, q2⟩)
/-- Seidman: of the nodes with a number, or a greater one, each has as many near among them. -/
theorem seid_own {f : Nat → Nat → Bool} {N : Nat} {c : Nat → Nat} (hc : ∀ i, i < N → Cn f N i (c i)) {i : Nat} (hi : i < N) : c i ≤ dg f N (fun m => decide (c i ≤ c m)) i :=
  kall (fun j hj q => decide_eq_true (((hc j hj).le_iff _).2 q)) hi (hc i hi).1
/-- Of no nodes all of which have more does one have less. -/
theorem seid_set {f : Nat → Nat → Bool} {N : Nat} {c : Nat → Nat} (hc : ∀ i, i < N → Cn f N i (c i)) {S : Nat → Bool} {l : Nat} (h : Ks f N S l) {i : Nat} (hi : i < N) (hS : S i = true) : l ≤ c i :=
  ((hc i hi).le_iff _).2 ⟨S, hS, h⟩
theorem cn_deg {f : Nat → Nat → Bool} {N i k : Nat} (h : Cn f N i k) (hi : i < N) : k ≤ dg f N (fun _ => true) i := h.1.le hi
/-- Nodes are taken away one by one, each time one with the fewest near among those left. -/
structure Pe (f : Nat → Nat → Bool) (N : Nat) (R : Nat → Bool) (k : Nat) (out : Nat → Nat) : Prop where
  sup : ∃ S, (∀ x, x < N → R x = true → S x = true) ∧ Ks f N S k
  sub : ∀ S, Ks f N S (k + 1) → ∀ x, x < N → S x = true → R x = true
  out : ∀ x, x < N → R x = false → Cn f N x (out x)
theorem Pe.start (f : Nat → Nat → Bool) (N : Nat) (out : Nat → Nat) (R : Nat → Bool) (hR : ∀ x, x < N → R x = true) : Pe f N R 0 out :=
  ⟨⟨fun _ => true, fun _ _ _ => rfl, fun _ _ _ => Nat.zero_le _⟩, fun _ _ x hx _ => hR x hx, fun x hx q => by rw [hR x hx] at q; cases q⟩
theorem Pe.step {f : Nat → Nat → Bool} {N : Nat} {R T : Nat → Bool} {k : Nat} {out o2 : Nat → Nat} (h : Pe f N R k out) (v : Nat) (hv : v < N) (hR : R v = true) (hmin : ∀ x, x < N → R x = true → dg f N R v ≤ dg f N R x)
    (hT : ∀ x, x < N → (T x = true ↔ R x = true ∧ x ≠ v)) (ho : ∀ x, x < N → o2 x = if x = v then max k (dg f N R v) else out x) : Pe f N T (max k (dg f N R v)) o2 := by
  have h1 : ∃ S, (∀ x, x < N → R x = true → S x = true) ∧ Ks f N S (max k (dg f N R v)) := by
    by_cases e : dg f N R v ≤ k
    · obtain ⟨S, q1, q2⟩ := h.sup
      exact ⟨S, q1, q2.mono (by omega)⟩
    · exact ⟨R, fun x _ q => q, fun j hj q => by have := hmin j hj q; omega⟩
  have h2 : ∀ S, Ks f N S (max k (dg f N R v) + 1) → ∀ x, x < N → S x = true → R x = true ∧ x ≠ v := fun S hS x hx q => by
    have hs := h.sub S (hS.mono (by omega))
    refine ⟨hs x hx q, fun e => ?_⟩
    subst e
    have a := hS x hx q
    have b : dg f N S x ≤ dg f N R x := dg_mono fun m hm p1 p2 => ⟨hs m hm p1, p2⟩
    omega
  refine ⟨?_, fun S hS x hx q => (hT x hx).2 (h2 S hS x hx q), fun x hx q => ?_⟩
  · obtain ⟨S, q1, q2⟩ := h1
    exact ⟨S, fun x hx q => q1 x hx ((hT x hx).1 q).1, q2⟩
  · rw [ho x hx]
    by_cases e : x = v
    · subst e
      rw [if_pos rfl]
      obtain ⟨S, q1, q2⟩ := h1
      exact ⟨⟨S, q1 x hx hR, q2⟩, fun ⟨S, p1, p2⟩ => (h2 S p2 x hx p1).2 rfl⟩
    · rw [if_neg e]
      refine h.out x hx ?_
      cases hr : R x with
      | false => rfl
      | true => rw [(hT x hx).2 ⟨hr, e⟩] at q; cases q
theorem Pe.fin {f : Nat → Nat → Bool} {N : Nat} {R : Nat → Bool} {k : Nat} {out : Nat → Nat} (h : Pe f N R k out) (hR : ∀ x, x < N → R x = false) : ∀ x, x < N → Cn f N x (out x) := fun x hx => h.out x hx (hR x hx)
theorem flen_drop {p q : Nat → Bool} {v : Nat} (hq : ∀ m, m ≠ v → q m = p m) (h0 : q v = false) : ∀ l : List Nat, l.Nodup → v ∈ l → (l.filter p).length = (l.filter q).length + (if p v = true then 1 else 0)
  | [], _, h => by cases h
  | x :: t, hn, h => by
    obtain ⟨hx, ht⟩ := List.nodup_cons.1 hn
    by_cases e : x = v
    · subst e
      have e2 : t.filter p = t.filter q := List.filter_congr fun m hm => (hq m (fun e => hx (e ▸ hm))).symm
      rw [List.filter_cons, List.filter_cons, h0, e2]
      cases p x <;> simp
    · have ih := flen_drop hq h0 t ht (by rcases List.mem_cons.1 h with q | q; exact absurd q.symm e; exact q)
      rw [List.filter_cons, List.filter_cons, hq x e]
      cases p x with
      | true => simp only [if_true, List.length_cons]; omega
      | false => simpa using ih
/-- One that was near is gone: one fewer is near. -/
theorem dg_drop {f : Nat → Nat → Bool} {N : Nat} {R T : Nat → Bool} {v : Nat} (hv : v < N) (hR : R v = true) (hT : ∀ x, x < N → (T x = true ↔ R x = true ∧ x ≠ v)) (i : Nat) : dg f N R i = dg f N T i + (if f i v = true then 1 else 0) := by
  have e : dg f N T i = dg f N (fun m => R m && decide (m ≠ v)) i := dg_eq fun m hm => by
    congr 1
    rw [Bool.eq_iff_iff, Bool.and_eq_true, decide_eq_true_iff]; exact hT m hm
  rw [e]
  have := flen_drop (p := fun m => R m && f i m) (q := fun m => (R m && decide (m ≠ v)) && f i m) (v := v) (fun m hm => by simp [hm]) (by simp) (List.range N) List.nodup_range (List.mem_range.2 hv)
  unfold dg
  rw [this]
  simp only [hR, Bool.true_and]
/-- k by k: whoever has fewer goes; nobody who is of such a set goes. -/
theorem peel_keep {f : Nat → Nat → Bool} {N k : Nat} {I T : Nat → Bool} {v : Nat} (h : ∀ x, x < N → InK f N k x → I x = true) (hv : dg f N I v < k) (hT : ∀ x, x < N → (T x = true ↔ I x = true ∧ x ≠ v)) : ∀ x, x < N → InK f N k x → T x = true := fun x hx q =>
  (hT x hx).2 ⟨h x hx q, fun e => by
    subst e
    have := kall h hx q
    omega⟩
theorem peel_end {f : Nat → Nat → Bool} {N k : Nat} {I : Nat → Bool} (h : ∀ x, x < N → InK f N k x → I x = true) (he : Ks f N I k) : ∀ x, x < N → (I x = true ↔ InK f N k x) := fun x hx => ⟨fun q => ⟨I, q, he⟩, h x hx⟩
/-- With an arc more. -/
theorem dg_more {f g : Nat → Nat → Bool} {N : Nat} {S : Nat → Bool} {i y : Nat} (h : ∀ m, m < N → m ≠ y → g i m = true → f i m = true) : dg g N S i ≤ dg f N S i + 1 := by
  by_cases hy : y < N ∧ S y = true
  · have e := dg_drop (f := g) (R := S) (T := fun m => S m && decide (m ≠ y)) hy.1 hy.2 (fun x _ => by simp) i
    rw [e]
    have : dg g N (fun m => S m && decide (m ≠ y)) i ≤ dg f N S i := dg_mono fun m hm q1 q2 => by
      simp at q1
      exact ⟨q1.1, h m hm q1.2 q2⟩
    split <;> omega
  · have : dg g N S i ≤ dg f N S i := dg_mono fun m hm q1 q2 => by
      by_cases e : m = y
      · subst e; exact absurd ⟨hm, q1⟩ hy
      · exact ⟨q1, h m hm e q2⟩
    omega
theorem cn_more {f g : Nat → Nat → Bool} {N s t : Nat} (h1 : ∀ i m, f i m = true → g i m = true) (h2 : ∀ i m, g i m = true → f i m = true ∨ (i = s ∧ m = t) ∨ (i = t ∧ m = s)) {i a b : Nat} (hi : i < N) (ha : Cn f N i a) (hb : Cn g N i b) : a ≤ b ∧ b ≤ a + 1 := by
  constructor
  · rw [hb.le_iff]
    obtain ⟨S, q1, q2⟩ := ha.1
    exact ⟨S, q1, fun j hj q => Nat.le_trans (q2 j hj q) (dg_mono fun m _ p1 p2 => ⟨p1, h1 _ _ p2⟩)⟩
  · have hd : ∀ S j, dg g N S j ≤ dg f N S j + 1 := fun S j => by
      by_cases e : j = s
      · refine dg_more (y := t) fun m _ hm q => ?_
        rcases h2 _ _ q with p | ⟨_, p⟩ | ⟨p1, p2⟩
        · exact p
        · exact absurd p hm
        · exact absurd (by omega : m = t) hm
      · refine dg_more (y := s) fun m _ hm q => ?_
        rcases h2 _ _ q with p | ⟨p, _⟩ | ⟨_, p⟩
        · exact p
        · exact absurd p e
        · exact absurd p hm
    have : InK f N (b - 1) i := by
      obtain ⟨S, q1, q2⟩ := hb.1
      exact ⟨S, q1, fun j hj q => by have := q2 j hj q; have := hd S j; omega⟩
    have := (ha.le_iff (b - 1)).2 this
    omega
/-- Some node has no more near than the greatest number. -/
theorem low_high {f : Nat → Nat → Bool} {N : Nat} {c : Nat → Nat} (hc : ∀ i, i < N → Cn f N i (c i)) {l : Nat} (hl : ∀ i, i < N → l ≤ dg f N (fun _ => true) i) : ∀ i, i < N → l ≤ c i := fun i hi =>
  seid_set hc (S := fun _ => true) (fun j hj _ => hl j hj) hi rfl
/-- Who is of a three has a number of two or more. -/
theorem three_two {f : Nat → Nat → Bool} {N : Nat} (hs : ∀ i m, f i m = f m i) {a b c : Nat} (ha : a < N) (hb : b < N) (hc : c < N) (hab : a ≠ b) (hac : a ≠ c) (hbc : b ≠ c) (h1 : f a b = true) (h2 : f a c = true) (h3 : f b c = true) : ∀ x, x = a ∨ x = b ∨ x = c → InK f N 2 x := fun x hx => by
  refine ⟨fun m => decide (m = a ∨ m = b ∨ m = c), decide_eq_true hx, fun j hj q => ?_⟩
  have two : ∀ u v, u < N → v < N → u ≠ v → (u = a ∨ u = b ∨ u = c) → (v = a ∨ v = b ∨ v = c) → f j u = true → f j v = true → 2 ≤ dg f N (fun m => decide (m = a ∨ m = b ∨ m = c)) j := fun u v hu hv huv u1 v1 u2 v2 => by
    have e := dg_drop (f := f) (R := fun m => decide (m = a ∨ m = b ∨ m = c)) (T := fun m => decide (m = a ∨ m = b ∨ m = c) && decide (m ≠ u)) hu (decide_eq_true u1) (fun x _ => by simp) j
    have e2 := dg_drop (f := f) (R := fun m => decide (m = a ∨ m = b ∨ m = c) && decide (m ≠ u)) (T := fun m => (decide (m = a ∨ m = b ∨ m = c) && decide (m ≠ u)) && decide (m ≠ v)) hv (by simp [v1, huv.symm]) (fun x _ => by simp) j
    rw [e, e2, if_pos u2, if_pos v2]
    omega
  rcases of_decide_eq_true q with e | e | e
  · subst e; exact two b c hb hc hbc (.inr (.inl rfl)) (.inr (.inr rfl)) h1 h2
  · subst e; exact two a c ha hc hac (.inl rfl) (.inr (.inr rfl)) (by rw [hs]; exact h1) h3
  · subst e; exact two a b ha hb hab (.inl rfl) (.inr (.inl rfl)) (by rw [hs]; exact h2) (by rw [hs]; exact h3)
theorem nd_len {α : Type} [BEq α] [LawfulBEq α] : ∀ {a b : List α}, a.Nodup → (∀ x ∈ a, x ∈ b) → a.length ≤ b.length
  | [], _, _, _ => Nat.zero_le _
  | x :: t, b, hn, hs => by
    obtain ⟨h1, h2⟩ := List.nodup_cons.1 hn
    have hx := hs x (List.mem_cons_self ..)
    have ih := nd_len (b := b.erase x) h2 (fun y hy => (List.mem_erase_of_ne (fun e => h1 (by rw [← e]; exact hy))).2 (hs y (List.mem_cons_of_mem _ hy)))
    rw [List.length_erase_of_mem hx] at ih
    have := List.length_pos_of_mem hx
    rw [List.length_cons]; omega
theorem nd_eq {α : Type} [BEq α] [LawfulBEq α] {a b : List α} (ha : a.Nodup) (hb : b.Nodup) (h : ∀ x, x ∈ a ↔ x ∈ b) : a.length = b.length := by
  have := nd_len ha (fun x hx => (h x).1 hx)
  have := nd_len hb (fun x hx => (h x).2 hx)
  omega
theorem nd_filter {α : Type} {p : α → Bool} {l : List α} (h : l.Nodup) : (l.filter p).Nodup := h.sublist List.filter_sublist
theorem nd_map {α β : Type} {f : α → β} (hf : ∀ x y, f x = f y → x = y) : ∀ {l : List α}, l.Nodup → (l.map f).Nodup
  | [], _ => List.nodup_nil
  | x :: t, h => by
    obtain ⟨h1, h2⟩ := List.nodup_cons.1 h
    rw [List.map_cons, List.nodup_cons]
    exact ⟨fun q => by obtain ⟨y, hy, e⟩ := List.mem_map.1 q; rw [hf _ _ e] at hy; exact h1 hy, nd_map hf h2⟩
theorem nd_flat {α β : Type} {f : α → List β} (k : β → α) (hk : ∀ x y, y ∈ f x → k y = x) (hf : ∀ x, (f x).Nodup) : ∀ {l : List α}, l.Nodup → (l.flatMap f).Nodup
  | [], _ => List.nodup_nil
  | x :: t, h => by
    obtain ⟨h1, h2⟩ := List.nodup_cons.1 h
    rw [List.flatMap_cons, List.nodup_append]
    refine ⟨hf x, nd_flat k hk hf h2, fun a ha b hb e => ?_⟩
    subst e
    obtain ⟨y, hy, q⟩ := List.mem_flatMap.1 hb
    rw [← hk _ _ ha, hk _ _ q] at h1
    exact h1 hy
/-- All pairs that are near, the lesser one first, in order. -/
def cpr (f : Nat → Nat → Bool) (N : Nat) : List (Nat × Nat) := (List.range N).flatMap fun a => ((List.range N).filter fun b => decide (a < b) && f a b).map fun b => (a, b)
theorem cpr_mem {f : Nat → Nat → Bool} {N : Nat} {p : Nat × Nat} : p ∈ cpr f N ↔ p.1 < p.2 ∧ p.2 < N ∧ f p.1 p.2 = true := by
  obtain ⟨a, b⟩ := p
  unfold cpr
  simp only [List.mem_flatMap, List.mem_map, List.mem_filter, List.mem_range, Bool.and_eq_true, decide_eq_true_eq, Prod.mk.injEq]
  constructor
  · rintro ⟨x, hx, y, ⟨hy, h1, h2⟩, rfl, rfl⟩; exact ⟨h1, hy, h2⟩
  · rintro ⟨h1, h2, h3⟩; exact ⟨a, by omega, b, ⟨h2, h1, h3⟩, rfl, rfl⟩
theorem cpr_nodup (f : Nat → Nat → Bool) (N : Nat) : (cpr f N).Nodup := by
  unfold cpr
  refine nd_flat (fun p : Nat × Nat => p.1) (fun x y h => ?_) (fun x => nd_map (fun a b e => (Prod.mk.inj e).2) (nd_filter List.nodup_range)) List.nodup_range
  obtain ⟨b, _, e⟩ := List.mem_map.1 h
  rw [← e]
/-- Threes: in the order in which they are visited. -/
def trs (f : Nat → Nat → Bool) (N : Nat) : List (Nat × Nat × Nat) := (cpr f N).flatMap fun p => ((List.range N).filter fun c => decide (p.2 < c) && (f p.1 c && f p.2 c)).map fun c => (p.1, p.2, c)
/-- Threes: in the order of the greatest node. -/
def trz (f : Nat → Nat → Bool) (N : Nat) : List (Nat × Nat × Nat) := (List.range N).flatMap fun c => (List.range c).flatMap fun b => ((List.range b).filter fun a => f b c && (f a b && f a c)).map fun a => (a, b, c)
def Tri (f : Nat → Nat → Bool) (N : Nat) (t : Nat × Nat × Nat) : Prop := t.1 < t.2.1 ∧ t.2.1 < t.2.2 ∧ t.2.2 < N ∧ f t.1 t.2.1 = true ∧ f t.1 t.2.2 = true ∧ f t.2.1 t.2.2 = true
theorem trs_mem {f : Nat → Nat → Bool} {N : Nat} {t : Nat × Nat × Nat} : t ∈ trs f N ↔ Tri f N t := by
  obtain ⟨a, b, c⟩ := t
  unfold trs Tri
  simp only [List.mem_flatMap, List.mem_map, List.mem_filter, List.mem_range, Bool.and_eq_true, decide_eq_true_eq, Prod.mk.injEq, cpr_mem]
  constructor
  · rintro ⟨p, ⟨h1, h2, h3⟩, y, ⟨hy, h4, h5, h6⟩, rfl, rfl, rfl⟩; exact ⟨h1, h4, hy, h3, h5, h6⟩
  · rintro ⟨h1, h2, h3, h4, h5, h6⟩; exact ⟨(a, b), ⟨h1, by show b < N; omega, h4⟩, c, ⟨h3, h2, h5, h6⟩, rfl, rfl, rfl⟩
theorem trz_mem {f : Nat → Nat → Bool} {N : Nat} {t : Nat × Nat × Nat} : t ∈ trz f N ↔ Tri f N t := by
  obtain ⟨a, b, c⟩ := t
  unfold trz Tri
  simp only [List.mem_flatMap, List.mem_map, List.mem_filter, List.mem_range, Bool.and_eq_true, Prod.mk.injEq]
  constructor
  · rintro ⟨c', hc, b', hb, a', ⟨ha, h1, h2, h3⟩, rfl, rfl, rfl⟩; exact ⟨ha, hb, hc, h2, h3, h1⟩
  · rintro ⟨h1, h2, h3, h4, h5, h6⟩; exact ⟨c, h3, b, h2, a, ⟨h1, h6, h4, h5⟩, rfl, rfl, rfl⟩
theorem trs_nodup (f : Nat → Nat → Bool) (N : Nat) : (trs f N).Nodup := by
  unfold trs
  refine nd_flat (fun p : Nat × Nat × Nat => (p.1, p.2.1)) (fun x y h => ?_) (fun x => nd_map (fun a b e => (Prod.mk.inj (Prod.mk.inj e).2).2) (nd_filter List.nodup_range)) (cpr_nodup f N)
  obtain ⟨b, _, e⟩ := List.mem_map.1 h
  rw [← e]
theorem trz_nodup (f : Nat → Nat → Bool) (N : Nat) : (trz f N).Nodup := by
  unfold trz
  refine nd_flat (fun p : Nat × Nat × Nat => p.2.2) (fun c y h => ?_) (fun c => nd_flat (fun p : Nat × Nat × Nat => p.2.1) (fun b y h => ?_) (fun b => nd_map (fun a b e => (Prod.mk.inj e).1) (nd_filter List.nodup_range)) List.nodup_range) List.nodup_range
  · obtain ⟨b, _, q⟩ := List.mem_flatMap.1 h
    obtain ⟨a, _, e⟩ := List.mem_map.1 q
    rw [← e]
  · obtain ⟨a, _, e⟩ := List.mem_map.1 h
    rw [← e]
/-- Is a node of a three? -/
def ofT (x : Nat) (t : Nat × Nat × Nat) : Bool := decide (t.1 = x) || (decide (t.2.1 = x) || decide (t.2.2 = x))
def tcn (L : List (Nat × Nat × Nat)) (x : Nat) : Nat := (L.filter (ofT x)).length
theorem tr_len (f : Nat → Nat → Bool) (N : Nat) : (trs f N).length = (trz f N).length := nd_eq (trs_nodup f N) (trz_nodup f N) (fun t => trs_mem.trans trz_mem.symm)
theorem tr_cn (f : Nat → Nat → Bool) (N x : Nat) : tcn (trs f N) x = tcn (trz f N) x := by
  unfold tcn
  refine nd_eq (nd_filter (trs_nodup f N)) (nd_filter (trz_nodup f N)) fun t => ?_
  rw [List.mem_filter, List.mem_filter, trs_mem, trz_mem]
theorem tcn_snoc (L : List (Nat × Nat × Nat)) (t : Nat × Nat × Nat) (x : Nat) : tcn (L ++ [t]) x = tcn L x + (if ofT x t = true then 1 else 0) := by
  unfold tcn
  rw [List.filter_append, List.length_append]
  congr 1
  cases h : ofT x t <;> simp [List.filter, h]
/-- Who is of a three has a number of two or more. -/
theorem tcn_two {f : Nat → Nat → Bool} {N : Nat} (hs : ∀ i m, f i m = f m i) {x : Nat} (h : 0 < tcn (trs f N) x) : InK f N 2 x := by
  unfold tcn at h
  obtain ⟨t, ht⟩ := List.exists_mem_of_length_pos h
  rw [List.mem_filter, trs_mem] at ht
  obtain ⟨⟨h1, h2, h3, h4, h5, h6⟩, q⟩ := ht
  refine three_two hs (a := t.1) (b := t.2.1) (c := t.2.2) (by omega) (by omega) h3 (by omega) (by omega) (by omega) h4 h5 h6 x ?_
  unfold ofT at q
  simp only [Bool.or_eq_true, decide_eq_true_eq] at q
  rcases q with q | q | q
  · exact .inl q.symm
  · exact .inr (.inl q.symm)
  · exact .inr (.inr q.symm)
/-- With an arc more there are no fewer threes. -/
theorem tr_more {f g : Nat → Nat → Bool} {N : Nat} (h : ∀ i m, f i m = true → g i m = true) : (trs f N).length ≤ (trs g N).length :=
  nd_len (trs_nodup f N) fun t ht => by
    obtain ⟨h1, h2, h3, h4, h5, h6⟩ := trs_mem.1 ht
    exact trs_mem.2 ⟨h1, h2, h3, h _ _ h4, h _ _ h5, h _ _ h6⟩
def nsum : List Nat → Nat
  | [] => 0
  | x :: t => x + nsum t
theorem nsum_append (a b : List Nat) : nsum (a ++ b) = nsum a + nsum b := by
  induction a with
  | nil => simp [nsum]
  | cons x t ih => simp [nsum, ih]; omega
theorem nsum_add (p q : Nat → Nat) : ∀ n, nsum ((List.range n).map fun i => p i + q i) = nsum ((List.range n).map p) + nsum ((List.range n).map q)
  | 0 => rfl
  | n + 1 => by
    have := nsum_add p q n
    simp only [List.range_succ, List.map_append, nsum_append, List.map_cons, List.map_nil, nsum]
    omega
theorem nsum_zero : ∀ n, nsum ((List.range n).map fun _ => 0) = 0
  | 0 => rfl
  | n + 1 => by rw [List.range_succ, List.map_append, nsum_append, nsum_zero n]; rfl
theorem nsum_one (y : Nat) : ∀ n, nsum ((List.range n).map fun x => if y = x then 1 else 0) = if y < n then 1 else 0
  | 0 => by simp [nsum]
  | n + 1 => by
    rw [List.range_succ, List.map_append, nsum_append, nsum_one y n]
    simp only [List.map_cons, List.map_nil, nsum]
    by_cases h : y < n
    · rw [if_pos h, if_neg (by omega : ¬ y = n), if_pos (by omega)]
    · rw [if_neg h]
      by_cases e : y = n
      · rw [if_pos e, if_pos (by omega)]
      · rw [if_neg e, if_neg (by omega)]
/-- All nodes together are of three times as many threes. -/
theorem tcn_sum {f : Nat → Nat → Bool} {N : Nat} : ∀ L : List (Nat × Nat × Nat), (∀ t ∈ L, Tri f N t) → nsum ((List.range N).map (tcn L)) = 3 * L.length
  | [], _ => by
    show nsum ((List.range N).map fun _ => 0) = _
    rw [nsum_zero]; rfl
  | t :: L, h => by
    have ih := tcn_sum L (fun t ht => h t (List.mem_cons_of_mem _ ht))
    obtain ⟨h1, h2, h3, _⟩ := h t (List.mem_cons_self ..)
    have e : ∀ x, tcn (t :: L) x = (((if t.1 = x then 1 else 0) + (if t.2.1 = x then 1 else 0)) + (if t.2.2 = x then 1 else 0)) + tcn L x := fun x => by
      unfold tcn
      rw [List.filter_cons]
      unfold ofT
      by_cases a : t.1 = x
      · rw [if_pos a, if_neg (by omega : ¬ t.2.1 = x), if_neg (by omega : ¬ t.2.2 = x)]
        simp [a]; omega
      · by_cases b : t.2.1 = x
        · rw [if_neg a, if_pos b, if_neg (by omega : ¬ t.2.2 = x)]
          simp [b]; omega
        · by_cases c : t.2.2 = x
          · rw [if_neg a, if_neg b, if_pos c]
            simp [c]; omega
          · rw [if_neg a, if_neg b, if_neg c]
            simp [a, b, c]
    have e2 : (List.range N).map (tcn (t :: L)) = (List.range N).map fun x => (((if t.1 = x then 1 else 0) + (if t.2.1 = x then 1 else 0)) + (if t.2.2 = x then 1 else 0)) + tcn L x := List.map_congr_left fun x _ => e x
    rw [e2, nsum_add, nsum_add, nsum_add, nsum_one, nsum_one, nsum_one, ih, if_pos (by omega), if_pos (by omega), if_pos h3, List.length_cons]
    omega
def iv (f : List Int) (x : Nat) : Int := f[x]?.getD (-1)
/-- A pair is made where neither is of one yet. -/
def pst (W : List Int) (p : Nat × Nat) : List Int := if iv W p.1 = -1 ∧ iv W p.2 = -1 then (W.set p.1 (p.2 : Int)).set p.2 (p.1 : Int) else W
def pairing (f : Nat → Nat → Bool) (N : Nat) : List Int := (cpr f N).foldl pst (List.replicate N (-1))
theorem iv_set {W : List Int} {i : Nat} {v : Int} (hi : i < W.length) (x : Nat) : iv (W.set i v) x = if x = i then v else iv W x := by
  unfold iv
  rw [List.getElem?_set]
  by_cases e : i = x
  · subst e; rw [if_pos rfl, if_pos hi, if_pos rfl]; rfl
  · rw [if_neg e, if_neg (fun q => e q.symm)]
structure Pg (f : Nat → Nat → Bool) (N : Nat) (L : List (Nat × Nat)) (W : List Int) : Prop where
  len : W.length = N
  val : ∀ i, i < N → iv W i = -1 ∨ ∃ j : Nat, j < N ∧ j ≠ i ∧ iv W i = (j : Int) ∧ iv W j = (i : Int) ∧ f i j = true
  some : ∀ p ∈ L, iv W p.1 ≠ -1 ∨ iv W p.2 ≠ -1
theorem Pg.start (f : Nat → Nat → Bool) (N : Nat) : Pg f N [] (List.replicate N (-1)) :=
  ⟨List.length_replicate, fun i hi => .inl (by unfold iv; rw [List.getElem?_replicate, if_pos hi]; rfl), fun p hp => by cases hp⟩
theorem Pg.step {f : Nat → Nat → Bool} {N : Nat} {L : List (Nat × Nat)} {W : List Int} (hs : ∀ i m, f i m = f m i) (h : Pg f N L W) {p : Nat × Nat} (h1 : p.1 < p.2) (h2 : p.2 < N) (h3 : f p.1 p.2 = true) : Pg f N (L ++ [p]) (pst W p) := by
  unfold pst
  by_cases e : iv W p.1 = -1 ∧ iv W p.2 = -1
  · rw [if_pos e]
    have hv : ∀ x, iv ((W.set p.1 (p.2 : Int)).set p.2 (p.1 : Int)) x = if x = p.2 then (p.1 : Int) else if x = p.1 then (p.2 : Int) else iv W x := fun x => by
      rw [iv_set (by rw [List.length_set, h.len]; exact h2), iv_set (by rw [h.len]; omega)]
    refine ⟨by rw [List.length_set, List.length_set, h.len], fun i hi => ?_, fun q hq => ?_⟩
    · rw [hv]
      by_cases a : i = p.2
      · rw [if_pos a]
        exact .inr ⟨p.1, by omega, by omega, rfl, by rw [hv, if_neg (by omega), if_pos rfl, a], by rw [a, hs]; exact h3⟩
      · rw [if_neg a]
        by_cases b : i = p.1
        · rw [if_pos b]
          exact .inr ⟨p.2, h2, by omega, rfl, by rw [hv, if_pos rfl, b], by rw [b]; exact h3⟩
        · rw [if_neg b]
          rcases h.val i hi with q | ⟨j, q1, q2, q3, q4, q5⟩
          · exact .inl q
          · refine .inr ⟨j, q1, q2, q3, ?_, q5⟩
            rw [hv, if_neg (fun c => ?_), if_neg (fun c => ?_)]
            · exact q4
            · subst c; rw [e.1] at q4; omega
            · subst c; rw [e.2] at q4; omega
    · rw [hv, hv]
      rcases List.mem_append.1 hq with m | m
      · by_cases a : q.1 = p.2 ∨ q.1 = p.1
        · left
          rcases a with a | a
          · rw [if_pos a]; omega
          · rw [if_neg (by omega), if_pos a]; omega
        · by_cases b : q.2 = p.2 ∨ q.2 = p.1
          · right
            rcases b with b | b
            · rw [if_pos b]; omega
            · rw [if_neg (by omega), if_pos b]; omega
          · rw [if_neg (by omega), if_neg (by omega), if_neg (by omega), if_neg (by omega)]
            exact h.some q m
      · rw [List.mem_singleton] at m
        subst m
        right
        rw [if_pos rfl]; omega
  · rw [if_neg e]
    refine ⟨h.len, h.val, fun q hq => ?_⟩
    rcases List.mem_append.1 hq with m | m
    · exact h.some q m
    · rw [List.mem_singleton] at m
      subst m
      by_cases a : iv W q.1 = -1
      · exact .inr fun b => e ⟨a, b⟩
      · exact .inl a
theorem Pg.fold {f : Nat → Nat → Bool} {N : Nat} (hs : ∀ i m, f i m = f m i) : ∀ (M L : List (Nat × Nat)) (W : List Int), Pg f N L W → (∀ p ∈ M, p.1 < p.2 ∧ p.2 < N ∧ f p.1 p.2 = true) → Pg f N (L ++ M) (M.foldl pst W)
  | [], L, W, h, _ => by rw [List.append_nil]; exact h
  | p :: M, L, W, h, hM => by
    obtain ⟨h1, h2, h3⟩ := hM p (List.mem_cons_self ..)
    have := Pg.fold hs M _ _ (h.step hs h1 h2 h3) (fun q hq => hM q (List.mem_cons_of_mem _ hq))
    rw [List.append_assoc] at this
    exact this
theorem pairing_ok {f : Nat → Nat → Bool} (hs : ∀ i m, f i m = f m i) (N : Nat) : Pg f N (cpr f N) (pairing f N) := by
  have := Pg.fold hs (cpr f N) [] _ (Pg.start f N) (fun p hp => cpr_mem.1 hp)
  rwa [List.nil_append] at this
/-- No two that are left are near. -/
theorem Pg.left {f : Nat → Nat → Bool} {N : Nat} (hs : ∀ i m, f i m = f m i) {W : List Int} (h : Pg f N (cpr f N) W) {i k : Nat} (hi : i < N) (hk : k < i) (h1 : iv W i = -1) (h2 : iv W k = -1) : f i k = false := by
  cases e : f i k with
  | false => rfl
  | true =>
    have := h.some (k, i) (cpr_mem.2 ⟨hk, hi, by show f k i = true; rw [hs]; exact e⟩)
    rcases this with q | q
    · exact absurd h2 q
    · exact absurd h1 q
/-- So of any pairs there are no more than twice as many. -/
theorem Pg.twice {f : Nat → Nat → Bool} {N : Nat} (hs : ∀ i m, f i m = f m i) {W : List Int} (h : Pg f N (cpr f N) W) (A : List Nat) (hA : A.Nodup) (o : Nat → Nat) (ho : ∀ i ∈ A, i < N ∧ o i < i ∧ o (o i) = i ∧ f i (o i) = true) : A.length ≤ ((List.range N).filter fun i => decide (0 ≤ iv W i)).length := by
  have hm : ∀ i ∈ A, ∀ j ∈ A, (if 0 ≤ iv W i then i else o i) = (if 0 ≤ iv W j then j else o j) → i = j := fun i hi j hj e => by
    obtain ⟨_, a1, a2, _⟩ := ho i hi
    obtain ⟨_, b1, b2, _⟩ := ho j hj
    split at e <;> split at e
    · exact e
    · rw [e, b2] at a1; omega
    · rw [← e, a2] at b1; omega
    · rw [← a2, e, b2]
  have hn : (A.map fun i => if 0 ≤ iv W i then i else o i).Nodup := by
    clear ho
    induction A with
    | nil => exact List.nodup_nil
    | cons x t ih =>
      obtain ⟨h1, h2⟩ := List.nodup_cons.1 hA
      rw [List.map_cons, List.nodup_cons]
      refine ⟨fun q => ?_, ih h2 (fun i hi j hj => hm i (List.mem_cons_of_mem _ hi) j (List.mem_cons_of_mem _ hj))⟩
      obtain ⟨y, hy, e⟩ := List.mem_map.1 q
      have := hm y (List.mem_cons_of_mem _ hy) x (List.mem_cons_self ..) e
      exact h1 (this ▸ hy)
  have := nd_len (b := (List.range N).filter fun i => decide (0 ≤ iv W i)) hn (fun x hx => by
    obtain ⟨i, hi, e⟩ := List.mem_map.1 hx
    obtain ⟨a0, a1, a2, a3⟩ := ho i hi
    rw [List.mem_filter, List.mem_range, decide_eq_true_eq, ← e]
    have hv : ∀ x, x < N → iv W x = -1 ∨ 0 ≤ iv W x := fun x hx => by
      rcases h.val x hx with q | ⟨j, _, _, q, _⟩
      · exact .inl q
      · exact .inr (by omega)
    split
    · exact ⟨a0, by assumption⟩
    · refine ⟨by omega, ?_⟩
      rcases hv i a0 with q | q
      · rcases hv (o i) (by omega) with q2 | q2
        · have := h.left hs a0 a1 q q2
          rw [this] at a3; cases a3
        · exact q2
      · omega)
  rwa [List.length_map] at this
/-- Pairs by rows: those with node a, and with one of the first b nodes. -/
def prw (f : Nat → Nat → Bool) (a b : Nat) (W : List Int) : List Int := (((List.range b).filter fun m => decide (a < m) && f a m).map fun m => (a, m)).foldl pst W
def pto (f : Nat → Nat → Bool) (N a : Nat) : List Int := ((List.range a).flatMap fun a => ((List.range N).filter fun b => decide (a < b) && f a b).map fun b => (a, b)).foldl pst (List.replicate N (-1))
theorem prw_succ (f : Nat → Nat → Bool) (a b : Nat) (W : List Int) : prw f a (b + 1) W = if (decide (a < b) && f a b) = true then pst (prw f a b W) (a, b) else prw f a b W := by
  unfold prw
  rw [List.range_succ, List.filter_append, List.map_append, List.foldl_append]
  cases h : (decide (a < b) && f a b) <;> simp [List.filter, h]
theorem prw_low (f : Nat → Nat → Bool) (a : Nat) (W : List Int) : ∀ b, b ≤ a + 1 → prw f a b W = W
  | 0, _ => rfl
  | b + 1, h => by rw [prw_succ, prw_low f a W b (by omega), decide_eq_false (by omega : ¬ a < b)]; simp
theorem pto_zero (f : Nat → Nat → Bool) (N : Nat) : pto f N 0 = List.replicate N (-1) := rfl
theorem pto_succ (f : Nat → Nat → Bool) (N a : Nat) : pto f N (a + 1) = prw f a N (pto f N a) := by
  unfold pto prw
  rw [List.range_succ, List.flatMap_append, List.foldl_append]
  simp
theorem pto_end (f : Nat → Nat → Bool) (N : Nat) : pto f N N = pairing f N := rfl
theorem prw_pg {f : Nat → Nat → Bool} {N a : Nat} (hs : ∀ i m, f i m = f m i) {W : List Int} (h : ∃ L, Pg f N L W) : ∀ b, b ≤ N → ∃ L, Pg f N L (prw f a b W)
  | 0, _ => h
  | b + 1, hb => by
    obtain ⟨L, hL⟩ := prw_pg (a := a) hs h b (by omega)
    rw [prw_succ]
    split
    · rename_i e
      rw [Bool.and_eq_true, decide_eq_true_eq] at e
      exact ⟨_, hL.step hs e.1 (by show b < N; omega) e.2⟩
    · exact ⟨L, hL⟩
theorem pto_pg {f : Nat → Nat → Bool} {N : Nat} (hs : ∀ i m, f i m = f m i) : ∀ a, ∃ L, Pg f N L (pto f N a)
  | 0 => ⟨[], Pg.start f N⟩
  | a + 1 => by rw [pto_succ]; exact prw_pg hs (pto_pg hs a) N (Nat.le_refl _)
theorem Pg.neg {f : Nat → Nat → Bool} {N : Nat} {L : List (Nat × Nat)} {W : List Int} (h : Pg f N L W) {i : Nat} (hi : i < N) : iv W i < 0 ↔ iv W i = -1 := by
  rcases h.val i hi with q | ⟨j, _, _, q, _⟩ <;> omega
/-- Threes in the order of the greatest node, then of the next: those of the first c, of c and the first b, of c and b and the first a. -/
def tz2 (f : Nat → Nat → Bool) (c b a : Nat) : List (Nat × Nat × Nat) := ((List.range a).filter fun a => f b c && (f a b && f a c)).map fun a => (a, b, c)
def tz1 (f : Nat → Nat → Bool) (c b : Nat) : List (Nat × Nat × Nat) := (List.range b).flatMap fun b => tz2 f c b b
def tz0 (f : Nat → Nat → Bool) (c : Nat) : List (Nat × Nat × Nat) := (List.range c).flatMap fun c => tz1 f c c
theorem tz0_end (f : Nat → Nat → Bool) (N : Nat) : tz0 f N = trz f N := rfl
theorem tz0_succ (f : Nat → Nat → Bool) (c : Nat) : tz0 f (c + 1) = tz0 f c ++ tz1 f c c := by unfold tz0; rw [List.range_succ, List.flatMap_append]; simp
theorem tz1_succ (f : Nat → Nat → Bool) (c b : Nat) : tz1 f c (b + 1) = tz1 f c b ++ tz2 f c b b := by unfold tz1; rw [List.range_succ, List.flatMap_append]; simp
theorem tz2_succ (f : Nat → Nat → Bool) (c b a : Nat) : tz2 f c b (a + 1) = tz2 f c b a ++ (if (f b c && (f a b && f a c)) = true then [(a, b, c)] else []) := by
  unfold tz2
  rw [List.range_succ, List.filter_append, List.map_append]
  cases h : (f b c && (f a b && f a c)) <;> simp [List.filter, h]
theorem tz2_no {f : Nat → Nat → Bool} {c b : Nat} (h : f b c = false) (a : Nat) : tz2 f c b a = [] := by
  unfold tz2
  rw [List.map_eq_nil_iff, List.filter_eq_nil_iff]
  intro x _
  rw [h]; simp
theorem flat_lenC {α : Type} {f : Nat → List α} {m : Nat} : ∀ n, (∀ x, x < n → (f x).length ≤ m) → ((List.range n).flatMap f).length ≤ n * m
  | 0, _ => by simp
  | n + 1, h => by
    have ih := flat_lenC n (fun x hx => h x (by omega))
    have hn := h n (by omega)
    rw [List.range_succ, List.flatMap_append, List.length_append, Nat.add_mul, Nat.one_mul]
    simp only [List.flatMap_cons, List.flatMap_nil, List.append_nil]
    omega
theorem tz2_len (f : Nat → Nat → Bool) (c b a : Nat) : (tz2 f c b a).length ≤ a := by
  unfold tz2
  rw [List.length_map]
  have := List.length_filter_le (fun a => f b c && (f a b && f a c)) (List.range a)
  rwa [List.length_range] at this
theorem tz1_len (f : Nat → Nat → Bool) (c b : Nat) : (tz1 f c b).length ≤ b * b := flat_lenC b fun x hx => Nat.le_trans (tz2_len f c x x) (by omega)
theorem tz0_len (f : Nat → Nat → Bool) (c : Nat) : (tz0 f c).length ≤ c * (c * c) := flat_lenC c fun x hx => Nat.le_trans (tz1_len f x x) (Nat.mul_le_mul (by omega) (by omega))
theorem tcn_le (L : List (Nat × Nat × Nat)) (x : Nat) : tcn L x ≤ L.length := List.length_filter_le _ _
/-- Of how many threes each of the first n nodes is. -/
def cnl (n : Nat) (L : List (Nat × Nat × Nat)) : List Nat := (List.range n).map (tcn L)
theorem cnl_length (n : Nat) (L : List (Nat × Nat × Nat)) : (cnl n L).length = n := by unfold cnl; simp
theorem cnl_get {n x : Nat} (L : List (Nat × Nat × Nat)) (h : x < n) : (cnl n L)[x]? = some (tcn L x) := by unfold cnl; rw [List.getElem?_map, List.getElem?_range h]; rfl
theorem cnl_nil (n : Nat) : cnl n [] = List.replicate n 0 := by
  apply List.ext_getElem (by simp [cnl])
  intro i h1 h2
  simp [cnl, tcn]
theorem cnl_snoc {n : Nat} (L : List (Nat × Nat × Nat)) {a b c : Nat} (h1 : a < b) (h2 : b < c) (h3 : c < n) : cnl n (L ++ [(a, b, c)]) = (((cnl n L).set a (tcn L a + 1)).set b (tcn L b + 1)).set c (tcn L c + 1) := by
  apply List.ext_getElem (by simp [cnl])
  intro i q1 q2
  have hi : i < n := by simpa [cnl] using q1
  have e : (cnl n (L ++ [(a, b, c)]))[i] = tcn (L ++ [(a, b, c)]) i := by simp [cnl]
  have e2 : (cnl n L)[i]'(by rw [cnl_length]; exact hi) = tcn L i := by simp [cnl]
  rw [e, tcn_snoc]
  simp only [List.getElem_set]
  unfold ofT
  by_cases x : c = i
  · rw [if_pos x]; subst x; simp
  · by_cases y : b = i
    · rw [if_neg x, if_pos y]; subst y; simp
    · by_cases z : a = i
      · rw [if_neg x, if_neg y, if_pos z]; subst z; simp
      · rw [if_neg x, if_neg y, if_neg z, e2]; simp [x, y, z]
theorem dg_succ (f : Nat → Nat → Bool) (m : Nat) (S : Nat → Bool) (i : Nat) : dg f (m + 1) S i = dg f m S i + (if (S m && f i m) = true then 1 else 0) := by
  unfold dg
  rw [List.range_succ, List.filter_append, List.length_append]
  cases h : (S m && f i m) <;> simp [List.filter, h]
/-- How many are true. -/
def ct (l : List Bool) : Nat := (l.filter fun b => b).length
def bvC (l : List Bool) (x : Nat) : Bool := l[x]?.getD false
theorem ct_set : ∀ (l : List Bool) (i : Nat), bvC l i = true → ct (l.set i false) + 1 = ct l
  | [], i, h => by simp [bvC] at h
  | b :: t, 0, h => by
    have : b = true := by simpa [bvC] using h
    subst this
    simp [ct]
  | b :: t, i + 1, h => by
    have ih := ct_set t i (by simpa [bvC] using h)
    unfold ct at ih ⊢
    cases b <;> simp [List.set] <;> omega
theorem bvC_set (l : List Bool) (i x : Nat) (q : Bool) (hi : i < l.length) : bvC (l.set i q) x = if x = i then q else bvC l x := by
  unfold bvC
  rw [List.getElem?_set]
  by_cases e : i = x
  · subst e; rw [if_pos rfl, if_pos hi, if_pos rfl]; rfl
  · rw [if_neg e, if_neg (fun r => e r.symm)]
/-- The k so far: who is left, and for each node the greatest k so far. -/
def KB (f : Nat → Nat → Bool) (N m : Nat) (o : List Nat) (l : List Bool) : Prop :=
  (∀ x, x < N → (bvC l x = true ↔ InK f N m x)) ∧ ∀ x, x < N → InK f N (o[x]?.getD 0) x ∧ o[x]?.getD 0 ≤ m ∧ ∀ j, j ≤ m → InK f N j x → j ≤ o[x]?.getD 0
theorem KB.start {f : Nat → Nat → Bool} {N : Nat} {l : List Bool} (h : ∀ x, x < N → bvC l x = true) : KB f N 0 (List.replicate N 0) l :=
  ⟨fun x hx => ⟨fun _ => InK.zero f N x, fun _ => h x hx⟩, fun x hx => by
    have e : (List.replicate N 0)[x]?.getD 0 = 0 := by rw [List.getElem?_replicate, if_pos hx]; rfl
    rw [e]
    exact ⟨InK.zero f N x, Nat.le_refl _, fun j hj _ => hj⟩⟩
theorem KB.next {f : Nat → Nat → Bool} {N m : Nat} {o p : List Nat} {l q : List Bool} (h : KB f N m o l) (hq : ∀ x, x < N → (bvC q x = true ↔ InK f N (m + 1) x)) (hp : ∀ x, x < N → p[x]?.getD 0 = if bvC q x = true then m + 1 else o[x]?.getD 0) : KB f N (m + 1) p q :=
  ⟨hq, fun x hx => by
    obtain ⟨h1, h2, h3⟩ := h.2 x hx
    rw [hp x hx]
    by_cases e : bvC q x = true
    · rw [if_pos e]
      exact ⟨(hq x hx).1 e, Nat.le_refl _, fun j hj _ => hj⟩
    · rw [if_neg e]
      refine ⟨h1, by omega, fun j hj r => ?_⟩
      by_cases a : j = m + 1
      · subst a; exact absurd ((hq x hx).2 r) e
      · exact h3 j (by omega) r⟩
theorem KB.fin {f : Nat → Nat → Bool} {N m : Nat} {o : List Nat} {l : List Bool} (h : KB f N m o l) (hf : ∀ i, f i i = false) (hm : N ≤ m + 1) : ∀ x, x < N → Cn f N x (o[x]?.getD 0) := fun x hx => by
  obtain ⟨h1, h2, h3⟩ := h.2 x hx
  refine ⟨h1, fun q => ?_⟩
  have a := q.le hx
  have b : dg f N (fun _ => true) x < N := dg_lt (hf x) hx
  have := h3 _ (by omega) q
  omega
/-- Within a sweep: whoever must stay is there; nobody has gone, or somebody. -/
def SB (f : Nat → Nat → Bool) (N k : Nat) (l0 l : List Bool) (i : Nat) (bb : Bool) : Prop :=
  (∀ x, x < N → InK f N k x → bvC l x = true) ∧ (bb = false → l = l0 ∧ ∀ j, j < i → bvC l0 j = true → k ≤ dg f N (bvC l0) j) ∧ (bb = true → ct l < ct l0)
theorem SB.stay {f : Nat → Nat → Bool} {N k : Nat} {l0 l : List Bool} {i : Nat} {bb : Bool} (h : SB f N k l0 l i bb) (q : bvC l i = true → k ≤ dg f N (bvC l) i) : SB f N k l0 l (i + 1) bb :=
  ⟨h.1, fun e => by
    obtain ⟨h1, h2⟩ := h.2.1 e
    refine ⟨h1, fun j hj r => ?_⟩
    by_cases a : j = i
    · subst a; rw [h1] at q; exact q r
    · exact h2 j (by omega) r, h.2.2⟩
theorem SB.go {f : Nat → Nat → Bool} {N k : Nat} {l0 l : List Bool} {i : Nat} {bb : Bool} (h : SB f N k l0 l i bb) (hl : l.length = N) (hi : i < N) (h1 : bvC l i = true) (h2 : dg f N (bvC l) i < k) : SB f N k l0 (l.set i false) (i + 1) true := by
  have hs := ct_set l i h1
  refine ⟨peel_keep (v := i) h.1 h2 (fun x hx => ?_), fun e => by simp at e, fun _ => ?_⟩
  · rw [bvC_set _ _ _ _ (by omega)]
    by_cases e : x = i
    · rw [if_pos e]; simp [e]
    · rw [if_neg e]; simp [e]
  · cases bb with
    | false => have := (h.2.1 rfl).1; subst this; omega
    | true => have := h.2.2 rfl; omega
/-- In how many pairs a node is. -/
def inP (L : List (Nat × Nat)) (x : Nat) : Nat := (L.filter fun p => decide (p.1 = x) || decide (p.2 = x)).length
theorem inP_snoc (L : List (Nat × Nat)) (p : Nat × Nat) (x : Nat) : inP (L ++ [p]) x = inP L x + (if p.1 = x ∨ p.2 = x then 1 else 0) := by
  unfold inP
  rw [List.filter_append, List.length_append]
  congr 1
  by_cases h : p.1 = x ∨ p.2 = x
  · rw [if_pos h]
    have : (decide (p.1 = x) || decide (p.2 = x)) = true := by simpa using h
    simp [List.filter, this]
  · rw [if_neg h]
    have : (decide (p.1 = x) || decide (p.2 = x)) = false := by simpa using h
    simp [List.filter, this]
theorem inP_le (L : List (Nat × Nat)) (x : Nat) : inP L x ≤ L.length := List.length_filter_le _ _
/-- A node is in as many pairs as others are near. -/
theorem inP_dg {f : Nat → Nat → Bool} {N : Nat} (hs : ∀ i m, f i m = f m i) (hf : ∀ i, f i i = false) {x : Nat} (hx : x < N) : inP (cpr f N) x = dg f N (fun _ => true) x := by
  unfold inP dg
  have h1 : ((cpr f N).filter fun p => decide (p.1 = x) || decide (p.2 = x)).length = (((List.range N).filter fun m => true && f x m).map fun m => if m < x then (m, x) else (x, m)).length := by
    refine nd_eq (nd_filter (cpr_nodup f N)) ?_ fun p => ?_
    · refine nd_map (fun a b e => ?_) (nd_filter List.nodup_range)
      split at e <;> split at e <;> simp only [Prod.mk.injEq] at e <;> omega
    · rw [List.mem_filter, cpr_mem]
      simp only [List.mem_map, List.mem_filter, List.mem_range, Bool.true_and, Bool.or_eq_true, decide_eq_true_eq]
      constructor
      · rintro ⟨⟨a1, a2, a3⟩, a4⟩
        rcases a4 with a4 | a4
        · refine ⟨p.2, ⟨a2, by rw [← a4]; exact a3⟩, ?_⟩
          rw [if_neg (by omega), ← a4]
        · refine ⟨p.1, ⟨by omega, by rw [← a4, hs]; exact a3⟩, ?_⟩
          rw [if_pos (by omega), ← a4]
      · rintro ⟨m, ⟨b1, b2⟩, e⟩
        have hne : m ≠ x := fun q => by rw [q, hf] at b2; cases b2
        split at e
        · rw [← e]; exact ⟨⟨by assumption, hx, by show f m x = true; rw [hs]; exact b2⟩, .inr rfl⟩
        · rw [← e]; exact ⟨⟨by show x < m; omega, b1, b2⟩, .inl rfl⟩
  rw [h1, List.length_map]
/-- In how many pairs each of the first n nodes is. -/
def dnl (n : Nat) (L : List (Nat × Nat)) : List Nat := (List.range n).map (inP L)
theorem dnl_length (n : Nat) (L : List (Nat × Nat)) : (dnl n L).length = n := by unfold dnl; simp
theorem dnl_get {n x : Nat} (L : List (Nat × Nat)) (h : x < n) : (dnl n L)[x]? = some (inP L x) := by unfold dnl; rw [List.getElem?_map, List.getElem?_range h]; rfl
theorem dnl_nil (n : Nat) : dnl n [] = List.replicate n 0 := by
  apply List.ext_getElem (by simp [dnl])
  intro i h1 h2
  simp [dnl, inP]
theorem dnl_snoc {n : Nat} (L : List (Nat × Nat)) {a b : Nat} (h1 : a ≠ b) : dnl n (L ++ [(a, b)]) = ((dnl n L).set a (inP L a + 1)).set b (inP L b + 1) := by
  apply List.ext_getElem (by simp [dnl])
  intro i q1 q2
  have hi : i < n := by simpa [dnl] using q1
  have e : (dnl n (L ++ [(a, b)]))[i] = inP (L ++ [(a, b)]) i := by simp [dnl]
  have e2 : (dnl n L)[i]'(by rw [dnl_length]; exact hi) = inP L i := by simp [dnl]
  rw [e, inP_snoc]
  simp only [List.getElem_set]
  by_cases y : b = i
  · rw [if_pos y]; subst y; simp
  · by_cases z : a = i
    · rw [if_neg y, if_pos z]; subst z; simp
    · rw [if_neg y, if_neg z, e2]; simp [y, z]
/-- The pair of two nodes, the lesser one first; the pairs of a list of arcs, each once. -/
def pof (a b : Nat) : Nat × Nat := (min a b, max a b)
def nbst (S : List (Nat × Nat)) (a : Nat × Nat) : List (Nat × Nat) := if a.1 ≠ a.2 ∧ pof a.1 a.2 ∉ S then S ++ [pof a.1 a.2] else S
def nbs (L : List (Nat × Nat)) : List (Nat × Nat) := L.foldl nbst []
theorem nbs_snoc (L : List (Nat × Nat)) (a : Nat × Nat) : nbs (L ++ [a]) = nbst (nbs L) a := by unfold nbs; rw [List.foldl_append]; rfl
theorem nbst_mem (S : List (Nat × Nat)) (a p : Nat × Nat) : p ∈ nbst S a ↔ p ∈ S ∨ (a.1 ≠ a.2 ∧ p = pof a.1 a.2) := by
  unfold nbst
  by_cases h : a.1 ≠ a.2 ∧ pof a.1 a.2 ∉ S
  · rw [if_pos h, List.mem_append, List.mem_singleton]
    exact ⟨fun q => q.elim .inl (fun e => .inr ⟨h.1, e⟩), fun q => q.elim .inl (fun e => .inr e.2)⟩
  · rw [if_neg h]
    refine ⟨.inl, fun q => q.elim id fun ⟨e1, e2⟩ => ?_⟩
    rw [e2]
    by_cases r : pof a.1 a.2 ∈ S
    · exact r
    · exact absurd ⟨e1, r⟩ h
theorem nbs_fold (L : List (Nat × Nat)) (p : Nat × Nat) : ∀ S, p ∈ L.foldl nbst S ↔ p ∈ S ∨ ∃ a ∈ L, a.1 ≠ a.2 ∧ p = pof a.1 a.2 := by
  induction L with
  | nil => intro S; simp
  | cons x t ih =>
    intro S
    rw [List.foldl_cons, ih, nbst_mem]
    constructor
    · rintro ((h | h) | ⟨a, ha, h⟩)
      · exact .inl h
      · exact .inr ⟨x, List.mem_cons_self .., h⟩
      · exact .inr ⟨a, List.mem_cons_of_mem _ ha, h⟩
    · rintro (h | ⟨a, ha, h⟩)
      · exact .inl (.inl h)
      · rcases List.mem_cons.1 ha with e | e
        · subst e; exact .inl (.inr h)
        · exact .inr ⟨a, e, h⟩
theorem nbs_mem (L : List (Nat × Nat)) (p : Nat × Nat) : p ∈ nbs L ↔ ∃ a ∈ L, a.1 ≠ a.2 ∧ p = pof a.1 a.2 := by unfold nbs; rw [nbs_fold]; simp
theorem nbst_nodup {S : List (Nat × Nat)} (h : S.Nodup) (a : Nat × Nat) : (nbst S a).Nodup := by
  unfold nbst
  split
  · rename_i q
    rw [List.nodup_append]
    exact ⟨h, by simp, fun x hx y hy e => by rw [List.mem_singleton] at hy; rw [e, hy] at hx; exact q.2 hx⟩
  · exact h
theorem nbs_nodup (L : List (Nat × Nat)) : (nbs L).Nodup := by
  have : ∀ S, S.Nodup → (L.foldl nbst S).Nodup := by
    induction L with
    | nil => intro S h; exact h
    | cons x t ih => intro S h; exact ih _ (nbst_nodup h x)
  exact this [] List.nodup_nil
theorem nbst_len (S : List (Nat × Nat)) (a : Nat × Nat) : (nbst S a).length ≤ S.length + 1 := by unfold nbst; split <;> simp
theorem nbs_len (L : List (Nat × Nat)) : (nbs L).length ≤ L.length := by
  have : ∀ S, (L.foldl nbst S).length ≤ S.length + L.length := by
    induction L with
    | nil => intro S; simp
    | cons x t ih => intro S; have := ih (nbst S x); have := nbst_len S x; simp only [List.foldl_cons, List.length_cons]; omega
  have := this []
  simpa [nbs] using this
/-- By the lesser node, then by the greater one. -/
def plt (p q : Nat × Nat) : Prop := p.1 < q.1 ∨ (p.1 = q.1 ∧ p.2 < q.2)
theorem plt_asymm {p q : Nat × Nat} (h : plt p q) : ¬ plt q p := by unfold plt at *; omega
theorem plt_irrefl (p : Nat × Nat) : ¬ plt p p := by unfold plt; omega
theorem plt_uniq : ∀ {l m : List (Nat × Nat)}, l.Pairwise plt → m.Pairwise plt → (∀ x, x ∈ l ↔ x ∈ m) → l = m
  | [], [], _, _, _ => rfl
  | [], y :: m, _, _, h => by have := (h y).2 (List.mem_cons_self ..); cases this
  | x :: l, [], _, _, h => by have := (h x).1 (List.mem_cons_self ..); cases this
  | x :: l, y :: m, hl, hm, h => by
    obtain ⟨h1, h2⟩ := List.pairwise_cons.1 hl
    obtain ⟨h3, h4⟩ := List.pairwise_cons.1 hm
    have e : x = y := by
      have a := (h x).1 (List.mem_cons_self ..)
      have b := (h y).2 (List.mem_cons_self ..)
      rcases List.mem_cons.1 a with q | q
      · exact q
      · rcases List.mem_cons.1 b with r | r
        · exact r.symm
        · exact absurd (h1 y r) (plt_asymm (h3 x q))
    subst e
    have := plt_uniq h2 h4 (fun z => by
      have hz := h z
      rw [List.mem_cons, List.mem_cons] at hz
      constructor
      · intro q
        rcases hz.1 (.inr q) with r | r
        · subst r; exact absurd (h1 z q) (plt_irrefl z)
        · exact r
      · intro q
        rcases hz.2 (.inr q) with r | r
        · subst r; exact absurd (h3 z q) (plt_irrefl z)
        · exact r)
    rw [this]
theorem cpr_sorted (f : Nat → Nat → Bool) (N : Nat) : (cpr f N).Pairwise plt := by
  unfold cpr
  have hr : (List.range N).Pairwise (· < ·) := List.pairwise_lt_range
  generalize (List.range N) = M at hr ⊢
  have : ∀ K : List Nat, K.Pairwise (· < ·) → (K.flatMap fun a => (M.filter fun b => decide (a < b) && f a b).map fun b => (a, b)).Pairwise plt := by
    intro K
    induction K with
    | nil => intro _; exact List.Pairwise.nil
    | cons x t ih =>
      intro h
      obtain ⟨h1, h2⟩ := List.pairwise_cons.1 h
      rw [List.flatMap_cons, List.pairwise_append]
      refine ⟨?_, ih h2, fun p hp q hq => ?_⟩
      · rw [List.pairwise_map]
        exact (hr.sublist List.filter_sublist).imp fun q => .inr ⟨rfl, q⟩
      · obtain ⟨b, _, e⟩ := List.mem_map.1 hp
        obtain ⟨y, hy, r⟩ := List.mem_flatMap.1 hq
        obtain ⟨b2, _, e2⟩ := List.mem_map.1 r
        rw [← e, ← e2]
        exact .inl (h1 y hy)
  exact this M hr
/-- Sorted without a repeat, the pairs of arcs are all pairs that are near. -/
theorem sorted_cpr {f : Nat → Nat → Bool} {N : Nat} {L l : List (Nat × Nat)} (hp : l.Perm (nbs L)) (hs : l.Pairwise fun p q => ¬ plt q p) (hm : ∀ p, p ∈ nbs L ↔ p ∈ cpr f N) : l = cpr f N := by
  have hn : l.Nodup := hp.nodup_iff.2 (nbs_nodup L)
  refine plt_uniq ?_ (cpr_sorted f N) fun x => (hp.mem_iff).trans (hm x)
  have hst : ∀ a b : Nat × Nat, ¬ plt b a ∧ a ≠ b → plt a b := fun a b ⟨h1, h2⟩ => by
    unfold plt at *
    by_cases e1 : a.1 = b.1
    · by_cases e2 : a.2 = b.2
      · exact absurd (Prod.ext e1 e2) h2
      · omega
    · omega
  have : l.Pairwise fun p q => ¬ plt q p ∧ p ≠ q := hs.and hn
  exact this.imp fun h => hst _ _ h
/-- Are two nodes of a graph near: does an arc lead from one to the other? -/
def near (g : List (List Nat)) (i j : Nat) : Bool := decide (i ≠ j) && (decide (j ∈ row g i) || decide (i ∈ row g j))
theorem near_iff (g : List (List Nat)) (i j : Nat) : near g i j = true ↔ i ≠ j ∧ (j ∈ row g i ∨ i ∈ row g j) := by unfold near; simp
theorem near_comm (g : List (List Nat)) (i j : Nat) : near g i j = near g j i := by
  rw [Bool.eq_iff_iff, near_iff, near_iff]
  exact ⟨fun ⟨h1, h2⟩ => ⟨fun e => h1 e.symm, h2.symm⟩, fun ⟨h1, h2⟩ => ⟨fun e => h1 e.symm, h2.symm⟩⟩
theorem near_self (g : List (List Nat)) (i : Nat) : near g i i = false := by unfold near; simp
theorem near_lt {g : List (List Nat)} (hok : GOk g) {i j : Nat} (h : near g i j = true) : i < g.length ∧ j < g.length := by
  obtain ⟨_, h1⟩ := (near_iff g i j).1 h
  have hr : ∀ i x, x ∈ row g i → i < g.length ∧ x < g.length := fun i x hx => by
    by_cases e : i < g.length
    · exact ⟨e, hok.bd _ (row_mem e) x hx⟩
    · rw [row_out (by omega)] at hx; cases hx
  rcases h1 with q | q
  · exact hr _ _ q
  · exact (hr _ _ q).symm
/-- Whichever way arcs lead, the same are near. -/
theorem near_both (g : List (List Nat)) (i j : Nat) (hi : i < g.length) (hj : j < g.length) : near (gboth g) i j = near g i j := by
  rw [Bool.eq_iff_iff, near_iff, near_iff, gboth_mem hi, gboth_mem hj]
  constructor
  · rintro ⟨h, (q | q) | (q | q)⟩
    · exact ⟨h, .inl q⟩
    · exact ⟨h, .inr q⟩
    · exact ⟨h, .inr q⟩
    · exact ⟨h, .inl q⟩
  · rintro ⟨h, q⟩; exact ⟨h, .inl q⟩
theorem dg_near (g : List (List Nat)) (N : Nat) (S : Nat → Bool) {i : Nat} (hi : i < N) : dg (near g) N S i < N := dg_lt (near_self g i) hi
theorem nbs_near {g : List (List Nat)} (hok : GOk g) (p : Nat × Nat) : p ∈ nbs (arcs 0 g) ↔ p ∈ cpr (near g) g.length := by
  rw [nbs_mem, cpr_mem]
  constructor
  · rintro ⟨a, ha, hne, rfl⟩
    rw [arcs_mem0] at ha
    have hn : near g a.1 a.2 = true := (near_iff g _ _).2 ⟨hne, .inl ha⟩
    obtain ⟨b1, b2⟩ := near_lt hok hn
    unfold pof
    simp only
    by_cases h : a.1 < a.2
    · rw [Nat.min_eq_left (by omega), Nat.max_eq_right (by omega)]; exact ⟨h, b2, hn⟩
    · rw [Nat.min_eq_right (by omega), Nat.max_eq_left (by omega)]; exact ⟨by omega, b1, by rw [near_comm]; exact hn⟩
  · rintro ⟨h1, h2, h3⟩
    obtain ⟨_, q | q⟩ := (near_iff g _ _).1 h3
    · refine ⟨(p.1, p.2), (arcs_mem0 g _).2 q, by show p.1 ≠ p.2; omega, ?_⟩
      unfold pof
      rw [Nat.min_eq_left (by show p.1 ≤ p.2; omega), Nat.max_eq_right (by show p.1 ≤ p.2; omega)]
    · refine ⟨(p.2, p.1), (arcs_mem0 g _).2 q, by show p.2 ≠ p.1; omega, ?_⟩
      unfold pof
      rw [Nat.min_eq_right (by show p.1 ≤ p.2; omega), Nat.max_eq_left (by show p.1 ≤ p.2; omega)]
end

section
set_option maxRecDepth 100000
set_option linter.unusedVariables false
open Go.RowKit Go.Shelf

theorem row_ofC (R : List Rw) (g : List (List Nat)) (h : gs R = g.map ns) (i : Nat) (hi : i < g.length) : (R[i]?.getD (none, 0, [])).2.2 = ns (row g i) := by
  have h1 : (gs R)[i]? = (g.map ns)[i]? := by rw [h]
  unfold gs at h1
  have hl : R.length = g.length := by have := congrArg List.length h; rwa [gs_length, List.length_map] at this
  rw [List.getElem?_map, List.getElem?_map, List.getElem?_eq_getElem (by omega), List.getElem?_eq_getElem hi] at h1
  simp only [Option.map_some, Option.some.injEq] at h1
  rw [List.getElem?_eq_getElem (by omega)]
  simp only [Option.getD_some]
  rw [h1]
  unfold row
  rw [List.getElem?_eq_getElem hi]; rfl
theorem mem_nsC (l : List Nat) (x : Nat) : ((x : Int) ∈ ns l) ↔ x ∈ l := by
  unfold ns
  rw [List.mem_map]
  exact ⟨fun ⟨y, h, e⟩ => by have : y = x := by omega
                             exact this ▸ h, fun h => ⟨x, h, rfl⟩⟩
set_option maxHeartbeats 2000000 in
theorem near_any (R : List Rw) (g : List (List Nat)) (hg : gs R = g.map ns) (N : Nat) (hN : R.length = N) (A : Option Addr) (c : Nat) (i j : Nat) (hi : i < N) (hj : j < N) (w : World) (h : RdG w w.heap.size A R) :
    Calls Try.prog 32 #[.agg #[.slice A N c], .int .i64 (i : Int), .int .i64 (j : Int)] w fun e w' => e = .returned (.bool (near g i j)) ∧ Below w.heap.size w w' := by
  have hgl : g.length = N := by have := congrArg List.length hg; rw [gs_length, List.length_map] at this; omega
  have HL : Hid (∀ a b, a < N → b < N → ∀ V, RdG V V.heap.size A R → Calls Try.prog 66 #[.agg #[.slice A N c], .int .i64 (a : Int), .int .i64 (b : Int)] V fun e w' => e = .returned (.bool (decide (b ∈ row g a))) ∧ Below V.heap.size V w') := fun a b ha hb V hV => by
    have := leads_any R N hN A c a ha (b : Int) V hV
    rw [row_ofC R g hg a (by rw [hgl]; exact ha)] at this
    rwa [show decide ((b : Int) ∈ ns (row g a)) = decide (b ∈ row g a) from decide_eq_decide.2 (mem_nsC _ _)] at this
  obtain ⟨w1, hw1⟩ : ∃ w1, w.alloc (.cells #[.slice A N c] 24) = w1 := ⟨_, rfl⟩
  have HB1 : Hid (Below w.heap.size w w1) := hw1 ▸ one_below w _
  have HR1 : Hid (RdG w1 w1.heap.size A R) := h.on HB1.out
  have kg1 : w1.cell? ⟨w.heap.size, 0, none⟩ = some (.slice A N c) := by rw [← hw1]; exact (cell_at (World.alloc_heap_new w _) 0).trans rfl
  have HK := Lib.hid kg1
  have HW := Lib.hid hw1
  have HNr : Hid (near g i j = (decide (i ≠ j) && (decide (j ∈ row g i) || decide (i ∈ row g j)))) := rfl
  rw [← hw1] at kg1
  clear hgl hg hN h hw1
  go_enter Try.func32, Try.ntmps32
  by_cases e : i = j
  · have t1 : ((i : Int) != (j : Int)) = false := by simp; omega
    have HV : Hid (near g i j = false) := by show _ = _; rw [HNr.out, decide_eq_false (by omega)]; rfl
    clear e
    go_wp2
    rw [HW.out]
    go_ret
    exact ⟨by rw [HV.out]; rfl, HB1.out⟩
  · have t1 : ((i : Int) != (j : Int)) = true := by simp; omega
    have HV : Hid (near g i j = (decide (j ∈ row g i) || decide (i ∈ row g j))) := by show _ = _; rw [HNr.out, decide_eq_true e]; rfl
    have HC : Hid (Calls Try.prog 66 #[.agg #[.slice A N c], .int .i64 (i : Int), .int .i64 (j : Int)] (w.alloc (.cells #[.slice A N c] 24)) fun e w' => e = .returned (.bool (decide (j ∈ row g i))) ∧ Below w1.heap.size w1 w') := by rw [HW.out]; exact HL.out i j hi hj w1 HR1.out
    clear e
    go_wp2_with fail
    refine HC.out.mono ?_
    rintro e w2 ⟨rfl, b2⟩
    have HR2 : Hid (RdG w2 w2.heap.size A R) := HR1.out.on b2
    have k2 : w2.cell? ⟨w.heap.size, 0, none⟩ = some (.slice A N c) := (b2.cell (World.block_lt_of_cell? _ _ HK.out)).trans HK.out
    have HB2 : Hid (Below w.heap.size w w2) := HB1.out.trans (b2.mono HB1.out.size)
    clear b2 HC kg1 HB1
    generalize decide (j ∈ row g i) = z at *
    cases z with
    | true =>
      go_wp2
      go_ret
      exact ⟨by rw [HV.out]; rfl, HB2.out⟩
    | false =>
      have HC := Lib.hid (HL.out j i hj hi w2 HR2.out)
      go_wp2_with fail
      refine HC.out.mono ?_
      rintro e w3 ⟨rfl, b3⟩
      have HB3 : Hid (Below w.heap.size w w3) := HB2.out.trans (b3.mono HB2.out.size)
      clear b3 HC k2
      go_wp2
      go_ret
      exact ⟨by rw [HV.out]; rfl, HB3.out⟩
end

section
set_option maxRecDepth 100000
set_option linter.unusedVariables false
open Go.RowKit Go.Shelf

theorem info_intC : (Try.prog.info? 3).map (fun i => (i.zero, i.size, i.bytes)) = some (some (.int .i64 0), 1, 8) := by kernel_rfl
/-- A row of numbers of the call's own, which may have room behind it. -/
structure Oc (w1 W : World) (gb N cap : Nat) (f : List Int) : Prop where
  low : Below w1.heap.size w1 W
  ge : w1.heap.size ≤ gb
  own : W.ownsRow w1.heap.size 3 1 (.slice (some ⟨gb, 0, none⟩) N cap) N (zc f)
theorem iv_get (f : List Int) (i : Nat) (h : i < f.length) : (zc f)[i]? = some (.int .i64 (iv f i)) := by
  unfold zc iv
  rw [List.getElem?_map, List.getElem?_eq_getElem h]; rfl
theorem Oc.set {w1 W : World} {gb N cap : Nat} {f : List Int} (h : Oc w1 W gb N cap f) (i : Nat) (x : Int) : Oc w1 (W.setCell ⟨gb, i, none⟩ (.int .i64 x)) gb N cap (f.set i x) := by
  refine ⟨h.low.setCell (p := ⟨gb, i, none⟩) h.ge _, h.ge, ?_⟩
  have := own_set h.own (i := i) (.int .i64 x)
  unfold zc at this ⊢
  rw [List.map_set]; exact this
theorem Oc.cell {w1 W : World} {gb N cap : Nat} {f : List Int} (h : Oc w1 W gb N cap f) (i : Nat) (hi : i < f.length) : W.cell? ⟨gb, i, none⟩ = some (.int .i64 (iv f i)) ∧ W.frozen? ⟨gb, i, none⟩ = false := own_cell h.own (iv_get f i hi)
theorem Oc.drewN {w1 W : World} {gb N cap : Nat} {f : List Int} (h : Oc w1 W gb N cap f) (n : Nat) : Oc w1 (W.drewN n) gb N cap f := ⟨below_drewN h.low n, h.ge, h.own⟩
theorem own_onC {w X : World} {base k n : Nat} {T : TypeId} {v : Value} {xs : List Value} (h : w.ownsRow base T k v n xs) (hb : Below w.heap.size w X) : X.ownsRow base T k v n xs := by
  refine ⟨h.1, ?_⟩
  rcases h.2 with h0 | ⟨g, cap, cur, e, h1, h2, h3⟩
  · exact .inl h0
  · exact .inr ⟨g, cap, cur, e, h1, (hb.block g (Array.getElem?_eq_some_iff.1 h2).1).trans h2, h3⟩
theorem Oc.on {w1 W X : World} {gb N cap : Nat} {f : List Int} (h : Oc w1 W gb N cap f) (hb : Below W.heap.size W X) : Oc w1 X gb N cap f := ⟨h.low.trans (hb.mono h.low.size), h.ge, own_onC h.own hb⟩
set_option maxHeartbeats 8000000 in
theorem refcp_ok (R : List Rw) (g : List (List Nat)) (hg : gs R = g.map ns) (hok : GOk g) (N : Nat) (hN : R.length = N) (A : Option Addr) (c : Nat) (w : World) (h : RdG w w.heap.size A R) :
    Calls Try.prog 28 #[.agg #[.slice A N c]] w fun e w' => ∃ A2 c2, e = .returned (.slice A2 N c2) ∧ RdV w' w'.heap.size A2 (zc (pairing (near g) N)) ∧ Below w.heap.size w w' := by
  obtain ⟨i0, hi, hz0, hz1, hz2⟩ := info_parts info_intC
  have hgl : g.length = N := by have := congrArg List.length hg; rw [gs_length, List.length_map] at this; omega
  have hN1 : N ≤ 100 := by have := hok.nodes; omega
  obtain ⟨w1, hw1⟩ : ∃ w1, w.alloc (.cells #[.slice A N c] 24) = w1 := ⟨_, rfl⟩
  have hb1 : Below w.heap.size w w1 := hw1 ▸ one_below w _
  have hs1 : w.heap.size < w1.heap.size := by rw [← hw1, World.size_alloc]; omega
  have kg1 : w1.cell? ⟨w.heap.size, 0, none⟩ = some (.slice A N c) := by rw [← hw1]; exact (cell_at (World.alloc_heap_new w _) 0).trans rfl
  have HKg : Hid (∀ V, Below w1.heap.size w1 V → V.cell? ⟨w.heap.size, 0, none⟩ = some (.slice A N c)) := fun V hV => (hV.cell (p := ⟨w.heap.size, 0, none⟩) hs1).trans kg1
  have HNe : Hid (∀ a b, a < N → b < N → ∀ V, Below w1.heap.size w1 V → Calls Try.prog 32 #[.agg #[.slice A N c], .int .i64 (a : Int), .int .i64 (b : Int)] V fun e w' => e = .returned (.bool (near g a b)) ∧ Below V.heap.size V w') := fun a b ha hb V hV => near_any R g hg N hN A c a b ha hb V (h.on (hb1.trans (hV.mono hb1.size)))
  have HB1 := Lib.hid hb1
  have HW := Lib.hid hw1
  rw [← hw1] at kg1
  clear hg hok hN hgl h hb1 hw1 hs1
  go_enter Try.func28, Try.ntmps28
  go_wp2
  rw [HW.out]
  clear kg1
  go_loopw [4, 5] (fun v p wr => ∃ i : Nat, i ≤ N ∧ p = .int .i64 (i : Int) ∧ wr.ownsRow w1.heap.size 3 1 v i (zc (List.replicate i (-1))) ∧ Below w1.heap.size w1 wr) (fun _ p _ => N - (intOf p).toNat)
  case atStart => exact ⟨0, Nat.zero_le _, rfl, ⟨rfl, .inl ⟨rfl, rfl⟩⟩, Below.refl _ _⟩
  case round =>
   as_aux_lemma =>
    obtain ⟨i, hi2, rfl, hrow, hbel⟩ := hrel
    obtain ⟨Av, cv, rfl⟩ := own_sliceT hrow
    have HBl := Lib.hid hbel
    by_cases hlt : i < N
    · clear hbel
      go_wp2_with (at_builtin; refine wpList_append_own _ rfl _ _ 25 rfl w1.heap.size 3 i0 (.int .i64 0) 1 8 Try.underlying25 hi hz0 hz1 hz2 rfl (by decide) _ _ _ rfl (hrow.alloc _) ⟨wr.heap.size, 0, none⟩ 1 1 [.int .i64 (-1)] rfl rfl (news_row wr [.int .i64 (-1)] _) (by simp [Value.oneCell']) (by unfold maxLen; omega) (by omega) (by have := HBl.out.size; simp; omega) ?_; intro v' w3 hown' hgrow _)
      refine ⟨⟨i + 1, by omega, by go_num, ?_, ?_⟩, by simp [intOf]; omega⟩
      · have e : zc (List.replicate (i + 1) (-1)) = zc (List.replicate i (-1)) ++ [.int .i64 (-1)] := by unfold zc; rw [List.replicate_succ', List.map_append]; rfl
        rw [e]; exact hown'
      · exact HBl.out.trans (((Below.refl w1.heap.size wr).alloc HBl.out.size _).trans (grown_low hgrow (hrow.alloc _) (by have := HBl.out.size; simp; omega)))
    · obtain rfl : i = N := by omega
      have HO := Lib.hid (⟨hrow, hbel⟩ : _ ∧ _)
      clear hrow hbel HBl
      generalize wr = W1 at *
      go_wp2
      go_loopw [6] (fun p wq => ∃ a : Nat, a ≤ i ∧ p = .int .i64 (a : Int) ∧ wq.ownsRow w1.heap.size 3 1 (.slice Av i cv) i (zc (pto (near g) i a)) ∧ Below w1.heap.size w1 wq) (fun p _ => i - (intOf p).toNat)
      case atStart => exact ⟨0, Nat.zero_le _, rfl, HO.out.1, HO.out.2⟩
      case round =>
       as_aux_lemma =>
        clear HO
        obtain ⟨a, ha, rfl, hrow, hbel⟩ := hrel
        by_cases hai : a < i
        · obtain ⟨gb, cap, e0, hgb, hgb2⟩ := hrow.form (by omega)
          simp only [Value.slice.injEq] at e0
          obtain ⟨rfl, -, rfl⟩ := e0
          have HO : Hid (Oc w1 wr gb i cv (pto (near g) i a)) := ⟨hbel, hgb, hrow⟩
          have HP : Hid (∃ L, Pg (near g) i L (pto (near g) i a)) := pto_pg (near_comm g) a
          have HS := Lib.hid (pto_succ (near g) i a)
          generalize pto (near g) i a = F at *
          clear hrow hbel hgb hgb2
          go_wp2
          go_loopw [7] (fun p wq => ∃ b : Nat, a + 1 ≤ b ∧ b ≤ i ∧ p = .int .i64 (b : Int) ∧ Oc w1 wq gb i cv (prw (near g) a b F)) (fun p _ => i - (intOf p).toNat)
          case atStart => exact ⟨a + 1, Nat.le_refl _, by omega, by go_num, by rw [prw_low _ _ _ _ (Nat.le_refl _)]; exact HO.out⟩
          case round =>
           as_aux_lemma =>
            clear HO
            obtain ⟨b, hb1, hb2, rfl, hO⟩ := hrel
            by_cases hbi : b < i
            · have hPg : ∃ L, Pg (near g) i L (prw (near g) a b F) := prw_pg (near_comm g) HP.out b hb2
              have hpl : (prw (near g) a b F).length = i := by obtain ⟨L, q⟩ := hPg; exact q.len
              have hna : iv (prw (near g) a b F) a < 0 ↔ iv (prw (near g) a b F) a = -1 := by obtain ⟨L, q⟩ := hPg; exact q.neg hai
              have hnb : iv (prw (near g) a b F) b < 0 ↔ iv (prw (near g) a b F) b = -1 := by obtain ⟨L, q⟩ := hPg; exact q.neg hbi
              have HSu := Lib.hid (prw_succ (near g) a b F)
              have kg := HKg.out _ hO.low
              have HC := Lib.hid (HNe.out a b hai hbi wr hO.low)
              have HO := Lib.hid hO
              clear hO hPg
              generalize near g a b = z at *
              generalize prw (near g) a b F = P at *
              go_wp2_with fail
              refine HC.out.mono ?_
              rintro e w4 ⟨rfl, b4⟩
              have HO4 := Lib.hid (HO.out.on b4)
              clear b4 HC kg HO
              cases z with
              | false =>
                have HE : Hid (prw (near g) a (b + 1) F = P) := by show _ = _; rw [HSu.out, Bool.and_false]; simp
                clear hna hnb
                go_wp2
                go_roundw
                case rel => exact ⟨b + 1, by omega, by omega, by go_num, by rw [HE.out]; exact HO4.out⟩
                case measure => simp [intOf]; omega
              | true =>
                obtain ⟨ka, kaz⟩ := HO4.out.cell a (by rw [hpl]; exact hai)
                obtain ⟨kb, kbz⟩ := HO4.out.cell b (by rw [hpl]; exact hbi)
                have t1 : (0 : Int) ≤ (a : Int) := by omega
                have t2 : (a : Int) < (i : Int) := by omega
                have t3 : (0 : Int) ≤ (b : Int) := by omega
                have t4 : (b : Int) < (i : Int) := by omega
                have hE : prw (near g) a (b + 1) F = pst P (a, b) := by rw [HSu.out, decide_eq_true (by omega : a < b)]; simp
                unfold pst at hE
                simp only at hE
                by_cases c1 : iv P a < 0
                · by_cases c2 : iv P b < 0
                  · rw [if_pos ⟨hna.1 c1, hnb.1 c2⟩] at hE
                    have HE := Lib.hid hE
                    have HO2 : Hid (Oc w1 ((w4.setCell ⟨gb, a, none⟩ (.int .i64 (b : Int))).setCell ⟨gb, b, none⟩ (.int .i64 (a : Int))) gb i cv ((P.set a (b : Int)).set b (a : Int))) := (HO4.out.set a b).set b a
                    have t5 : decide (iv P a < 0) = true := decide_eq_true c1
                    have t6 : decide (iv P b < 0) = true := decide_eq_true c2
                    have HPl := Lib.hid hpl
                    clear hna hnb hE c1 c2
                    generalize iv P a = x at *
                    generalize iv P b = y at *
                    go_wp2
                    go_roundw
                    case rel => exact ⟨b + 1, by omega, by omega, by go_num, by rw [HE.out]; exact HO2.out⟩
                    case measure => simp [intOf]; omega
                  · have HE : Hid (prw (near g) a (b + 1) F = P) := by show _ = _; rw [hE, if_neg (fun q => c2 (hnb.2 q.2))]
                    have t5 : decide (iv P a < 0) = true := decide_eq_true c1
                    have t6 : decide (iv P b < 0) = false := decide_eq_false c2
                    clear hna hnb hE c1 c2
                    generalize iv P a = x at *
                    generalize iv P b = y at *
                    go_wp2
                    go_roundw
                    case rel => exact ⟨b + 1, by omega, by omega, by go_num, by rw [HE.out]; exact HO4.out⟩
                    case measure => simp [intOf]; omega
                · have HE : Hid (prw (near g) a (b + 1) F = P) := by show _ = _; rw [hE, if_neg (fun q => c1 (hna.2 q.1))]
                  have t5 : decide (iv P a < 0) = false := decide_eq_false c1
                  clear hna hnb hE c1
                  generalize iv P a = x at *
                  go_wp2
                  go_roundw
                  case rel => exact ⟨b + 1, by omega, by omega, by go_num, by rw [HE.out]; exact HO4.out⟩
                  case measure => simp [intOf]; omega
            · obtain rfl : b = i := by omega
              have HE : Hid (Oc w1 wr gb b cv (pto (near g) b (a + 1))) := by rw [HS.out]; exact hO
              clear hO
              go_wp2
              go_roundw
              case rel => exact ⟨a + 1, by omega, by go_num, HE.out.own, HE.out.low⟩
              case measure => simp [intOf]; omega
        · obtain rfl : a = i := by omega
          have HE : Hid (RdV wr wr.heap.size Av (zc (pairing (near g) a)) ∧ Below w.heap.size w wr) := ⟨own_rdvA (by rw [← pto_end]; exact hrow), HB1.out.trans (hbel.mono HB1.out.size)⟩
          clear hrow hbel
          go_wp2
          go_ret
          exact ⟨Av, cv, rfl, HE.out.1, HE.out.2⟩
end

section
set_option maxRecDepth 100000
set_option linter.unusedVariables false
open Go.RowKit Go.Shelf

theorem ns_setC (l : List Nat) (i x : Nat) : (ns l).set i ((x : Int) + 1) = ns (l.set i (x + 1)) := by unfold ns; rw [List.map_set]; rfl
theorem Oc.inc {w1 W : World} {gb N cap : Nat} {l : List Nat} (h : Oc w1 W gb N cap (ns l)) (i x : Nat) : Oc w1 (W.setCell ⟨gb, i, none⟩ (.int .i64 ((x : Int) + 1))) gb N cap (ns (l.set i (x + 1))) := by
  have := h.set i ((x : Int) + 1)
  rwa [ns_setC] at this
theorem Oc.at_ {w1 W : World} {gb N cap : Nat} {l : List Nat} (h : Oc w1 W gb N cap (ns l)) {i x : Nat} (hx : l[i]? = some x) : W.cell? ⟨gb, i, none⟩ = some (.int .i64 (x : Int)) ∧ W.frozen? ⟨gb, i, none⟩ = false := own_cell h.own (zc_getN l i x hx)
set_option maxHeartbeats 8000000 in
theorem refct_ok (R : List Rw) (g : List (List Nat)) (hg : gs R = g.map ns) (hok : GOk g) (N : Nat) (hN : R.length = N) (A : Option Addr) (c0 : Nat) (w : World) (h : RdG w w.heap.size A R) :
    Calls Try.prog 29 #[.agg #[.slice A N c0]] w fun e w' => ∃ b c2, e = .returned (.tuple #[.slice (some ⟨b, 0, none⟩) N c2, .int .i64 ((trz (near g) N).length : Int)]) ∧ RdV w' w'.heap.size (some ⟨b, 0, none⟩) (zc (ns (cnl N (trz (near g) N)))) ∧ Below w.heap.size w w' := by
  obtain ⟨i0, hi, hz0, hz1, hz2⟩ := info_parts info_intC
  have hgl : g.length = N := by have := congrArg List.length hg; rw [gs_length, List.length_map] at this; omega
  have hN1 : N ≤ 100 := by have := hok.nodes; omega
  obtain ⟨w1, hw1⟩ : ∃ w1, w.alloc (.cells #[.slice A N c0] 24) = w1 := ⟨_, rfl⟩
  have hb1 : Below w.heap.size w w1 := hw1 ▸ one_below w _
  have hs1 : w.heap.size < w1.heap.size := by rw [← hw1, World.size_alloc]; omega
  have kg1 : w1.cell? ⟨w.heap.size, 0, none⟩ = some (.slice A N c0) := by rw [← hw1]; exact (cell_at (World.alloc_heap_new w _) 0).trans rfl
  have HKg : Hid (∀ V, Below w1.heap.size w1 V → V.cell? ⟨w.heap.size, 0, none⟩ = some (.slice A N c0)) := fun V hV => (hV.cell (p := ⟨w.heap.size, 0, none⟩) hs1).trans kg1
  have HNe : Hid (∀ a b, a < N → b < N → ∀ V, Below w1.heap.size w1 V → Calls Try.prog 32 #[.agg #[.slice A N c0], .int .i64 (a : Int), .int .i64 (b : Int)] V fun e w' => e = .returned (.bool (near g a b)) ∧ Below V.heap.size V w') := fun a b ha hb V hV => near_any R g hg N hN A c0 a b ha hb V (h.on (hb1.trans (hV.mono hb1.size)))
  have HB1 := Lib.hid hb1
  have HW := Lib.hid hw1
  have hmz : zc (ns (List.replicate N 0)) = (madeCells (Value.int .i64 0).cells (N * 1)).toList := by
    rw [show (Value.int .i64 0).cells = #[Value.int .i64 0] from rfl, toList_madeCells_one, Nat.mul_one]; simp [zc, ns]
  have HMZ := Lib.hid hmz
  rw [← hw1] at kg1
  clear hg hok hN hgl h hb1 hw1 hs1 hmz
  have hle : w1.heap.size ≤ (w.alloc (.cells #[.slice A N c0] 24)).heap.size := by rw [HW.out]; exact Nat.le_refl _
  obtain ⟨f, hf⟩ : ∃ f, near g = f := ⟨_, rfl⟩
  rw [hf] at HNe ⊢
  clear hf
  go_enter Try.func29, Try.ntmps29
  go_wp2_with (at_make; refine wpList_make_full _ rfl _ _ 25 rfl w1.heap.size 3 i0 (.int .i64 0) 1 Try.underlying25 hi hz0 hz1 _ _ _ _ N rfl rfl rfl rfl (by rw [hz2]; omega) (by unfold maxLen; omega) hle ?_; intro w3 hown1 hgrow1; rw [← HMZ.out] at hown1; rw [HW.out] at hgrow1 hown1 ⊢; have hlow : Below w1.heap.size w1 w3 := (Below.refl _ w1).grown hgrow1 (Nat.le_refl _) (fun j hj => nomatch hj); have HO : Hid (Oc w1 w3 w1.heap.size N N (ns (List.replicate N 0))) := ⟨hlow, Nat.le_refl _, hown1⟩; clear hown1 hgrow1 hlow)
  obtain ⟨gb, hgb⟩ : ∃ gb, w1.heap.size = gb := ⟨_, rfl⟩
  rw [hgb] at HO ⊢
  clear kg1 hle hgb HMZ
  go_loopw [6, 7] (fun al p wr => ∃ c n : Nat, c ≤ N ∧ p = .int .i64 (c : Int) ∧ al = .int .i64 (n : Int) ∧ (tz0 f c).length = n ∧ Oc w1 wr gb N N (ns (cnl N (tz0 f c)))) (fun _ p _ => N - (intOf p).toNat)
  case atStart => exact ⟨0, 0, Nat.zero_le _, rfl, rfl, rfl, by rw [show tz0 f 0 = [] from rfl, cnl_nil]; exact HO.out⟩
  case round =>
   as_aux_lemma =>
    clear HO
    obtain ⟨c, n, hc, rfl, rfl, hn, hO⟩ := hrel
    have hl0 := tz0_len f c
    have hl1 : c * (c * c) ≤ 1000000 := Nat.le_trans (Nat.mul_le_mul (by omega : c ≤ 100) (Nat.mul_le_mul (by omega : c ≤ 100) (by omega : c ≤ 100))) (by omega)
    by_cases hcN : c < N
    · have HO := Lib.hid hO
      have HS := Lib.hid (tz0_succ f c)
      have hl2 : n ≤ 1000000 := by omega
      have HNn := Lib.hid hn
      clear hO hl0 hl1 hn
      generalize tz0 f c = L0 at *
      go_wp2
      go_loopw [6, 8] (fun al p wr => ∃ b n1 : Nat, b ≤ c ∧ p = .int .i64 (b : Int) ∧ al = .int .i64 (n1 : Int) ∧ (L0 ++ tz1 f c b).length = n1 ∧ Oc w1 wr gb N N (ns (cnl N (L0 ++ tz1 f c b)))) (fun _ p _ => c - (intOf p).toNat)
      case atStart => exact ⟨0, n, Nat.zero_le _, rfl, rfl, by rw [show tz1 f c 0 = [] from rfl, List.append_nil]; exact HNn.out, by rw [show tz1 f c 0 = [] from rfl, List.append_nil]; exact HO.out⟩
      case round =>
       as_aux_lemma =>
        clear HO
        obtain ⟨b, n1, hb, rfl, rfl, hn1, hO⟩ := hrel
        have hl3 : n1 ≤ 1010000 := by
          have e0 := HNn.out
          have := tz1_len f c b
          have : b * b ≤ 10000 := Nat.le_trans (Nat.mul_le_mul (by omega : b ≤ 100) (by omega : b ≤ 100)) (by omega)
          rw [← hn1, List.length_append]; omega
        have HN1 := Lib.hid hn1
        clear hn1
        by_cases hbc : b < c
        · have HO := Lib.hid hO
          have HS1 : Hid (L0 ++ tz1 f c (b + 1) = (L0 ++ tz1 f c b) ++ tz2 f c b b) := by show _ = _; rw [tz1_succ, List.append_assoc]
          clear hO
          generalize L0 ++ tz1 f c b = L1 at *
          go_wp2
          go_loopw [6, 9] (fun al p wr => ∃ a n2 : Nat, a ≤ b ∧ p = .int .i64 (a : Int) ∧ al = .int .i64 (n2 : Int) ∧ (L1 ++ tz2 f c b a).length = n2 ∧ Oc w1 wr gb N N (ns (cnl N (L1 ++ tz2 f c b a)))) (fun _ p _ => b - (intOf p).toNat)
          case atStart => exact ⟨0, n1, Nat.zero_le _, rfl, rfl, by rw [show tz2 f c b 0 = [] from rfl, List.append_nil]; exact HN1.out, by rw [show tz2 f c b 0 = [] from rfl, List.append_nil]; exact HO.out⟩
          case round =>
           as_aux_lemma =>
            clear HO
            obtain ⟨a, n2, ha, rfl, rfl, hn2, hO⟩ := hrel
            have hl4 : n2 ≤ 1010100 := by
              have e1 := HN1.out
              have := tz2_len f c b a
              rw [← hn2, List.length_append]; omega
            have HN2' := Lib.hid hn2
            clear hn2
            by_cases hab : a < b
            · have kg := HKg.out _ hO.low
              have HC := Lib.hid (HNe.out b c (by omega) hcN wr hO.low)
              have HO := Lib.hid hO
              have HS2 : Hid (L1 ++ tz2 f c b (a + 1) = (L1 ++ tz2 f c b a) ++ (if (f b c && (f a b && f a c)) = true then [(a, b, c)] else [])) := by show _ = _; rw [tz2_succ, List.append_assoc]
              have HN2 : Hid (f b c = false → L1 ++ tz2 f c b a = L1 ++ tz2 f c b b) := fun e => by rw [tz2_no e, tz2_no e]
              clear hO
              go_wp2_with fail
              refine HC.out.mono ?_
              rintro e w4 ⟨rfl, b4⟩
              have HO4 := Lib.hid (HO.out.on b4)
              clear b4 HC kg HO
              obtain ⟨z1, hz1'⟩ : ∃ z1, f b c = z1 := ⟨_, rfl⟩
              rw [hz1'] at HS2 HN2 ⊢
              clear hz1'
              cases z1 with
              | false =>
                have HE := Lib.hid (HN2.out rfl)
                go_wp2
                go_roundw
                case rel => exact ⟨b + 1, n2, by omega, by go_num, rfl, by rw [HS1.out, ← HE.out]; exact HN2'.out, by rw [HS1.out, ← HE.out]; exact HO4.out⟩
                case measure => simp [intOf]; omega
              | true =>
                have kg := HKg.out _ HO4.out.low
                have HC := Lib.hid (HNe.out a b (by omega) (by omega) w4 HO4.out.low)
                go_wp2_with fail
                refine HC.out.mono ?_
                rintro e w5 ⟨rfl, b5⟩
                have HO5 := Lib.hid (HO4.out.on b5)
                clear b5 HC kg HO4 HN2
                obtain ⟨z2, hz2'⟩ : ∃ z2, f a b = z2 := ⟨_, rfl⟩
                rw [hz2'] at HS2 ⊢
                clear hz2'
                cases z2 with
                | false =>
                  have HE : Hid (L1 ++ tz2 f c b (a + 1) = L1 ++ tz2 f c b a) := by show _ = _; rw [HS2.out]; simp
                  clear HS2
                  go_wp2
                  go_roundw
                  case rel => exact ⟨a + 1, n2, by omega, by go_num, rfl, by rw [HE.out]; exact HN2'.out, by rw [HE.out]; exact HO5.out⟩
                  case measure => simp [intOf]; omega
                | true =>
                  have kg := HKg.out _ HO5.out.low
                  have HC := Lib.hid (HNe.out a c (by omega) hcN w5 HO5.out.low)
                  go_wp2_with fail
                  refine HC.out.mono ?_
                  rintro e w6 ⟨rfl, b6⟩
                  have HO6 := Lib.hid (HO5.out.on b6)
                  clear b6 HC kg HO5
                  obtain ⟨z3, hz3'⟩ : ∃ z3, f a c = z3 := ⟨_, rfl⟩
                  rw [hz3'] at HS2 ⊢
                  clear hz3'
                  cases z3 with
                  | false =>
                    have HE : Hid (L1 ++ tz2 f c b (a + 1) = L1 ++ tz2 f c b a) := by show _ = _; rw [HS2.out]; simp
                    clear HS2
                    go_wp2
                    go_roundw
                    case rel => exact ⟨a + 1, n2, by omega, by go_num, rfl, by rw [HE.out]; exact HN2'.out, by rw [HE.out]; exact HO6.out⟩
                    case measure => simp [intOf]; omega
                  | true =>
                    have HE : Hid (L1 ++ tz2 f c b (a + 1) = (L1 ++ tz2 f c b a) ++ [(a, b, c)]) := by show _ = _; rw [HS2.out]; simp
                    have HCs := Lib.hid (cnl_snoc (n := N) (L1 ++ tz2 f c b a) hab hbc hcN)
                    have x1 := cnl_get (L1 ++ tz2 f c b a) (show a < N by omega)
                    have x2 := cnl_get (L1 ++ tz2 f c b a) (show b < N by omega)
                    have x3 := cnl_get (L1 ++ tz2 f c b a) hcN
                    have y1 := tcn_le (L1 ++ tz2 f c b a) a
                    have y2 := tcn_le (L1 ++ tz2 f c b a) b
                    have y3 := tcn_le (L1 ++ tz2 f c b a) c
                    clear HS2
                    generalize L1 ++ tz2 f c b a = L at *
                    generalize tcn L a = ta at *
                    generalize tcn L b = tb at *
                    generalize tcn L c = tc at *
                    generalize cnl N L = l at *
                    obtain ⟨k1, f1⟩ := HO6.out.at_ x1
                    have o1 := HO6.out.inc a ta
                    obtain ⟨k2, f2⟩ := o1.at_ (show (l.set a (ta + 1))[b]? = some tb by rw [List.getElem?_set_ne (by omega)]; exact x2)
                    have o2 := o1.inc b tb
                    obtain ⟨k3, f3⟩ := o2.at_ (show ((l.set a (ta + 1)).set b (tb + 1))[c]? = some tc by rw [List.getElem?_set_ne (by omega), List.getElem?_set_ne (by omega)]; exact x3)
                    have HO7 := Lib.hid (o2.inc c tc)
                    rw [HN2'.out] at y1 y2 y3
                    have t1 : (0 : Int) ≤ (a : Int) := by omega
                    have t2 : (a : Int) < (N : Int) := by omega
                    have t3 : (0 : Int) ≤ (b : Int) := by omega
                    have t4 : (b : Int) < (N : Int) := by omega
                    have t5 : (0 : Int) ≤ (c : Int) := by omega
                    have t6 : (c : Int) < (N : Int) := by omega
                    clear x1 x2 x3 o1 o2 HO6
                    go_wp2
                    go_roundw
                    case rel => exact ⟨a + 1, n2 + 1, by omega, by go_num, by go_num, by rw [HE.out, List.length_append, HN2'.out, List.length_singleton], by rw [HE.out, HCs.out]; exact HO7.out⟩
                    case measure => simp [intOf]; omega
            · obtain rfl : a = b := by omega
              have HO := Lib.hid hO
              clear hO
              go_wp2
              go_roundw
              case rel => exact ⟨a + 1, n2, by omega, by go_num, rfl, by rw [HS1.out]; exact HN2'.out, by rw [HS1.out]; exact HO.out⟩
              case measure => simp [intOf]; omega
        · obtain rfl : b = c := by omega
          have HO := Lib.hid hO
          clear hO
          go_wp2
          go_roundw
          case rel => exact ⟨b + 1, n1, by omega, by go_num, rfl, by rw [HS.out]; exact HN1.out, by rw [HS.out]; exact HO.out⟩
          case measure => simp [intOf]; omega
    · obtain rfl : c = N := by omega
      have HE : Hid (RdV wr wr.heap.size (some ⟨gb, 0, none⟩) (zc (ns (cnl c (trz f c)))) ∧ Below w.heap.size w wr) := ⟨own_rdvA (by rw [← tz0_end]; exact hO.own), HB1.out.trans (hO.low.mono HB1.out.size)⟩
      have HNt : Hid ((trz f c).length = n) := by rw [← tz0_end]; exact hn
      clear hO hl0 hl1 hn
      go_wp2
      go_ret2
      exact ⟨gb, c, by rw [HNt.out]; rfl, HE.out.1, HE.out.2⟩
end

section
set_option maxRecDepth 100000
set_option linter.unusedVariables false
open Go.RowKit Go.Shelf

theorem info_boolC : (Try.prog.info? 4).map (fun i => (i.zero, i.size, i.bytes)) = some (some (.bool false), 1, 1) := by kernel_rfl
def tcsC (l : List Bool) : List Value := l.map Value.bool
def isTr : Value → Bool
  | .bool true => true
  | _ => false
/-- How many truths a block holds. -/
def ctW (W : World) (b : Nat) : Nat := match W.heap[b]? with
  | some (.cells cs _ _) => (cs.toList.filter isTr).length
  | _ => 0
def bN : Value → Nat
  | .bool true => 1
  | _ => 0
theorem isTr_len : ∀ l : List Bool, ((tcsC l).filter isTr).length = ct l
  | [] => rfl
  | true :: t => by
    show ((Value.bool true :: tcsC t).filter isTr).length = ((true :: t).filter fun b => b).length
    rw [List.filter_cons_of_pos (by rfl), List.filter_cons_of_pos (by rfl), List.length_cons, List.length_cons]
    exact congrArg (· + 1) (isTr_len t)
  | false :: t => by
    show ((Value.bool false :: tcsC t).filter isTr).length = ((false :: t).filter fun b => b).length
    rw [List.filter_cons_of_neg (by intro q; cases q), List.filter_cons_of_neg (by intro q; cases q)]
    exact isTr_len t
/-- Two rows of the call's own, one behind the other: numbers, and who is still in. -/
structure Nm (w1 W : World) (gb N : Nat) (o : List Nat) (l : List Bool) : Prop where
  low : Below w1.heap.size w1 W
  ge : w1.heap.size ≤ gb
  ro : W.heap[gb]? = some (.cells (zc (ns o)).toArray 3 (0, 0))
  rl : W.heap[gb + 1]? = some (.cells (tcsC l).toArray 4 (0, 0))
  lo : o.length = N
  ll : l.length = N
theorem Nm.lt {w1 W : World} {gb N : Nat} {o : List Nat} {l : List Bool} (h : Nm w1 W gb N o l) : gb + 1 < W.heap.size := (Array.getElem?_eq_some_iff.1 h.rl).1
theorem Nm.ct_ {w1 W : World} {gb N : Nat} {o : List Nat} {l : List Bool} (h : Nm w1 W gb N o l) : ctW W (gb + 1) = ct l := by
  unfold ctW; rw [h.rl]; exact isTr_len l
theorem Nm.on {w1 W X : World} {gb N : Nat} {o : List Nat} {l : List Bool} (h : Nm w1 W gb N o l) (hb : Below W.heap.size W X) : Nm w1 X gb N o l :=
  ⟨h.low.trans (hb.mono h.low.size), h.ge, (hb.block _ (by have := h.lt; omega)).trans h.ro, (hb.block _ h.lt).trans h.rl, h.lo, h.ll⟩
theorem Nm.cellO {w1 W : World} {gb N : Nat} {o : List Nat} {l : List Bool} (h : Nm w1 W gb N o l) (i : Nat) (hi : i < N) : W.cell? ⟨gb, i, none⟩ = some (.int .i64 ((o[i]?.getD 0 : Nat) : Int)) ∧ W.frozen? ⟨gb, i, none⟩ = false := by
  refine ⟨(cell_at h.ro i).trans ?_, frz_at h.ro i⟩
  rw [List.getElem?_toArray]
  exact zc_getN o i _ (by rw [List.getElem?_eq_getElem (by rw [h.lo]; exact hi)]; rfl)
theorem Nm.cellL {w1 W : World} {gb N : Nat} {o : List Nat} {l : List Bool} (h : Nm w1 W gb N o l) (i : Nat) (hi : i < N) : W.cell? ⟨gb + 1, i, none⟩ = some (.bool (bvC l i)) ∧ W.frozen? ⟨gb + 1, i, none⟩ = false := by
  refine ⟨(cell_at h.rl i).trans ?_, frz_at h.rl i⟩
  rw [List.getElem?_toArray]
  unfold tcsC bvC
  rw [List.getElem?_map, List.getElem?_eq_getElem (by rw [h.ll]; exact hi)]; rfl
theorem Nm.setO {w1 W : World} {gb N : Nat} {o : List Nat} {l : List Bool} (h : Nm w1 W gb N o l) (i x : Nat) : Nm w1 (W.setCell ⟨gb, i, none⟩ (.int .i64 (x : Int))) gb N (o.set i x) l := by
  refine ⟨h.low.setCell (p := ⟨gb, i, none⟩) h.ge _, h.ge, ?_, (Below.heap_setCell _ _ _ _ (by show gb + 1 ≠ gb; omega)).trans h.rl, by rw [List.length_set, h.lo], h.ll⟩
  rw [heap_set_same _ _ _ _ _ _ h.ro, List.setIfInBounds_toArray]
  unfold zc ns
  rw [List.map_set, List.map_set]
theorem Nm.setL {w1 W : World} {gb N : Nat} {o : List Nat} {l : List Bool} (h : Nm w1 W gb N o l) (i : Nat) (x : Bool) : Nm w1 (W.setCell ⟨gb + 1, i, none⟩ (.bool x)) gb N o (l.set i x) := by
  refine ⟨h.low.setCell (p := ⟨gb + 1, i, none⟩) (Nat.le_succ_of_le h.ge) _, h.ge, (Below.heap_setCell _ _ _ _ (by show gb ≠ gb + 1; omega)).trans h.ro, ?_, h.lo, by rw [List.length_set, h.ll]⟩
  rw [heap_set_same _ _ _ _ _ _ h.rl, List.setIfInBounds_toArray]
  unfold tcsC
  rw [List.map_set]
theorem nm_start (w1 : World) (N : Nat) : Nm w1 ((w1.alloc (.cells (madeCells #[Value.int .i64 0] N) 3)).alloc (.cells (madeCells #[Value.bool false] N) 4)) w1.heap.size N (List.replicate N 0) (List.replicate N false) := by
  have b1 := one_below w1 (.cells (madeCells #[Value.int .i64 0] N) 3)
  have n1 := World.alloc_heap_new w1 (.cells (madeCells #[Value.int .i64 0] N) 3)
  have s1 : (w1.alloc (.cells (madeCells #[Value.int .i64 0] N) 3)).heap.size = w1.heap.size + 1 := World.size_alloc _ _
  generalize w1.alloc (.cells (madeCells #[Value.int .i64 0] N) 3) = V at *
  have b2 := one_below V (.cells (madeCells #[Value.bool false] N) 4)
  have n2 := World.alloc_heap_new V (.cells (madeCells #[Value.bool false] N) 4)
  rw [s1] at n2
  refine ⟨b1.trans (b2.mono b1.size), Nat.le_refl _, ?_, ?_, by simp, by simp⟩
  · rw [(b2.block _ (by omega)).trans n1]
    have e : (madeCells #[Value.int .i64 0] N).toList = zc (ns (List.replicate N 0)) := by rw [toList_madeCells_one]; simp [zc, ns]
    rw [← e]
  · rw [n2]
    have e : (madeCells #[Value.bool false] N).toList = tcsC (List.replicate N false) := by rw [toList_madeCells_one]; simp [tcsC]
    rw [← e]
set_option maxHeartbeats 8000000 in
theorem refcn_ok (R : List Rw) (g : List (List Nat)) (hg : gs R = g.map ns) (hok : GOk g) (N : Nat) (hN : R.length = N) (A : Option Addr) (c0 : Nat) (w : World) (h : RdG w w.heap.size A R) :
    Calls Try.prog 27 #[.agg #[.slice A N c0]] w fun e w' => ∃ b o, e = .returned (.slice (some ⟨b, 0, none⟩) N N) ∧ o.length = N ∧ (∀ x, x < N → Cn (near g) N x (o[x]?.getD 0)) ∧ RdV w' w'.heap.size (some ⟨b, 0, none⟩) (zc (ns o)) ∧ Below w.heap.size w w' := by
  have hgl : g.length = N := by have := congrArg List.length hg; rw [gs_length, List.length_map] at this; omega
  have hN1 : N ≤ 100 := by have := hok.nodes; omega
  obtain ⟨w1, hw1⟩ : ∃ w1, w.alloc (.cells #[.slice A N c0] 24) = w1 := ⟨_, rfl⟩
  have hb1 : Below w.heap.size w w1 := hw1 ▸ one_below w _
  have hs1 : w.heap.size < w1.heap.size := by rw [← hw1, World.size_alloc]; omega
  have kg1 : w1.cell? ⟨w.heap.size, 0, none⟩ = some (.slice A N c0) := by rw [← hw1]; exact (cell_at (World.alloc_heap_new w _) 0).trans rfl
  have HKg : Hid (∀ V, Below w1.heap.size w1 V → V.cell? ⟨w.heap.size, 0, none⟩ = some (.slice A N c0)) := fun V hV => (hV.cell (p := ⟨w.heap.size, 0, none⟩) hs1).trans kg1
  have HNe : Hid (∀ a b, a < N → b < N → ∀ V, Below w1.heap.size w1 V → Calls Try.prog 32 #[.agg #[.slice A N c0], .int .i64 (a : Int), .int .i64 (b : Int)] V fun e w' => e = .returned (.bool (near g a b)) ∧ Below V.heap.size V w') := fun a b ha hb V hV => near_any R g hg N hN A c0 a b ha hb V (h.on (hb1.trans (hV.mono hb1.size)))
  have HB1 := Lib.hid hb1
  have HW := Lib.hid hw1
  have HSf : Hid (∀ i, near g i i = false) := near_self g
  have HNm := Lib.hid (nm_start w1 N)
  have hmk := run_make_row' (P := Try.prog) 25 3 (.int .i64 0) 8 Try.underlying25 info_intW rfl .i64 .i64 N (by omega) (by omega)
  have hmk2 := run_make_row' (P := Try.prog) 44 4 (.bool false) 1 Try.underlying44 info_boolC rfl .i64 .i64 N (by omega) (by omega)
  rw [← hw1] at kg1
  clear hg hok hN hgl h hb1 hw1 hs1
  obtain ⟨f, hf⟩ : ∃ f, near g = f := ⟨_, rfl⟩
  rw [hf] at HNe HSf ⊢
  clear hf
  go_enter Try.func27, Try.ntmps27
  go_wp2
  rw [HW.out]
  clear hmk hmk2 kg1
  have hsz : w1.heap.size = w.heap.size + 1 := by rw [← HW.out]; exact World.size_alloc _ _
  rw [hsz] at HNm
  obtain ⟨gb, hgb⟩ : ∃ gb, w.heap.size + 1 = gb := ⟨_, rfl⟩
  rw [hgb] at HNm ⊢
  clear hsz
  go_loopw [6] (fun p wr => ∃ (i : Nat) (l : List Bool), i ≤ N ∧ p = .int .i64 (i : Int) ∧ Nm w1 wr gb N (List.replicate N 0) l ∧ ∀ x, x < i → bvC l x = true) (fun p _ => N - (intOf p).toNat)
  case atStart => exact ⟨0, _, Nat.zero_le _, rfl, HNm.out, fun x hx => absurd hx (Nat.not_lt_zero _)⟩
  case round =>
   as_aux_lemma =>
    clear HNm
    obtain ⟨i, l, hi, rfl, hM, hl⟩ := hrel
    by_cases hiN : i < N
    · obtain ⟨k1, k2⟩ := hM.cellL i hiN
      have HM2 := Lib.hid (hM.setL i true)
      have HL2 : Hid (∀ x, x < i + 1 → bvC (l.set i true) x = true) := fun x hx => by
        rw [bvC_set _ _ _ _ (by rw [hM.ll]; exact hiN)]
        by_cases e : x = i
        · rw [if_pos e]
        · rw [if_neg e]; exact hl x (by omega)
      have t1 : (0 : Int) ≤ (i : Int) := by omega
      have t2 : (i : Int) < (N : Int) := by omega
      clear hM hl
      go_wp2
      go_roundw
      case rel => exact ⟨i + 1, _, by omega, by go_num, HM2.out, HL2.out⟩
      case measure => simp [intOf]; omega
    · obtain rfl : i = N := by omega
      have HM := Lib.hid hM
      have HK : Hid (KB f i 0 (List.replicate i 0) l) := KB.start hl
      clear hM hl
      go_wp2
      go_loopw [7] (fun p wr => ∃ (k m : Nat) (o : List Nat) (l : List Bool), k = m + 1 ∧ (k ≤ i ∨ k = 1) ∧ p = .int .i64 (k : Int) ∧ Nm w1 wr gb i o l ∧ KB f i m o l) (fun p _ => i - (intOf p).toNat)
      case atStart => exact ⟨1, 0, _, _, rfl, .inr rfl, rfl, HM.out, HK.out⟩
      case round =>
       as_aux_lemma =>
        clear HM HK
        obtain ⟨k, m, o, l, hkm, hk, rfl, hM, hK⟩ := hrel
        have hk100 : k ≤ 101 := by omega
        have HKm := Lib.hid hkm
        clear hkm
        by_cases hki : k < i
        · have HM := Lib.hid hM
          have HK := Lib.hid hK
          clear hM hK
          go_wp2
          go_loopw [8] (fun b wr => ∃ (bb : Bool) (q : List Bool), b = .bool bb ∧ Nm w1 wr gb i o q ∧ (∀ x, x < i → InK f i k x → bvC q x = true) ∧ (bb = false → Ks f i (bvC q) k)) (fun b wr => ctW wr (gb + 1) + bN b)
          case atStart => exact ⟨true, l, rfl, HM.out, fun x hx q => (HK.out.1 x hx).2 (q.mono (by have := HKm.out; omega)), fun e => by cases e⟩
          case round =>
           as_aux_lemma =>
            clear HM
            obtain ⟨bb, q, rfl, hM, hP, hE⟩ := hrel
            cases bb with
            | true =>
              have hct := hM.ct_
              have HM := Lib.hid hM
              have HP : Hid (SB f i k q q 0 false) := ⟨hP, fun _ => ⟨rfl, fun j hj => absurd hj (Nat.not_lt_zero _)⟩, fun e => by cases e⟩
              have HCt := Lib.hid hct
              clear hM hP hE hct
              go_wp2
              go_loopw [8, 9] (fun b p wq => ∃ (bb : Bool) (j : Nat) (l2 : List Bool), j ≤ i ∧ b = .bool bb ∧ p = .int .i64 (j : Int) ∧ Nm w1 wq gb i o l2 ∧ SB f i k q l2 j bb) (fun _ p _ => i - (intOf p).toNat)
              case atStart => exact ⟨false, 0, q, Nat.zero_le _, rfl, rfl, HM.out, HP.out⟩
              case round =>
               as_aux_lemma =>
                clear HM HP
                obtain ⟨bb, j, l2, hj, rfl, rfl, hM, hS⟩ := hrel
                by_cases hji : j < i
                · have HM := Lib.hid hM
                  have HS := Lib.hid hS
                  clear hM hS
                  go_wp2
                  go_loopw [10, 11] (fun a p wz => ∃ (y n : Nat), y ≤ i ∧ p = .int .i64 (y : Int) ∧ a = .int .i64 (n : Int) ∧ dg f y (bvC l2) j = n ∧ Nm w1 wz gb i o l2) (fun _ p _ => i - (intOf p).toNat)
                  case atStart => exact ⟨0, 0, Nat.zero_le _, rfl, rfl, rfl, HM.out⟩
                  case round =>
                   as_aux_lemma =>
                    clear HM
                    obtain ⟨y, n, hy, rfl, rfl, hn, hM⟩ := hrel
                    have hn100 : n ≤ 100 := by have := dg_le f y (bvC l2) j; omega
                    by_cases hyi : y < i
                    · obtain ⟨k1, k2⟩ := hM.cellL y hyi
                      have HSu : Hid (dg f (y + 1) (bvC l2) j = n + (if (bvC l2 y && f j y) = true then 1 else 0)) := by show _ = _; rw [dg_succ, hn]
                      have kg := HKg.out _ hM.low
                      have HC := Lib.hid (HNe.out j y hji hyi wr hM.low)
                      have HM := Lib.hid hM
                      have t1 : (0 : Int) ≤ (y : Int) := by omega
                      have t2 : (y : Int) < (i : Int) := by omega
                      clear hn hM
                      generalize bvC l2 y = z at *
                      cases z with
                      | false =>
                        have HE : Hid (dg f (y + 1) (bvC l2) j = n) := by show _ = _; rw [HSu.out]; simp
                        clear HSu HC
                        go_wp2
                        go_roundw
                        case rel => exact ⟨y + 1, n, by omega, by go_num, rfl, HE.out, HM.out⟩
                        case measure => simp [intOf]; omega
                      | true =>
                        go_wp2_with fail
                        refine HC.out.mono ?_
                        rintro e w4 ⟨rfl, b4⟩
                        have HM4 := Lib.hid (HM.out.on b4)
                        clear b4 HC kg HM k1 k2
                        generalize f j y = z at *
                        cases z with
                        | false =>
                          have HE : Hid (dg f (y + 1) (bvC l2) j = n) := by show _ = _; rw [HSu.out]; simp
                          clear HSu
                          go_wp2
                          go_roundw
                          case rel => exact ⟨y + 1, n, by omega, by go_num, rfl, HE.out, HM4.out⟩
                          case measure => simp [intOf]; omega
                        | true =>
                          have HE : Hid (dg f (y + 1) (bvC l2) j = n + 1) := by show _ = _; rw [HSu.out]; simp
                          clear HSu
                          go_wp2
                          go_roundw
                          case rel => exact ⟨y + 1, n + 1, by omega, by go_num, by go_num, HE.out, HM4.out⟩
                          case measure => simp [intOf]; omega
                    · obtain rfl : y = i := by omega
                      obtain ⟨k1, k2⟩ := hM.cellL j hji
                      have HM := Lib.hid hM
                      have HM2 := Lib.hid (hM.setL j false)
                      have HSt : Hid ((bvC l2 j = true → k ≤ n) → SB f y k q l2 (j + 1) bb) := fun r => HS.out.stay (by rw [hn]; exact r)
                      have HGo : Hid (bvC l2 j = true → n < k → SB f y k q (l2.set j false) (j + 1) true) := fun r1 r2 => HS.out.go hM.ll hji r1 (by rw [hn]; exact r2)
                      have t1 : (0 : Int) ≤ (j : Int) := by omega
                      have t2 : (j : Int) < (y : Int) := by omega
                      clear hn hM
                      generalize bvC l2 j = z at *
                      cases z with
                      | false =>
                        have HE := Lib.hid (HSt.out (fun e => by cases e))
                        clear HSt HGo
                        go_wp2
                        go_roundw
                        case rel => exact ⟨bb, j + 1, l2, by omega, rfl, by go_num, HM.out, HE.out⟩
                        case measure => simp [intOf]; omega
                      | true =>
                        by_cases hnk : n < k
                        · have HE := Lib.hid (HGo.out rfl hnk)
                          have t3 : decide ((n : Int) < (k : Int)) = true := by simp; omega
                          clear HSt HGo
                          go_wp2
                          go_roundw
                          case rel => exact ⟨true, j + 1, _, by omega, rfl, by go_num, HM2.out, HE.out⟩
                          case measure => simp [intOf]; omega
                        · have HE := Lib.hid (HSt.out (fun _ => by omega))
                          have t3 : decide ((n : Int) < (k : Int)) = false := by simp; omega
                          clear HSt HGo
                          go_wp2
                          go_roundw
                          case rel => exact ⟨bb, j + 1, l2, by omega, rfl, by go_num, HM.out, HE.out⟩
                          case measure => simp [intOf]; omega
                · obtain rfl : j = i := by omega
                  have HM := Lib.hid hM
                  have HS := Lib.hid hS
                  have hct2 := hM.ct_
                  clear hM hS
                  have HMe : Hid (ctW wr (gb + 1) + bN (.bool bb) < ct q + 1) := by
                    show _ < _
                    rw [hct2]
                    cases bb with
                    | false => have := (HS.out.2.1 rfl).1; subst this; show ct _ + 0 < _; omega
                    | true => have := HS.out.2.2 rfl; show ct _ + 1 < _; omega
                  clear hct2
                  go_wp2
                  go_roundw
                  case rel => exact ⟨bb, l2, rfl, HM.out, HS.out.1, fun e => by
                    obtain ⟨h1, h2⟩ := HS.out.2.1 e
                    subst h1
                    exact fun x hx r => h2 x hx r⟩
                  case measure =>
                    have h1 := HMe.out
                    have h2 := HCt.out
                    rw [h2]
                    exact h1
            | false =>
              have HK2 : Hid (∀ x, x < i → (bvC q x = true ↔ InK f i k x)) := peel_end hP (hE rfl)
              have HM := Lib.hid hM
              clear hM hP hE
              go_wp2
              go_loopw [12] (fun p wr => ∃ (x : Nat) (o2 : List Nat), x ≤ i ∧ p = .int .i64 (x : Int) ∧ Nm w1 wr gb i o2 q ∧ ∀ y, y < i → o2[y]?.getD 0 = if y < x ∧ bvC q y = true then k else o[y]?.getD 0) (fun p _ => i - (intOf p).toNat)
              case atStart => exact ⟨0, o, Nat.zero_le _, rfl, HM.out, fun y _ => by rw [if_neg (by omega)]⟩
              case round =>
               as_aux_lemma =>
                clear HM
                obtain ⟨x, o2, hx, rfl, hM, ho⟩ := hrel
                by_cases hxi : x < i
                · obtain ⟨k1, k2⟩ := hM.cellL x hxi
                  obtain ⟨k3, k4⟩ := hM.cellO x hxi
                  have HM := Lib.hid hM
                  have HM2 := Lib.hid (hM.setO x k)
                  have HO2 : Hid (bvC q x = true → ∀ y, y < i → (o2.set x k)[y]?.getD 0 = if y < x + 1 ∧ bvC q y = true then k else o[y]?.getD 0) := fun r y hy => by
                    rw [List.getElem?_set]
                    by_cases e : x = y
                    · subst e; rw [if_pos rfl, if_pos (by rw [hM.lo]; exact hxi), if_pos ⟨by omega, r⟩]; rfl
                    · rw [if_neg e, ho y hy]
                      by_cases d : y < x ∧ bvC q y = true
                      · rw [if_pos d, if_pos ⟨by omega, d.2⟩]
                      · rw [if_neg d, if_neg (fun c => d ⟨by omega, c.2⟩)]
                  have HO1 : Hid (bvC q x = false → ∀ y, y < i → o2[y]?.getD 0 = if y < x + 1 ∧ bvC q y = true then k else o[y]?.getD 0) := fun r y hy => by
                    rw [ho y hy]
                    by_cases d : y < x ∧ bvC q y = true
                    · rw [if_pos d, if_pos ⟨by omega, d.2⟩]
                    · rw [if_neg d, if_neg (fun c => d ⟨by
                        by_cases e : y = x
                        · subst e; rw [r] at c; exact absurd c.2 (by simp)
                        · omega, c.2⟩)]
                  have t1 : (0 : Int) ≤ (x : Int) := by omega
                  have t2 : (x : Int) < (i : Int) := by omega
                  clear hM ho
                  generalize o2[x]?.getD 0 = u at *
                  obtain ⟨z, hz⟩ : ∃ z, bvC q x = z := ⟨_, rfl⟩
                  rw [hz] at HO1 HO2 k1
                  clear hz
                  cases z with
                  | false =>
                    have HE := Lib.hid (HO1.out rfl)
                    clear HO1 HO2
                    go_wp2
                    go_roundw
                    case rel => exact ⟨x + 1, o2, by omega, by go_num, HM.out, HE.out⟩
                    case measure => simp [intOf]; omega
                  | true =>
                    have HE := Lib.hid (HO2.out rfl)
                    clear HO1 HO2
                    go_wp2
                    go_roundw
                    case rel => exact ⟨x + 1, _, by omega, by go_num, HM2.out, HE.out⟩
                    case measure => simp [intOf]; omega
                · obtain rfl : x = i := by omega
                  have HM := Lib.hid hM
                  have HN : Hid (KB f x k o2 q) := by
                    show KB f x k o2 q
                    have hkm := HKm.out
                    subst hkm
                    exact HK.out.next HK2.out (fun y hy => by
                      rw [ho y hy]
                      by_cases d : bvC q y = true
                      · rw [if_pos ⟨hy, d⟩, if_pos d]
                      · rw [if_neg (fun c => d c.2), if_neg d])
                  clear hM ho
                  go_wp2
                  go_roundw
                  case rel => exact ⟨k + 1, k, o2, q, rfl, by omega, by go_num, HM.out, HN.out⟩
                  case measure => simp [intOf]; omega
        · have HF : Hid (∀ x, x < i → Cn f i x (o[x]?.getD 0)) := hK.fin HSf.out (by have := HKm.out; omega)
          have HR : Hid (o.length = i ∧ RdV wr wr.heap.size (some ⟨gb, 0, none⟩) (zc (ns o)) ∧ Below w.heap.size w wr) := ⟨hM.lo, .inr ⟨gb, 0, rfl, by have := hM.lt; omega, fun j v hv => by rw [Nat.zero_add]; exact (cell_at hM.ro j).trans (by rw [List.getElem?_toArray]; exact hv)⟩, HB1.out.trans (hM.low.mono HB1.out.size)⟩
          clear hM hK
          go_wp2
          go_ret
          exact ⟨gb, o, rfl, HR.out.1, HF.out, HR.out.2.1, HR.out.2.2⟩
end

section
set_option maxRecDepth 100000
set_option linter.unusedVariables false
open Go.RowKit Go.Shelf

set_option maxHeartbeats 2000000 in
theorem pairOf_any (x y : Int) (w : World) : Calls Try.prog 85 #[.int .i64 x, .int .i64 y] w fun e w' => e = .returned (.agg #[.int .i64 (min x y), .int .i64 (max x y)]) ∧ Below w.heap.size w w' := by
  go_enter Try.func85, Try.ntmps85
  go_wp2
  have kn := World.alloc_heap_new w (.cells #[.int .i64 (min x y), .int .i64 (max x y)] 97)
  have k0 : (w.alloc (.cells #[.int .i64 (min x y), .int .i64 (max x y)] 97)).cell? ⟨w.heap.size, 0, none⟩ = some (.int .i64 (min x y)) := (cell_at kn 0).trans rfl
  have k1 : (w.alloc (.cells #[.int .i64 (min x y), .int .i64 (max x y)] 97)).cell? ⟨w.heap.size, 1, none⟩ = some (.int .i64 (max x y)) := (cell_at kn 1).trans rfl
  refine bodyPost_ret (v := .agg #[.int .i64 (min x y), .int .i64 (max x y)]) (by simp [results, Try.results85, go_sem, k0, k1]) rfl ?_
  exact ⟨rfl, one_below _ _⟩
/-- A row of numbers of the call's own, whole. -/
structure On (w0 W : World) (g : Nat) (l : List Nat) : Prop where
  low : Below w0.heap.size w0 W
  ge : w0.heap.size ≤ g
  row : W.heap[g]? = some (.cells (zc (ns l)).toArray 3 (0, 0))
theorem On.lt {w0 W : World} {g : Nat} {l : List Nat} (h : On w0 W g l) : g < W.heap.size := (Array.getElem?_eq_some_iff.1 h.row).1
theorem On.cell {w0 W : World} {g : Nat} {l : List Nat} (h : On w0 W g l) {i x : Nat} (hx : l[i]? = some x) : W.cell? ⟨g, i, none⟩ = some (.int .i64 (x : Int)) ∧ W.frozen? ⟨g, i, none⟩ = false := by
  refine ⟨(cell_at h.row i).trans ?_, frz_at h.row i⟩
  rw [List.getElem?_toArray]; exact zc_getN l i x hx
theorem On.zero {w0 W : World} {g : Nat} {l : List Nat} (h : On w0 W g l) {i : Nat} (hi : i < l.length) : W.cell? ⟨g, i, none⟩ = some (.int .i64 ((l[i]?.getD 0 : Nat) : Int)) ∧ W.frozen? ⟨g, i, none⟩ = false := h.cell (by rw [List.getElem?_eq_getElem hi]; rfl)
theorem On.set {w0 W : World} {g : Nat} {l : List Nat} (h : On w0 W g l) (i x : Nat) : On w0 (W.setCell ⟨g, i, none⟩ (.int .i64 (x : Int))) g (l.set i x) := by
  refine ⟨h.low.setCell (p := ⟨g, i, none⟩) h.ge _, h.ge, ?_⟩
  rw [heap_set_same _ _ _ _ _ _ h.row, List.setIfInBounds_toArray]
  unfold zc ns
  rw [List.map_set, List.map_set]
theorem On.inc {w0 W : World} {g : Nat} {l : List Nat} (h : On w0 W g l) (i x : Nat) : On w0 (W.setCell ⟨g, i, none⟩ (.int .i64 ((x : Int) + 1))) g (l.set i (x + 1)) := h.set i (x + 1)
theorem On.on {w0 W X : World} {g : Nat} {l : List Nat} (h : On w0 W g l) (hb : Below W.heap.size W X) : On w0 X g l := ⟨h.low.trans (hb.mono h.low.size), h.ge, (hb.block _ h.lt).trans h.row⟩
theorem on_start (w : World) (o : Obj) (N : Nat) : On w ((w.alloc o).alloc (.cells (madeCells #[Value.int .i64 0] N) 3)) (w.heap.size + 1) (List.replicate N 0) := by
  have b1 := one_below w o
  have s1 : (w.alloc o).heap.size = w.heap.size + 1 := World.size_alloc _ _
  generalize w.alloc o = V at *
  have b2 := one_below V (.cells (madeCells #[Value.int .i64 0] N) 3)
  have n2 := World.alloc_heap_new V (.cells (madeCells #[Value.int .i64 0] N) 3)
  rw [s1] at n2
  refine ⟨b1.trans (b2.mono b1.size), Nat.le_succ _, ?_⟩
  rw [n2]
  have e : (madeCells #[Value.int .i64 0] N).toList = zc (ns (List.replicate N 0)) := by rw [toList_madeCells_one]; simp [zc, ns]
  rw [← e]
set_option maxHeartbeats 4000000 in
theorem all_any (N : Nat) (hN : N ≤ 1000000) (P M : Value) (w : World) : Calls Try.prog 54 #[.agg #[.int .i64 (N : Int), P, M]] w fun e w' => ∃ b, e = .returned (.slice (some ⟨b, 0, none⟩) N N) ∧ On w w' b (List.range N) := by
  have hmk := run_make_row' (P := Try.prog) 25 3 (.int .i64 0) 8 Try.underlying25 info_intW rfl .i64 .i64 N (by omega) (by omega)
  go_enter Try.func54, Try.ntmps54
  go_wp2
  clear hmk
  have HO0 := Lib.hid (on_start w (.cells #[.int .i64 (N : Int), P, M] 82) N)
  obtain ⟨gb, hgb⟩ : ∃ gb, w.heap.size + 1 = gb := ⟨_, rfl⟩
  rw [hgb] at HO0 ⊢
  clear hgb
  go_loopw [10] (fun p wr => ∃ (i : Nat) (l : List Nat), i ≤ N ∧ p = .int .i64 (i : Int) ∧ On w wr gb l ∧ l.length = N ∧ ∀ x, x < i → l[x]? = some x) (fun p _ => N - (intOf p).toNat)
  case atStart => exact ⟨0, _, Nat.zero_le _, rfl, HO0.out, by simp, fun x hx => absurd hx (Nat.not_lt_zero _)⟩
  case round =>
   as_aux_lemma =>
    clear HO0
    obtain ⟨i, l, hi, rfl, hO, hl, hx⟩ := hrel
    by_cases hlt : i < N
    · obtain ⟨k1, k2⟩ := hO.zero (i := i) (by omega)
      have HO := Lib.hid (hO.set i i)
      have HX : Hid ((l.set i i).length = N ∧ ∀ x, x < i + 1 → (l.set i i)[x]? = some x) := ⟨by rw [List.length_set]; exact hl, fun x h1 => by
        rw [List.getElem?_set]
        by_cases e : i = x
        · subst e; rw [if_pos rfl, if_pos (by omega)]
        · rw [if_neg e]; exact hx x (by omega)⟩
      have t1 : (0 : Int) ≤ (i : Int) := by omega
      have t2 : (i : Int) < (N : Int) := by omega
      clear hO hl hx
      generalize l[i]?.getD 0 = u at *
      go_wp2
      go_roundw
      case rel => exact ⟨i + 1, _, by omega, by go_num, HO.out, HX.out.1, HX.out.2⟩
      case measure => simp [intOf]; omega
    · obtain rfl : i = N := by omega
      have he : l = List.range i := by
        apply List.ext_getElem (by simp [hl])
        intro x h1 h2
        have := hx x (by omega)
        rw [List.getElem?_eq_getElem h1] at this
        simpa using this
      subst he
      have HO := Lib.hid hO
      clear hO hl hx
      go_wp2
      go_ret
      exact ⟨gb, rfl, HO.out⟩
theorem acs_atC (L : List Ar) (i : Nat) (h : i < L.length) : (acs L)[i * 2]? = some (.int .i64 ((L[i]?.getD (0, 0)).1 : Int)) ∧ (acs L)[i * 2 + 1]? = some (.int .i64 ((L[i]?.getD (0, 0)).2 : Int)) := by
  have h1 := rcs_at (rz L) i (by unfold rz; simpa using h)
  have e : (rz L)[i]?.getD (0, 0) = (((L[i]?.getD (0, 0)).1 : Int), ((L[i]?.getD (0, 0)).2 : Int)) := by
    unfold rz; rw [List.getElem?_map, List.getElem?_eq_getElem h]; rfl
  rw [e] at h1
  exact h1
set_option maxHeartbeats 4000000 in
theorem degrees_any (N : Nat) (hN : N ≤ 1000000) (L : List Ar) (m : Nat) (hm : L.length = m) (hm6 : m ≤ 1000000) (hbd : ∀ p ∈ L, p.1 < N ∧ p.2 < N ∧ p.1 ≠ p.2) (A : Option Addr) (c : Nat) (M : Value) (w : World) (h : RdV w w.heap.size A (acs L)) :
    Calls Try.prog 53 #[.agg #[.int .i64 (N : Int), .slice A m c, M]] w fun e w' => ∃ b, e = .returned (.slice (some ⟨b, 0, none⟩) N N) ∧ On w w' b (dnl N L) := by
  have hmk := run_make_row' (P := Try.prog) 25 3 (.int .i64 0) 8 Try.underlying25 info_intW rfl .i64 .i64 N (by omega) (by omega)
  have HR := Lib.hid h
  have HL := Lib.hid (⟨hm, hbd⟩ : _ ∧ _)
  clear h hm hbd
  go_enter Try.func53, Try.ntmps53
  go_wp2
  clear hmk
  have HO0 := Lib.hid (on_start w (.cells #[.int .i64 (N : Int), .slice A m c, M] 82) N)
  obtain ⟨gb, hgb⟩ : ∃ gb, w.heap.size + 1 = gb := ⟨_, rfl⟩
  rw [hgb] at HO0 ⊢
  clear hgb
  go_loopw [12] (fun p wr => ∃ i : Nat, i ≤ m ∧ p = .int .i64 (i : Int) ∧ On w wr gb (dnl N (L.take i))) (fun p _ => m - (intOf p).toNat)
  case atStart => exact ⟨0, Nat.zero_le _, rfl, by rw [List.take_zero, dnl_nil]; exact HO0.out⟩
  case round =>
   as_aux_lemma =>
    clear HO0
    obtain ⟨i, hi, rfl, hO⟩ := hrel
    by_cases hlt : i < m
    · have hiL : i < L.length := by rw [HL.out.1]; exact hlt
      obtain ⟨r0, r1⟩ := acs_atC L i hiL
      obtain ⟨b, off, rfl, hb, k0⟩ := (HR.out.on hO.low).at_ r0
      obtain ⟨b', off', hA2, hb', k1⟩ := (HR.out.on hO.low).at_ r1
      simp only [Option.some.injEq, Addr.mk.injEq, and_true] at hA2
      obtain ⟨rfl, rfl⟩ := hA2
      rw [← Nat.add_assoc] at k1
      have hmem : L[i]?.getD (0, 0) ∈ L := by rw [List.getElem?_eq_getElem hiL]; exact List.getElem_mem hiL
      have htk : L.take (i + 1) = L.take i ++ [L[i]?.getD (0, 0)] := by rw [List.take_succ_eq_append_getElem hiL, List.getElem?_eq_getElem hiL]; rfl
      obtain ⟨ha1, ha2, hne⟩ := HL.out.2 _ hmem
      obtain ⟨a, ha⟩ : ∃ a, L[i]?.getD (0, 0) = a := ⟨_, rfl⟩
      rw [ha] at k0 k1 htk ha1 ha2 hne
      clear r0 r1 hmem ha hb hb'
      obtain ⟨a1, a2⟩ := a
      simp only at k0 k1 ha1 ha2 hne
      have hle : (L.take i).length ≤ 1000000 := by rw [List.length_take]; omega
      have x1 := dnl_get (L.take i) ha1
      have x2 := dnl_get (L.take i) ha2
      have y1 := inP_le (L.take i) a1
      have y2 := inP_le (L.take i) a2
      have HSn : Hid (dnl N (L.take (i + 1)) = ((dnl N (L.take i)).set a1 (inP (L.take i) a1 + 1)).set a2 (inP (L.take i) a2 + 1)) := by show _ = _; rw [htk]; exact dnl_snoc _ hne
      clear htk
      generalize inP (L.take i) a1 = u1 at *
      generalize inP (L.take i) a2 = u2 at *
      generalize dnl N (L.take i) = l at *
      have o0 := hO.on (one_below wr (.cells #[.int .i64 (a1 : Int), .int .i64 (a2 : Int)] 97))
      have kn := World.alloc_heap_new wr (.cells #[.int .i64 (a1 : Int), .int .i64 (a2 : Int)] 97)
      have hgl := hO.lt
      have kp1 : (wr.alloc (.cells #[.int .i64 (a1 : Int), .int .i64 (a2 : Int)] 97)).cell? ⟨wr.heap.size, 0, none⟩ = some (.int .i64 (a1 : Int)) := (cell_at kn 0).trans rfl
      have kp2 : ((wr.alloc (.cells #[.int .i64 (a1 : Int), .int .i64 (a2 : Int)] 97)).setCell ⟨gb, a1, none⟩ (.int .i64 ((u1 : Int) + 1))).cell? ⟨wr.heap.size, 1, none⟩ = some (.int .i64 (a2 : Int)) := (cell_at ((Below.heap_setCell _ _ _ _ (by show wr.heap.size ≠ gb; omega)).trans kn) 1).trans rfl
      obtain ⟨k3, f3⟩ := o0.cell x1
      have o1 := o0.inc a1 u1
      obtain ⟨k4, f4⟩ := o1.cell (show (l.set a1 (u1 + 1))[a2]? = some u2 by rw [List.getElem?_set_ne hne]; exact x2)
      have HO := Lib.hid (o1.inc a2 u2)
      have t1 : (0 : Int) ≤ (i : Int) := by omega
      have t2 : (i : Int) < (m : Int) := by omega
      have t3 : (0 : Int) ≤ (a1 : Int) := by omega
      have t4 : (a1 : Int) < (N : Int) := by omega
      have t5 : (0 : Int) ≤ (a2 : Int) := by omega
      have t6 : (a2 : Int) < (N : Int) := by omega
      clear x1 x2 kn o0 o1 hO hiL hgl
      go_wp2
      go_roundw
      case rel => exact ⟨i + 1, by omega, by go_num, by rw [HSn.out]; exact HO.out⟩
      case measure => simp [intOf]; omega
    · obtain rfl : i = m := by omega
      rw [List.take_of_length_le (by rw [HL.out.1]; exact Nat.le_refl _)] at hO
      have HO := Lib.hid hO
      clear hO
      go_wp2
      go_ret
      exact ⟨gb, rfl, HO.out⟩
end

section
set_option maxRecDepth 100000
set_option linter.unusedVariables false
open Go.RowKit Go.Shelf

set_option maxHeartbeats 2000000 in
theorem nbof_e (R : List Rw) (N : Nat) (hN : R.length = N) (hN2 : N ≤ 140737488355328) (e0 : Int) (he : grE (gs R) = e0) (h0 : e0 ≠ 0) (A : Option Addr) (c : Nat) (w : World) (h : RdG w w.heap.size A R) :
    Calls Try.prog 52 #[.agg #[.slice A N c]] w fun e w' => e = .returned (.tuple #[.agg #[.int .i64 0, .slice none 0 0, .map none], .int .i64 e0]) ∧ Below w.heap.size w w' := by
  have HC : Hid (∀ V, Below w.heap.size w V → Calls Try.prog 16 #[.agg #[.slice A N c]] V (ArcsP V [] e0)) := fun V hV => garcs_e R N hN hN2 e0 he h0 A c V (h.on hV)
  have t0 : (e0 != 0) = true := by simpa using h0
  clear he h hN h0
  go_enter Try.func52, Try.ntmps52
  go_wp2_with fail
  have HX : Hid (Below w.heap.size w ((w.alloc (.cells #[.slice A N c] 24)).alloc (.cells #[.int .i64 0, .slice none 0 0, .map none] 82))) := (one_below w _).trans ((one_below _ _).mono (one_below w _).size)
  have hkn := World.alloc_heap_new (w.alloc (.cells #[.slice A N c] 24)) (.cells #[.int .i64 0, .slice none 0 0, .map none] 82)
  rw [World.size_alloc] at hkn
  refine (HC.out _ HX.out).mono ?_
  rintro e w1 ⟨A2, c2, rfl, -, -, b1⟩
  have HB : Hid (Below w.heap.size w w1) := HX.out.trans (b1.mono HX.out.size)
  have kb := (b1.block _ (Array.getElem?_eq_some_iff.1 hkn).1).trans hkn
  obtain ⟨p, hp⟩ : ∃ p, w.heap.size + 1 = p := ⟨_, rfl⟩
  have hpw : w.heap.size ≤ p := by omega
  rw [hp] at kb ⊢
  clear hp hkn b1 HC HX
  have k0 : w1.cell? ⟨p, 0, none⟩ = some (.int .i64 0) := (cell_at kb 0).trans rfl
  have f0 : w1.frozen? ⟨p, 0, none⟩ = false := frz_at kb 0
  have z1 := heap_set_same _ _ 0 (.int .i64 0) _ _ kb
  have k1 : (w1.setCell ⟨p, 0, none⟩ (.int .i64 0)).cell? ⟨p, 1, none⟩ = some (.slice none 0 0) := (cell_at z1 1).trans rfl
  have f1 : (w1.setCell ⟨p, 0, none⟩ (.int .i64 0)).frozen? ⟨p, 1, none⟩ = false := frz_at z1 1
  have z2 := heap_set_same _ _ 1 (.slice none 0 0) _ _ z1
  have k2 : ((w1.setCell ⟨p, 0, none⟩ (.int .i64 0)).setCell ⟨p, 1, none⟩ (.slice none 0 0)).cell? ⟨p, 2, none⟩ = some (.map none) := (cell_at z2 2).trans rfl
  have f2 : ((w1.setCell ⟨p, 0, none⟩ (.int .i64 0)).setCell ⟨p, 1, none⟩ (.slice none 0 0)).frozen? ⟨p, 2, none⟩ = false := frz_at z2 2
  have z3 := heap_set_same _ _ 2 (.map none) _ _ z2
  have HZ : Hid ((((w1.setCell ⟨p, 0, none⟩ (.int .i64 0)).setCell ⟨p, 1, none⟩ (.slice none 0 0)).setCell ⟨p, 2, none⟩ (.map none)).heap[p]? = some (.cells #[.int .i64 0, .slice none 0 0, .map none] 82 (0, 0))) := z3.trans rfl
  have HB3 : Hid (Below w.heap.size w (((w1.setCell ⟨p, 0, none⟩ (.int .i64 0)).setCell ⟨p, 1, none⟩ (.slice none 0 0)).setCell ⟨p, 2, none⟩ (.map none))) := ((HB.out.setCell (p := ⟨p, 0, none⟩) hpw _).setCell (p := ⟨p, 1, none⟩) hpw _).setCell (p := ⟨p, 2, none⟩) hpw _
  clear z1 z2 z3 kb
  go_wp2
  generalize ((w1.setCell ⟨p, 0, none⟩ (.int .i64 0)).setCell ⟨p, 1, none⟩ (.slice none 0 0)).setCell ⟨p, 2, none⟩ (.map none) = Z at *
  have y0 : Z.cell? ⟨p, 0, none⟩ = some (.int .i64 0) := (cell_at HZ.out 0).trans rfl
  have y1 : Z.cell? ⟨p, 1, none⟩ = some (.slice none 0 0) := (cell_at HZ.out 1).trans rfl
  have y2 : Z.cell? ⟨p, 2, none⟩ = some (.map none) := (cell_at HZ.out 2).trans rfl
  refine bodyPost_ret (v := .tuple #[.agg #[.int .i64 0, .slice none 0 0, .map none], .int .i64 e0]) (by simp [results, Try.results52, go_sem, y0, y1, y2]) rfl ?_
  exact ⟨rfl, HB3.out⟩
set_option maxHeartbeats 2000000 in
theorem cnum_e (R : List Rw) (N : Nat) (hN : R.length = N) (hN2 : N ≤ 140737488355328) (e0 : Int) (he : grE (gs R) = e0) (h0 : e0 ≠ 0) (A : Option Addr) (c : Nat) (w : World) (h : RdG w w.heap.size A R) :
    Calls Try.prog 23 #[.agg #[.slice A N c]] w fun e w' => e = .returned (.tuple #[.slice none 0 0, .int .i64 e0]) ∧ Below w.heap.size w w' := by
  have HC := Lib.hid (nbof_e R N hN hN2 e0 he h0 A c (w.alloc (.cells #[.slice A N c] 24)) (h.on (one_below w _)))
  have t0 : (e0 != 0) = true := by simpa using h0
  clear he h hN h0
  go_enter Try.func23, Try.ntmps23
  go_wp2_with fail
  refine HC.out.mono ?_
  rintro e w1 ⟨rfl, b1⟩
  have HB : Hid (Below w.heap.size w w1) := (one_below w _).trans (b1.mono (one_below w _).size)
  have HB2 : Hid (Below w.heap.size w (w1.alloc (.cells #[.int .i64 0, .slice none 0 0, .map none] 82))) := HB.out.trans ((one_below w1 _).mono HB.out.size)
  clear b1 HC
  go_wp2
  go_ret2
  exact ⟨rfl, HB2.out⟩
set_option maxHeartbeats 2000000 in
theorem cthr_e (R : List Rw) (N : Nat) (hN : R.length = N) (hN2 : N ≤ 140737488355328) (e0 : Int) (he : grE (gs R) = e0) (h0 : e0 ≠ 0) (A : Option Addr) (c : Nat) (w : World) (h : RdG w w.heap.size A R) :
    Calls Try.prog 24 #[.agg #[.slice A N c]] w fun e w' => e = .returned (.tuple #[.slice none 0 0, .int .i64 0, .int .i64 e0]) ∧ Below w.heap.size w w' := by
  have HC := Lib.hid (nbof_e R N hN hN2 e0 he h0 A c (w.alloc (.cells #[.slice A N c] 24)) (h.on (one_below w _)))
  have t0 : (e0 != 0) = true := by simpa using h0
  clear he h hN h0
  go_enter Try.func24, Try.ntmps24
  go_wp2_with fail
  refine HC.out.mono ?_
  rintro e w1 ⟨rfl, b1⟩
  have HB : Hid (Below w.heap.size w w1) := (one_below w _).trans (b1.mono (one_below w _).size)
  have HB2 : Hid (Below w.heap.size w (w1.alloc (.cells #[.int .i64 0, .slice none 0 0, .map none] 82))) := HB.out.trans ((one_below w1 _).mono HB.out.size)
  clear b1 HC
  go_wp2
  go_ret3
  exact ⟨rfl, HB2.out⟩
set_option maxHeartbeats 2000000 in
theorem cpai_e (R : List Rw) (N : Nat) (hN : R.length = N) (hN2 : N ≤ 140737488355328) (e0 : Int) (he : grE (gs R) = e0) (h0 : e0 ≠ 0) (A : Option Addr) (c : Nat) (w : World) (h : RdG w w.heap.size A R) :
    Calls Try.prog 25 #[.agg #[.slice A N c]] w fun e w' => e = .returned (.tuple #[.slice none 0 0, .int .i64 e0]) ∧ Below w.heap.size w w' := by
  have HC := Lib.hid (nbof_e R N hN hN2 e0 he h0 A c (w.alloc (.cells #[.slice A N c] 24)) (h.on (one_below w _)))
  have t0 : (e0 != 0) = true := by simpa using h0
  clear he h hN h0
  go_enter Try.func25, Try.ntmps25
  go_wp2_with fail
  refine HC.out.mono ?_
  rintro e w1 ⟨rfl, b1⟩
  have HB : Hid (Below w.heap.size w w1) := (one_below w _).trans (b1.mono (one_below w _).size)
  have HB2 : Hid (Below w.heap.size w (w1.alloc (.cells #[.int .i64 0, .slice none 0 0, .map none] 82))) := HB.out.trans ((one_below w1 _).mono HB.out.size)
  clear b1 HC
  go_wp2
  go_ret2
  exact ⟨rfl, HB2.out⟩
end

section
set_option maxRecDepth 100000
set_option linter.unusedVariables false
open Go.RowKit Go.Shelf
open Go.Maps (Keyed IsMap Tidy)

theorem arc_laidQ : laidOutB Try.prog = true := by kernel_rfl
theorem arc_rowQ : (97 : TypeId) < Try.prog.types.size := of_decide_eq_true (by kernel_rfl)
theorem arc_wideQ : (match Try.prog.underlying 97 with | some (.array _ _) | some (.struct _) => true | _ => false) = true := by kernel_rfl
theorem arc_lawQ : Keyed Try.prog 97 := Keyed.of_law (deep_law_laid arc_laidQ (m := 2) (by omega) arc_rowQ (by kernel_rfl) arc_wideQ)
theorem arc_cellsQ : Try.prog.cellsOf 97 = 2 := by kernel_rfl
theorem int_cellsQ : Try.prog.cellsOf 3 = 1 := by kernel_rfl
theorem arc_keyTypeQ : Try.prog.keyType 97 = true := by kernel_rfl
/-- An arc as a value, and as a key. -/
def vAQ (a : Ar) : Value := .agg #[.int .i64 (a.1 : Int), .int .i64 (a.2 : Int)]
def klAQ (a : Ar) : Lit := .string (keyBytes [.int .i64 (a.1 : Int), .int .i64 (a.2 : Int)])
def SmAQ (a : Ar) : Prop := a.1 < 1000 ∧ a.2 < 1000
theorem key_arcQ (a : Ar) (h : SmAQ a) : keyOf Try.prog 97 (vAQ a) = some (klAQ a) := by
  obtain ⟨m, hm⟩ : ∃ m, Try.prog.types.size = m + 1 := ⟨Try.prog.types.size - 1, (Nat.succ_pred_eq_of_pos (Nat.lt_of_le_of_lt (Nat.zero_le _) arc_rowQ)).symm⟩
  have w1 : (Lit.int .i64 (a.1 : Int)).wf = true := WalkArith.wf_i64 (by have := h.1; omega)
  have w2 : (Lit.int .i64 (a.2 : Int)).wf = true := WalkArith.wf_i64 (by have := h.2; omega)
  have hf : (vAQ a).formed Try.prog 97 = true := by simp [vAQ, Value.formed, Try.underlying97, arc_cellsQ]
  have hl : Try.prog.keyLits (Try.prog.types.size + 1) 97 [.int .i64 (a.1 : Int), .int .i64 (a.2 : Int)] = some [.int .i64 (a.1 : Int), .int .i64 (a.2 : Int)] := by
    rw [hm]
    simp [Program.keyLits, Try.underlying97, Try.underlying3, arc_cellsQ, int_cellsQ, List.range_succ, w1, w2]
  unfold keyOf
  rw [Try.underlying97]
  simp only [arc_keyTypeQ, hf, Bool.and_self, if_true]
  rw [show (vAQ a).cells.toList = [.int .i64 (a.1 : Int), .int .i64 (a.2 : Int)] from rfl, hl]
  rfl
theorem vA_injQ {a b : Ar} (h : vAQ a = vAQ b) : a = b := by
  simp only [vAQ, Value.agg.injEq] at h
  have h1 := congrArg Array.toList h
  simp at h1
  exact Prod.ext (by have := h1.1; omega) (by have := h1.2; omega)
theorem klA_injQ {a b : Ar} (ha : SmAQ a) (hb : SmAQ b) (h : klAQ a = klAQ b) : a = b := vA_injQ (arc_lawQ.inj (key_arcQ a ha) (by rw [h]; exact key_arcQ b hb))
theorem klA_keyQ {a : Ar} (ha : SmAQ a) : WideAt.IsKeyLit (klAQ a) := arc_lawQ.key (key_arcQ a ha)

/-- Block b holds a map of the call's own whose keys are just these arcs, with true; at most so many stores have made it. -/
structure ASetQ (w : World) (b n : Nat) (S : List Ar) : Prop where
  sm : ∀ a ∈ S, SmAQ a
  nd : S.Nodup
  own : ∃ D : DataW Unit, w.ownsMap Try.prog 97 (plainElem Try.prog 4) b n D ∧ (∀ kl, Maps.has D kl = true ↔ ∃ a ∈ S, kl = klAQ a) ∧ (∀ a ∈ S, ∀ z, D.atKey (klAQ a) z = .lit (.bool true)) ∧ Maps.size D = S.length
theorem ASetQ.made (w : World) : ASetQ (w.alloc (.map #[] 0)) w.heap.size 0 [] :=
  ⟨by simp, by simp, .map [], World.ownsMap_made w _ _ _, by simp [Maps.has], by simp, rfl⟩
theorem ASetQ.mono {w : World} {b n m : Nat} {S : List Ar} (h : ASetQ w b n S) (hm : n ≤ m) : ASetQ w b m S :=
  ⟨h.sm, h.nd, by obtain ⟨D, h1, h2⟩ := h.own; exact ⟨D, h1.mono hm, h2⟩⟩
theorem ASetQ.kept {w w' : World} {row : Option Nat} {b n : Nat} {S : List Ar} (h : ASetQ w b n S) (hg : w.grownBy w' row) (hne : some b ≠ row) : ASetQ w' b n S :=
  ⟨h.sm, h.nd, by obtain ⟨D, h1, h2⟩ := h.own; exact ⟨D, h1.kept hg hne, h2⟩⟩
theorem ASetQ.lt {w : World} {b n : Nat} {S : List Ar} (h : ASetQ w b n S) : b < w.heap.size := by obtain ⟨D, h1, h2⟩ := h.own; exact h1.lt
theorem ASetQ.block {w : World} {b n : Nat} {S : List Ar} (h : ASetQ w b n S) : ∃ o : Obj, w.heap[b]? = some o ∧ o.isCells = false := by
  obtain ⟨D, ⟨es, clock, hb, _⟩, h2⟩ := h.own
  exact ⟨_, hb, rfl⟩
theorem ASetQ.below {w w' : World} {b n B : Nat} {S : List Ar} (h : ASetQ w b n S) (hb : Below B w w') (hlt : b < B) : ASetQ w' b n S :=
  ⟨h.sm, h.nd, by
    obtain ⟨D, ⟨es, clock, h0, h1⟩, h2⟩ := h.own
    exact ⟨D, ⟨es, clock, (hb.block b hlt).trans h0, h1⟩, h2⟩⟩
theorem bool_zeroQ (w : World) : (zeroValue 4).run Try.prog w = .ok (.bool false) w := Try.zeroValue4 w
/-- A look-up. -/
theorem ASetQ.look {w : World} {b n : Nat} {S : List Ar} (h : ASetQ w b n S) (a : Ar) (ha : SmAQ a) :
    (Instr.lookup 80 (.map (some b)) (.agg #[.int .i64 (a.1 : Int), .int .i64 (a.2 : Int)]) false).run Try.prog w = .ok (.bool (decide (a ∈ S))) w := by
  obtain ⟨D, h1, h2, h3, h4⟩ := h.own
  obtain ⟨v, ps, hrun, hv⟩ := h1.lookup (t := 80) (e := 4) arc_lawQ Try.underlying80 (bool_zeroQ w) (plainElem_bool Try.underlying4 false) (key_arcQ a ha)
  have e : D.atKey (klAQ a) (.lit (.bool false)) = .lit (.bool (decide (a ∈ S))) := by
    by_cases hm : a ∈ S
    · rw [h3 a hm, decide_eq_true hm]
    · have hn : Maps.has D (klAQ a) = false := by
        rw [Bool.eq_false_iff]
        intro q
        obtain ⟨c, hc, e⟩ := (h2 _).1 q
        exact hm ((klA_injQ ha (h.sm c hc) e) ▸ hc)
      rw [Maps.atKey_of_not_has hn, decide_eq_false hm]
  rw [e] at hv
  have hv2 : v = .bool (decide (a ∈ S)) := by
    unfold plainElem at hv
    rw [Try.underlying4] at hv
    cases v <;> simp at hv
    rw [hv.1]
  rw [hv2] at hrun
  exact hrun
/-- A store. -/
theorem ASetQ.put {w : World} {b n : Nat} {S : List Ar} (h : ASetQ w b n S) (hn : n < 1000000) (a : Ar) (ha : SmAQ a) :
    ∃ w', (Instr.mapUpdate 80 (.map (some b)) (.agg #[.int .i64 (a.1 : Int), .int .i64 (a.2 : Int)]) (.bool true)).run Try.prog w = .ok () w' ∧ ASetQ w' b (n + 1) (ains S a) ∧ w.grownBy w' (some b) := by
  obtain ⟨D, h1, h2, h3, h4⟩ := h.own
  obtain ⟨w', hrun, h5, h6⟩ := h1.update (t := 80) (e := 4) arc_lawQ Try.underlying80 (by unfold maxLen; omega) (key_arcQ a ha) (plainElem_bool Try.underlying4 true)
  refine ⟨w', hrun, ⟨?_, ains_nodup h.nd a, D.put (klAQ a) (.lit (.bool true)), h5, ?_, ?_, ?_⟩, h6⟩
  · intro c hc
    rcases (ains_mem S a c).1 hc with q | rfl
    · exact h.sm c q
    · exact ha
  · intro kl
    by_cases hk : kl = klAQ a
    · subst hk
      rw [Maps.has_put_same h1.isMap (klA_keyQ ha)]
      exact ⟨fun _ => ⟨a, (ains_mem S a a).2 (.inr rfl), rfl⟩, fun _ => rfl⟩
    · rw [Maps.has_put_other hk, h2 kl]
      constructor
      · rintro ⟨c, hc, e⟩; exact ⟨c, (ains_mem S a c).2 (.inl hc), e⟩
      · rintro ⟨c, hc, e⟩
        rcases (ains_mem S a c).1 hc with q | rfl
        · exact ⟨c, q, e⟩
        · exact absurd e hk
  · intro c hc z
    by_cases hca : c = a
    · subst hca; exact Maps.atKey_put_same h1.isMap (klA_keyQ ha) _ _
    · rcases (ains_mem S a c).1 hc with q | q
      · rw [Maps.atKey_put_other (fun e => hca (klA_injQ (h.sm c q) ha e))]; exact h3 c q z
      · exact absurd q hca
  · rw [Maps.size_put (h1.tidy arc_lawQ)]
    by_cases hm : a ∈ S
    · rw [(h2 _).2 ⟨a, hm, rfl⟩, if_pos rfl, h4]; unfold ains; rw [if_pos hm]
    · have hnh : Maps.has D (klAQ a) = false := by
        rw [Bool.eq_false_iff]
        intro q
        obtain ⟨c, hc, e⟩ := (h2 _).1 q
        exact hm ((klA_injQ ha (h.sm c hc) e) ▸ hc)
      rw [hnh, if_neg (by simp), h4]; unfold ains; rw [if_neg hm]; simp
theorem ASetQ.len {w : World} {b n : Nat} {S : List Ar} (h : ASetQ w b n S) (ty : TypeId) : (Builtin.len_ #[80] ty #[.map (some b)]).run Try.prog w = .ok (.int .i64 (S.length : Int)) w := by
  obtain ⟨D, h1, h2, h3, h4⟩ := h.own
  rw [h1.len Try.underlying80 ty, h4]
end

section
set_option maxRecDepth 100000
set_option linter.unusedVariables false
open Go.RowKit Go.Shelf

set_option maxHeartbeats 4000000 in
theorem has_any (S : List Ar) (bm n : Nat) (N P : Value) (a b : Nat) (ha : a < 1000) (hb : b < 1000) (w : World) (h : ASetQ w bm n S) :
    Calls Try.prog 60 #[.agg #[N, P, .map (some bm)], .int .i64 (a : Int), .int .i64 (b : Int)] w fun e w' => e = .returned (.bool (decide (pof a b ∈ S))) ∧ Below w.heap.size w w' := by
  have hmn : min (a : Int) (b : Int) = ((min a b : Nat) : Int) := by omega
  have hmx : max (a : Int) (b : Int) = ((max a b : Nat) : Int) := by omega
  have HLk : Hid (∀ V, Below w.heap.size w V → (Instr.lookup 80 (.map (some bm)) (.agg #[.int .i64 (min (a : Int) (b : Int)), .int .i64 (max (a : Int) (b : Int))]) false).run Try.prog V = .ok (.bool (decide (pof a b ∈ S))) V) := fun V hV => by
    rw [hmn, hmx]
    exact (h.below hV h.lt).look (pof a b) ⟨by unfold pof; show min a b < 1000; omega, by unfold pof; show max a b < 1000; omega⟩
  obtain ⟨w1, hw1⟩ : ∃ w1, w.alloc (.cells #[N, P, .map (some bm)] 82) = w1 := ⟨_, rfl⟩
  have HB1 : Hid (Below w.heap.size w w1) := hw1 ▸ one_below w _
  have hs1 : w1.heap.size = w.heap.size + 1 := by rw [← hw1]; exact World.size_alloc _ _
  have kg1 : w1.cell? ⟨w.heap.size, 2, none⟩ = some (.map (some bm)) := by rw [← hw1]; exact (cell_at (World.alloc_heap_new w _) 2).trans rfl
  have HK : Hid (∀ V, Below w1.heap.size w1 V → V.cell? ⟨w.heap.size, 2, none⟩ = some (.map (some bm)) ∧ (Instr.lookup 80 (.map (some bm)) (.agg #[.int .i64 (min (a : Int) (b : Int)), .int .i64 (max (a : Int) (b : Int))]) false).run Try.prog V = .ok (.bool (decide (pof a b ∈ S))) V) := fun V hV => ⟨(hV.cell (p := ⟨w.heap.size, 2, none⟩) (by show w.heap.size < _; omega)).trans kg1, HLk.out V (HB1.out.trans (hV.mono HB1.out.size))⟩
  have HW := Lib.hid hw1
  have HC := Lib.hid (pairOf_any (a : Int) (b : Int) w1.drew)
  clear h hmn hmx kg1 hs1 hw1 HLk
  generalize decide (pof a b ∈ S) = z at *
  go_enter Try.func60, Try.ntmps60
  go_wp2
  rw [HW.out]
  go_region_held3 (fun w' => w'.cell? ⟨w.heap.size, 2, none⟩ = some (.map (some bm)) ∧ (Instr.lookup 80 (.map (some bm)) (.agg #[.int .i64 (min (a : Int) (b : Int)), .int .i64 (max (a : Int) (b : Int))]) false).run Try.prog w' = .ok (.bool z) w')
    ((first | exact HK.out _ (Below.refl _ _).drew | exact HK.out _ HB2.out))
    ((first | (go_at_call 85; refine HC.out.mono ?_; rintro e w2 ⟨rfl, b2⟩; have HB2 : Hid (Below w1.heap.size w1 w2) := (Below.refl _ w1).drew.trans b2; clear b2)))
  have HB3 : Hid (Below w.heap.size w w2) := HB1.out.trans (HB2.out.mono HB1.out.size)
  go_wp2
  go_ret
  exact ⟨rfl, HB3.out⟩
end

section
set_option maxRecDepth 100000
set_option linter.unusedVariables false
open Go.Shelf

def cmpIntC_ren : Go.Shelf.Ren := ⟨fun | 5 => 57 | 7 => 89 | n => n, fun | 22 => 3 | 3 => 3 | 4 => 4 | n => n, fun n => n⟩
theorem cmpIntC : SlLaysC2.n5 Try.prog cmpIntC_ren where
  mixed := by kernel_rfl
  f5 := ⟨"cmp.Compare[int]", by decide, Try.func57.trans (congrArg some (by kernel_rfl))⟩
  f7 := ⟨"cmp.isNaN[int]", by decide, Try.func89.trans (congrArg some (by kernel_rfl))⟩
  t3 := Try.underlying3
  a3 := Try.isAgg3
  z3 := Try.sizeOf3
  v3 := Try.zeroValue3
  t4 := Try.underlying4
  a4 := Try.isAgg4
  z4 := Try.sizeOf4
  v4 := Try.zeroValue4
  t22 := Try.underlying3
  a22 := Try.isAgg3
  z22 := Try.sizeOf3
  v22 := Try.zeroValue3

def sortP_ren : Go.Shelf.Ren := ⟨fun | 6 => 86 | 15 => 97 | 14 => 99 | 28 => 113 | 29 => 114 | 20 => 115 | 21 => 116 | 22 => 117 | 23 => 118 | 24 => 119 | 25 => 120 | 26 => 121 | 27 => 122 | 46 => 128 | 47 => 124 | 48 => 125 | 49 => 129 | 50 => 130 | 57 => 132 | n => n, fun | 22 => 79 | 24 => 97 | 25 => 117 | 3 => 3 | 39 => 119 | 0 => 0 | 53 => 128 | 55 => 53 | 4 => 4 | 46 => 137 | 45 => 136 | 50 => 141 | 5 => 5 | 9 => 9 | 66 => 150 | 70 => 154 | 76 => 158 | 77 => 159 | n => n, fun n => n⟩
theorem sortP : SlLaysF0.n6 Try.prog sortP_ren where
  mixed := by kernel_rfl
  f6 := ⟨"slices.SortFunc[[]lampwright/core.pair,lampwright/core.pair]", by decide, Try.func86.trans (congrArg some (by kernel_rfl))⟩
  f14 := ⟨"slices.pdqsortCmpFunc[lampwright/core.pair]", by decide, Try.func99.trans (congrArg some (by kernel_rfl))⟩
  f15 := Try.func97.trans (congrArg some (by kernel_rfl))
  f20 := ⟨"slices.insertionSortCmpFunc[lampwright/core.pair]", by decide, Try.func115.trans (congrArg some (by kernel_rfl))⟩
  f21 := ⟨"slices.heapSortCmpFunc[lampwright/core.pair]", by decide, Try.func116.trans (congrArg some (by kernel_rfl))⟩
  f22 := ⟨"slices.breakPatternsCmpFunc[lampwright/core.pair]", by decide, Try.func117.trans (congrArg some (by kernel_rfl))⟩
  f23 := ⟨"slices.choosePivotCmpFunc[lampwright/core.pair]", by decide, Try.func118.trans (congrArg some (by kernel_rfl))⟩
  f24 := ⟨"slices.reverseRangeCmpFunc[lampwright/core.pair]", by decide, Try.func119.trans (congrArg some (by kernel_rfl))⟩
  f25 := ⟨"slices.partialInsertionSortCmpFunc[lampwright/core.pair]", by decide, Try.func120.trans (congrArg some (by kernel_rfl))⟩
  f26 := ⟨"slices.partitionEqualCmpFunc[lampwright/core.pair]", by decide, Try.func121.trans (congrArg some (by kernel_rfl))⟩
  f27 := ⟨"slices.partitionCmpFunc[lampwright/core.pair]", by decide, Try.func122.trans (congrArg some (by kernel_rfl))⟩
  f28 := Try.func113.trans (congrArg some (by kernel_rfl))
  f29 := Try.func114.trans (congrArg some (by kernel_rfl))
  f46 := ⟨"slices.siftDownCmpFunc[lampwright/core.pair]", by decide, Try.func128.trans (congrArg some (by kernel_rfl))⟩
  f47 := Try.func124.trans (congrArg some (by kernel_rfl))
  f48 := Try.func125.trans (congrArg some (by kernel_rfl))
  f49 := ⟨"slices.medianAdjacentCmpFunc[lampwright/core.pair]", by decide, Try.func129.trans (congrArg some (by kernel_rfl))⟩
  f50 := ⟨"slices.medianCmpFunc[lampwright/core.pair]", by decide, Try.func130.trans (congrArg some (by kernel_rfl))⟩
  f57 := ⟨"slices.order2CmpFunc[lampwright/core.pair]", by decide, Try.func132.trans (congrArg some (by kernel_rfl))⟩
  t0 := Try.underlying0
  a0 := Try.isAgg0
  z0 := Try.sizeOf0
  v0 := Try.zeroValue0
  t3 := Try.underlying3
  a3 := Try.isAgg3
  z3 := Try.sizeOf3
  v3 := Try.zeroValue3
  t4 := Try.underlying4
  a4 := Try.isAgg4
  z4 := Try.sizeOf4
  v4 := Try.zeroValue4
  t5 := Try.underlying5
  a5 := Try.isAgg5
  z5 := Try.sizeOf5
  v5 := Try.zeroValue5
  t9 := Try.underlying9
  a9 := Try.isAgg9
  z9 := Try.sizeOf9
  v9 := Try.zeroValue9
  t22 := Try.underlying79
  a22 := Try.isAgg79
  z22 := Try.sizeOf79
  v22 := Try.zeroValue79
  t25 := Try.underlying117
  a25 := Try.isAgg117
  z25 := Try.sizeOf117
  v25 := Try.zeroValue117
  t39 := Try.underlying119
  a39 := Try.isAgg119
  z39 := Try.sizeOf119
  v39 := Try.zeroValue119
  t45 := Try.underlying136
  a45 := Try.isAgg136
  z45 := Try.sizeOf136
  v45 := Try.zeroValue136
  t46 := Try.underlying137
  a46 := Try.isAgg137
  z46 := Try.sizeOf137
  v46 := Try.zeroValue137
  t50 := Try.underlying141
  a50 := Try.isAgg141
  z50 := Try.sizeOf141
  v50 := Try.zeroValue141
  t53 := Try.underlying128
  a53 := Try.isAgg128
  z53 := Try.sizeOf128
  v53 := Try.zeroValue128
  t55 := Try.underlying53
  a55 := Try.isAgg53
  z55 := Try.sizeOf53
  v55 := Try.zeroValue53
  t66 := Try.underlying150
  a66 := Try.isAgg150
  z66 := Try.sizeOf150
  v66 := Try.zeroValue150
  t70 := Try.underlying154
  a70 := Try.isAgg154
  z70 := Try.sizeOf154
  v70 := Try.zeroValue154
  t76 := Try.underlying158
  a76 := Try.isAgg158
  z76 := Try.sizeOf158
  v76 := Try.zeroValue158
  t77 := Try.underlying159
  a77 := Try.isAgg159
  z77 := Try.sizeOf159
  v77 := Try.zeroValue159
end

section
set_option maxRecDepth 100000
set_option linter.unusedVariables false
open Go.RowKit Go.Shelf Go.Sort

theorem toList_get {l : List Value} {F : Array Value} (hs : F.size = l.length) (h : ∀ t, t < l.length → F[t]! = l[t]?.getD default) : F.toList = l := by
  apply List.ext_getElem (by simpa using hs)
  intro i h1 h2
  have := h i h2
  rw [List.getElem?_eq_getElem h2, Option.getD_some] at this
  rw [← this, Array.getElem_toList, getElem!_pos F i (by simpa using h1)]
theorem get!_of {α : Type} [Inhabited α] (l : List α) (i : Nat) : l.toArray[i]! = l[i]?.getD default := by simp [List.getElem!_eq_getElem?_getD]
theorem flatMap_get {α : Type} [Inhabited α] (enc : α → List Value) (k : Nat) (hk : ∀ x, (enc x).length = k) : ∀ (l : List α) (t : Nat), t < l.length * k → (l.flatMap enc)[t]?.getD default = (enc (l[t / k]?.getD default))[t % k]?.getD default
  | [], t, h => by simp at h
  | x :: l, t, h => by
    have k0 : 0 < k := by
      rcases Nat.eq_zero_or_pos k with rfl | h'
      · simp at h
      · exact h'
    rw [List.flatMap_cons]
    by_cases ht : t < k
    · rw [List.getElem?_append_left (by rw [hk]; exact ht), Nat.div_eq_of_lt ht, Nat.mod_eq_of_lt ht]; rfl
    · have e1 : t / k = (t - k) / k + 1 := by
        have : t = (t - k) + k := by omega
        conv => lhs; rw [this]
        rw [Nat.add_div_right _ k0]
      have e2 : t % k = (t - k) % k := by
        have : t = (t - k) + k := by omega
        conv => lhs; rw [this]
        rw [Nat.add_mod_right]
      rw [List.getElem?_append_right (by rw [hk]; omega), hk, e1, e2, List.getElem?_cons_succ]
      exact flatMap_get enc k hk l (t - k) (by simp [Nat.add_mul] at h; omega)
theorem flatMap_len {α : Type} (enc : α → List Value) (k : Nat) (hk : ∀ x, (enc x).length = k) : ∀ l : List α, (l.flatMap enc).length = l.length * k
  | [] => by simp
  | x :: l => by rw [List.flatMap_cons, List.length_append, hk, flatMap_len enc k hk l, List.length_cons, Nat.add_mul]; omega
theorem flatK_list {α : Type} [Inhabited α] (enc : α → List Value) (k : Nat) (hk : ∀ x, (enc x).length = k) (l : List α) : (flatK enc k l.toArray).toList = l.flatMap enc := by
  have hl := flatMap_len enc k hk l
  refine toList_get (by rw [size_flatK, hl]; simp) (fun t ht => ?_)
  rw [hl] at ht
  rw [get_flatK _ _ _ _ (by simpa using ht), flatMap_get enc k hk l t ht, get!_of, List.getElem!_eq_getElem?_getD]
theorem perm_list {α : Type} [Inhabited α] {lt : α → α → Bool} {d d' : Array α} (hP : PermIn 0 d.size d d') (hS : SortedIn lt 0 d.size d') : d'.toList.Perm d.toList ∧ d'.toList.Pairwise (fun x y => lt y x = false) := by
  obtain ⟨hsz, _, hperm⟩ := hP
  have e1 : d'.extract 0 d.size = d' := by rw [← hsz]; exact Array.extract_size
  rw [e1, Array.extract_size] at hperm
  refine ⟨hperm, List.pairwise_iff_getElem.2 fun i j hi hj hij => ?_⟩
  have hj' : j < d'.size := by simpa using hj
  have := hS i j (Nat.zero_le _) hij (by omega)
  rwa [getElem!_pos d' i (by omega), getElem!_pos d' j hj'] at this

theorem own_holdsK {α : Type} [Inhabited α] (enc : α → List Value) (k : Nat) (hk : ∀ x, (enc x).length = k) {w : World} {base : Nat} {e : TypeId} {g n cap : Nat} (l : List α)
    (h : w.ownsRow base e k (.slice (some ⟨g, 0, none⟩) n cap) n (l.flatMap enc)) (hn : l.length = n) : HoldsK enc k w g 0 l.toArray := by
  intro j hj
  rw [size_flatK] at hj
  have hj2 : j < n * k := by simpa [hn] using hj
  have hfl := flatK_list enc k hk l
  rcases h.2 with ⟨h, _⟩ | ⟨g', cap', cur, hv, _, hg, h1, h2, h3, h4⟩
  · cases h
  · simp only [Value.slice.injEq, Option.some.injEq, Addr.mk.injEq, and_true, true_and] at hv
    obtain ⟨rfl, rfl⟩ := hv
    have hc : n * k ≤ cap * k := Nat.mul_le_mul_right k h1
    have hjc : j < cur.size := by omega
    have hcell : cur[j]? = some (flatK enc k l.toArray)[j]! := by
      have e1 : (cur.toList.take (n * k))[j]? = cur[j]? := by rw [List.getElem?_take_of_lt hj2]; simp
      rw [← e1, h4, ← hfl, getElem!_pos _ j (by rw [size_flatK]; exact hj)]
      simp
    constructor
    · rw [Nat.zero_add, cell_at hg, hcell]; rfl
    · simp [World.frozen?, hg]
theorem put_own {α : Type} [Inhabited α] (enc : α → List Value) (k : Nat) (hk : ∀ x, (enc x).length = k) {w : World} {base : Nat} {e : TypeId} {g n cap : Nat} (l l' : List α)
    (h : w.ownsRow base e k (.slice (some ⟨g, 0, none⟩) n cap) n (l.flatMap enc)) (hn : l.length = n) (hn' : l'.length = n) (m : Nat) (os : Array Obj) :
    (sortWorldK enc k w g 0 m l'.toArray os).ownsRow base e k (.slice (some ⟨g, 0, none⟩) n cap) n (l'.flatMap enc) ∧ Below base w (sortWorldK enc k w g 0 m l'.toArray os) := by
  rcases h.2 with ⟨h, _⟩ | ⟨g', cap', cur, hv, hb, hg, h1, h2, h3, h4⟩
  · cases h
  · simp only [Value.slice.injEq, Option.some.injEq, Addr.mk.injEq, and_true, true_and] at hv
    obtain ⟨rfl, rfl⟩ := hv
    have hgs : g < w.heap.size := (Array.getElem?_eq_some_iff.1 hg).1
    have hc : n * k ≤ cap * k := Nat.mul_le_mul_right k h1
    have hsz : (sortWorldK enc k w g 0 m l'.toArray os).heap.size = w.heap.size + os.size := by
      unfold sortWorldK; rw [size_grow]; unfold putRowK; rw [size_putRow]; rfl
    have hheap : ∀ j, j < w.heap.size → (sortWorldK enc k w g 0 m l'.toArray os).heap[j]? = (w.heap.modify g (onCells (putCells id 0 (flatK enc k l'.toArray))))[j]? := by
      intro j hj
      unfold sortWorldK
      rw [heap_grow_old _ _ (by unfold putRowK; rw [size_putRow]; exact hj)]
      rfl
    constructor
    · refine ⟨by rw [flatMap_len enc k hk, hn'], .inr ⟨g, cap, putCells id 0 (flatK enc k l'.toArray) cur, rfl, hb, ?_, h1, h2, by simp [putCells]; exact h3, ?_⟩⟩
      · rw [hheap g hgs, Array.getElem?_modify, hg]; simp [onCells]
      · rw [← flatK_list enc k hk l']
        apply List.ext_getElem
        · simp [putCells, size_flatK, hn']; omega
        · intro i q1 q2
          have hi : i < n * k := by simp [size_flatK, hn'] at q2; exact q2
          simp only [putCells, List.getElem_take, Array.getElem_toList, Array.getElem_mapIdx]
          rw [if_pos ⟨Nat.zero_le _, by rw [size_flatK]; simp [hn']; omega⟩, Nat.sub_zero, getElem!_pos _ i (by rw [size_flatK]; simp [hn']; omega)]
          rfl
    · refine ⟨rfl, rfl, rfl, by rw [hsz]; omega, fun j hj => ?_⟩
      rw [hheap j (by omega), Array.getElem?_modify, if_neg (by omega)]


/-- The first that is not 0. -/
def orI (a b : Int) : Int := if a = 0 then b else a
/-! ### The order of words -/
theorem compareInt_lt (a b : Int) : Lib.compareInt a b < 0 ↔ a < b := by unfold Lib.compareInt; split <;> (try split) <;> simp_all <;> omega
theorem compareInt_zero (a b : Int) : Lib.compareInt a b = 0 ↔ a = b := by unfold Lib.compareInt; split <;> (try split) <;> simp_all <;> omega
theorem orI_lt (a b c d : Int) : orI (Lib.compareInt a b) (Lib.compareInt c d) < 0 ↔ a < b ∨ (a = b ∧ c < d) := by
  unfold orI
  by_cases h : Lib.compareInt a b = 0
  · rw [if_pos h, compareInt_lt]
    have := (compareInt_zero a b).1 h
    omega
  · rw [if_neg h, compareInt_lt]
    have : ¬ a = b := fun e => h ((compareInt_zero a b).2 e)
    omega
/-- Two numbers are compared, then two more. -/
theorem swo_or {α : Type} (p q : α → Int) : SWO (ltOf fun x y : α => orI (Lib.compareInt (p x) (p y)) (Lib.compareInt (q x) (q y))) where
  irrefl x := by unfold ltOf; rw [decide_eq_false_iff_not, orI_lt]; omega
  trans x y z h1 h2 := by unfold ltOf at *; rw [decide_eq_true_eq, orI_lt] at *; omega
  ntrans x y z h1 h2 := by unfold ltOf at *; rw [decide_eq_false_iff_not, orI_lt] at *; omega

theorem cmpIC (x y : Int) (w : World) : Calls Try.prog 57 #[.int .i64 x, .int .i64 y] w fun e w' => e = .returned (.int .i64 (Lib.compareInt x y)) ∧ w' = w :=
  AnyG.cmp_Compare_int cmpIntC x y w
set_option maxHeartbeats 1000000 in
theorem scmp_any (x0 x1 y0 y1 : Int) (w : World) (B C : Nat) (hx0 : w.cell? ⟨B, 0, none⟩ = some (.int .i64 x0)) (hx1 : w.cell? ⟨B, 0 + 1, none⟩ = some (.int .i64 x1)) (hy0 : w.cell? ⟨C, 0, none⟩ = some (.int .i64 y0)) (hy1 : w.cell? ⟨C, 0 + 1, none⟩ = some (.int .i64 y1)) :
    Calls Try.prog 88 #[.slice (some ⟨B, 0, none⟩) 2 2, .slice (some ⟨C, 0, none⟩) 2 2] w fun e w' => e = .returned (.int .i64 (orI (Lib.compareInt x0 y0) (Lib.compareInt x1 y1))) ∧ w' = w := by
  have C1 := Lib.hid (cmpIC x0 y0)
  have C2 := Lib.hid (cmpIC x1 y1)
  generalize Lib.compareInt x0 y0 = r0 at *
  generalize Lib.compareInt x1 y1 = r1 at *
  unfold orI
  by_cases h0 : r0 = 0
  · subst h0
    rw [if_pos rfl]
    by_cases h1 : r1 = 0
    · subst h1
      go_enter Try.func88, Try.ntmps88
      go_wp2
      refine wp_loop_rounds 3 ?_
      rw [rounds_succ]
      go_wp2_with fail
      refine (C1.out _).mono ?_
      rintro e w1 ⟨rfl, rfl⟩
      go_wp2
      rw [rounds_succ]
      go_wp2_with fail
      refine (C2.out _).mono ?_
      rintro e w1 ⟨rfl, rfl⟩
      go_wp2
      rw [rounds_succ]
      go_wp2
      go_ret
      exact ⟨rfl, rfl⟩
    · have t0 : (r1 != 0) = true := by simpa using h1
      go_enter Try.func88, Try.ntmps88
      go_wp2
      refine wp_loop_rounds 3 ?_
      rw [rounds_succ]
      go_wp2_with fail
      refine (C1.out _).mono ?_
      rintro e w1 ⟨rfl, rfl⟩
      go_wp2
      rw [rounds_succ]
      go_wp2_with fail
      refine (C2.out _).mono ?_
      rintro e w1 ⟨rfl, rfl⟩
      go_wp2
      go_ret
      exact ⟨rfl, rfl⟩
  · rw [if_neg h0]
    have t0 : (r0 != 0) = true := by simpa using h0
    go_enter Try.func88, Try.ntmps88
    go_wp2
    refine wp_loop_rounds 3 ?_
    rw [rounds_succ]
    go_wp2_with fail
    refine (C1.out _).mono ?_
    rintro e w1 ⟨rfl, rfl⟩
    go_wp2
    go_ret
    exact ⟨rfl, rfl⟩
set_option maxHeartbeats 4000000 in
theorem closP (x0 x1 y0 y1 : Int) (W : World) : Calls Try.prog 87 #[.agg #[.int .i64 x0, .int .i64 x1], .agg #[.int .i64 y0, .int .i64 y1]] W fun e w' => e = .returned (.int .i64 (orI (Lib.compareInt x0 y0) (Lib.compareInt x1 y1))) ∧ ∃ q os', w' = grow (W.drewN q) os' := by
  have HW : Hid (∀ n : Nat, Calls Try.prog 88 #[.slice (some ⟨W.heap.size, 0, none⟩) 2 2, .slice (some ⟨W.heap.size + 1, 0, none⟩) 2 2] (((W.alloc (.cells #[.int .i64 x0, .int .i64 x1] 97)).alloc (.cells #[.int .i64 y0, .int .i64 y1] 97)).drewN n) fun e w' => e = .returned (.int .i64 (orI (Lib.compareInt x0 y0) (Lib.compareInt x1 y1))) ∧ w' = ((W.alloc (.cells #[.int .i64 x0, .int .i64 x1] 97)).alloc (.cells #[.int .i64 y0, .int .i64 y1] 97)).drewN n) := fun n => by
    have n0 := World.alloc_heap_new W (.cells #[.int .i64 x0, .int .i64 x1] 97)
    have n1 := World.alloc_heap_new (W.alloc (.cells #[.int .i64 x0, .int .i64 x1] 97)) (.cells #[.int .i64 y0, .int .i64 y1] 97)
    have k0 := (Below.heap_alloc (W.alloc (.cells #[.int .i64 x0, .int .i64 x1] 97)) (.cells #[.int .i64 y0, .int .i64 y1] 97) W.heap.size (by simp)).trans n0
    rw [World.size_alloc] at n1
    exact scmp_any x0 x1 y0 y1 _ _ _ ((cell_at k0 0).trans rfl) ((cell_at k0 (0 + 1)).trans rfl) ((cell_at n1 0).trans rfl) ((cell_at n1 (0 + 1)).trans rfl)
  generalize orI (Lib.compareInt x0 y0) (Lib.compareInt x1 y1) = r at *
  go_enter Try.func87, Try.ntmps87
  go_wp2_with fail
  go_quiet ((go_at_call 88; exact Calls.quiet_of_same (HW.out _)))
  go_wp2
  go_ret
  exact ⟨rfl, _, _, by rw [alloc_eq_grow, alloc_eq_grow, grow_grow]; rfl⟩
def encP (p : Ar) : List Value := [.int .i64 (p.1 : Int), .int .i64 (p.2 : Int)]
theorem encP_len (x : Ar) : (encP x).length = 2 := rfl
theorem encP_one (x : Ar) : ∀ u ∈ encP x, u.oneCell' = true := by
  intro u hu
  simp [encP] at hu
  rcases hu with rfl | rfl <;> rfl
theorem acs_enc (L : List Ar) : L.flatMap encP = acs L := by
  unfold acs rz rcs
  rw [List.flatMap_map]
  rfl
def cfP (x y : Ar) : Int := orI (Lib.compareInt (x.1 : Int) (y.1 : Int)) (Lib.compareInt (x.2 : Int) (y.2 : Int))
theorem cmpLaysP (blk off size : Nat) (w : World) : CmpLays Try.prog 87 #[] encP 2 cfP blk off size w :=
  fun _ _ _ _ x y => closP (x.1 : Int) (x.2 : Int) (y.1 : Int) (y.2 : Int) _
theorem entersP : ∀ args w, (callFunc 87 args).run Try.prog w = .ok (.enter 87 args) w := enters_of Try.func87 (by kernel_rfl) rfl
theorem sortP_any (L : List Ar) (n : Nat) (hn : L.length = n) (h6 : n ≤ 1000) (base : Nat) (v : Value) (w : World) (h : w.ownsRow base 97 2 v n (acs L)) :
    Calls Try.prog 86 #[v, .func (.func 87) #[] #[]] w fun e w' => e = .returned (.tuple #[]) ∧ ∃ l : List Ar, l.Perm L ∧ (l.Pairwise fun p q => ¬ plt q p) ∧ w'.ownsRow base 97 2 v n (acs l) ∧ Below base w w' := by
  rcases h.2 with ⟨rfl, h0⟩ | ⟨g, cap, cur, rfl, hb, hg, h1, h2, h3, h4⟩
  · subst h0
    have : L = [] := List.eq_nil_of_length_eq_zero hn
    subst this
    exact (AnyF.slices_SortFunc_none sortP none 0 _ w).mono fun e w' ⟨he, hw⟩ => by
      subst hw
      exact ⟨he, [], List.Perm.refl _, List.Pairwise.nil, h, Below.refl _ _⟩
  · have hgs : g < w.heap.size := (Array.getElem?_eq_some_iff.1 hg).1
    rw [← acs_enc] at h
    have hcon := AnyQ.slices_SortFunc sortP 2 Try.isAgg97 Try.sizeOf97 encP encP_len encP_one cfP (swo_or (fun x : Ar => (x.1 : Int)) (fun x : Ar => (x.2 : Int))) 87 #[] g 0 cap L.toArray w entersP (cmpLaysP g 0 _ w) (own_holdsK encP 2 encP_len L h hn) hgs (by simp [hn]; omega)
    have es : L.toArray.size = n := by simp [hn]
    rw [es] at hcon
    refine hcon.mono ?_
    rintro e w' ⟨he, d', m, os, hP, hS, rfl⟩
    obtain ⟨p1, p2⟩ := perm_list (by rw [es]; exact hP) (by rw [es]; exact hS)
    rw [List.toList_toArray] at p1
    have hl' : d'.toList.length = n := by rw [p1.length_eq]; exact hn
    have hput := put_own encP 2 encP_len L d'.toList h hn hl' m os
    rw [Array.toArray_toList, acs_enc] at hput
    refine ⟨he, d'.toList, p1, p2.imp fun {x y} hxy => ?_, hput⟩
    unfold ltOf cfP at hxy
    rw [decide_eq_false_iff_not, orI_lt] at hxy
    unfold plt
    omega
end

section
set_option maxRecDepth 100000
set_option linter.unusedVariables false
open Go.RowKit Go.Shelf

theorem info_pair : (Try.prog.info? 97).map (fun i => (i.zero, i.size, i.bytes)) = some (some (.agg #[.int .i64 0, .int .i64 0]), 2, 16) := by kernel_rfl
theorem own_grownP {X Y : World} {base k n : Nat} {T : TypeId} {v : Value} {xs : List Value} (h : X.ownsRow base T k v n xs) (hk : ∀ g o, base ≤ g → X.heap[g]? = some o → Y.heap[g]? = some o) : Y.ownsRow base T k v n xs := by
  refine ⟨h.1, ?_⟩
  rcases h.2 with h0 | ⟨g, cap, cur, e, h1, h2, h3⟩
  · exact .inl h0
  · exact .inr ⟨g, cap, cur, e, h1, hk g _ h1 h2, h3⟩
theorem acs_snocP (S : List Ar) (a b : Nat) : acs (S ++ [(a, b)]) = acs S ++ [.int .i64 (a : Int), .int .i64 (b : Int)] := by unfold acs rz rcs; simp
theorem ASetQ.same {w w' : World} {b n : Nat} {S : List Ar} (h : ASetQ w b n S) (e : w'.heap[b]? = w.heap[b]?) : ASetQ w' b n S :=
  ⟨h.sm, h.nd, by
    obtain ⟨D, ⟨es, clock, h0, h1⟩, h2⟩ := h.own
    exact ⟨D, ⟨es, clock, e.trans h0, h1⟩, h2⟩⟩
/-- What the rounds keep: a set of pairs, a record with a list of them, the list of the call's own. -/
structure Nb (w1 W : World) (bm N : Nat) (v : Value) (S : List Ar) (n : Nat) : Prop where
  low : Below w1.heap.size w1 W
  ge : w1.heap.size ≤ bm
  set : ASetQ W bm n S
  box : W.heap[bm + 1]? = some (.cells #[.int .i64 (N : Int), v, .map (some bm)] 82 (0, 0))
  own : W.ownsRow (bm + 2) 97 2 v S.length (acs S)
  le : bm + 2 ≤ W.heap.size
theorem Nb.on {w1 W X : World} {bm N n : Nat} {v : Value} {S : List Ar} (h : Nb w1 W bm N v S n) (hb : Below W.heap.size W X) : Nb w1 X bm N v S n :=
  ⟨h.low.trans (hb.mono h.low.size), h.ge, h.set.below hb (by have := h.le; omega), (hb.block _ (by have := h.le; omega)).trans h.box, own_grownP h.own fun g o _ hg => (hb.block _ (Array.getElem?_eq_some_iff.1 hg).1).trans hg, Nat.le_trans h.le hb.size⟩
theorem Nb.mono {w1 W : World} {bm N n : Nat} {v : Value} {S : List Ar} (h : Nb w1 W bm N v S n) : Nb w1 W bm N v S (n + 1) := ⟨h.low, h.ge, h.set.mono (Nat.le_succ _), h.box, h.own, h.le⟩
/-- A pair is put into the set, not yet behind the list. -/
structure Nb' (w1 W : World) (bm N : Nat) (v : Value) (S T : List Ar) (n : Nat) : Prop where
  low : Below w1.heap.size w1 W
  ge : w1.heap.size ≤ bm
  set : ASetQ W bm n T
  box : W.heap[bm + 1]? = some (.cells #[.int .i64 (N : Int), v, .map (some bm)] 82 (0, 0))
  own : W.ownsRow (bm + 2) 97 2 v S.length (acs S)
  le : bm + 2 ≤ W.heap.size
theorem Nb.put {w1 W X : World} {bm N n : Nat} {v : Value} {S T : List Ar} (h : Nb w1 W bm N v S n) (hg : W.grownBy X (some bm)) (hs : ASetQ X bm (n + 1) T) : Nb' w1 X bm N v S T (n + 1) :=
  ⟨h.low.trans ((below_grown hg h.set.lt).mono h.ge), h.ge, hs, (hg.block (bm + 1) (by have := h.le; omega) (fun q => by cases q)).trans h.box, own_grownP h.own fun g o hB ho => (hg.block g (Array.getElem?_eq_some_iff.1 ho).1 (fun q => by cases q; omega)).trans ho, Nat.le_trans h.le hg.size⟩
theorem Nb'.alloc {w1 W : World} {bm N n : Nat} {v : Value} {S T : List Ar} (h : Nb' w1 W bm N v S T n) (o : Obj) : Nb' w1 (W.alloc o) bm N v S T n :=
  ⟨h.low.trans ((one_below W o).mono h.low.size), h.ge, h.set.below (one_below W o) (by have := h.le; omega), ((one_below W o).block _ (by have := h.le; omega)).trans h.box, h.own.alloc _, by rw [World.size_alloc]; have := h.le; omega⟩
/-- The list in memory has the pair, the record not yet. -/
theorem Nb'.app {w1 W X : World} {bm N n : Nat} {v v' : Value} {S T : List Ar} {a b : Nat} (h : Nb' w1 W bm N v S T n) (h1 : X.ownsRow (bm + 2) 97 2 v' (S.length + 1) (acs S ++ [.int .i64 (a : Int), .int .i64 (b : Int)])) (h2 : W.grownBy X v.ownBlock) (hT : T = S ++ [(a, b)]) :
    X.heap[bm + 1]? = some (.cells #[.int .i64 (N : Int), v, .map (some bm)] 82 (0, 0)) ∧ Nb w1 (X.setCell ⟨bm + 1, 1, none⟩ v') bm N v' T n := by
  have hb := grown_low h2 h.own h.le
  subst hT
  have hbx := (hb.block (bm + 1) (by omega)).trans h.box
  have hs := heap_set_same _ _ 1 v' _ _ hbx
  have hb2 : Below (bm + 1) W (X.setCell ⟨bm + 1, 1, none⟩ v') := (hb.mono (Nat.le_succ _)).setCell (p := ⟨bm + 1, 1, none⟩) (Nat.le_refl _) _
  refine ⟨hbx, h.low.trans (hb2.mono (by have := h.ge; omega)), h.ge, h.set.below hb2 (by omega), hs.trans rfl, ?_, Nat.le_trans h.le hb2.size⟩
  rw [List.length_append, List.length_singleton, acs_snocP]
  exact own_grownP h1 fun g o hB ho => (Below.heap_setCell X ⟨bm + 1, 1, none⟩ v' g (fun e => by have : g = bm + 1 := e; clear e; omega)).trans ho
/-- A right graph's neighbours: in the order of the pairs, and as a set. -/
def NbP (w : World) (f : Nat → Nat → Bool) (N : Nat) (e : Ending) (w' : World) : Prop :=
  ∃ A c bm S, e = .returned (.tuple #[.agg #[.int .i64 (N : Int), .slice A (cpr f N).length c, .map (some bm)], .int .i64 0]) ∧ RdV w' w'.heap.size A (acs (cpr f N)) ∧ (∀ p, p ∈ S ↔ p ∈ cpr f N) ∧ ASetQ w' bm 600 S ∧ Below w.heap.size w w'
set_option maxHeartbeats 4000000 in
theorem nbof_ok (R : List Rw) (g : List (List Nat)) (hg : gs R = g.map ns) (hok : GOk g) (N : Nat) (hN : R.length = N) (A : Option Addr) (c : Nat) (w : World) (h : RdG w w.heap.size A R) :
    Calls Try.prog 52 #[.agg #[.slice A N c]] w (NbP w (near g) N) := by
  obtain ⟨i0, hi, hz0, hz1, hz2⟩ := info_parts info_pair
  have hgl : g.length = N := by have := congrArg List.length hg; rw [gs_length, List.length_map] at this; omega
  have hN1 : N ≤ 100 := by have := hok.nodes; omega
  have h600 := hok.many
  have HC : Hid (∀ V, Below w.heap.size w V → Calls Try.prog 16 #[.agg #[.slice A N c]] V (ArcsP V (arcs 0 g) 0)) := fun V hV => garcs_ok R g hg hok N hN (by rw [hg]; exact grE_ok g hok) A c V (h.on hV)
  have HBd : Hid (∀ a ∈ arcs 0 g, a.1 < N ∧ a.2 < N) := by have := arcs_bd hok; rw [hgl] at this; exact this
  have HMem : Hid (∀ p, p ∈ nbs (arcs 0 g) ↔ p ∈ cpr (near g) N) := by have := nbs_near hok; rw [hgl] at this; exact this
  clear h hN hg hok hgl
  obtain ⟨L0, hL0⟩ : ∃ L0, arcs 0 g = L0 := ⟨_, rfl⟩
  rw [hL0] at HC HBd h600 HMem
  clear hL0
  obtain ⟨f, hf⟩ : ∃ f, near g = f := ⟨_, rfl⟩
  rw [hf] at HMem ⊢
  clear hf
  have hmm := @run_makeMap Try.prog
  go_enter Try.func52, Try.ntmps52
  go_wp2_with fail
  have hb01 := (one_below w (.cells #[.slice A N c] 24)).trans ((one_below (w.alloc (.cells #[.slice A N c] 24)) (.cells #[.int .i64 0, .slice none 0 0, .map none] 82)).mono (one_below w _).size)
  have hk0 := World.alloc_heap_new w (.cells #[.slice A N c] 24)
  have hk1 := World.alloc_heap_new (w.alloc (.cells #[.slice A N c] 24)) (.cells #[.int .i64 0, .slice none 0 0, .map none] 82)
  have hk0' := ((one_below (w.alloc (.cells #[.slice A N c] 24)) (.cells #[.int .i64 0, .slice none 0 0, .map none] 82)).block w.heap.size (by simp)).trans hk0
  rw [World.size_alloc] at hk1
  have HB0 := Lib.hid hb01
  refine (HC.out _ HB0.out).mono ?_
  rintro e w1 ⟨A2, c2, rfl, -, r2, b1⟩
  have HB1 : Hid (Below w.heap.size w w1) := HB0.out.trans (b1.mono HB0.out.size)
  have hsz : w.heap.size + 2 ≤ w1.heap.size := by have := b1.size; simp at this; omega
  have kg := (b1.block w.heap.size (by simp; omega)).trans hk0'
  have kr := (b1.block (w.heap.size + 1) (by simp)).trans hk1
  have HR := Lib.hid r2
  have HKr : Hid (∀ V, Below w1.heap.size w1 V → V.heap[w.heap.size + 1]? = some (.cells #[.int .i64 0, .slice none 0 0, .map none] 82 (0, 0))) := fun V hV => (hV.block _ (by omega)).trans kr
  have kg0 : w1.cell? ⟨w.heap.size, 0, none⟩ = some (.slice A N c) := (cell_at kg 0).trans rfl
  clear b1 r2 HB0 HC hb01 hk0 hk1 hk0' kg kr
  obtain ⟨m, hm⟩ : ∃ m, L0.length = m := ⟨_, rfl⟩
  have HM := Lib.hid hm
  rw [hm] at h600
  rw [hm]
  clear hm
  go_wp2
  clear hmm kg0
  have HT0 : Hid (Nb w1 ((w1.alloc (.map #[] 0)).alloc (.cells #[.int .i64 (N : Int), .slice none 0 0, .map (some w1.heap.size)] 82)) w1.heap.size N (.slice none 0 0) [] 0) := by
    have a1 := one_below w1 (.map #[] 0)
    have a2 := one_below (w1.alloc (.map #[] 0)) (.cells #[.int .i64 (N : Int), .slice none 0 0, .map (some w1.heap.size)] 82)
    have n2 := World.alloc_heap_new (w1.alloc (.map #[] 0)) (.cells #[.int .i64 (N : Int), .slice none 0 0, .map (some w1.heap.size)] 82)
    rw [World.size_alloc] at n2
    exact ⟨a1.trans (a2.mono a1.size), Nat.le_refl _, (ASetQ.made w1).below a2 (by simp), n2, ⟨rfl, .inl ⟨rfl, rfl⟩⟩, by simp⟩
  obtain ⟨bm, hbm⟩ : ∃ bm, w1.heap.size = bm := ⟨_, rfl⟩
  rw [hbm] at HT0 ⊢
  clear hbm
  go_loopw [26] (fun p wr => ∃ (i : Nat) (v : Value), i ≤ m ∧ p = .int .i64 (i : Int) ∧ Nb w1 wr bm N v (nbs (L0.take i)) i) (fun p _ => m - (intOf p).toNat)
  case atStart => exact ⟨0, _, Nat.zero_le _, rfl, by simpa [nbs] using HT0.out⟩
  case round =>
   as_aux_lemma =>
    clear HT0
    obtain ⟨i, v, hi', rfl, hT⟩ := hrel
    obtain ⟨Av, cv, rfl⟩ := own_sliceT hT.own
    by_cases hlt : i < m
    · have hiL : i < L0.length := by rw [HM.out]; exact hlt
      obtain ⟨r0, r1⟩ := acs_atC L0 i hiL
      obtain ⟨b, off, rfl, hb, k0⟩ := (HR.out.on hT.low).at_ r0
      obtain ⟨b', off', hA2, hb', k1⟩ := (HR.out.on hT.low).at_ r1
      simp only [Option.some.injEq, Addr.mk.injEq, and_true] at hA2
      obtain ⟨rfl, rfl⟩ := hA2
      rw [← Nat.add_assoc] at k1
      have hmem : L0[i]?.getD (0, 0) ∈ L0 := by rw [List.getElem?_eq_getElem hiL]; exact List.getElem_mem hiL
      have htk : L0.take (i + 1) = L0.take i ++ [L0[i]?.getD (0, 0)] := by rw [List.take_succ_eq_append_getElem hiL, List.getElem?_eq_getElem hiL]; rfl
      obtain ⟨ha1, ha2⟩ := HBd.out _ hmem
      obtain ⟨a, ha⟩ : ∃ a, L0[i]?.getD (0, 0) = a := ⟨_, rfl⟩
      rw [ha] at k0 k1 htk ha1 ha2
      clear r0 r1 hmem ha hb hb'
      have hsn := nbs_snoc (L0.take i) a
      rw [← htk] at hsn
      obtain ⟨a1, a2⟩ := a
      simp only at k0 k1 ha1 ha2
      unfold nbst at hsn
      simp only at hsn
      obtain ⟨u1, hu1⟩ : ∃ u1, min a1 a2 = u1 := ⟨_, rfl⟩
      obtain ⟨u2, hu2⟩ : ∃ u2, max a1 a2 = u2 := ⟨_, rfl⟩
      have hpo : pof a1 a2 = (u1, u2) := by unfold pof; rw [hu1, hu2]
      rw [hpo] at hsn
      have HPo : Hid (∀ V, Calls Try.prog 85 #[.int .i64 (a1 : Int), .int .i64 (a2 : Int)] V fun e w' => e = .returned (.agg #[.int .i64 (u1 : Int), .int .i64 (u2 : Int)]) ∧ Below V.heap.size V w') := fun V => by
        have := pairOf_any (a1 : Int) (a2 : Int) V
        rw [show min (a1 : Int) (a2 : Int) = (u1 : Int) by omega, show max (a1 : Int) (a2 : Int) = (u2 : Int) by omega] at this
        exact this
      have hsm : SmAQ (u1, u2) := ⟨by show u1 < 1000; omega, by show u2 < 1000; omega⟩
      have hln := nbs_len (L0.take i)
      rw [List.length_take] at hln
      have HSn := Lib.hid hsn
      have HT := Lib.hid hT
      clear hT hsn htk hu1 hu2 hpo
      have t1 : (0 : Int) ≤ (i : Int) := by omega
      have t2 : (i : Int) < (m : Int) := by omega
      generalize nbs (L0.take i) = S at *
      go_wp2_with fail
      have hb0 := one_below wr (.cells #[.int .i64 (a1 : Int), .int .i64 (a2 : Int)] 36)
      have hn0 := World.alloc_heap_new wr (.cells #[.int .i64 (a1 : Int), .int .i64 (a2 : Int)] 36)
      refine (HPo.out _).mono ?_
      rintro e w4 ⟨rfl, b4⟩
      have hb4 := hb0.trans (b4.mono hb0.size)
      have hn4 := (b4.block _ (Array.getElem?_eq_some_iff.1 hn0).1).trans hn0
      have hb5 := one_below w4 (.cells #[.int .i64 (u1 : Int), .int .i64 (u2 : Int)] 97)
      have hn5 := World.alloc_heap_new w4 (.cells #[.int .i64 (u1 : Int), .int .i64 (u2 : Int)] 97)
      have hn6 := (hb5.block _ (Array.getElem?_eq_some_iff.1 hn4).1).trans hn4
      have HT5 := Lib.hid (HT.out.on (hb4.trans (hb5.mono hb4.size)))
      have q0 : (w4.alloc (.cells #[.int .i64 (u1 : Int), .int .i64 (u2 : Int)] 97)).cell? ⟨wr.heap.size, 0, none⟩ = some (.int .i64 (a1 : Int)) := (cell_at hn6 0).trans rfl
      have q1 : (w4.alloc (.cells #[.int .i64 (u1 : Int), .int .i64 (u2 : Int)] 97)).cell? ⟨wr.heap.size, 1, none⟩ = some (.int .i64 (a2 : Int)) := (cell_at hn6 1).trans rfl
      have q2 : (w4.alloc (.cells #[.int .i64 (u1 : Int), .int .i64 (u2 : Int)] 97)).cell? ⟨w4.heap.size, 0, none⟩ = some (.int .i64 (u1 : Int)) := (cell_at hn5 0).trans rfl
      have q3 : (w4.alloc (.cells #[.int .i64 (u1 : Int), .int .i64 (u2 : Int)] 97)).cell? ⟨w4.heap.size, 1, none⟩ = some (.int .i64 (u2 : Int)) := (cell_at hn5 1).trans rfl
      have q4 : (w4.alloc (.cells #[.int .i64 (u1 : Int), .int .i64 (u2 : Int)] 97)).cell? ⟨bm + 1, 2, none⟩ = some (.map (some bm)) := (cell_at HT5.out.box 2).trans rfl
      have HN5 : Hid ((w4.alloc (.cells #[.int .i64 (u1 : Int), .int .i64 (u2 : Int)] 97)).heap[w4.heap.size]? = some (.cells #[.int .i64 (u1 : Int), .int .i64 (u2 : Int)] 97 (0, 0))) := hn5
      have HLt : Hid (bm + 2 ≤ w4.heap.size) := Nat.le_trans HT.out.le hb4.size
      clear hb0 hn0 hb4 hn4 hb5 hn5 hn6 b4 HT k0 k1 HPo
      by_cases e : a1 = a2
      · have HS : Hid (nbs (L0.take (i + 1)) = S) := by have := HSn.out; rw [if_neg (fun c => c.1 e)] at this; exact this
        have t7 : ((a1 : Int) == (a2 : Int)) = true := by simp; omega
        have t8 : ((a1 : Int) != (a2 : Int)) = false := by simp; omega
        clear HSn
        go_wp2
        go_roundw
        case rel => exact ⟨i + 1, _, by omega, by go_num, by rw [HS.out]; exact HT5.out.mono⟩
        case measure => simp [intOf]; omega
      · have t7 : ((a1 : Int) == (a2 : Int)) = false := by simp; omega
        have t8 : ((a1 : Int) != (a2 : Int)) = true := by simp; omega
        have hlk := HT5.out.set.look (u1, u2) hsm
        simp only at hlk
        by_cases hm : (u1, u2) ∈ S
        · have HS : Hid (nbs (L0.take (i + 1)) = S) := by have := HSn.out; rw [if_neg (fun c => c.2 hm)] at this; exact this
          rw [decide_eq_true hm] at hlk
          clear hm e HSn
          go_wp2
          go_roundw
          case rel => exact ⟨i + 1, _, by omega, by go_num, by rw [HS.out]; exact HT5.out.mono⟩
          case measure => simp [intOf]; omega
        · have HS : Hid (nbs (L0.take (i + 1)) = S ++ [(u1, u2)]) := by have := HSn.out; rw [if_pos ⟨e, hm⟩] at this; exact this
          obtain ⟨w5, hst, hS5, hg5⟩ := HT5.out.set.put (by omega) (u1, u2) hsm
          simp only at hst
          rw [decide_eq_false hm] at hlk
          have hai : ains S (u1, u2) = S ++ [(u1, u2)] := by unfold ains; rw [if_neg hm]
          rw [hai] at hS5
          have HT6 : Hid (Nb' w1 w5 bm N (.slice Av S.length cv) S (S ++ [(u1, u2)]) (i + 1)) := HT5.out.put hg5 hS5
          have hn7 := (hg5.block w4.heap.size (by simp) (fun q => by cases q; have := HLt.out; omega)).trans HN5.out
          have q5 : w5.cell? ⟨w4.heap.size, 0, none⟩ = some (.int .i64 (u1 : Int)) := (cell_at hn7 0).trans rfl
          have q6 : w5.cell? ⟨w4.heap.size, 1, none⟩ = some (.int .i64 (u2 : Int)) := (cell_at hn7 1).trans rfl
          have q7 : w5.cell? ⟨bm + 1, 1, none⟩ = some (.slice Av S.length cv) := (cell_at HT6.out.box 1).trans rfl
          have HOw : Hid (w5.ownsRow (bm + 2) 97 2 (.slice Av S.length cv) S.length (acs S)) := HT6.out.own
          have HNw : Hid (∀ (k : Nat) (u : Value), [Value.int .i64 (u1 : Int), Value.int .i64 (u2 : Int)][k]? = some u → (w5.alloc (.cells #[.int .i64 (u1 : Int), .int .i64 (u2 : Int)] 97)).cell? ((⟨w5.heap.size, 0, none⟩ : Addr).add k) = some u) := news_row w5 [.int .i64 (u1 : Int), .int .i64 (u2 : Int)] 97
          have HLe : Hid (bm + 2 ≤ w5.heap.size) := HT6.out.le
          clear hm e hS5 hg5 hn7 hai HSn HT5 HN5
          obtain ⟨ls, hls⟩ : ∃ ls, S.length = ls := ⟨_, rfl⟩
          have HLs := Lib.hid hls
          rw [hls] at HOw HT6 hln q7
          clear hls
          go_wp2_with (at_builtin; go_loud (refine wpList_append_own _ rfl _ _ 79 rfl (bm + 2) 97 i0 (.agg #[.int .i64 0, .int .i64 0]) 2 16 Try.underlying79 hi hz0 hz1 hz2 rfl (by decide) _ _ _ rfl (HOw.out.alloc _) ⟨w5.heap.size, 0, none⟩ 1 1 [.int .i64 (u1 : Int), .int .i64 (u2 : Int)] rfl rfl HNw.out (by simp [Value.oneCell']) (by unfold maxLen; omega) (by omega) (by have := HLe.out; simp; omega) ?_); intro v' w6 hown' hgrow _; obtain ⟨Av', cv', rfl⟩ := own_sliceT hown'; obtain ⟨hbx, hNf⟩ := Nb'.app (HT6.out.alloc (.cells #[.int .i64 (u1 : Int), .int .i64 (u2 : Int)] 97)) (by rw [HLs.out]; exact hown') hgrow rfl; have q8 : w6.cell? ⟨bm + 1, 1, none⟩ = some (.slice Av ls cv) := (cell_at hbx 1).trans rfl; have q9 : w6.frozen? ⟨bm + 1, 1, none⟩ = false := frz_at hbx 1; have HFn := Lib.hid hNf; clear hown' hgrow hbx hNf)
          go_roundw
          case rel => exact ⟨i + 1, _, by omega, by go_num, by rw [HS.out]; exact HFn.out⟩
          case measure => simp [intOf]; omega
    · obtain rfl : i = m := by omega
      have hF0 : L0.take i = L0 := List.take_of_length_le (by rw [HM.out]; exact Nat.le_refl _)
      rw [hF0] at hT
      have hln := nbs_len L0
      rw [HM.out] at hln
      have HC := Lib.hid (sortP_any (nbs L0) _ rfl (by omega) (bm + 2) _ wr hT.own)
      have q0 : wr.cell? ⟨bm + 1, 1, none⟩ = some (.slice Av (nbs L0).length cv) := (cell_at hT.box 1).trans rfl
      have HT := Lib.hid hT
      clear hT hF0
      go_wp2_with fail
      refine HC.out.mono ?_
      rintro e w5 ⟨rfl, l, hp, hpw, ho, hb⟩
      have hl : l = cpr f N := sorted_cpr hp hpw HMem.out
      subst hl
      have hlen : (nbs L0).length = (cpr f N).length := hp.length_eq.symm
      rw [hlen] at ho q0
      have hb5 := HT.out.le
      have hbx := (hb.block (bm + 1) (by omega)).trans HT.out.box
      rw [hlen] at hbx
      have q1 : w5.cell? ⟨bm + 1, 0, none⟩ = some (.int .i64 (N : Int)) := (cell_at hbx 0).trans rfl
      have q2 : w5.cell? ⟨bm + 1, 1, none⟩ = some (.slice Av (cpr f N).length cv) := (cell_at hbx 1).trans rfl
      have q3 : w5.cell? ⟨bm + 1, 2, none⟩ = some (.map (some bm)) := (cell_at hbx 2).trans rfl
      have hbel : Below w1.heap.size w1 w5 := HT.out.low.trans (hb.mono (by have := HT.out.ge; omega))
      have HSet : Hid (ASetQ w5 bm 600 (nbs L0)) := (HT.out.set.below hb (by omega)).mono h600
      have kr := HKr.out w5 hbel
      obtain ⟨rb, hrb⟩ : ∃ rb, w.heap.size + 1 = rb := ⟨_, rfl⟩
      have hrbw : w.heap.size ≤ rb := by omega
      have hrb1 : rb < bm := by have := HT.out.ge; omega
      have HRd := Lib.hid ho
      have HBf : Hid (Below w.heap.size w w5) := HB1.out.trans (hbel.mono HB1.out.size)
      rw [hrb] at kr ⊢
      clear hrb hbx hbel HT hb hpw hp ho HC q0
      obtain ⟨mc, hmc⟩ : ∃ mc, (cpr f N).length = mc := ⟨_, rfl⟩
      have HMc := Lib.hid hmc
      rw [hmc] at q2
      rw [hlen, hmc]
      clear hmc hlen
      have k0 : w5.cell? ⟨rb, 0, none⟩ = some (.int .i64 0) := (cell_at kr 0).trans rfl
      have f0 : w5.frozen? ⟨rb, 0, none⟩ = false := frz_at kr 0
      have z1 := heap_set_same _ _ 0 (.int .i64 (N : Int)) _ _ kr
      have k1 : (w5.setCell ⟨rb, 0, none⟩ (.int .i64 (N : Int))).cell? ⟨rb, 1, none⟩ = some (.slice none 0 0) := (cell_at z1 1).trans rfl
      have f1 : (w5.setCell ⟨rb, 0, none⟩ (.int .i64 (N : Int))).frozen? ⟨rb, 1, none⟩ = false := frz_at z1 1
      have z2 := heap_set_same _ _ 1 (.slice Av mc cv) _ _ z1
      have k2 : ((w5.setCell ⟨rb, 0, none⟩ (.int .i64 (N : Int))).setCell ⟨rb, 1, none⟩ (.slice Av mc cv)).cell? ⟨rb, 2, none⟩ = some (.map none) := (cell_at z2 2).trans rfl
      have f2 : ((w5.setCell ⟨rb, 0, none⟩ (.int .i64 (N : Int))).setCell ⟨rb, 1, none⟩ (.slice Av mc cv)).frozen? ⟨rb, 2, none⟩ = false := frz_at z2 2
      have z3 := heap_set_same _ _ 2 (.map (some bm)) _ _ z2
      have HZ : Hid ((((w5.setCell ⟨rb, 0, none⟩ (.int .i64 (N : Int))).setCell ⟨rb, 1, none⟩ (.slice Av mc cv)).setCell ⟨rb, 2, none⟩ (.map (some bm))).heap[rb]? = some (.cells #[.int .i64 (N : Int), .slice Av mc cv, .map (some bm)] 82 (0, 0))) := z3.trans rfl
      have HB3 : Hid (Below w.heap.size w (((w5.setCell ⟨rb, 0, none⟩ (.int .i64 (N : Int))).setCell ⟨rb, 1, none⟩ (.slice Av mc cv)).setCell ⟨rb, 2, none⟩ (.map (some bm)))) := ((HBf.out.setCell (p := ⟨rb, 0, none⟩) hrbw _).setCell (p := ⟨rb, 1, none⟩) hrbw _).setCell (p := ⟨rb, 2, none⟩) hrbw _
      clear z1 z2 z3 kr
      go_wp2
      have HK4 : Hid (∀ j, j ≠ rb → (((w5.setCell ⟨rb, 0, none⟩ (.int .i64 (N : Int))).setCell ⟨rb, 1, none⟩ (.slice Av mc cv)).setCell ⟨rb, 2, none⟩ (.map (some bm))).heap[j]? = w5.heap[j]?) := fun j hj => ((Below.heap_setCell _ ⟨rb, 2, none⟩ _ j hj).trans (Below.heap_setCell _ ⟨rb, 1, none⟩ _ j hj)).trans (Below.heap_setCell _ ⟨rb, 0, none⟩ _ j hj)
      clear f0 f1 f2 k0 k1 k2
      generalize ((w5.setCell ⟨rb, 0, none⟩ (.int .i64 (N : Int))).setCell ⟨rb, 1, none⟩ (.slice Av mc cv)).setCell ⟨rb, 2, none⟩ (.map (some bm)) = Z at *
      have y0 : Z.cell? ⟨rb, 0, none⟩ = some (.int .i64 (N : Int)) := (cell_at HZ.out 0).trans rfl
      have y1 : Z.cell? ⟨rb, 1, none⟩ = some (.slice Av mc cv) := (cell_at HZ.out 1).trans rfl
      have y2 : Z.cell? ⟨rb, 2, none⟩ = some (.map (some bm)) := (cell_at HZ.out 2).trans rfl
      refine bodyPost_ret (v := .tuple #[.agg #[.int .i64 (N : Int), .slice Av mc cv, .map (some bm)], .int .i64 0]) (by simp [results, Try.results52, go_sem, y0, y1, y2]) rfl ?_
      exact ⟨Av, cv, bm, nbs L0, by rw [HMc.out], own_rdvA (own_grownP HRd.out fun g o hB hg => (HK4.out g (by omega)).trans hg), HMem.out, HSet.out.same (HK4.out bm (by omega)), HB3.out⟩
end

section
set_option linter.unusedVariables false

/-- What is not v, then noughts, then what stood behind. -/
def dropv (t : List Nat) (n v : Nat) : List Nat := ((t.take n).filter fun x => !decide (x = v)) ++ List.replicate (n - ((t.take n).filter fun x => !decide (x = v)).length) 0 ++ t.drop n
theorem dropv_len (t : List Nat) (n v : Nat) (h : n ≤ t.length) : (dropv t n v).length = t.length := by
  have h1 : ((t.take n).filter fun x => !decide (x = v)).length ≤ n := Nat.le_trans (List.length_filter_le _ _) (by rw [List.length_take]; omega)
  unfold dropv
  simp only [List.length_append, List.length_replicate, List.length_drop]
  omega
theorem dropv_take (t : List Nat) (n v : Nat) : (dropv t n v).take ((t.take n).filter fun x => !decide (x = v)).length = (t.take n).filter fun x => !decide (x = v) := by
  unfold dropv
  rw [List.append_assoc, List.take_append_of_le_length (Nat.le_refl _), List.take_length]
/-- Who is left: the first n of the row. -/
def inL (t : List Nat) (n : Nat) (x : Nat) : Bool := decide (x ∈ t.take n)
/-- At the head of a round: nodes are taken away one by one. -/
structure Np (f : Nat → Nat → Bool) (N n k : Nat) (o t : List Nat) : Prop where
  le : n ≤ N
  nd : (t.take n).Nodup
  lt : ∀ x ∈ t.take n, x < N
  pe : Pe f N (inL t n) k (fun x => o[x]?.getD 0)
  kl : k ≤ N
def Nd (f : Nat → Nat → Bool) (N n : Nat) (d t : List Nat) : Prop := ∀ x ∈ t.take n, d[x]? = some (dg f N (inL t n) x)
/-- In the inner loop: node v is away, of the first j of those left it is reckoned. -/
def Nj (f : Nat → Nat → Bool) (N n v j : Nat) (d t : List Nat) : Prop := ∀ x ∈ t.take n, d[x]? = some (dg f N (inL t n) x + (if x ∈ (t.take n).drop j ∧ f v x = true then 1 else 0))
theorem Np.start {f : Nat → Nat → Bool} {N : Nat} {o d : List Nat} (hd : ∀ x, x < N → d[x]? = some (dg f N (fun _ => true) x)) : Np f N N 0 o (List.range N) ∧ Nd f N N d (List.range N) := by
  have e : (List.range N).take N = List.range N := List.take_of_length_le (by simp)
  have hi : ∀ x, x < N → inL (List.range N) N x = true := fun x hx => by unfold inL; rw [e]; simpa using hx
  refine ⟨⟨Nat.le_refl _, by rw [e]; exact List.nodup_range, fun x hx => by rw [e] at hx; simpa using hx, Pe.start f N _ _ hi, Nat.zero_le _⟩, fun x hx => ?_⟩
  rw [e] at hx
  rw [hd x (by simpa using hx)]
  congr 1
  exact dg_eq fun m hm => by rw [hi m hm]
theorem Np.step {f : Nat → Nat → Bool} {N n k : Nat} {o d t : List Nat} (hs : ∀ i m, f i m = f m i) (h : Np f N n k o t) (hd : Nd f N n d t) {v u : Nat} (hv : v ∈ t.take n) (hu : dg f N (inL t n) v = u) (hmin : ∀ x ∈ t.take n, u ≤ dg f N (inL t n) x) (hol : o.length = N) :
    Np f N ((t.take n).filter fun x => !decide (x = v)).length (max k u) (o.set v (max k u)) (dropv t n v) ∧ Nj f N ((t.take n).filter fun x => !decide (x = v)).length v 0 d (dropv t n v) ∧ ((t.take n).filter fun x => !decide (x = v)).length < n := by
  subst hu
  have hvN := h.lt v hv
  have hlt : ((t.take n).filter fun x => !decide (x = v)).length < n := by
    have h1 : ((t.take n).filter fun x => !decide (x = v)).length < (t.take n).length := List.length_filter_lt_length_iff_exists.2 ⟨v, hv, by simp⟩
    rw [List.length_take] at h1; omega
  have hT : ∀ x, x < N → (inL (dropv t n v) ((t.take n).filter fun x => !decide (x = v)).length x = true ↔ inL t n x = true ∧ x ≠ v) := fun x hx => by
    unfold inL; rw [dropv_take]; simp
  have hR : inL t n v = true := by unfold inL; simpa using hv
  refine ⟨⟨by have := h.le; omega, by rw [dropv_take]; exact h.nd.sublist List.filter_sublist, fun x hx => by rw [dropv_take] at hx; exact h.lt x (List.mem_filter.1 hx).1, ?_, ?_⟩, fun x hx => ?_, hlt⟩
  · refine h.pe.step v hvN hR (fun x hx q => hmin x (by unfold inL at q; simpa using q)) hT (fun x hx => ?_)
    show (o.set v _)[x]?.getD 0 = _
    rw [List.getElem?_set]
    by_cases e : v = x
    · subst e; rw [if_pos rfl, if_pos (by omega), if_pos rfl]; rfl
    · rw [if_neg e, if_neg (fun q => e q.symm)]
  · have := dg_le f N (inL t n) v
    have := h.kl
    omega
  · rw [dropv_take] at hx ⊢
    have hxm := (List.mem_filter.1 hx).1
    rw [hd x hxm, dg_drop hvN hR hT x, hs v x]
    simp only [List.drop_zero]
    by_cases q : f x v = true
    · rw [if_pos q, if_pos ⟨hx, q⟩]
    · rw [if_neg q, if_neg (fun c => q c.2)]
theorem Nj.at_ {r : List Nat} {j x : Nat} (hx : r[j]? = some x) : r.drop j = x :: r.drop (j + 1) := by
  obtain ⟨hj, e⟩ := List.getElem?_eq_some_iff.1 hx
  rw [List.drop_eq_getElem_cons hj, e]
theorem Nj.stay {f : Nat → Nat → Bool} {N n v j x : Nat} {d t : List Nat} (h : Nj f N n v j d t) (hx : (t.take n)[j]? = some x) (hf : f v x = false) : Nj f N n v (j + 1) d t := fun y hy => by
  rw [h y hy, Nj.at_ hx]
  congr 2
  by_cases q : y ∈ (t.take n).drop (j + 1) ∧ f v y = true
  · rw [if_pos q, if_pos ⟨List.mem_cons_of_mem _ q.1, q.2⟩]
  · rw [if_neg q, if_neg (fun c => by
      rcases List.mem_cons.1 c.1 with rfl | e
      · rw [hf] at c; exact absurd c.2 (by simp)
      · exact q ⟨e, c.2⟩)]
theorem Nj.go {f : Nat → Nat → Bool} {N n v j x : Nat} {d t : List Nat} (h : Nj f N n v j d t) (hnd : (t.take n).Nodup) (hx : (t.take n)[j]? = some x) (hf : f v x = true) : ∃ u, d[x]? = some u ∧ 1 ≤ u ∧ Nj f N n v (j + 1) (d.set x (u - 1)) t := by
  have hxm : x ∈ t.take n := List.mem_of_getElem? hx
  have hd := h x hxm
  have hdr := Nj.at_ hx
  rw [hdr, if_pos ⟨by simp, hf⟩] at hd
  refine ⟨_, hd, by omega, fun y hy => ?_⟩
  have hnn : x ∉ (t.take n).drop (j + 1) := by
    have := hnd.sublist (List.drop_sublist j (t.take n))
    rw [hdr] at this
    exact (List.nodup_cons.1 this).1
  rw [List.getElem?_set]
  by_cases e : x = y
  · subst e
    rw [if_pos rfl, if_pos (List.getElem?_eq_some_iff.1 hd).1, if_neg (fun c => hnn c.1)]
    rfl
  · rw [if_neg e, h y hy, hdr]
    congr 2
    by_cases q : y ∈ (t.take n).drop (j + 1) ∧ f v y = true
    · rw [if_pos q, if_pos ⟨List.mem_cons_of_mem _ q.1, q.2⟩]
    · rw [if_neg q, if_neg (fun c => by
        rcases List.mem_cons.1 c.1 with rfl | e2
        · exact e rfl
        · exact q ⟨e2, c.2⟩)]
theorem Nj.fin {f : Nat → Nat → Bool} {N n v j : Nat} {d t : List Nat} (h : Nj f N n v j d t) (hj : (t.take n).length ≤ j) : Nd f N n d t := fun x hx => by
  rw [h x hx, List.drop_eq_nil_of_le hj, if_neg (by simp)]; rfl
end

section
set_option maxRecDepth 100000
set_option linter.unusedVariables false
open Go.RowKit Go.Shelf Go.Sort

set_option maxHeartbeats 2000000 in
theorem minf_any (gf : Nat) (lb : Array Value) (d : Nat → Nat) (xs : List Nat) (n : Nat) (hn : xs.length = n) (h0 : 0 < n) (hn2 : n ≤ 1000) (A : Option Addr) (c : Nat) (w : World) (h : RdV w w.heap.size A (zc (ns xs)))
    (eg : ∀ args w, (callFunc gf args).run Try.prog w = .ok (.enter gf args) w)
    (hp : ∀ x ∈ xs, ∀ y ∈ xs, ∀ V, Below w.heap.size w V → Calls Try.prog gf (#[.int .i64 (x : Int), .int .i64 (y : Int)] ++ lb) V fun e w' => e = .returned (.int .i64 (Lib.compareInt (d x : Int) (d y : Int))) ∧ Below V.heap.size V w') :
    Calls Try.prog 55 #[.slice A n c, .func (.func gf) #[] lb] w fun e w' => ∃ r : Nat, e = .returned (.int .i64 (r : Int)) ∧ (r ∈ xs ∧ ∀ x ∈ xs, d r ≤ d x) ∧ Below w.heap.size w w' := by
  have hx0 : xs[0]? = some (xs[0]?.getD 0) := by rw [List.getElem?_eq_getElem (by omega)]; rfl
  obtain ⟨b, off, rfl, hb, k0⟩ := h.at_ (zc_getN xs 0 _ hx0)
  rw [Nat.add_zero] at k0
  have HX := Lib.hid h; have HN := Lib.hid hn; have HP := Lib.hid hp
  have HM0 : Hid (xs[0]?.getD 0 ∈ xs) := List.mem_of_getElem? hx0
  have t0 : decide ((n : Int) < 1) = false := by simp; omega
  have t1 : (0 : Int) < (n : Int) := by omega
  have HD0 : Hid (∀ j, j < 1 → d (xs[0]?.getD 0) ≤ d (xs[j]?.getD 0)) := fun j hj => by
    obtain rfl : j = 0 := by omega
    exact Nat.le_refl _
  clear h hn hp hx0
  generalize xs[0]?.getD 0 = x0 at *
  go_enter Try.func55, Try.ntmps55
  go_wp2
  clear k0
  go_loopw [5, 6] (fun u v wr => ∃ (i m : Nat), 1 ≤ i ∧ i ≤ n ∧ u = .int .i64 (m : Int) ∧ v = .int .i64 (i : Int) ∧ m ∈ xs ∧ (∀ j, j < i → d m ≤ d (xs[j]?.getD 0)) ∧ Below w.heap.size w wr) (fun _ v _ => n - (intOf v).toNat)
  case atStart => exact ⟨1, x0, Nat.le_refl _, h0, rfl, rfl, HM0.out, HD0.out, Below.refl _ _⟩
  case round =>
   as_aux_lemma =>
    clear HM0 HD0
    obtain ⟨i, m, h1, hi, rfl, rfl, hm, hle, hbel⟩ := hrel
    by_cases hlt : i < n
    · have hin : i < xs.length := by rw [HN.out]; exact hlt
      have hxi : xs[i]? = some (xs[i]?.getD 0) := by rw [List.getElem?_eq_getElem hin]; rfl
      have hmem : xs[i]?.getD 0 ∈ xs := List.mem_of_getElem? hxi
      have HK : Hid (∀ V, Below w.heap.size w V → V.cell? ⟨b, off + i, none⟩ = some (.int .i64 ((xs[i]?.getD 0 : Nat) : Int))) := fun V hV => by
        obtain ⟨b2, off2, e2, hb2, k1⟩ := (HX.out.on hV).at_ (zc_getN xs i _ hxi)
        simp only [Option.some.injEq, Addr.mk.injEq, and_true] at e2
        obtain ⟨rfl, rfl⟩ := e2
        exact k1
      have HC := Lib.hid (HP.out _ hmem m hm wr hbel)
      have HSt : Hid (if d (xs[i]?.getD 0) < d m then ∀ j, j < i + 1 → d (xs[i]?.getD 0) ≤ d (xs[j]?.getD 0) else ∀ j, j < i + 1 → d m ≤ d (xs[j]?.getD 0)) := by
        show ite _ _ _
        by_cases q : d (xs[i]?.getD 0) < d m
        · rw [if_pos q]
          intro j hj
          rcases Nat.lt_or_ge j i with h | h
          · have := hle j h; omega
          · obtain rfl : j = i := by omega
            exact Nat.le_refl _
        · rw [if_neg q]
          intro j hj
          rcases Nat.lt_or_ge j i with h | h
          · exact hle j h
          · obtain rfl : j = i := by omega
            omega
      have k1 := HK.out wr hbel
      have HBl := Lib.hid hbel
      have HMm := Lib.hid hm
      have HMx := Lib.hid hmem
      have t2 : (0 : Int) ≤ (i : Int) := by omega
      have t3 : (i : Int) < (n : Int) := by omega
      have hci := compareInt_lt (d (xs[i]?.getD 0) : Int) (d m : Int)
      obtain ⟨z, hz⟩ : ∃ z, Lib.compareInt (d (xs[i]?.getD 0) : Int) (d m : Int) = z := ⟨_, rfl⟩
      rw [hz] at hci HC
      clear hz hxi hmem hm hle hbel
      generalize xs[i]?.getD 0 = x at *
      go_wp2_with fail
      refine HC.out.mono ?_
      rintro e w1 ⟨rfl, b1⟩
      have HB1 : Hid (Below w.heap.size w w1) := HBl.out.trans (b1.mono HBl.out.size)
      have k2 := HK.out w1 HB1.out
      clear b1 k1 HC
      by_cases q : d x < d m
      · rw [if_pos q] at HSt
        have t4 : decide (z < 0) = true := by simp; omega
        clear hci
        go_wp2
        go_roundw
        case rel => exact ⟨i + 1, x, by omega, by omega, rfl, by go_num, HMx.out, HSt.out, HB1.out⟩
        case measure => simp [intOf]; omega
      · rw [if_neg q] at HSt
        have t4 : decide (z < 0) = false := by simp; omega
        clear hci
        go_wp2
        go_roundw
        case rel => exact ⟨i + 1, m, by omega, by omega, rfl, by go_num, HMm.out, HSt.out, HB1.out⟩
        case measure => simp [intOf]; omega
    · obtain rfl : i = n := by omega
      have HF : Hid (m ∈ xs ∧ ∀ x ∈ xs, d m ≤ d x) := ⟨hm, fun x hx => by
        obtain ⟨j, hj, e⟩ := List.getElem_of_mem hx
        have := hle j (by rw [← HN.out]; exact hj)
        rwa [List.getElem?_eq_getElem hj, e] at this⟩
      have HBl := Lib.hid hbel
      clear hm hle hbel
      go_wp2
      go_ret
      exact ⟨m, rfl, HF.out, HBl.out⟩
/-- A row of numbers. -/
def RowI (W : World) (g : Nat) (l : List Nat) : Prop := W.heap[g]? = some (.cells (zc (ns l)).toArray 3 (0, 0))
theorem RowI.cell {W : World} {g : Nat} {l : List Nat} (h : RowI W g l) {i x : Nat} (hx : l[i]? = some x) : W.cell? ⟨g, i, none⟩ = some (.int .i64 (x : Int)) ∧ W.frozen? ⟨g, i, none⟩ = false := by
  refine ⟨(cell_at h i).trans ?_, frz_at h i⟩
  rw [List.getElem?_toArray]; exact zc_getN l i x hx
theorem RowI.rd {W : World} {g n : Nat} {l : List Nat} (h : RowI W g l) : RdV W W.heap.size (some ⟨g, 0, none⟩) (zc (ns (l.take n))) :=
  .inr ⟨g, 0, rfl, (Array.getElem?_eq_some_iff.1 h).1, fun j v hv => by
    rw [Nat.zero_add]
    refine (cell_at h j).trans ?_
    rw [List.getElem?_toArray]
    have e : zc (ns (l.take n)) = (zc (ns l)).take n := by simp [zc, ns, List.map_take]
    rw [e, List.getElem?_take] at hv
    split at hv
    · exact hv
    · cases hv⟩
theorem RowI.set {W : World} {g : Nat} {l : List Nat} (h : RowI W g l) (i x : Nat) : RowI (W.setCell ⟨g, i, none⟩ (.int .i64 (x : Int))) g (l.set i x) := by
  unfold RowI
  rw [heap_set_same _ _ _ _ _ _ h, List.setIfInBounds_toArray]
  unfold zc ns
  rw [List.map_set, List.map_set]
theorem RowI.dec {W : World} {g : Nat} {l : List Nat} (h : RowI W g l) (i x : Nat) (hx : 1 ≤ x) : RowI (W.setCell ⟨g, i, none⟩ (.int .i64 ((x : Int) - 1))) g (l.set i (x - 1)) := by
  have e : (x : Int) - 1 = ((x - 1 : Nat) : Int) := by omega
  rw [e]; exact h.set i (x - 1)
set_option maxHeartbeats 1000000 in
theorem num1_any (a b da db bl gl N : Nat) (ha : a < N) (hb : b < N) (W : World) (hl : W.heap[bl]? = some (.cells #[.slice (some ⟨gl, 0, none⟩) N N] 25 (0, 0))) (ka : W.cell? ⟨gl, a, none⟩ = some (.int .i64 (da : Int))) (kb : W.cell? ⟨gl, b, none⟩ = some (.int .i64 (db : Int))) :
    Calls Try.prog 56 (#[.int .i64 (a : Int), .int .i64 (b : Int)] ++ #[.pointer (some ⟨bl, 0, none⟩)]) W fun e w' => e = .returned (.int .i64 (Lib.compareInt (da : Int) (db : Int))) ∧ Below W.heap.size W w' := by
  show Calls Try.prog 56 #[.int .i64 (a : Int), .int .i64 (b : Int), .pointer (some ⟨bl, 0, none⟩)] W _
  have kl : W.cell? ⟨bl, 0, none⟩ = some (.slice (some ⟨gl, 0, none⟩) N N) := (cell_at hl 0).trans rfl
  have HC := Lib.hid (cmpIC (da : Int) (db : Int))
  have t1 : (0 : Int) ≤ (a : Int) := by omega
  have t2 : (a : Int) < (N : Int) := by omega
  have t3 : (0 : Int) ≤ (b : Int) := by omega
  have t4 : (b : Int) < (N : Int) := by omega
  clear hl ha hb
  generalize Lib.compareInt (da : Int) (db : Int) = r at *
  go_enter Try.func56, Try.ntmps56
  go_wp2
  go_quiet ((go_at_call 57; exact Calls.quiet_of_same (HC.out _)))
  go_wp2
  go_ret
  exact ⟨rfl, below_drewN (Below.refl _ _) _⟩
theorem entersNu1 : ∀ args w, (callFunc 56 args).run Try.prog w = .ok (.enter 56 args) w := enters_of Try.func56 (by kernel_rfl) rfl
theorem entersNu2 : ∀ args w, (callFunc 59 args).run Try.prog w = .ok (.enter 59 args) w := enters_of Try.func59 (by kernel_rfl) rfl
set_option maxHeartbeats 1000000 in
theorem num2_any (x v bn : Nat) (W : World) (h : W.cell? ⟨bn, 0, none⟩ = some (.int .i64 (v : Int))) :
    Calls Try.prog 59 (#[.int .i64 (x : Int)] ++ #[.pointer (some ⟨bn, 0, none⟩)]) W fun e w' => e = .returned (.bool (decide (x = v))) ∧ ∃ q, w' = W.drewN q := by
  show Calls Try.prog 59 #[.int .i64 (x : Int), .pointer (some ⟨bn, 0, none⟩)] W _
  obtain ⟨z, hz⟩ : ∃ z, decide (x = v) = z := ⟨_, rfl⟩
  have t0 : ((x : Int) == (v : Int)) = z := by rw [← hz]; by_cases e : x = v <;> simp [e] <;> omega
  rw [hz]
  clear hz
  go_enter Try.func59, Try.ntmps59
  go_wp2
  go_ret
  exact ⟨rfl, 0, rfl⟩
def delI_ren : Go.Shelf.Ren := ⟨fun | 6 => 70 | 10 => 58 | n => n, fun | 0 => 0 | 3 => 3 | 4 => 4 | 22 => 25 | 23 => 3 | 25 => 54 | n => n, fun n => n⟩
theorem delI : SlLaysH.n10 Try.prog delI_ren where
  mixed := by kernel_rfl
  f6 := ⟨"slices.IndexFunc[[]int,int]", by decide, Try.func70.trans (congrArg some (by kernel_rfl))⟩
  f10 := ⟨"slices.DeleteFunc[[]int,int]", by decide, Try.func58.trans (congrArg some (by kernel_rfl))⟩
  t0 := Try.underlying0
  a0 := Try.isAgg0
  z0 := Try.sizeOf0
  v0 := Try.zeroValue0
  t3 := Try.underlying3
  a3 := Try.isAgg3
  z3 := Try.sizeOf3
  v3 := Try.zeroValue3
  t4 := Try.underlying4
  a4 := Try.isAgg4
  z4 := Try.sizeOf4
  v4 := Try.zeroValue4
  t22 := Try.underlying25
  a22 := Try.isAgg25
  z22 := Try.sizeOf25
  v22 := Try.zeroValue25
  a23 := Try.isAgg3
  z23 := Try.sizeOf3
  t25 := Try.underlying54
  a25 := Try.isAgg54
  z25 := Try.sizeOf54
  v25 := Try.zeroValue54
theorem putCells_row (c : List Nat) (l : List Nat) (h : c.length ≤ l.length) : putCells (fun x : Nat => Value.int .i64 (x : Int)) 0 c.toArray (zc (ns l)).toArray = (zc (ns (c ++ l.drop c.length))).toArray := by
  apply Array.ext
  · simp [putCells, zc, ns]; omega
  · intro i h1 h2
    have hi : i < l.length := by simpa [putCells, zc, ns] using h1
    simp only [putCells, Array.getElem_mapIdx]
    by_cases q : i < c.length
    · rw [if_pos ⟨Nat.zero_le _, by simpa using q⟩]
      simp [zc, ns, List.getElem_append_left, q]
    · rw [if_neg (by simp; omega)]
      simp only [zc, ns, List.getElem_toArray, List.getElem_map, Nat.not_lt] at *
      congr 2
      rw [List.getElem_append_right (by omega), List.getElem_drop]
      congr 1; omega
set_option maxHeartbeats 1000000 in
theorem delf_any (t : List Nat) (n v bn gr cap : Nat) (hn : n ≤ t.length) (hn2 : n ≤ 1000) (hcap : n ≤ cap) (w : World) (hR : RowI w gr t) (hb : w.cell? ⟨bn, 0, none⟩ = some (.int .i64 (v : Int))) (hne : bn ≠ gr) :
    Calls Try.prog 58 #[.slice (some ⟨gr, 0, none⟩) n cap, .func (.func 59) #[] #[.pointer (some ⟨bn, 0, none⟩)]] w fun e w' =>
      e = .returned (.slice (some ⟨gr, 0, none⟩) ((t.take n).filter fun x => !decide (x = v)).length cap) ∧ RowI w' gr (dropv t n v) ∧ Below gr w w' ∧ (∀ j, j ≠ gr → w'.heap[j]? = w.heap[j]?) := by
  have hO : OneCell (fun x : Nat => Value.int .i64 (x : Int)) := fun _ => rfl
  have hs : (t.take n).toArray.size = n := by simp; omega
  have hbn : bn < w.heap.size := World.block_lt_of_cell? _ _ hb
  have hgr : gr < w.heap.size := (Array.getElem?_eq_some_iff.1 hR).1
  have hH : Holds (fun x : Nat => Value.int .i64 (x : Int)) w gr 0 (t.take n).toArray := fun j hj => by
    rw [hs] at hj
    have hx : t[j]? = some (t.take n).toArray[j]! := by
      rw [getElem!_pos _ j (by rw [hs]; exact hj)]
      simp only [List.getElem_toArray, List.getElem_take]
      rw [List.getElem?_eq_getElem (by omega)]
    have := hR.cell hx
    rw [Nat.zero_add]
    exact this
  have hp : PredAt Try.prog 59 #[.pointer (some ⟨bn, 0, none⟩)] (fun x : Nat => Value.int .i64 (x : Int)) (fun x => decide (x = v)) w := fun W x hW => num2_any x v bn W ((hW.cell (p := ⟨bn, 0, none⟩) hbn).trans hb)
  have hpo : PredOver Try.prog 59 #[.pointer (some ⟨bn, 0, none⟩)] (fun x : Nat => Value.int .i64 (x : Int)) (fun x => decide (x = v)) gr 0 (t.take n).toArray.size w := fun m os dk x _ => num2_any x v bn _ (by
    refine Eq.trans (World.cell?_of_block (a := ⟨bn, 0, none⟩) ?_) hb
    unfold sortWorld
    rw [heap_grow_old _ _ (by rw [size_putRow]; exact hbn)]
    show (w.heap.modify gr _)[bn]? = _
    rw [Array.getElem?_modify, if_neg (fun e => hne e.symm)])
  have h := AnyE.slices_DeleteFunc delI (fun x : Nat => Value.int .i64 (x : Int)) hO (fun x => decide (x = v)) 59 #[.pointer (some ⟨bn, 0, none⟩)] entersNu2 0 Try.zeroValue3 gr 0 cap (t.take n).toArray w hp hpo hH (by rw [hs]; omega) (by rw [hs]; exact hcap)
  rw [hs] at h
  refine h.mono ?_
  rintro e w' ⟨he, q, rfl⟩
  have hl : ((t.take n).filter fun x => !decide (x = v)).length ≤ n := Nat.le_trans (List.length_filter_le _ _) (by rw [List.length_take]; omega)
  have hcl : (((t.take n).toArray.toList.filter fun x => !decide (x = v)) ++ List.replicate (n - ((t.take n).toArray.toList.filter fun x => !decide (x = v)).length) 0).length = n := by
    simp only [List.length_append, List.length_replicate]; omega
  refine ⟨he, ?_, ⟨rfl, rfl, rfl, by rw [size_putRow]; exact Nat.le_refl _, fun j hj => ?_⟩, fun j hj => ?_⟩
  · unfold RowI putRow mapBlock
    show (w.heap.modify gr _)[gr]? = _
    rw [Array.getElem?_modify, if_pos rfl, hR]
    simp only [Option.map_some, onCells]
    rw [putCells_row _ _ (by rw [hcl]; exact hn), hcl]
    rfl
  · show (w.heap.modify gr _)[j]? = _
    rw [Array.getElem?_modify, if_neg (by omega)]
  · show (w.heap.modify gr _)[j]? = _
    rw [Array.getElem?_modify, if_neg (fun e => hj e.symm)]
end

section
set_option maxRecDepth 100000
set_option linter.unusedVariables false
open Go.RowKit Go.Shelf

/-- What the rounds keep: the record of neighbours, the numbers, how many are near among those left (behind a box), who is left. -/
structure Nu (w1 W : World) (bx gn gl bl gr N : Nat) (nb : Array Value) (o d t : List Nat) : Prop where
  low : Below w1.heap.size w1 W
  h0 : w1.heap.size ≤ bx
  h1 : bx < gn
  h2 : gn < gl
  h3 : gl < bl
  h4 : bl < gr
  box : W.heap[bx]? = some (.cells nb 82 (0, 0))
  rn : RowI W gn o
  rl : RowI W gl d
  bl : W.heap[bl]? = some (.cells #[.slice (some ⟨gl, 0, none⟩) N N] 25 (0, 0))
  rr : RowI W gr t
  ln : o.length = N
  ld : d.length = N
  lt : t.length = N
theorem Nu.size {w1 W : World} {bx gn gl bl gr N : Nat} {nb : Array Value} {o d t : List Nat} (h : Nu w1 W bx gn gl bl gr N nb o d t) : gr < W.heap.size := (Array.getElem?_eq_some_iff.1 h.rr).1
theorem RowI.keep {W X : World} {g : Nat} {l : List Nat} (h : RowI W g l) (he : X.heap[g]? = W.heap[g]?) : RowI X g l := he.trans h
theorem Nu.on {w1 W X : World} {bx gn gl bl gr N : Nat} {nb : Array Value} {o d t : List Nat} (h : Nu w1 W bx gn gl bl gr N nb o d t) (hb : Below W.heap.size W X) : Nu w1 X bx gn gl bl gr N nb o d t :=
  have hs := h.size
  have e := fun j (hj : j ≤ gr) => hb.block j (Nat.lt_of_le_of_lt hj hs)
  have a1 := h.h1; have a2 := h.h2; have a3 := h.h3; have a4 := h.h4
  { h with low := h.low.trans (hb.mono h.low.size), box := (e bx (by omega)).trans h.box, rn := h.rn.keep (e gn (by omega)), rl := h.rl.keep (e gl (by omega)), bl := (e bl (by omega)).trans h.bl, rr := h.rr.keep (e gr (by omega)) }
theorem Nu.setN {w1 W : World} {bx gn gl bl gr N : Nat} {nb : Array Value} {o d t : List Nat} (h : Nu w1 W bx gn gl bl gr N nb o d t) (i x : Nat) : Nu w1 (W.setCell ⟨gn, i, none⟩ (.int .i64 (x : Int))) bx gn gl bl gr N nb (o.set i x) d t :=
  have e := fun j (hj : j ≠ gn) => Below.heap_setCell W ⟨gn, i, none⟩ (.int .i64 (x : Int)) j hj
  have a0 := h.h0; have a1 := h.h1; have a2 := h.h2; have a3 := h.h3; have a4 := h.h4
  { h with low := h.low.setCell (p := ⟨gn, i, none⟩) (by show _ ≤ gn; omega) _, box := (e bx (by omega)).trans h.box, rn := h.rn.set i x, rl := h.rl.keep (e gl (by omega)), bl := (e bl (by omega)).trans h.bl, rr := h.rr.keep (e gr (by omega)), ln := by rw [List.length_set]; exact h.ln }
theorem Nu.dec {w1 W : World} {bx gn gl bl gr N : Nat} {nb : Array Value} {o d t : List Nat} (h : Nu w1 W bx gn gl bl gr N nb o d t) (i x : Nat) (hx : 1 ≤ x) : Nu w1 (W.setCell ⟨gl, i, none⟩ (.int .i64 ((x : Int) - 1))) bx gn gl bl gr N nb o (d.set i (x - 1)) t :=
  have e := fun j (hj : j ≠ gl) => Below.heap_setCell W ⟨gl, i, none⟩ (.int .i64 ((x : Int) - 1)) j hj
  have a0 := h.h0; have a1 := h.h1; have a2 := h.h2; have a3 := h.h3; have a4 := h.h4
  { h with low := h.low.setCell (p := ⟨gl, i, none⟩) (by show _ ≤ gl; omega) _, box := (e bx (by omega)).trans h.box, rn := h.rn.keep (e gn (by omega)), rl := h.rl.dec i x hx, bl := (e bl (by omega)).trans h.bl, rr := h.rr.keep (e gr (by omega)), ld := by rw [List.length_set]; exact h.ld }
theorem Nu.del {w1 W X : World} {bx gn gl bl gr N : Nat} {nb : Array Value} {o d t t' : List Nat} (h : Nu w1 W bx gn gl bl gr N nb o d t) (hr : RowI X gr t') (hl : t'.length = t.length) (hb : Below gr W X) (hk : ∀ j, j ≠ gr → X.heap[j]? = W.heap[j]?) : Nu w1 X bx gn gl bl gr N nb o d t' :=
  have a0 := h.h0; have a1 := h.h1; have a2 := h.h2; have a3 := h.h3; have a4 := h.h4
  { h with low := h.low.trans (hb.mono (by omega)), box := (hk bx (by omega)).trans h.box, rn := h.rn.keep (hk gn (by omega)), rl := h.rl.keep (hk gl (by omega)), bl := (hk bl (by omega)).trans h.bl, rr := hr, lt := by rw [hl]; exact h.lt }
/-- Each node's number, in a row of the call's own. -/
def NumP (w : World) (f : Nat → Nat → Bool) (N : Nat) (e : Ending) (w' : World) : Prop :=
  ∃ g o, e = .returned (.tuple #[.slice (some ⟨g, 0, none⟩) N N, .int .i64 0]) ∧ o.length = N ∧ (∀ x, x < N → Cn f N x (o[x]?.getD 0)) ∧ RdV w' w'.heap.size (some ⟨g, 0, none⟩) (zc (ns o)) ∧ Below w.heap.size w w'
/-- How many a slice has. -/
def slL : Value → Nat
  | .slice _ n _ => n
  | _ => 0
theorem pof_near {f : Nat → Nat → Bool} {N : Nat} (hs : ∀ i m, f i m = f m i) (hf : ∀ i, f i i = false) {S : List Ar} (hS : ∀ p, p ∈ S ↔ p ∈ cpr f N) {a b : Nat} (ha : a < N) (hb : b < N) : decide (pof a b ∈ S) = f a b := by
  rw [Bool.eq_iff_iff, decide_eq_true_iff, hS, cpr_mem]
  unfold pof
  simp only
  rcases Nat.lt_trichotomy a b with h | h | h
  · rw [Nat.min_eq_left (by omega), Nat.max_eq_right (by omega)]
    exact ⟨fun c => c.2.2, fun c => ⟨h, hb, c⟩⟩
  · subst h
    rw [hf]; simp
  · rw [Nat.min_eq_right (by omega), Nat.max_eq_left (by omega)]
    exact ⟨fun c => by rw [hs]; exact c.2.2, fun c => ⟨h, ha, by rw [hs]; exact c⟩⟩
set_option maxHeartbeats 4000000 in
theorem cnum_ok (R : List Rw) (g : List (List Nat)) (hg : gs R = g.map ns) (hok : GOk g) (N : Nat) (hN : R.length = N) (A : Option Addr) (c : Nat) (w : World) (h : RdG w w.heap.size A R) :
    Calls Try.prog 23 #[.agg #[.slice A N c]] w (NumP w (near g) N) := by
  have hgl : g.length = N := by have := congrArg List.length hg; rw [gs_length, List.length_map] at this; omega
  have hN1 : N ≤ 100 := by have := hok.nodes; omega
  have HC := Lib.hid (nbof_ok R g hg hok N hN A c (w.alloc (.cells #[.slice A N c] 24)) (h.on (one_below w _)))
  have HSy : Hid (∀ i m, near g i m = near g m i) := near_comm g
  have HSf : Hid (∀ i, near g i i = false) := near_self g
  have HL6 : Hid ((cpr (near g) N).length ≤ 600) := by
    have h1 := nd_eq (nbs_nodup (arcs 0 g)) (cpr_nodup (near g) N) (fun p => by have := nbs_near hok p; rw [hgl] at this; exact this)
    have h2 := nbs_len (arcs 0 g)
    have h3 := hok.many
    show _ ≤ _
    omega
  clear h hN hg hok hgl
  obtain ⟨f, hf⟩ : ∃ f, near g = f := ⟨_, rfl⟩
  rw [hf] at HC HSy HSf HL6 ⊢
  clear hf
  have hmk := run_make_row' (P := Try.prog) 25 3 (.int .i64 0) 8 Try.underlying25 info_intW rfl .i64 .i64 N (by omega) (by omega)
  go_enter Try.func23, Try.ntmps23
  go_wp2_with fail
  refine HC.out.mono ?_
  rintro e w1 ⟨A2, c2, bm, S, rfl, r1, hS, hset, b1⟩
  have HB1 : Hid (Below w.heap.size w w1) := (one_below w _).trans (b1.mono (one_below w _).size)
  have HRd := Lib.hid r1
  have HSt := Lib.hid hset
  have HS : Hid (∀ a b, a < N → b < N → decide (pof a b ∈ S) = f a b) := fun a b ha hb => pof_near HSy.out HSf.out hS ha hb
  obtain ⟨m, hm⟩ : ∃ m, (cpr f N).length = m := ⟨_, rfl⟩
  have HM := Lib.hid hm
  rw [hm] at HL6
  have hm6 := HL6.out
  rw [hm]
  have hbm := hset.lt
  clear b1 r1 hset HC hm hS HL6
  have ha1 := one_below w1 (.cells #[.int .i64 (N : Int), .slice A2 m c2, .map (some bm)] 82)
  have hn1 := World.alloc_heap_new w1 (.cells #[.int .i64 (N : Int), .slice A2 m c2, .map (some bm)] 82)
  have q0 : (w1.alloc (.cells #[.int .i64 (N : Int), .slice A2 m c2, .map (some bm)] 82)).cell? ⟨w1.heap.size, 0, none⟩ = some (.int .i64 (N : Int)) := (cell_at hn1 0).trans rfl
  have hon := on_start w1 (.cells #[.int .i64 (N : Int), .slice A2 m c2, .map (some bm)] 82) N
  have hb2 := one_below (w1.alloc (.cells #[.int .i64 (N : Int), .slice A2 m c2, .map (some bm)] 82)) (.cells (madeCells #[Value.int .i64 0] N) 3)
  have hbx2 := (hb2.block w1.heap.size (by simp)).trans hn1
  obtain ⟨W2, hW2⟩ : ∃ W2, (w1.alloc (.cells #[.int .i64 (N : Int), .slice A2 m c2, .map (some bm)] 82)).alloc (.cells (madeCells #[Value.int .i64 0] N) 3) = W2 := ⟨_, rfl⟩
  rw [hW2] at hon hbx2
  have q1 : W2.cell? ⟨w1.heap.size, 0, none⟩ = some (.int .i64 (N : Int)) := (cell_at hbx2 0).trans rfl
  have q2 : W2.cell? ⟨w1.heap.size, 1, none⟩ = some (.slice A2 m c2) := (cell_at hbx2 1).trans rfl
  have q3 : W2.cell? ⟨w1.heap.size, 2, none⟩ = some (.map (some bm)) := (cell_at hbx2 2).trans rfl
  have HOn := Lib.hid hon
  have HBx2 := Lib.hid hbx2
  have HW2 := Lib.hid hW2
  have HCd := Lib.hid (degrees_any N (by omega) (cpr f N) m HM.out (by omega) (fun p hp => by have := cpr_mem.1 hp; omega) A2 c2 (.map (some bm)) W2 (HRd.out.on hon.low))
  have HDg : Hid (∀ x, x < N → (dnl N (cpr f N))[x]? = some (dg f N (fun _ => true) x)) := fun x hx => by rw [dnl_get _ hx, inP_dg HSy.out HSf.out hx]
  clear hon hbx2 hb2 ha1 hn1 hW2
  go_wp2_with fail
  rw [HW2.out]
  refine HCd.out.mono ?_
  rintro e w3 ⟨gl, rfl, hon3⟩
  clear HCd q1 q2 q3 q0 hmk
  have hb4 := one_below w3 (.cells #[.slice (some ⟨gl, 0, none⟩) N N] 25)
  have hn4 := World.alloc_heap_new w3 (.cells #[.slice (some ⟨gl, 0, none⟩) N N] 25)
  have HX3 : Hid (∀ V, Below w3.heap.size w3 V → V.cell? ⟨w1.heap.size, 0, none⟩ = some (.int .i64 (N : Int)) ∧ V.cell? ⟨w1.heap.size, 1, none⟩ = some (.slice A2 m c2) ∧ V.cell? ⟨w1.heap.size, 2, none⟩ = some (.map (some bm))) := fun V hV => by
    have hlt : w1.heap.size < W2.heap.size := (Array.getElem?_eq_some_iff.1 HBx2.out).1
    have := (hV.block w1.heap.size (by have := hon3.low.size; omega)).trans ((hon3.low.block _ hlt).trans HBx2.out)
    exact ⟨(cell_at this 0).trans rfl, (cell_at this 1).trans rfl, (cell_at this 2).trans rfl⟩
  obtain ⟨q1, q2, q3⟩ := HX3.out _ hb4
  have HO3 := Lib.hid hon3
  have HB4 := Lib.hid hb4
  have HN4 := Lib.hid hn4
  have HCa := Lib.hid (all_any N (by omega) (.slice A2 m c2) (.map (some bm)) (w3.alloc (.cells #[.slice (some ⟨gl, 0, none⟩) N N] 25)))
  clear hon3 hb4 hn4 HX3
  go_wp2_with fail
  refine HCa.out.mono ?_
  rintro e w5 ⟨gr, rfl, hon5⟩
  have hs4 : (w3.alloc (.cells #[.slice (some ⟨gl, 0, none⟩) N N] 25)).heap.size = w3.heap.size + 1 := World.size_alloc _ _
  have hsx : w1.heap.size + 1 < W2.heap.size := HOn.out.lt
  have hlow5 := hon5.low
  rw [hs4] at hlow5
  have hsz3 := HO3.out.low.size
  have hge5 := hon5.ge
  rw [hs4] at hge5
  have hb35 : Below w3.heap.size w3 w5 := HB4.out.trans (hlow5.mono (by omega))
  have hb25 : Below W2.heap.size W2 w5 := HO3.out.low.trans (hb35.mono hsz3)
  have HU0 : Hid (Nu w1 w5 w1.heap.size (w1.heap.size + 1) gl w3.heap.size gr N #[.int .i64 (N : Int), .slice A2 m c2, .map (some bm)] (List.replicate N 0) (dnl N (cpr f N)) (List.range N)) :=
    { low := HOn.out.low.trans (hb25.mono HOn.out.low.size), h0 := Nat.le_refl _, h1 := Nat.lt_succ_self _, h2 := by have := HO3.out.ge; omega, h3 := HO3.out.lt, h4 := by omega,
      box := (hb25.block _ (by omega)).trans HBx2.out, rn := (hb25.block _ hsx).trans HOn.out.row, rl := (hb35.block _ HO3.out.lt).trans HO3.out.row, bl := (hlow5.block _ (by omega)).trans HN4.out, rr := hon5.row,
      ln := List.length_replicate, ld := dnl_length _ _, lt := List.length_range }
  have HP0 : Hid (Np f N N 0 (List.replicate N 0) (List.range N) ∧ Nd f N N (dnl N (cpr f N)) (List.range N)) := Np.start HDg.out
  clear HCa q1 q2 q3 hon5 hb35 hb25 hlow5 hs4 HOn HO3 HB4 HN4 HBx2 hge5
  obtain ⟨bl, hbl⟩ : ∃ bl, w3.heap.size = bl := ⟨_, rfl⟩
  obtain ⟨bx, hbx⟩ : ∃ bx, w1.heap.size = bx := ⟨_, rfl⟩
  rw [hbl, hbx] at HU0 ⊢
  obtain ⟨gn, hgn⟩ : ∃ gn, bx + 1 = gn := ⟨_, rfl⟩
  rw [hgn] at HU0 ⊢
  have HBx : Hid (bm < bx) := by show bm < bx; omega
  generalize dnl N (cpr f N) = d0 at *
  clear hbl hgn hbx HW2 hsx hsz3 hbm
  go_wp2
  go_loopw [8, 9] (fun kv rv wr => ∃ (k n : Nat) (o d t : List Nat), kv = .int .i64 (k : Int) ∧ rv = .slice (some ⟨gr, 0, none⟩) n N ∧ Nu w1 wr bx gn gl bl gr N #[.int .i64 (N : Int), .slice A2 m c2, .map (some bm)] o d t ∧ Np f N n k o t ∧ Nd f N n d t) (fun _ rv _ => slL rv)
  case atStart => exact ⟨0, N, _, _, _, rfl, rfl, HU0.out, HP0.out.1, HP0.out.2⟩
  case round =>
   as_aux_lemma =>
    clear HU0 HP0 HDg
    obtain ⟨k, n, o, d, t, rfl, rfl, hU, hP, hD⟩ := hrel
    have hnN := hP.le
    have hkN := hP.kl
    by_cases hn0 : n = 0
    · subst hn0
      have HF : Hid (∀ x, x < N → Cn f N x (o[x]?.getD 0)) := hP.pe.fin fun x hx => by unfold inL; simp
      have HR : Hid (o.length = N ∧ RdV wr wr.heap.size (some ⟨gn, 0, none⟩) (zc (ns o)) ∧ Below w.heap.size w wr) := ⟨hU.ln, by have := hU.rn.rd (n := N); rwa [List.take_of_length_le (by rw [hU.ln]; exact Nat.le_refl _)] at this, HB1.out.trans (hU.low.mono HB1.out.size)⟩
      clear hU hP hD
      go_wp2
      go_ret2
      exact ⟨gn, o, rfl, HR.out.1, HF.out, HR.out.2.1, HR.out.2.2⟩
    · have hn1 : 0 < n := by omega
      have hltn : (t.take n).length = n := by rw [List.length_take, hU.lt]; omega
      have hdx : ∀ x ∈ t.take n, d[x]? = some (d[x]?.getD 0) := fun x hx => by rw [hD x hx]; rfl
      have HC1 : Hid (Calls Try.prog 55 #[.slice (some ⟨gr, 0, none⟩) n N, .func (.func 56) #[] #[.pointer (some ⟨bl, 0, none⟩)]] wr fun e w' => ∃ r : Nat, e = .returned (.int .i64 (r : Int)) ∧ (r ∈ t.take n ∧ ∀ x ∈ t.take n, d[r]?.getD 0 ≤ d[x]?.getD 0) ∧ Below wr.heap.size wr w') :=
        minf_any 56 #[.pointer (some ⟨bl, 0, none⟩)] (fun x => d[x]?.getD 0) (t.take n) n hltn hn1 (by omega) _ _ wr hU.rr.rd entersNu1 fun x hx y hy V hV => by
          have hV2 := hU.on hV
          exact num1_any x y _ _ bl gl N (hP.lt x hx) (hP.lt y hy) V hV2.bl (hV2.rl.cell (hdx x hx)).1 (hV2.rl.cell (hdx y hy)).1
      have HU := Lib.hid hU
      have HP := Lib.hid hP
      have HD := Lib.hid hD
      have HDx := Lib.hid hdx
      clear hU hP hD hdx hn0
      go_wp2_with fail
      refine HC1.out.mono ?_
      rintro e w2 ⟨r, rfl, ⟨hrm, hmin⟩, b2⟩
      have hrN := HP.out.lt r hrm
      have hu2 := (HU.out.on b2).on (one_below w2 (.cells #[.int .i64 (r : Int)] 3))
      have hn2 := World.alloc_heap_new w2 (.cells #[.int .i64 (r : Int)] 3)
      have k1 : (w2.alloc (.cells #[.int .i64 (r : Int)] 3)).cell? ⟨bl, 0, none⟩ = some (.slice (some ⟨gl, 0, none⟩) N N) := (cell_at hu2.bl 0).trans rfl
      have k2 : (w2.alloc (.cells #[.int .i64 (r : Int)] 3)).cell? ⟨w2.heap.size, 0, none⟩ = some (.int .i64 (r : Int)) := (cell_at hn2 0).trans rfl
      have hdr := HDx.out r hrm
      obtain ⟨u, hu⟩ : ∃ u, d[r]?.getD 0 = u := ⟨_, rfl⟩
      rw [hu] at hdr hmin
      have hug : dg f N (inL t n) r = u := by have := HD.out r hrm; rw [hdr] at this; exact (Option.some.inj this).symm
      have huN : u ≤ N := by rw [← hug]; exact dg_le _ _ _ _
      obtain ⟨hp1, hp2, hp3⟩ := Np.step HSy.out HP.out HD.out hrm hug (fun x hx => by have := hmin x hx; rw [HD.out x hx] at this; exact this) HU.out.ln
      have k3 := (hu2.rl.cell hdr).1
      obtain ⟨q, hq⟩ : ∃ q, max k u = q := ⟨_, rfl⟩
      rw [hq] at hp1
      have e1 : max (k : Int) (u : Int) = (q : Int) := by omega
      obtain ⟨k4, f4⟩ := hu2.rn.cell (i := r) (x := o[r]?.getD 0) (by rw [List.getElem?_eq_getElem (by rw [HU.out.ln]; exact hrN)]; rfl)
      have hu3 := hu2.setN r q
      have hne : w2.heap.size ≠ gn := by have h1 := (HU.out.on b2).size; have h2 := HU.out.h2; have h3 := HU.out.h3; have h4 := HU.out.h4; omega
      have hne2 : w2.heap.size ≠ gr := by have h1 := (HU.out.on b2).size; omega
      have k5 : ((w2.alloc (.cells #[.int .i64 (r : Int)] 3)).setCell ⟨gn, r, none⟩ (.int .i64 (q : Int))).cell? ⟨w2.heap.size, 0, none⟩ = some (.int .i64 (r : Int)) := (cell_at ((Below.heap_setCell _ ⟨gn, r, none⟩ _ _ hne).trans hn2) 0).trans rfl
      have HC2 := Lib.hid (delf_any t n r w2.heap.size gr N (by rw [HU.out.lt]; exact hnN) (by omega) hnN _ hu3.rr k5 hne2)
      have HU3 := Lib.hid hu3
      have HP3 : Hid (Np f N ((t.take n).filter fun x => !decide (x = r)).length q (o.set r q) (dropv t n r) ∧ Nj f N ((t.take n).filter fun x => !decide (x = r)).length r 0 d (dropv t n r)) := ⟨hp1, hp2⟩
      have HK5 : Hid (((w2.alloc (.cells #[.int .i64 (r : Int)] 3)).setCell ⟨gn, r, none⟩ (.int .i64 (q : Int))).heap[w2.heap.size]? = some (.cells #[.int .i64 (r : Int)] 3 (0, 0))) := (Below.heap_setCell _ ⟨gn, r, none⟩ _ _ hne).trans hn2
      have HBn : Hid (w2.heap.size ≠ gr ∧ gl < w2.heap.size) := ⟨hne2, by have h1 := (HU.out.on b2).size; have h3 := HU.out.h3; have h4 := HU.out.h4; omega⟩
      have HDl : Hid ((dropv t n r).length = t.length) := dropv_len t n r (by rw [HU.out.lt]; exact hnN)
      have t1 : (0 : Int) ≤ (r : Int) := by omega
      have t2 : (r : Int) < (N : Int) := by omega
      obtain ⟨n', hn'⟩ : ∃ n', ((t.take n).filter fun x => !decide (x = r)).length = n' := ⟨_, rfl⟩
      rw [hn'] at HC2 HP3 hp3
      clear hp1 hp2 hu3 hu2 hn2 hq hu hug hdr hmin HC1 HU HP HD HDx b2 hn' hne hne2 k5 hltn hrm
      generalize o.set r q = o' at *
      go_wp2_with fail
      refine HC2.out.mono ?_
      rintro e w4 ⟨rfl, hrr, hbr, hot⟩
      have HU4 := Lib.hid (HU3.out.del hrr HDl.out hbr hot)
      have hk6 := (hot w2.heap.size HBn.out.1).trans HK5.out
      obtain ⟨bn, hbn⟩ : ∃ bn, w2.heap.size = bn := ⟨_, rfl⟩
      rw [hbn] at hk6 HBn ⊢
      have HK6 := Lib.hid hk6
      clear hbn hk6 HK5 HU3 HC2 hrr hbr hot k1 k2 k3 k4 f4 e1 HDl
      generalize dropv t n r = t' at *
      have hn'N : n' ≤ N := by omega
      go_wp2
      go_loopw [49] (fun p wq => ∃ (j : Nat) (d' : List Nat), j ≤ n' ∧ p = .int .i64 (j : Int) ∧ Nu w1 wq bx gn gl bl gr N #[.int .i64 (N : Int), .slice A2 m c2, .map (some bm)] o' d' t' ∧ Nj f N n' r j d' t' ∧ wq.heap[bn]? = some (.cells #[.int .i64 (r : Int)] 3 (0, 0))) (fun p _ => n' - (intOf p).toNat)
      case atStart => exact ⟨0, d, Nat.zero_le _, rfl, HU4.out, HP3.out.2, HK6.out⟩
      case round =>
       as_aux_lemma =>
        clear HU4 HK6
        obtain ⟨j, d', hj, rfl, hU, hJ, hk⟩ := hrel
        have hltn : (t'.take n').length = n' := by rw [List.length_take, hU.lt]; omega
        by_cases hjn : j < n'
        · have hxj : (t'.take n')[j]? = some ((t'.take n')[j]?.getD 0) := by rw [List.getElem?_eq_getElem (by omega)]; rfl
          obtain ⟨x, hx⟩ : ∃ x, (t'.take n')[j]?.getD 0 = x := ⟨_, rfl⟩
          rw [hx] at hxj
          have hxN := HP3.out.1.lt x (List.mem_of_getElem? hxj)
          have hxt : t'[j]? = some x := by rw [List.getElem?_take, if_pos hjn] at hxj; exact hxj
          have k1 := (hU.rr.cell hxt).1
          have k2 : wr.cell? ⟨bx, 0, none⟩ = some (.int .i64 (N : Int)) := (cell_at hU.box 0).trans rfl
          have k3 : wr.cell? ⟨bx, 1, none⟩ = some (.slice A2 m c2) := (cell_at hU.box 1).trans rfl
          have k4 : wr.cell? ⟨bx, 2, none⟩ = some (.map (some bm)) := (cell_at hU.box 2).trans rfl
          have k5 : wr.cell? ⟨bn, 0, none⟩ = some (.int .i64 (r : Int)) := (cell_at hk 0).trans rfl
          have HC := Lib.hid (has_any S bm 600 (.int .i64 (N : Int)) (.slice A2 m c2) r x (by omega) (by omega) wr (HSt.out.below hU.low HSt.out.lt))
          rw [HS.out r x hrN hxN] at HC
          have HU := Lib.hid hU
          have HJ := Lib.hid hJ
          have HK := Lib.hid hk
          have HXj := Lib.hid hxj
          have t3 : (0 : Int) ≤ (j : Int) := by omega
          have t4 : (j : Int) < (n' : Int) := by omega
          have t5 : (0 : Int) ≤ (x : Int) := by omega
          have t6 : (x : Int) < (N : Int) := by omega
          clear hU hJ hk hxj hxt hx hltn
          obtain ⟨z, hz⟩ : ∃ z, f r x = z := ⟨_, rfl⟩
          rw [hz] at HC
          go_wp2_with fail
          refine HC.out.mono ?_
          rintro e w6 ⟨rfl, b6⟩
          have HU6 := Lib.hid (HU.out.on b6)
          have HK6 : Hid (w6.heap[bn]? = some (.cells #[.int .i64 (r : Int)] 3 (0, 0))) := (b6.block _ (Array.getElem?_eq_some_iff.1 HK.out).1).trans HK.out
          clear b6 HC HU HK k1 k2 k3 k4 k5
          cases z with
          | false =>
            have HJ2 := Lib.hid (HJ.out.stay HXj.out hz)
            clear hz HJ
            go_wp2
            go_roundw
            case rel => exact ⟨j + 1, d', by omega, by go_num, HU6.out, HJ2.out, HK6.out⟩
            case measure => simp [intOf]; omega
          | true =>
            obtain ⟨u2, hd2, h1u, hj2⟩ := HJ.out.go HP3.out.1.nd HXj.out hz
            have hu2N : u2 ≤ 10000 := by
              have h1 := HJ.out x (List.mem_of_getElem? HXj.out)
              rw [hd2] at h1
              have h2 := Option.some.inj h1
              have h3 := dg_le f N (inL t' n') x
              split at h2 <;> omega
            obtain ⟨k6, f6⟩ := HU6.out.rl.cell hd2
            have k7 : w6.cell? ⟨bl, 0, none⟩ = some (.slice (some ⟨gl, 0, none⟩) N N) := (cell_at HU6.out.bl 0).trans rfl
            have HU7 := Lib.hid (HU6.out.dec x u2 h1u)
            have HK7 : Hid ((w6.setCell ⟨gl, x, none⟩ (.int .i64 ((u2 : Int) - 1))).heap[bn]? = some (.cells #[.int .i64 (r : Int)] 3 (0, 0))) := (Below.heap_setCell _ ⟨gl, x, none⟩ _ _ (fun e => by have : bn = gl := e; have := HBn.out.2; omega)).trans HK6.out
            have HJ2 := Lib.hid hj2
            clear hz HJ hj2 hd2 HU6 HK6
            go_wp2
            go_roundw
            case rel => exact ⟨j + 1, _, by omega, by go_num, HU7.out, HJ2.out, HK7.out⟩
            case measure => simp [intOf]; omega
        · obtain rfl : j = n' := by omega
          have HF : Hid (Nu w1 wr bx gn gl bl gr N #[.int .i64 (N : Int), .slice A2 m c2, .map (some bm)] o' d' t' ∧ Np f N j q o' t' ∧ Nd f N j d' t') := ⟨hU, HP3.out.1, hJ.fin (by omega)⟩
          clear hU hJ hk hltn
          go_wp2
          go_roundw
          case rel => exact ⟨q, j, o', d', t', rfl, rfl, HF.out.1, HF.out.2.1, HF.out.2.2⟩
          case measure => show j < n; exact hp3
end

section
set_option maxRecDepth 100000
set_option linter.unusedVariables false
open Go.RowKit Go.Shelf

attribute [local go_sem] Oper.semAt_some

abbrev T3 := Nat × Nat × Nat
/-- Who is of a triangle with one pair, below k. -/
def trw (f : Nat → Nat → Bool) (p : Nat × Nat) (k : Nat) : List T3 := ((List.range k).filter fun c => decide (p.2 < c) && (f p.1 c && f p.2 c)).map fun c => (p.1, p.2, c)
/-- What has come when the first pairs are over, and of the next one all below k. -/
def tpx (f : Nat → Nat → Bool) (N i k : Nat) : List T3 := ((cpr f N).take i).flatMap (fun p => trw f p N) ++ trw f ((cpr f N)[i]?.getD (0, 0)) k
theorem trw_low (f : Nat → Nat → Bool) (p : Nat × Nat) (k : Nat) (h : k ≤ p.2 + 1) : trw f p k = [] := by
  unfold trw
  rw [List.filter_eq_nil_iff.2 (fun c hc => by have := List.mem_range.1 hc; simp; omega), List.map_nil]
theorem trw_succ (f : Nat → Nat → Bool) (p : Nat × Nat) (k : Nat) : trw f p (k + 1) = trw f p k ++ (if (decide (p.2 < k) && (f p.1 k && f p.2 k)) = true then [(p.1, p.2, k)] else []) := by
  unfold trw
  rw [List.range_succ, List.filter_append, List.map_append]
  congr 1
  by_cases h : (decide (p.2 < k) && (f p.1 k && f p.2 k)) = true
  · rw [if_pos h, List.filter_cons, if_pos h]; rfl
  · rw [if_neg h, List.filter_cons, if_neg h]; rfl
theorem trs_eq (f : Nat → Nat → Bool) (N : Nat) : trs f N = (cpr f N).flatMap fun p => trw f p N := rfl
theorem tpx_zero (f : Nat → Nat → Bool) (N i : Nat) : tpx f N i 0 = ((cpr f N).take i).flatMap fun p => trw f p N := by
  unfold tpx; rw [trw_low _ _ 0 (by omega), List.append_nil]
theorem tpx_end (f : Nat → Nat → Bool) (N i : Nat) (h : (cpr f N).length ≤ i) : tpx f N i 0 = trs f N := by rw [tpx_zero, List.take_of_length_le h, trs_eq]
theorem tpx_row (f : Nat → Nat → Bool) (N i : Nat) (h : i < (cpr f N).length) : tpx f N i N = tpx f N (i + 1) 0 := by
  rw [tpx_zero, List.take_succ_eq_append_getElem h, List.flatMap_append]
  unfold tpx
  rw [List.getElem?_eq_getElem h]
  simp
theorem tpx_low (f : Nat → Nat → Bool) (N i k : Nat) (h : k ≤ ((cpr f N)[i]?.getD (0, 0)).2 + 1) : tpx f N i k = tpx f N i 0 := by
  unfold tpx; rw [trw_low _ _ k h, trw_low _ _ 0 (by omega)]
theorem tpx_succ (f : Nat → Nat → Bool) (N i k : Nat) : tpx f N i (k + 1) = tpx f N i k ++ (if (decide (((cpr f N)[i]?.getD (0, 0)).2 < k) && (f ((cpr f N)[i]?.getD (0, 0)).1 k && f ((cpr f N)[i]?.getD (0, 0)).2 k)) = true then [(((cpr f N)[i]?.getD (0, 0)).1, ((cpr f N)[i]?.getD (0, 0)).2, k)] else []) := by
  unfold tpx; rw [trw_succ, List.append_assoc]
theorem trw_pre (f : Nat → Nat → Bool) (p : Nat × Nat) (k : Nat) : ∀ m, k ≤ m → trw f p k <+: trw f p m
  | 0, h => by obtain rfl : k = 0 := by omega
               exact List.prefix_rfl
  | m + 1, h => by
    rcases Nat.lt_or_ge m k with q | q
    · obtain rfl : k = m + 1 := by omega
      exact List.prefix_rfl
    · rw [trw_succ]; exact (trw_pre f p k m q).trans (List.prefix_append _ _)
theorem tpx_pre (f : Nat → Nat → Bool) (N i k : Nat) (hi : i < (cpr f N).length) (hk : k ≤ N) : tpx f N i k <+: trs f N := by
  have h1 : tpx f N (i + 1) 0 <+: trs f N := by
    rw [tpx_zero, trs_eq]
    conv => rhs; rw [← List.take_append_drop (i + 1) (cpr f N), List.flatMap_append]
    exact List.prefix_append _ _
  rw [← tpx_row f N i hi] at h1
  refine List.IsPrefix.trans ?_ h1
  unfold tpx
  exact (List.prefix_append_right_inj _).2 (trw_pre f _ k N hk)
/-- A triangle that is told to a visitor: one of those that there are. -/
def clt (L : List T3) (x : T3) : T3 := if x ∈ L then x else L.head?.getD (0, 0, 0)
theorem clt_mem {L : List T3} {x : T3} (h : x ∈ L) : clt L x = x := if_pos h
theorem clt_in {L : List T3} (h : 0 < L.length) (x : T3) : clt L x ∈ L := by
  unfold clt
  split
  · assumption
  · cases L with
    | nil => simp at h
    | cons a t => simp
theorem clt_map {L M : List T3} (h : ∀ x ∈ M, x ∈ L) : M.map (clt L) = M := by
  conv => rhs; rw [← List.map_id M]
  exact List.map_congr_left fun x hx => clt_mem (h x hx)
def encT (x : T3) : Array Value := #[.agg #[.int .i64 (x.1 : Int), .int .i64 (x.2.1 : Int), .int .i64 (x.2.2 : Int)]]
/-- What a visitor keeps: all below a block, and all cells from another one on. -/
def KpB (n₀ B : Nat) (W W' : World) : Prop := Below n₀ W W' ∧ W.heap.size ≤ W'.heap.size ∧ ∀ (k : Nat) (cs : Array Value) (T : TypeId) (fr : Nat × Nat), B ≤ k → W.heap[k]? = some (.cells cs T fr) → W'.heap[k]? = some (.cells cs T fr)
theorem KpB.refl (n₀ B : Nat) (W : World) : KpB n₀ B W W := ⟨Below.refl _ _, Nat.le_refl _, fun _ _ _ _ _ h => h⟩
theorem KpB.trans {n₀ B : Nat} {X Y Z : World} (h : KpB n₀ B X Y) (k : KpB n₀ B Y Z) : KpB n₀ B X Z := ⟨h.1.trans k.1, Nat.le_trans h.2.1 k.2.1, fun i cs T fr hi e => k.2.2 i cs T fr hi (h.2.2 i cs T fr hi e)⟩
theorem KpB.of {n₀ B : Nat} {X Y : World} (h : Below X.heap.size X Y) (h1 : n₀ ≤ X.heap.size) : KpB n₀ B X Y := ⟨h.mono h1, h.size, fun k cs T fr _ e => (h.block k (Array.getElem?_eq_some_iff.1 e).1).trans e⟩
theorem KpB.put {n₀ B : Nat} {w : World} (h1 : n₀ ≤ w.heap.size) (W : World) (l : Nat) (o o' : Obj) (hl : w.heap.size ≤ l) (h : W.heap[l]? = some o) (hc : o.isCells = false) (_ : o.isWalk = false) : KpB n₀ B W (W.putObj l o') :=
  ⟨⟨rfl, rfl, rfl, by simp [World.putObj], fun k hk => World.putObj_heap_other (by omega)⟩, by simp [World.putObj], fun k cs T fr _ e => (World.putObj_heap_other (fun q => by subst q; rw [h] at e; cases e; cases hc)).trans e⟩
theorem KpB.set {n₀ B : Nat} {W X : World} (h : KpB n₀ B W X) (a : Addr) (v : Value) (h1 : n₀ ≤ a.block) (h2 : a.block < B) : KpB n₀ B W (X.setCell a v) :=
  ⟨h.1.setCell h1 v, by have := h.2.1; simpa [World.setCell] using this, fun k cs T fr hk e => (Below.heap_setCell _ _ _ _ (by omega)).trans (h.2.2 k cs T fr hk e)⟩
theorem abide_below {β : Type} {B : Nat} {J : β → World → Prop} (h : AbidesFrom B J) {s : β} {W W' : World} (hs : J s W) (hb : Below W.heap.size W W') : J s W' :=
  h s W W' none hs ⟨hb.os, hb.tape, hb.output, hb.size, fun k hk _ => hb.block k hk⟩ (fun r e => by cases e)
set_option maxHeartbeats 4000000 in
theorem tri1_in (n : Nat) (hn : 2 ≤ n) (lp Bn n₀ N m bm c : Nat) (A : Option Addr) (S : List Ar) (f : Nat → Nat → Bool) (hm : (cpr f N).length = m) (hN2 : N ≤ 100) (hm6 : m ≤ 1000000) (hS : ∀ a b, a < N → b < N → decide (pof a b ∈ S) = f a b) (J Jx : List T3 → World → Prop) (W : World) (hJa : AbidesFrom W.heap.size J)
    (hY : ∀ pre x W, J pre W → pre.length < (trs f N).length → YieldAt Fence.wide (n - 1) Try.prog lp (encT (clt (trs f N) x)) W fun e W' =>
      (e = .returned (.bool true) ∧ J (pre ++ [x]) W' ∧ KpB n₀ Bn W W') ∨ (e = .returned (.bool false) ∧ Jx (pre ++ [x]) W'))
    (hBn : W.heap[Bn]? = some (.cells #[.int .i64 (N : Int), .slice A m c, .map (some bm)] 82 (0, 0))) (hn0 : n₀ ≤ W.heap.size) (hRd : RdV W n₀ A (acs (cpr f N))) (hset : ASetQ W bm 600 S) (hbm : bm < n₀) (h0 : J [] W) :
    CallsIn Fence.wide n Try.prog 90 #[.func (.yield lp) #[] #[], .pointer (some ⟨Bn, 0, none⟩)] W fun e W' => (∃ v, e = .returned v) ∧
      ((∃ ys, ys = trs f N ∧ J ys W') ∨ (∃ pre, pre <+: trs f N ∧ Jx pre W')) := by
  have HY := Lib.hid hY; clear hY
  have HR := Lib.hid hRd; clear hRd
  have HM := Lib.hid hm; clear hm
  have HSt := Lib.hid hset; clear hset
  have HSd := Lib.hid hS; clear hS
  have HJa := Lib.hid hJa; clear hJa
  have hBl : Bn < W.heap.size := (Array.getElem?_eq_some_iff.1 hBn).1
  have HBn : Hid (∀ V, KpB n₀ Bn W V → V.cell? ⟨Bn, 0, none⟩ = some (.int .i64 (N : Int)) ∧ V.cell? ⟨Bn, 1, none⟩ = some (.slice A m c) ∧ V.cell? ⟨Bn, 2, none⟩ = some (.map (some bm)) ∧ Bn < V.heap.size ∧ n₀ ≤ V.heap.size) := fun V hV => by
    have h := hV.2.2 _ _ _ _ (Nat.le_refl _) hBn
    exact ⟨(cell_at h 0).trans rfl, (cell_at h 1).trans rfl, (cell_at h 2).trans rfl, (Array.getElem?_eq_some_iff.1 h).1, Nat.le_trans hn0 hV.1.size⟩
  obtain ⟨q0, q1, q2, -, -⟩ := HBn.out W (KpB.refl _ _ _)
  clear hBn q0 q2 hBl
  refine callsIn_of_wp Try.func90 rfl trivial ?_ rfl
  simp only [Try.ntmps90, List.size_toArray, List.length_cons, List.length_nil, Nat.reduceAdd, Nat.reduceSub, Array.replicate_succ, Array.replicate_zero, List.push_toArray, List.append_toArray, List.nil_append, List.cons_append]
  gi_wp2
  clear q1
  gi_loopw [9] (fun p wr => ∃ i : Nat, i ≤ m ∧ p = .int .i64 (i : Int) ∧ KpB n₀ Bn W wr ∧ J (tpx f N i 0) wr)
    (fun p _ => m - (intOf p).toNat)
  case atStart => exact ⟨0, Nat.zero_le _, rfl, KpB.refl _ _ _, by rw [tpx_zero]; exact h0⟩
  case round =>
   as_aux_lemma =>
    obtain ⟨i, hi, rfl, hk, hJ⟩ := hrel
    by_cases hlt : i < m
    · have hin : i < (cpr f N).length := by rw [HM.out]; exact hlt
      obtain ⟨r0, r1⟩ := acs_atC (cpr f N) i hin
      obtain ⟨b, off, rfl, hb, k0⟩ := (HR.out.below hk.1 (Nat.le_refl _)).at_ r0
      obtain ⟨b', off', hA2, hb', k1⟩ := (HR.out.below hk.1 (Nat.le_refl _)).at_ r1
      simp only [Option.some.injEq, Addr.mk.injEq, and_true] at hA2
      obtain ⟨rfl, rfl⟩ := hA2
      rw [← Nat.add_assoc] at k1
      have hmem : (cpr f N)[i]?.getD (0, 0) ∈ cpr f N := by rw [List.getElem?_eq_getElem hin]; exact List.getElem_mem hin
      obtain ⟨hp1, hp2, hp3⟩ := cpr_mem.1 hmem
      have hlow := tpx_low f N i
      have hsuc := tpx_succ f N i
      obtain ⟨a, ha⟩ : ∃ a, (cpr f N)[i]?.getD (0, 0) = a := ⟨_, rfl⟩
      rw [ha] at k0 k1 hp1 hp2 hp3 hlow hsuc
      clear r0 r1 hmem hb hb'
      obtain ⟨a1, a2⟩ := a
      simp only at k0 k1 hp1 hp2 hp3 hlow hsuc
      have HLo : Hid (J (tpx f N i (a2 + 1)) wr) := by show J _ _; rw [hlow _ (Nat.le_refl _)]; exact hJ
      have HSu := Lib.hid hsuc
      have HIn : Hid (i < (cpr f N).length) := hin
      have HK := Lib.hid hk
      have t1 : (0 : Int) ≤ (i : Int) := by omega
      have t2 : (i : Int) < (m : Int) := by omega
      obtain ⟨-, -, -, hB1, hB2⟩ := HBn.out wr hk
      have hnb := one_below wr (.cells #[.int .i64 (a1 : Int), .int .i64 (a2 : Int)] 97)
      have hnn := World.alloc_heap_new wr (.cells #[.int .i64 (a1 : Int), .int .i64 (a2 : Int)] 97)
      have q1 : (wr.alloc (.cells #[.int .i64 (a1 : Int), .int .i64 (a2 : Int)] 97)).cell? ⟨wr.heap.size, 1, none⟩ = some (.int .i64 (a2 : Int)) := (cell_at hnn 1).trans rfl
      clear hJ hk hlow hsuc hin ha
      gi_wp2
      have HNb := Lib.hid hnb
      have HNn := Lib.hid hnn
      clear q1 hnb hnn
      obtain ⟨wo, hwo⟩ : ∃ wo, wo = wr := ⟨_, rfl⟩
      obtain ⟨Pb, hPb⟩ : ∃ Pb, wr.heap.size = Pb := ⟨_, rfl⟩
      rw [hPb] at HNn hB1 hB2 ⊢
      gi_loopw [5] (fun p wi => ∃ k : Nat, a2 + 1 ≤ k ∧ k ≤ N ∧ p = .int .i64 (k : Int) ∧ KpB n₀ Bn wo wi ∧ wi.heap[Pb]? = some (.cells #[.int .i64 (a1 : Int), .int .i64 (a2 : Int)] 97 (0, 0)) ∧ J (tpx f N i k) wi)
        (fun p _ => N - (intOf p).toNat)
      case atStart => exact ⟨a2 + 1, Nat.le_refl _, by omega, by go_num, by rw [hwo]; exact KpB.of HNb.out (by omega), HNn.out, abide_below HJa.out HLo.out HNb.out⟩
      case round =>
       as_aux_lemma =>
        obtain ⟨k, hk1, hk2, rfl, hkb, hbx, hJ2⟩ := hrel
        rw [hwo] at hkb
        have hkW := HK.out.trans hkb
        obtain ⟨q0, q1, q2, hB3, hB4⟩ := HBn.out _ hkW
        by_cases hlt2 : k < N
        · have k3 : wr.cell? ⟨Pb, 0, none⟩ = some (.int .i64 (a1 : Int)) := (cell_at hbx 0).trans rfl
          have k4 : wr.cell? ⟨Pb, 1, none⟩ = some (.int .i64 (a2 : Int)) := (cell_at hbx 1).trans rfl
          have HC1 := Lib.hid (has_any S bm 600 (.int .i64 (N : Int)) (.slice (some ⟨b, off, none⟩) m c) a1 k (by omega) (by omega) wr (HSt.out.below hkW.1 hbm))
          rw [HSd.out a1 k (by omega) hlt2] at HC1
          have hpre := tpx_pre f N i (k + 1) HIn.out (by omega)
          have hsk := HSu.out k
          rw [decide_eq_true (by omega : a2 < k), Bool.true_and] at hsk
          have HSk := Lib.hid hsk
          have HPre := Lib.hid hpre
          have HKB := Lib.hid hkb
          have HKW := Lib.hid hkW
          have HBx := Lib.hid hbx
          have HJ2 := Lib.hid hJ2
          have t3 : decide (k < N) = true := by simpa using hlt2
          obtain ⟨z1, hz1⟩ : ∃ z1, f a1 k = z1 := ⟨_, rfl⟩
          obtain ⟨z2, hz2⟩ : ∃ z2, f a2 k = z2 := ⟨_, rfl⟩
          have HSd2 := HSd.out a2 k (by omega) hlt2
          rw [hz2] at HSd2
          have HS2 := Lib.hid HSd2
          rw [hz1] at HC1
          rw [hz1, hz2] at HSk
          clear hkb hkW hbx hJ2 hsk hpre hz1 hz2 HSd2
          gi_wp2_with fail
          refine ⟨trivial, fun _ => by omega, ?_⟩
          refine (callsIn_wide.2 HC1.out).mono ?_
          rintro e w4 ⟨rfl, b4⟩
          have HKB4 : Hid (KpB n₀ Bn wo w4) := by rw [hwo]; exact HKB.out.trans (KpB.of b4 hB4)
          have HJ4 : Hid (J (tpx f N i k) w4) := abide_below HJa.out HJ2.out b4
          have HBx4 : Hid (w4.heap[Pb]? = some (.cells #[.int .i64 (a1 : Int), .int .i64 (a2 : Int)] 97 (0, 0))) := (b4.block _ (Array.getElem?_eq_some_iff.1 HBx.out).1).trans HBx.out
          have hkW4 := HKW.out.trans (KpB.of (n₀ := n₀) (B := Bn) b4 hB4)
          cases z1 with
          | false =>
            have HE : Hid (tpx f N i (k + 1) = tpx f N i k) := by show _ = _; rw [HSk.out]; simp
            clear HSk HC1 q0 q1 q2 k3 k4 b4 hkW4
            gi_wp2
            refine ⟨trivial, ?_⟩
            gi_wp2
            refine ⟨fun _ h => (by cases h), ?_⟩
            gi_wp2
            go_roundw
            case rel => exact ⟨k + 1, by omega, by omega, by go_num, HKB4.out, HBx4.out, by rw [HE.out]; exact HJ4.out⟩
            case measure => simp [intOf]; omega
          | true =>
            obtain ⟨p0, p1, p2, hB5, hB6⟩ := HBn.out _ hkW4
            have k5 : w4.cell? ⟨Pb, 1, none⟩ = some (.int .i64 (a2 : Int)) := (cell_at HBx4.out 1).trans rfl
            have HC2 := Lib.hid (has_any S bm 600 (.int .i64 (N : Int)) (.slice (some ⟨b, off, none⟩) m c) a2 k (by omega) (by omega) w4 (HSt.out.below hkW4.1 hbm))
            rw [HS2.out] at HC2
            clear HC1 q0 q1 q2 k3 k4 b4 hkW4
            gi_wp2_with fail
            refine ⟨trivial, fun _ => by omega, ?_⟩
            refine (callsIn_wide.2 HC2.out).mono ?_
            rintro e w5 ⟨rfl, b5⟩
            have HKB5 : Hid (KpB n₀ Bn wo w5) := HKB4.out.trans (KpB.of b5 hB6)
            have HJ5 : Hid (J (tpx f N i k) w5) := abide_below HJa.out HJ4.out b5
            have HBx5 : Hid (w5.heap[Pb]? = some (.cells #[.int .i64 (a1 : Int), .int .i64 (a2 : Int)] 97 (0, 0))) := (b5.block _ (Array.getElem?_eq_some_iff.1 HBx4.out).1).trans HBx4.out
            cases z2 with
            | false =>
              have HE : Hid (tpx f N i (k + 1) = tpx f N i k) := by show _ = _; rw [HSk.out]; simp
              clear HSk HC2 p0 p1 p2 k5 b5
              gi_wp2
              refine ⟨fun _ h => (by cases h), ?_⟩
              gi_wp2
              go_roundw
              case rel => exact ⟨k + 1, by omega, by omega, by go_num, HKB5.out, HBx5.out, by rw [HE.out]; exact HJ5.out⟩
              case measure => simp [intOf]; omega
            | true =>
              have HE : Hid (tpx f N i (k + 1) = tpx f N i k ++ [(a1, a2, k)]) := by show _ = _; rw [HSk.out]; simp
              have hmm : (a1, a2, k) ∈ trs f N := HPre.out.subset (by rw [HE.out]; simp)
              have hll : (tpx f N i k).length < (trs f N).length := by have := HPre.out.length_le; rw [HE.out, List.length_append, List.length_singleton] at this; omega
              have hY2 := HY.out (tpx f N i k) (a1, a2, k) w5 HJ5.out hll
              rw [clt_mem hmm] at hY2
              have k6 : w5.cell? ⟨Pb, 0, none⟩ = some (.int .i64 (a1 : Int)) := (cell_at HBx5.out 0).trans rfl
              have k7 : w5.cell? ⟨Pb, 1, none⟩ = some (.int .i64 (a2 : Int)) := (cell_at HBx5.out 1).trans rfl
              clear HSk HC2 p0 p1 p2 k5 b5 hmm hll
              obtain ⟨fn, tmps, assign, body, hy, hR⟩ := hY2
              dsimp only [encT] at hy
              gi_wp2
              refine ⟨fun _ => by omega, hR.mono ?_⟩
              rintro e W3 (⟨rfl, hJ3, hk3⟩ | ⟨rfl, hJx3⟩)
              · have HBx6 : Hid (W3.heap[Pb]? = some (.cells #[.int .i64 (a1 : Int), .int .i64 (a2 : Int)] 97 (0, 0))) := hk3.2.2 Pb _ _ _ (by omega) HBx5.out
                have HK6 : Hid (KpB n₀ Bn wo W3) := HKB5.out.trans hk3
                have HJ6 : Hid (J (tpx f N i k ++ [(a1, a2, k)]) W3) := hJ3
                clear hk3 hJ3 k6 k7 hy hR
                gi_wp2
                go_roundw
                case rel => exact ⟨k + 1, by omega, by omega, by go_num, HK6.out, HBx6.out, by rw [HE.out]; exact HJ6.out⟩
                case measure => simp [intOf]; omega
              · have HJ6 : Hid (Jx (tpx f N i k ++ [(a1, a2, k)]) W3) := hJx3
                clear hJx3 k6 k7 hy hR
                gi_wp2
                refine bodyPost_ret (results_none rfl _ _ _) rfl ?_
                exact ⟨⟨_, rfl⟩, .inr ⟨_, by rw [← HE.out]; exact HPre.out, HJ6.out⟩⟩
        · obtain rfl : k = N := by omega
          have HJ2 : Hid (J (tpx f k (i + 1) 0) wr) := by show J _ _; rw [← tpx_row f k i HIn.out]; exact hJ2
          have HK2 : Hid (KpB n₀ Bn W wr) := hkW
          clear hJ2 hkW hkb hbx
          gi_wp2
          go_roundw
          case rel => exact ⟨i + 1, by omega, by go_num, HK2.out, HJ2.out⟩
          case measure => simp [intOf]; omega
    · have HJ : Hid (J (trs f N) wr) := by
        show J _ _
        rw [← tpx_end f N i (by rw [HM.out]; omega)]; exact hJ
      clear hJ hk
      gi_wp2
      go_end0
      exact ⟨⟨_, rfl⟩, .inl ⟨_, rfl, HJ.out⟩⟩
end

section
set_option maxRecDepth 100000
set_option linter.unusedVariables false
open Go.RowKit Go.Shelf

attribute [local go_sem] Oper.semAt_some

theorem tri_stops (n : Nat) (hn : 2 ≤ n) (Bn n₀ N m bm c : Nat) (A : Option Addr) (S : List Ar) (f : Nat → Nat → Bool) (hm : (cpr f N).length = m) (hN2 : N ≤ 100) (hm6 : m ≤ 1000000) (hS : ∀ a b, a < N → b < N → decide (pof a b ∈ S) = f a b) (w : World)
    (hBn : w.heap[Bn]? = some (.cells #[.int .i64 (N : Int), .slice A m c, .map (some bm)] 82 (0, 0))) (hn0 : n₀ ≤ w.heap.size) (hRd : RdV w n₀ A (acs (cpr f N))) (hset : ASetQ w bm 600 S) (hbm : bm < n₀) :
    SeqStopsK Fence.wide n Try.prog 90 #[.pointer (some ⟨Bn, 0, none⟩)] (fun x => encT (clt (trs f N) x)) (KpB n₀ Bn) (fun ys => ys = trs f N) (fun pre => pre <+: trs f N) (trs f N).length w :=
  fun lp J Jx W hW hJ _ hY h0 =>
    tri1_in n hn lp Bn n₀ N m bm c A S f hm hN2 hm6 hS J Jx W hJ hY ((hW.block Bn (Array.getElem?_eq_some_iff.1 hBn).1).trans hBn) (Nat.le_trans hn0 hW.size) (hRd.below (hW.mono hn0) (Nat.le_refl _)) (hset.below (hW.mono hn0) hbm) hbm h0
set_option maxHeartbeats 1000000 in
theorem triangles_in (n : Nat) (X P M : Value) (w : World) :
    CallsIn Fence.wide n Try.prog 61 #[.agg #[X, P, M]] w fun e w' => e = .returned (.func (.func 90) #[] #[.pointer (some ⟨w.heap.size, 0, none⟩)]) ∧ w' = w.alloc (.cells #[X, P, M] 82) := by
  refine callsIn_of_wp Try.func61 rfl trivial ?_ rfl
  simp only [Try.ntmps61, List.size_toArray, List.length_cons, List.length_nil, Nat.reduceAdd, Nat.reduceSub, Array.replicate_succ, Array.replicate_zero, List.push_toArray, List.append_toArray, List.nil_append, List.cons_append]
  gi_wp2
  go_ret
  exact ⟨rfl, rfl⟩
theorem entersTri1 : ∀ args w, (callFunc 90 args).run Try.prog w = .ok (.enter 90 args) w := enters_of Try.func90 (by kernel_rfl) rfl
/-- What the rounds keep: the counts behind a box, and how many there were. -/
structure Th (w1 W : World) (gc b7 b8 N : Nat) (L : List T3) : Prop where
  low : Below w1.heap.size w1 W
  h0 : w1.heap.size ≤ gc
  h1 : gc < b7
  h2 : b7 < b8
  row : RowI W gc (cnl N L)
  b7 : W.heap[b7]? = some (.cells #[.slice (some ⟨gc, 0, none⟩) N N] 25 (0, 0))
  b8 : W.heap[b8]? = some (.cells #[.int .i64 (L.length : Int)] 3 (0, 0))
theorem Th.lt {w1 W : World} {gc b7 b8 N : Nat} {L : List T3} (h : Th w1 W gc b7 b8 N L) : b8 < W.heap.size := (Array.getElem?_eq_some_iff.1 h.b8).1
theorem Th.grown {w1 W X : World} {gc b7 b8 N : Nat} {L : List T3} (h : Th w1 W gc b7 b8 N L) {row : Option Nat} (hg : W.grownBy X row) (hr : ∀ r, row = some r → b8 < r) : Th w1 X gc b7 b8 N L :=
  have hl := h.lt; have a0 := h.h0; have a1 := h.h1; have a2 := h.h2
  { h with low := h.low.grown hg h.low.size (fun k e => by have := hr k e; omega), row := (hg.block _ (by omega) (fun e => by have := hr _ e.symm; omega)).trans h.row, b7 := (hg.block _ (by omega) (fun e => by have := hr _ e.symm; omega)).trans h.b7, b8 := (hg.block _ (by omega) (fun e => by have := hr _ e.symm; omega)).trans h.b8 }
theorem Th.on {w1 W X : World} {gc b7 b8 N : Nat} {L : List T3} (h : Th w1 W gc b7 b8 N L) (hb : Below W.heap.size W X) : Th w1 X gc b7 b8 N L :=
  h.grown (row := none) ⟨hb.os, hb.tape, hb.output, hb.size, fun k hk _ => hb.block k hk⟩ (fun r e => by cases e)
/-- A triangle in a box. -/
def TriAt (W : World) (B : Nat) (t : T3) : Prop := W.heap[B]? = some (.cells #[.int .i64 (t.1 : Int), .int .i64 (t.2.1 : Int), .int .i64 (t.2.2 : Int)] 94 (0, 0))
theorem triAt_own (B : Nat) (t : T3) : Own (fun (_ : Unit) W => TriAt W B t) := fun s X Y row hs hg hr => by
  unfold TriAt at hs
  show Y.heap[B]? = _
  rw [hg.block B (Array.getElem?_eq_some_iff.1 hs).1 (fun e => by obtain ⟨o, h1, h2⟩ := hr B e.symm; rw [hs] at h1; cases h1; cases h2)]
  exact hs
theorem RowI.inc {W : World} {g : Nat} {l : List Nat} (h : RowI W g l) (i x : Nat) : RowI (W.setCell ⟨g, i, none⟩ (.int .i64 ((x : Int) + 1))) g (l.set i (x + 1)) := h.set i (x + 1)
theorem index3 (a b d k : Nat) (v : Value) (W : World) (hv : (#[Value.int .i64 (a : Int), .int .i64 (b : Int), .int .i64 (d : Int)])[k]? = some v) (hk : k < 3) : (Instr.index 94 (.agg #[.int .i64 (a : Int), .int .i64 (b : Int), .int .i64 (d : Int)]) (.int .i64 (k : Int))).run Try.prog W = .ok v W := by
  have h := Try.underlying94
  rcases (show k = 0 ∨ k = 1 ∨ k = 2 by omega) with rfl | rfl | rfl <;>
  · simp at hv
    subst hv
    simp [Instr.index, run_underlying h, asIntOf, go_sem]
/-- Threes' answer. -/
def ThP (w : World) (f : Nat → Nat → Bool) (N : Nat) (e : Ending) (w' : World) : Prop :=
  ∃ g, e = .returned (.tuple #[.slice (some ⟨g, 0, none⟩) N N, .int .i64 ((trs f N).length : Int), .int .i64 0]) ∧ RdV w' w'.heap.size (some ⟨g, 0, none⟩) (zc (ns (cnl N (trs f N)))) ∧ Below w.heap.size w w'
set_option maxHeartbeats 4000000 in
theorem cthr_ok (R : List Rw) (g : List (List Nat)) (hg : gs R = g.map ns) (hok : GOk g) (N : Nat) (hN : R.length = N) (A : Option Addr) (c : Nat) (w : World) (h : RdG w w.heap.size A R) :
    Calls Try.prog 24 #[.agg #[.slice A N c]] w (ThP w (near g) N) := by
  have hgl : g.length = N := by have := congrArg List.length hg; rw [gs_length, List.length_map] at this; omega
  have hN1 : N ≤ 100 := by have := hok.nodes; omega
  have HC := Lib.hid (nbof_ok R g hg hok N hN A c (w.alloc (.cells #[.slice A N c] 24)) (h.on (one_below w _)))
  have HSy : Hid (∀ i m, near g i m = near g m i) := near_comm g
  have HSf : Hid (∀ i, near g i i = false) := near_self g
  have HL6 : Hid ((cpr (near g) N).length ≤ 600) := by
    have h1 := nd_eq (nbs_nodup (arcs 0 g)) (cpr_nodup (near g) N) (fun p => by have := nbs_near hok p; rw [hgl] at this; exact this)
    have h2 := nbs_len (arcs 0 g)
    have h3 := hok.many
    show _ ≤ _
    omega
  clear h hN hg hok hgl
  obtain ⟨f, hf⟩ : ∃ f, near g = f := ⟨_, rfl⟩
  rw [hf] at HC HSy HSf HL6 ⊢
  clear hf
  have hmk := run_make_row' (P := Try.prog) 25 3 (.int .i64 0) 8 Try.underlying25 info_intW rfl .i64 .i64 N (by omega) (by omega)
  have hb0 := one_below w (.cells #[.slice A N c] 24)
  have hn0 := World.alloc_heap_new w (.cells #[.slice A N c] 24)
  refine (callsIn_wide (n := 5)).1 ?_
  refine callsIn_of_wp_marks Try.func24 rfl trivial ?_ rfl
  simp only [Try.ntmps24, List.size_toArray, List.length_cons, List.length_nil, Nat.reduceAdd, Nat.reduceSub, Array.replicate_succ, Array.replicate_zero, List.push_toArray, List.append_toArray, List.nil_append, List.cons_append]
  gi_wp2_with fail
  refine ⟨trivial, ?_⟩
  refine (callsIn_wide.2 HC.out).mono ?_
  rintro e w1 ⟨A2, c2, bm, S, rfl, r1, hS, hset, b1⟩
  have HB1 : Hid (Below w.heap.size w w1) := hb0.trans (b1.mono hb0.size)
  have hg1 := (b1.block _ (Array.getElem?_eq_some_iff.1 hn0).1).trans hn0
  have HRd := Lib.hid r1
  have HSt := Lib.hid hset
  have HS : Hid (∀ a b, a < N → b < N → decide (pof a b ∈ S) = f a b) := fun a b ha hb => pof_near HSy.out HSf.out hS ha hb
  obtain ⟨m, hm⟩ : ∃ m, (cpr f N).length = m := ⟨_, rfl⟩
  have HM := Lib.hid hm
  rw [hm] at HL6
  have hm6 := HL6.out
  rw [hm]
  have hbm := hset.lt
  clear b1 r1 hset HC hm hS HL6 hb0 hn0
  have ha1 := one_below w1 (.cells #[.int .i64 (N : Int), .slice A2 m c2, .map (some bm)] 82)
  have hn1 := World.alloc_heap_new w1 (.cells #[.int .i64 (N : Int), .slice A2 m c2, .map (some bm)] 82)
  have hg2 := (ha1.block _ (Array.getElem?_eq_some_iff.1 hg1).1).trans hg1
  have q0 : (w1.alloc (.cells #[.int .i64 (N : Int), .slice A2 m c2, .map (some bm)] 82)).cell? ⟨w.heap.size, 0, none⟩ = some (.slice A N c) := (cell_at hg2 0).trans rfl
  gi_wp2_with fail
  have hTh : Th w1 ((((w1.alloc (.cells #[.int .i64 (N : Int), .slice A2 m c2, .map (some bm)] 82)).alloc (.cells (madeCells #[Value.int .i64 0] N) 3)).alloc (.cells #[.slice (some ⟨w1.heap.size + 1, 0, none⟩) N N] 25)).alloc (.cells #[.int .i64 0] 3)) (w1.heap.size + 1) (w1.heap.size + 1 + 1) (w1.heap.size + 1 + 1 + 1) N [] := by
    have hon := on_start w1 (.cells #[.int .i64 (N : Int), .slice A2 m c2, .map (some bm)] 82) N
    have sz : ((w1.alloc (.cells #[.int .i64 (N : Int), .slice A2 m c2, .map (some bm)] 82)).alloc (.cells (madeCells #[Value.int .i64 0] N) 3)).heap.size = w1.heap.size + 1 + 1 := by rw [World.size_alloc, World.size_alloc]
    generalize (w1.alloc (.cells #[.int .i64 (N : Int), .slice A2 m c2, .map (some bm)] 82)).alloc (.cells (madeCells #[Value.int .i64 0] N) 3) = V2 at *
    have b3 := one_below V2 (.cells #[.slice (some ⟨w1.heap.size + 1, 0, none⟩) N N] 25)
    have n3 := World.alloc_heap_new V2 (.cells #[.slice (some ⟨w1.heap.size + 1, 0, none⟩) N N] 25)
    have z3 : (V2.alloc (.cells #[.slice (some ⟨w1.heap.size + 1, 0, none⟩) N N] 25)).heap.size = V2.heap.size + 1 := World.size_alloc _ _
    generalize V2.alloc (.cells #[.slice (some ⟨w1.heap.size + 1, 0, none⟩) N N] 25) = V3 at *
    have b4 := one_below V3 (.cells #[.int .i64 0] 3)
    have n4 := World.alloc_heap_new V3 (.cells #[.int .i64 0] 3)
    rw [z3, sz] at n4
    have n3' := (b4.block _ (Array.getElem?_eq_some_iff.1 n3).1).trans n3
    rw [sz] at n3'
    have hlt := hon.lt
    exact { low := hon.low.trans ((b3.mono hon.low.size).trans (b4.mono (by have := hon.low.size; omega))), h0 := by omega, h1 := by omega, h2 := by omega,
            row := by
              unfold RowI
              rw [cnl_nil]
              exact (b4.block _ (by omega)).trans ((b3.block _ hlt).trans hon.row),
            b7 := n3', b8 := n4 }
  have hs4 : ((((w1.alloc (.cells #[.int .i64 (N : Int), .slice A2 m c2, .map (some bm)] 82)).alloc (.cells (madeCells #[Value.int .i64 0] N) 3)).alloc (.cells #[.slice (some ⟨w1.heap.size + 1, 0, none⟩) N N] 25)).alloc (.cells #[.int .i64 0] 3)).heap.size = w1.heap.size + 1 + 1 + 1 + 1 := by rw [World.size_alloc, World.size_alloc, World.size_alloc, World.size_alloc]
  obtain ⟨W4, hW4⟩ : ∃ W4, (((w1.alloc (.cells #[.int .i64 (N : Int), .slice A2 m c2, .map (some bm)] 82)).alloc (.cells (madeCells #[Value.int .i64 0] N) 3)).alloc (.cells #[.slice (some ⟨w1.heap.size + 1, 0, none⟩) N N] 25)).alloc (.cells #[.int .i64 0] 3) = W4 := ⟨_, rfl⟩
  rw [hW4] at hTh hs4 ⊢
  obtain ⟨bx, hbx⟩ : ∃ bx, w1.heap.size = bx := ⟨_, rfl⟩
  obtain ⟨gc, hgc⟩ : ∃ gc, bx + 1 = gc := ⟨_, rfl⟩
  obtain ⟨b7, hb7⟩ : ∃ b7, gc + 1 = b7 := ⟨_, rfl⟩
  obtain ⟨b8, hb8⟩ : ∃ b8, b7 + 1 = b8 := ⟨_, rfl⟩
  obtain ⟨Bn, hBn⟩ : ∃ Bn, W4.heap.size = Bn := ⟨_, rfl⟩
  have hBn8 : Bn ≤ b8 + 1 ∧ b8 + 1 ≤ Bn := by omega
  have HTh := Lib.hid hTh
  have hb5 := one_below W4 (.cells #[.int .i64 (N : Int), .slice A2 m c2, .map (some bm)] 82)
  have hn5 := World.alloc_heap_new W4 (.cells #[.int .i64 (N : Int), .slice A2 m c2, .map (some bm)] 82)
  have hseq := tri_stops 4 (by omega) Bn w1.heap.size N m bm c2 A2 S f HM.out hN1 (by omega) HS.out (W4.alloc (.cells #[.int .i64 (N : Int), .slice A2 m c2, .map (some bm)] 82)) (by rw [← hBn]; exact hn5) (by rw [World.size_alloc]; have := hTh.low.size; omega) (HRd.out.below (hTh.low.trans (hb5.mono hTh.low.size)) (Nat.le_refl _)) (HSt.out.below (hTh.low.trans (hb5.mono hTh.low.size)) hbm) hbm
  have HSz : Hid ((W4.alloc (.cells #[.int .i64 (N : Int), .slice A2 m c2, .map (some bm)] 82)).heap.size = Bn + 1) := by show _ = _; rw [World.size_alloc, hBn]
  have HT5 : Hid (Th w1 (W4.alloc (.cells #[.int .i64 (N : Int), .slice A2 m c2, .map (some bm)] 82)) gc b7 b8 N []) := by
    have := HTh.out.on hb5
    rw [hbx, hgc, hb7, hb8] at this
    exact this
  clear hW4 q0 hmk ha1 hn1 hg1 hg2
  refine ⟨trivial, ?_⟩
  refine (triangles_in 4 _ _ _ W4).mono ?_
  rintro e w5 ⟨rfl, rfl⟩
  rw [hBn, hbx, hgc, hb7, hb8]
  have hle : w1.heap.size ≤ Bn := by omega
  clear hs4 hbx hgc hb7 hb8 hb5 hn5 hBn hTh HTh
  obtain ⟨W5, hW5⟩ : ∃ W5, W4.alloc (.cells #[.int .i64 (N : Int), .slice A2 m c2, .map (some bm)] 82) = W5 := ⟨_, rfl⟩
  rw [hW5] at hseq HSz HT5 ⊢
  have hsz5 : W5.heap.size ≤ Bn + 1 ∧ Bn + 1 ≤ W5.heap.size := by have := HSz.out; omega
  clear hW5
  gi_wp2
  refine wpIn_rangeFunc_ownH rfl (by decide) (gf := 90) (lb := #[.pointer (some ⟨Bn, 0, none⟩)]) rfl trivial entersTri1
    hseq (fun h k => KpB.trans h k) (KpB.put (by omega)) (Below.refl _ _) (fun _ => rfl)
    (fun (pre : List T3) X => Th w1 X gc b7 b8 N (pre.map (clt (trs f N))))
    (fun _ _ _ => False)
    (fun pre X Y row h hg hr => h.grown hg (fun r e => by have := (hr r e).1; omega))
    (fun _ _ _ _ _ hs _ _ => hs)
    HT5.out
    (fun x a' X => ∃ Bx, b8 < Bx ∧ TriAt X Bx (clt (trs f N) x) ∧ a' = { tmps := #[.agg #[.slice A N c], .pointer (some ⟨w.heap.size, 0, none⟩), .slice none 0 0, .int .i64 0, .int .i64 0, .pointer (some ⟨bx, 0, none⟩), .int .i64 0, .pointer (some ⟨b7, 0, none⟩), .pointer (some ⟨b8, 0, none⟩), .pointer (some ⟨Bx, 0, none⟩), undef, undef, .tuple #[.agg #[.int .i64 (N : Int), .slice A2 m c2, .map (some bm)], .int .i64 0], .agg #[.slice A N c], .tuple #[.agg #[.int .i64 (N : Int), .slice A2 m c2, .map (some bm)], .int .i64 0], .agg #[.int .i64 (N : Int), .slice A2 m c2, .map (some bm)], .int .i64 0, .int .i64 0, .bool false, undef, .pointer (some ⟨w.heap.size, 0, none⟩), .slice A N c, .int .i64 (N : Int), .slice (some ⟨gc, 0, none⟩) N N, .agg #[.int .i64 (N : Int), .slice A2 m c2, .map (some bm)], .func (.func 90) #[] #[.pointer (some ⟨Bn, 0, none⟩)], .agg #[.int .i64 ((clt (trs f N) x).1 : Int), .int .i64 ((clt (trs f N) x).2.1 : Int), .int .i64 ((clt (trs f N) x).2.2 : Int)], undef, undef, undef, undef, undef, undef, undef, undef, undef, undef, undef, undef, undef, undef, undef], defers := [] })
    ?a1 ?assign ?body ?done ?stop
  case a1 => exact fun x a' s X Y row ⟨Bx, h1, h2, h3⟩ hg hr => ⟨Bx, h1, (Own.from (triAt_own Bx (clt (trs f N) x)) _) () X Y row h2 hg hr, h3⟩
  case assign =>
    rintro lp pre x X K hI hK
    unfold encT
    obtain ⟨a, ha⟩ : ∃ a, clt (trs f N) x = a := ⟨_, rfl⟩
    rw [ha] at hK ⊢
    have HI := Lib.hid hI
    have HK := Lib.hid hK
    clear hI hK ha
    gi_wp2
    exact HK.out _ _ ((KeepsOthers.alloc _ _).from _) (KpB.of (one_below X _) (by have := HI.out.low.size; omega)) (HI.out.on (one_below X _)) ⟨X.heap.size, HI.out.lt, World.alloc_heap_new X _, rfl⟩
  case body =>
    rintro lp pre x a' X hlp hr hI ⟨Bx, hBx, hA, rfl⟩ hlt
    have hst : (pre ++ [x]).map (clt (trs f N)) = pre.map (clt (trs f N)) ++ [clt (trs f N) x] := by simp
    obtain ⟨ha1, ha2, ha3, -⟩ := trs_mem.1 (clt_in (L := trs f N) (by omega) x)
    have hlen : (pre.map (clt (trs f N))).length ≤ 1000000 := by
      have h1 : (trs f N).length ≤ 1000000 := by
        rw [tr_len, ← tz0_end]
        refine Nat.le_trans (tz0_len f N) ?_
        have h2 : N * N ≤ 100 * 100 := Nat.mul_le_mul hN1 hN1
        exact Nat.mul_le_mul hN1 h2
      rw [List.length_map]; omega
    generalize pre.map (clt (trs f N)) = L at *
    obtain ⟨a, ha⟩ : ∃ a, clt (trs f N) x = a := ⟨_, rfl⟩
    rw [ha] at ha1 ha2 ha3 hst hA ⊢
    clear ha
    obtain ⟨a, b, d⟩ := a
    simp only at ha1 ha2 ha3 ⊢
    have hsn := cnl_snoc L ha1 ha2 ha3
    have x1 := cnl_get L (show a < N by omega)
    have x2 := cnl_get L (show b < N by omega)
    have x3 := cnl_get L ha3
    have y1 := tcn_le L a
    have y2 := tcn_le L b
    have y3 := tcn_le L d
    generalize tcn L a = u1 at *
    generalize tcn L b = u2 at *
    generalize tcn L d = u3 at *
    have h0 := hI.h0; have h1 := hI.h1; have h2 := hI.h2
    have r0 := hI.row
    have r1 := r0.inc a u1
    have r2 := r1.inc b u2
    have r3 := r2.inc d u3
    obtain ⟨ce1, fe1⟩ := r0.cell x1
    obtain ⟨ce2, fe2⟩ := r1.cell (i := b) (x := u2) (by rw [List.getElem?_set_ne (by omega)]; exact x2)
    obtain ⟨ce3, fe3⟩ := r2.cell (i := d) (x := u3) (by rw [List.getElem?_set_ne (by omega), List.getElem?_set_ne (by omega)]; exact x3)
    have e1 := fun j (hj : j ≠ gc) => Below.heap_setCell X ⟨gc, a, none⟩ (.int .i64 ((u1 : Int) + 1)) j hj
    have e2 := fun j (hj : j ≠ gc) => Below.heap_setCell (X.setCell ⟨gc, a, none⟩ (.int .i64 ((u1 : Int) + 1))) ⟨gc, b, none⟩ (.int .i64 ((u2 : Int) + 1)) j hj
    have e3 := fun j (hj : j ≠ gc) => Below.heap_setCell ((X.setCell ⟨gc, a, none⟩ (.int .i64 ((u1 : Int) + 1))).setCell ⟨gc, b, none⟩ (.int .i64 ((u2 : Int) + 1))) ⟨gc, d, none⟩ (.int .i64 ((u3 : Int) + 1)) j hj
    have k1 : X.cell? ⟨b7, 0, none⟩ = some (.slice (some ⟨gc, 0, none⟩) N N) := (cell_at hI.b7 0).trans rfl
    have k2 : (X.setCell ⟨gc, a, none⟩ (.int .i64 ((u1 : Int) + 1))).cell? ⟨b7, 0, none⟩ = some (.slice (some ⟨gc, 0, none⟩) N N) := (cell_at ((e1 b7 (by omega)).trans hI.b7) 0).trans rfl
    have k3 : ((X.setCell ⟨gc, a, none⟩ (.int .i64 ((u1 : Int) + 1))).setCell ⟨gc, b, none⟩ (.int .i64 ((u2 : Int) + 1))).cell? ⟨b7, 0, none⟩ = some (.slice (some ⟨gc, 0, none⟩) N N) := (cell_at ((e2 b7 (by omega)).trans ((e1 b7 (by omega)).trans hI.b7)) 0).trans rfl
    have hb8 := (e3 b8 (by omega)).trans ((e2 b8 (by omega)).trans ((e1 b8 (by omega)).trans hI.b8))
    have hb7 := (e3 b7 (by omega)).trans ((e2 b7 (by omega)).trans ((e1 b7 (by omega)).trans hI.b7))
    have hk3 : KpB w1.heap.size Bn X (((X.setCell ⟨gc, a, none⟩ (.int .i64 ((u1 : Int) + 1))).setCell ⟨gc, b, none⟩ (.int .i64 ((u2 : Int) + 1))).setCell ⟨gc, d, none⟩ (.int .i64 ((u3 : Int) + 1))) :=
      (((KpB.refl _ _ X).set ⟨gc, a, none⟩ _ h0 (by show gc < Bn; omega)).set ⟨gc, b, none⟩ _ h0 (by show gc < Bn; omega)).set ⟨gc, d, none⟩ _ h0 (by show gc < Bn; omega)
    have g0 : X.cell? ⟨Bx, 0, none⟩ = some (.int .i64 (a : Int)) := (cell_at hA 0).trans rfl
    have g1 : X.cell? ⟨Bx, 1, none⟩ = some (.int .i64 (b : Int)) := (cell_at hA 1).trans rfl
    have g2 : X.cell? ⟨Bx, 2, none⟩ = some (.int .i64 (d : Int)) := (cell_at hA 2).trans rfl
    obtain ⟨l, hl⟩ : ∃ l, L.length = l := ⟨_, rfl⟩
    rw [hl] at hb8 hlen y1 y2 y3
    have y4 : u1 ≤ 1000000 := by omega
    have y5 : u2 ≤ 1000000 := by omega
    have y6 : u3 ≤ 1000000 := by omega
    clear y1 y2 y3
    have k8 : (((X.setCell ⟨gc, a, none⟩ (.int .i64 ((u1 : Int) + 1))).setCell ⟨gc, b, none⟩ (.int .i64 ((u2 : Int) + 1))).setCell ⟨gc, d, none⟩ (.int .i64 ((u3 : Int) + 1))).cell? ⟨b8, 0, none⟩ = some (.int .i64 (l : Int)) := (cell_at hb8 0).trans rfl
    have f8 : (((X.setCell ⟨gc, a, none⟩ (.int .i64 ((u1 : Int) + 1))).setCell ⟨gc, b, none⟩ (.int .i64 ((u2 : Int) + 1))).setCell ⟨gc, d, none⟩ (.int .i64 ((u3 : Int) + 1))).frozen? ⟨b8, 0, none⟩ = false := frz_at hb8 0
    have HEnd : Hid (KpB w1.heap.size Bn X ((((X.setCell ⟨gc, a, none⟩ (.int .i64 ((u1 : Int) + 1))).setCell ⟨gc, b, none⟩ (.int .i64 ((u2 : Int) + 1))).setCell ⟨gc, d, none⟩ (.int .i64 ((u3 : Int) + 1))).setCell ⟨b8, 0, none⟩ (.int .i64 ((l : Int) + 1))) ∧
        Th w1 ((((X.setCell ⟨gc, a, none⟩ (.int .i64 ((u1 : Int) + 1))).setCell ⟨gc, b, none⟩ (.int .i64 ((u2 : Int) + 1))).setCell ⟨gc, d, none⟩ (.int .i64 ((u3 : Int) + 1))).setCell ⟨b8, 0, none⟩ (.int .i64 ((l : Int) + 1))) gc b7 b8 N ((pre ++ [x]).map (clt (trs f N)))) := by
      refine ⟨hk3.set ⟨b8, 0, none⟩ _ (by show _ ≤ b8; omega) (by show b8 < Bn; omega), ?_⟩
      rw [hst]
      have e4 := fun j (hj : j ≠ b8) => Below.heap_setCell (((X.setCell ⟨gc, a, none⟩ (.int .i64 ((u1 : Int) + 1))).setCell ⟨gc, b, none⟩ (.int .i64 ((u2 : Int) + 1))).setCell ⟨gc, d, none⟩ (.int .i64 ((u3 : Int) + 1))) ⟨b8, 0, none⟩ (.int .i64 ((l : Int) + 1)) j hj
      refine { low := (hI.low.trans hk3.1).setCell (p := ⟨b8, 0, none⟩) (by show _ ≤ b8; omega) _, h0 := h0, h1 := h1, h2 := h2, row := ?_, b7 := (e4 b7 (by omega)).trans hb7, b8 := ?_ }
      · rw [hsn]; exact (e4 gc (by omega)).trans r3
      · rw [heap_set_same _ _ _ _ _ _ hb8, List.length_append, hl]; rfl
    have t1 : (0 : Int) ≤ (a : Int) := by omega
    have t2 : (a : Int) < (N : Int) := by omega
    have t3 : (0 : Int) ≤ (b : Int) := by omega
    have t4 : (b : Int) < (N : Int) := by omega
    have t5 : (0 : Int) ≤ (d : Int) := by omega
    have t6 : (d : Int) < (N : Int) := by omega
    clear hsn x1 x2 x3 r0 r1 r2 r3 e1 e2 e3 hb8 hb7 hk3 hI hA hst hl
    have ix : ∀ (k : Nat) (v : Value) (W : World), (#[Value.int .i64 (a : Int), .int .i64 (b : Int), .int .i64 (d : Int)])[k]? = some v → k < 3 → (Instr.index 94 (.agg #[.int .i64 (a : Int), .int .i64 (b : Int), .int .i64 (d : Int)]) (.int .i64 (k : Int))).run Try.prog W = .ok v W := fun k v W hv hk => index3 a b d k v W hv hk
    have i0 : ∀ W, (Instr.index 94 (.agg #[.int .i64 (a : Int), .int .i64 (b : Int), .int .i64 (d : Int)]) (.int .i64 0)).run Try.prog W = .ok (.int .i64 (a : Int)) W := fun W => ix 0 _ W rfl (by omega)
    have i1 : ∀ W, (Instr.index 94 (.agg #[.int .i64 (a : Int), .int .i64 (b : Int), .int .i64 (d : Int)]) (.int .i64 1)).run Try.prog W = .ok (.int .i64 (b : Int)) W := fun W => ix 1 _ W rfl (by omega)
    have i2 : ∀ W, (Instr.index 94 (.agg #[.int .i64 (a : Int), .int .i64 (b : Int), .int .i64 (d : Int)]) (.int .i64 2)).run Try.prog W = .ok (.int .i64 (d : Int)) W := fun W => ix 2 _ W rfl (by omega)
    clear ix
    gi_wp2
    refine wpIn_loop_rounds 4 ?_
    rw [roundsIn_succ]
    gi_wp2
    rw [roundsIn_succ]
    gi_wp2
    rw [roundsIn_succ]
    gi_wp2
    rw [roundsIn_succ]
    gi_wp2
    exact ⟨((((KeepsOthers.setCell _ _ _).trans (KeepsOthers.setCell _ _ _)).trans (KeepsOthers.setCell _ _ _)).trans (KeepsOthers.setCell _ _ _)).from _, HEnd.out.1, HEnd.out.2⟩
  case done =>
    rintro D ys X hD hys hI hK
    rw [hys, clt_map (fun x hx => hx)] at hI
    obtain ⟨T, hT⟩ : ∃ T, trs f N = T := ⟨_, rfl⟩
    rw [hT] at hI
    have HT := Lib.hid hT
    have k7 : X.cell? ⟨b7, 0, none⟩ = some (.slice (some ⟨gc, 0, none⟩) N N) := (cell_at hI.b7 0).trans rfl
    have k8 : X.cell? ⟨b8, 0, none⟩ = some (.int .i64 (T.length : Int)) := (cell_at hI.b8 0).trans rfl
    have HI := Lib.hid hI
    have HKD := Lib.hid hK
    clear hI hK hys hT
    gi_wp2_with fail
    refine wpIn_wide.2 ?_
    go_region_held3 (fun w' => w'.cell? ⟨b7, 0, none⟩ = some (.slice (some ⟨gc, 0, none⟩) N N) ∧ w'.cell? ⟨b8, 0, none⟩ = some (.int .i64 (T.length : Int)))
      (exact ⟨k7, k8⟩)
      (fail)
    all_goals (
      gi_wp2
      refine ⟨by simp, .inl ⟨_, _, rfl, run_takeDeferred (w := X.drew) HKD.out, ?_⟩⟩
      have hDX : D < X.heap.size := (Array.getElem?_eq_some_iff.1 HKD.out).1
      have hp : ∀ b, b ≠ D → (X.drew.putObj D (.deferred none)).heap[b]? = X.heap[b]? := fun b e => World.putObj_heap_other e
      have h0 := HI.out.h0; have h1 := HI.out.h1; have h2 := HI.out.h2
      have hr : RowI (X.drew.putObj D (.deferred none)) gc (cnl N T) := (hp gc (by omega)).trans HI.out.row
      have hrd := hr.rd (n := N)
      rw [List.take_of_length_le (by rw [cnl_length]; exact Nat.le_refl _)] at hrd
      refine ⟨.tuple #[.slice (some ⟨gc, 0, none⟩) N N, .int .i64 (T.length : Int), .int .i64 0], ?_, gc, by rw [HT.out], by rw [HT.out]; exact hrd, ?_⟩
      · simp [results, Try.results24, go_sem]
      · exact HB1.out.trans ((HI.out.low.drew.mono HB1.out.size).trans (belowK_b (w := w) (Nat.le_refl _) _ D _ _ (by have := HB1.out.size; omega) (show X.drew.heap[D]? = _ from HKD.out) rfl rfl)))
  case stop =>
    rintro D cd pre X hD hpre h hK
    exact h.elim
end

section
set_option maxRecDepth 100000
set_option linter.unusedVariables false
open Go.RowKit Go.Shelf

set_option maxHeartbeats 2000000 in
theorem repeat_zero (A : Option Addr) (c : Nat) (w : World) (h : RdV w w.heap.size A (zc [-1])) :
    Calls Try.prog 62 #[.slice A 1 c, .int .i64 0] w fun e w' => ∃ g, e = .returned (.slice (some ⟨g, 0, none⟩) 0 0) ∧ Ow w w' g [] := by
  obtain ⟨i0, hi, hz0, hz1, hz2⟩ := info_parts info_intD
  obtain ⟨b, off, rfl, hb, hc⟩ := h.at_ (i := 0) (v := .int .i64 (-1)) rfl
  have HM := Lib.hid (mul_one_any 0 (by omega))
  have hsz : (Try.prog.info? 3).map (·.size) = some 1 := by kernel_rfl
  clear h
  go_enter Try.func62, Try.ntmps62
  go_wp2_with fail
  refine (HM.out w).mono ?_
  rintro e w1 ⟨rfl, rfl⟩
  have hmz : zc ([] : List Int) = (madeCells (Value.int .i64 0).cells (0 * 1)).toList := by
    rw [show (Value.int .i64 0).cells = #[Value.int .i64 0] from rfl, toList_madeCells_one]; rfl
  have HMZ := Lib.hid hmz; clear hmz
  go_wp2_with (first | (at_make; refine wpList_make_full _ rfl _ _ 25 rfl w.heap.size 3 i0 (.int .i64 0) 1 Try.underlying25 hi hz0 hz1 _ _ _ _ 0 rfl rfl rfl rfl (by rw [hz2]; omega) (by unfold maxLen; omega) (Nat.le_refl _) ?_; intro w3 hown1 hgrow1; rw [← HMZ.out] at hown1; have hlow : Below w.heap.size w w3 := (Below.refl _ w).grown hgrow1 (Nat.le_refl _) (fun j hj => nomatch hj); have HO : Hid (Ow w w3 w.heap.size []) := Ow.of_own hlow hown1; clear hown1 hgrow1 hlow) | (refine wpList_copy_own rfl _ _ _ _ rfl 3 Try.underlying25 hsz w.heap.size 0 0 0 ⟨b, off, none⟩ 1 c rfl rfl _ _ HO.out.row [] rfl (by intro j v hj; simp at hj) (by simp) (by simp) ?_))
  refine wp_loop_rounds 1 ?_
  rw [rounds_succ]
  go_wp2
  go_ret
  refine ⟨w.heap.size, rfl, below_setRow HO.out.low (Nat.le_refl _) _, Nat.le_refl _, ?_⟩
  have h0 := HO.out.row
  simp [World.setRow, Array.getElem?_modify, h0, zc]
theorem repeat_all (n : Nat) (hn2 : n ≤ 1000) (A : Option Addr) (c : Nat) (w : World) (h : RdV w w.heap.size A (zc [-1])) :
    Calls Try.prog 62 #[.slice A 1 c, .int .i64 (n : Int)] w fun e w' => ∃ g, e = .returned (.slice (some ⟨g, 0, none⟩) n n) ∧ Ow w w' g (List.replicate n (-1)) := by
  rcases Nat.eq_zero_or_pos n with rfl | hn
  · exact repeat_zero A c w h
  · exact repeat_any n hn hn2 A c w h
set_option maxHeartbeats 1000000 in
theorem pai1_any (x : Nat) (L : List Int) (N b6 gw : Nat) (hx : x < N) (hl : L.length = N) (W : World) (hb : W.heap[b6]? = some (.cells #[.slice (some ⟨gw, 0, none⟩) N N] 25 (0, 0))) (hr : W.heap[gw]? = some (.cells (zc L).toArray 3 (0, 0))) :
    Calls Try.prog 63 (#[.int .i64 (x : Int)] ++ #[.pointer (some ⟨b6, 0, none⟩)]) W fun e w' => e = .returned (.bool (!decide (iv L x = -1))) ∧ Below W.heap.size W w' := by
  show Calls Try.prog 63 #[.int .i64 (x : Int), .pointer (some ⟨b6, 0, none⟩)] W _
  have k0 : W.cell? ⟨b6, 0, none⟩ = some (.slice (some ⟨gw, 0, none⟩) N N) := (cell_at hb 0).trans rfl
  have k1 : W.cell? ⟨gw, x, none⟩ = some (.int .i64 (iv L x)) := by
    refine (cell_at hr x).trans ?_
    rw [List.getElem?_toArray, zc_get L x (by omega)]
    unfold iv
    rw [List.getElem?_eq_getElem (by omega)]; rfl
  have t1 : (0 : Int) ≤ (x : Int) := by omega
  have t2 : (x : Int) < (N : Int) := by omega
  clear hb hr hl hx
  generalize iv L x = u at *
  obtain ⟨z, hz⟩ : ∃ z, (!decide (u = -1)) = z := ⟨_, rfl⟩
  have t3 : (u != -1) = z := by rw [← hz]; rfl
  rw [hz]
  clear hz
  go_enter Try.func63, Try.ntmps63
  go_wp2
  go_ret
  exact ⟨rfl, Below.refl _ _⟩
theorem entersPai1 : ∀ args w, (callFunc 63 args).run Try.prog w = .ok (.enter 63 args) w := enters_of Try.func63 (by kernel_rfl) rfl
/-- What the rounds keep: the record of neighbours, and who is paired with whom, behind a box. -/
structure Pr (w1 W : World) (bx gw b6 N : Nat) (nb : Array Value) (L : List Int) : Prop where
  low : Below w1.heap.size w1 W
  h0 : w1.heap.size ≤ bx
  h1 : bx < gw
  h2 : gw < b6
  box : W.heap[bx]? = some (.cells nb 82 (0, 0))
  row : W.heap[gw]? = some (.cells (zc L).toArray 3 (0, 0))
  b6 : W.heap[b6]? = some (.cells #[.slice (some ⟨gw, 0, none⟩) N N] 25 (0, 0))
  len : L.length = N
theorem Pr.lt {w1 W : World} {bx gw b6 N : Nat} {nb : Array Value} {L : List Int} (h : Pr w1 W bx gw b6 N nb L) : b6 < W.heap.size := (Array.getElem?_eq_some_iff.1 h.b6).1
theorem Pr.on {w1 W X : World} {bx gw b6 N : Nat} {nb : Array Value} {L : List Int} (h : Pr w1 W bx gw b6 N nb L) (hb : Below W.heap.size W X) : Pr w1 X bx gw b6 N nb L :=
  have hl := h.lt; have a1 := h.h1; have a2 := h.h2
  { h with low := h.low.trans (hb.mono h.low.size), box := (hb.block _ (by omega)).trans h.box, row := (hb.block _ (by omega)).trans h.row, b6 := (hb.block _ hl).trans h.b6 }
theorem Pr.set {w1 W : World} {bx gw b6 N : Nat} {nb : Array Value} {L : List Int} (h : Pr w1 W bx gw b6 N nb L) (i : Nat) (v : Int) : Pr w1 (W.setCell ⟨gw, i, none⟩ (.int .i64 v)) bx gw b6 N nb (L.set i v) :=
  have e := fun j (hj : j ≠ gw) => Below.heap_setCell W ⟨gw, i, none⟩ (.int .i64 v) j hj
  have a0 := h.h0; have a1 := h.h1; have a2 := h.h2
  { h with low := h.low.setCell (p := ⟨gw, i, none⟩) (by show _ ≤ gw; omega) _, box := (e _ (by omega)).trans h.box, b6 := (e _ (by omega)).trans h.b6,
           row := by rw [heap_set_same _ _ _ _ _ _ h.row, List.setIfInBounds_toArray]; unfold zc; rw [List.map_set],
           len := by rw [List.length_set]; exact h.len }
theorem Pr.drew {w1 W : World} {bx gw b6 N : Nat} {nb : Array Value} {L : List Int} (h : Pr w1 W bx gw b6 N nb L) : Pr w1 W.drew bx gw b6 N nb L := h.on (Below.refl _ _).drew
theorem Pr.cell {w1 W : World} {bx gw b6 N : Nat} {nb : Array Value} {L : List Int} (h : Pr w1 W bx gw b6 N nb L) {i : Nat} (hi : i < N) : W.cell? ⟨gw, i, none⟩ = some (.int .i64 (iv L i)) ∧ W.frozen? ⟨gw, i, none⟩ = false := by
  refine ⟨(cell_at h.row i).trans ?_, frz_at h.row i⟩
  have hl := h.len
  rw [List.getElem?_toArray, zc_get L i (by omega)]
  unfold iv
  rw [List.getElem?_eq_getElem (by omega)]; rfl
/-- Pairs' answer. -/
def PaP (w : World) (f : Nat → Nat → Bool) (N : Nat) (e : Ending) (w' : World) : Prop :=
  ∃ g, e = .returned (.tuple #[.slice (some ⟨g, 0, none⟩) N N, .int .i64 0]) ∧ (pairing f N).length = N ∧ RdV w' w'.heap.size (some ⟨g, 0, none⟩) (zc (pairing f N)) ∧ Below w.heap.size w w'
theorem any2 (L : List Int) (a b : Nat) : ([(a : Int), (b : Int)].any fun x => !decide (iv L x.toNat = -1)) = !decide (iv L a = -1 ∧ iv L b = -1) := by
  simp only [List.any_cons, List.any_nil, Int.toNat_natCast, Bool.or_false]
  by_cases h1 : iv L a = -1 <;> by_cases h2 : iv L b = -1 <;> simp [h1, h2]
set_option maxHeartbeats 4000000 in
theorem cpai_ok (R : List Rw) (g : List (List Nat)) (hg : gs R = g.map ns) (hok : GOk g) (N : Nat) (hN : R.length = N) (A : Option Addr) (c : Nat) (w : World) (h : RdG w w.heap.size A R) :
    Calls Try.prog 25 #[.agg #[.slice A N c]] w (PaP w (near g) N) := by
  have hgl : g.length = N := by have := congrArg List.length hg; rw [gs_length, List.length_map] at this; omega
  have hN1 : N ≤ 100 := by have := hok.nodes; omega
  have HC := Lib.hid (nbof_ok R g hg hok N hN A c (w.alloc (.cells #[.slice A N c] 24)) (h.on (one_below w _)))
  have HLe : Hid ((pairing (near g) N).length = N) := (pairing_ok (near_comm g) N).len
  have HL6 : Hid ((cpr (near g) N).length ≤ 600) := by
    have h1 := nd_eq (nbs_nodup (arcs 0 g)) (cpr_nodup (near g) N) (fun p => by have := nbs_near hok p; rw [hgl] at this; exact this)
    have h2 := nbs_len (arcs 0 g)
    have h3 := hok.many
    show _ ≤ _
    omega
  clear h hN hg hok hgl
  obtain ⟨f, hf⟩ : ∃ f, near g = f := ⟨_, rfl⟩
  rw [hf] at HC HLe HL6 ⊢
  clear hf
  have hb0 := one_below w (.cells #[.slice A N c] 24)
  have hn0 := World.alloc_heap_new w (.cells #[.slice A N c] 24)
  go_enter Try.func25, Try.ntmps25
  go_wp2_with fail
  refine HC.out.mono ?_
  rintro e w1 ⟨A2, c2, bm, S, rfl, r1, -, -, b1⟩
  have HB1 : Hid (Below w.heap.size w w1) := hb0.trans (b1.mono hb0.size)
  have hg1 := (b1.block _ (Array.getElem?_eq_some_iff.1 hn0).1).trans hn0
  have HRd := Lib.hid r1
  obtain ⟨m, hm⟩ : ∃ m, (cpr f N).length = m := ⟨_, rfl⟩
  have HM := Lib.hid hm
  rw [hm] at HL6
  have hm6 := HL6.out
  rw [hm]
  clear b1 r1 HC hm HL6 hb0 hn0
  have ha1 := one_below w1 (.cells #[.int .i64 (N : Int), .slice A2 m c2, .map (some bm)] 82)
  have hn1 := World.alloc_heap_new w1 (.cells #[.int .i64 (N : Int), .slice A2 m c2, .map (some bm)] 82)
  have ha2 := one_below (w1.alloc (.cells #[.int .i64 (N : Int), .slice A2 m c2, .map (some bm)] 82)) (.cells #[.int .i64 (-1)] 3)
  have hn2 := World.alloc_heap_new (w1.alloc (.cells #[.int .i64 (N : Int), .slice A2 m c2, .map (some bm)] 82)) (.cells #[.int .i64 (-1)] 3)
  have hz1 : (w1.alloc (.cells #[.int .i64 (N : Int), .slice A2 m c2, .map (some bm)] 82)).heap.size = w1.heap.size + 1 := World.size_alloc _ _
  have hz2 : ((w1.alloc (.cells #[.int .i64 (N : Int), .slice A2 m c2, .map (some bm)] 82)).alloc (.cells #[.int .i64 (-1)] 3)).heap.size = w1.heap.size + 1 + 1 := by rw [World.size_alloc, hz1]
  rw [hz1] at hn2
  have hg2 := (ha2.block _ (by rw [hz1]; have := (Array.getElem?_eq_some_iff.1 hg1).1; omega)).trans ((ha1.block _ (Array.getElem?_eq_some_iff.1 hg1).1).trans hg1)
  have hx2 := (ha2.block _ (Array.getElem?_eq_some_iff.1 hn1).1).trans hn1
  have q0 : ((w1.alloc (.cells #[.int .i64 (N : Int), .slice A2 m c2, .map (some bm)] 82)).alloc (.cells #[.int .i64 (-1)] 3)).cell? ⟨w.heap.size, 0, none⟩ = some (.slice A N c) := (cell_at hg2 0).trans rfl
  have hlow2 : Below w1.heap.size w1 ((w1.alloc (.cells #[.int .i64 (N : Int), .slice A2 m c2, .map (some bm)] 82)).alloc (.cells #[.int .i64 (-1)] 3)) := ha1.trans (ha2.mono ha1.size)
  obtain ⟨W2, hW2⟩ : ∃ W2, (w1.alloc (.cells #[.int .i64 (N : Int), .slice A2 m c2, .map (some bm)] 82)).alloc (.cells #[.int .i64 (-1)] 3) = W2 := ⟨_, rfl⟩
  rw [hW2] at hn2 hx2 hlow2 hz2
  have hr2 : RdV W2 W2.heap.size (some ⟨w1.heap.size + 1, 0, none⟩) (zc [-1]) := .inr ⟨w1.heap.size + 1, 0, rfl, by omega, fun i v hi => by
    rw [Nat.zero_add]
    exact (cell_at hn2 i).trans (by rw [List.getElem?_toArray]; exact hi)⟩
  have HCr := Lib.hid (repeat_all N (by omega) (some ⟨w1.heap.size + 1, 0, none⟩) 1 W2 hr2)
  have HW2 := Lib.hid hW2
  have HX2 := Lib.hid (⟨hx2, hlow2, hz2⟩ : _ ∧ _ ∧ _)
  clear hn2 hx2 hlow2 hz2 hr2 hW2 hz1 ha1 ha2 hn1 hg1 hg2
  go_wp2_with fail
  rw [HW2.out]
  refine HCr.out.mono ?_
  rintro e w3 ⟨gw, rfl, hO⟩
  have hb4 := one_below w3 (.cells #[.slice (some ⟨gw, 0, none⟩) N N] 25)
  have hn4 := World.alloc_heap_new w3 (.cells #[.slice (some ⟨gw, 0, none⟩) N N] 25)
  have HP0 : Hid (Pr w1 (w3.alloc (.cells #[.slice (some ⟨gw, 0, none⟩) N N] 25)) w1.heap.size gw w3.heap.size N #[.int .i64 (N : Int), .slice A2 m c2, .map (some bm)] (List.replicate N (-1))) := by
    obtain ⟨e1, e2, e3⟩ := HX2.out
    have hge := hO.ge
    have hlt := hO.lt
    have hls := hO.low.size
    exact { low := e2.trans ((hO.low.trans (hb4.mono hls)).mono e2.size), h0 := Nat.le_refl _, h1 := by omega, h2 := hlt, box := (hb4.block _ (by omega)).trans ((hO.low.block _ (by omega)).trans e1), row := (hb4.block _ hlt).trans hO.row, b6 := hn4, len := List.length_replicate }
  have q1 : (w3.alloc (.cells #[.slice (some ⟨gw, 0, none⟩) N N] 25)).cell? ⟨w1.heap.size, 1, none⟩ = some (.slice A2 m c2) := (cell_at HP0.out.box 1).trans rfl
  clear hb4 hn4 hO q0 HCr HW2 HX2
  go_wp2
  clear q1
  obtain ⟨b6, hb6⟩ : ∃ b6, w3.heap.size = b6 := ⟨_, rfl⟩
  obtain ⟨bx, hbx⟩ : ∃ bx, w1.heap.size = bx := ⟨_, rfl⟩
  rw [hb6, hbx] at HP0 ⊢
  clear hb6 hbx
  go_loopw [27] (fun p wr => ∃ i : Nat, i ≤ m ∧ p = .int .i64 (i : Int) ∧ Pr w1 wr bx gw b6 N #[.int .i64 (N : Int), .slice A2 m c2, .map (some bm)] (((cpr f N).take i).foldl pst (List.replicate N (-1)))) (fun p _ => m - (intOf p).toNat)
  case atStart => exact ⟨0, Nat.zero_le _, rfl, by rw [List.take_zero]; exact HP0.out⟩
  case round =>
   as_aux_lemma =>
    clear HP0
    obtain ⟨i, hi, rfl, hP⟩ := hrel
    by_cases hlt : i < m
    · have hin : i < (cpr f N).length := by rw [HM.out]; exact hlt
      obtain ⟨r0, r1⟩ := acs_atC (cpr f N) i hin
      obtain ⟨b, off, rfl, hb, k0⟩ := (HRd.out.on hP.low).at_ r0
      obtain ⟨b', off', hA2, hb', k1⟩ := (HRd.out.on hP.low).at_ r1
      simp only [Option.some.injEq, Addr.mk.injEq, and_true] at hA2
      obtain ⟨rfl, rfl⟩ := hA2
      rw [← Nat.add_assoc] at k1
      have hmem : (cpr f N)[i]?.getD (0, 0) ∈ cpr f N := by rw [List.getElem?_eq_getElem hin]; exact List.getElem_mem hin
      obtain ⟨hp1, hp2, hp3⟩ := cpr_mem.1 hmem
      have htk : (cpr f N).take (i + 1) = (cpr f N).take i ++ [(cpr f N)[i]?.getD (0, 0)] := by rw [List.take_succ_eq_append_getElem hin, List.getElem?_eq_getElem hin]; rfl
      have hfo : ((cpr f N).take (i + 1)).foldl pst (List.replicate N (-1)) = pst (((cpr f N).take i).foldl pst (List.replicate N (-1))) ((cpr f N)[i]?.getD (0, 0)) := by rw [htk, List.foldl_append]; rfl
      obtain ⟨a, ha⟩ : ∃ a, (cpr f N)[i]?.getD (0, 0) = a := ⟨_, rfl⟩
      rw [ha] at k0 k1 hp1 hp2 hfo
      clear r0 r1 hmem hb hb' htk ha hp3
      obtain ⟨a1, a2⟩ := a
      simp only at k0 k1 hp1 hp2
      generalize ((cpr f N).take i).foldl pst (List.replicate N (-1)) = L at *
      have hps : pst L (a1, a2) = if iv L a1 = -1 ∧ iv L a2 = -1 then (L.set a1 (a2 : Int)).set a2 (a1 : Int) else L := rfl
      rw [hps] at hfo
      have HFo := Lib.hid hfo
      clear hfo hps
      have hnb := one_below wr (.cells #[.int .i64 (a1 : Int), .int .i64 (a2 : Int)] 97)
      have hnn := World.alloc_heap_new wr (.cells #[.int .i64 (a1 : Int), .int .i64 (a2 : Int)] 97)
      have HP2 := Lib.hid (hP.on hnb)
      have hrd2 : RdV (wr.alloc (.cells #[.int .i64 (a1 : Int), .int .i64 (a2 : Int)] 97)) (wr.alloc (.cells #[.int .i64 (a1 : Int), .int .i64 (a2 : Int)] 97)).heap.size (some ⟨wr.heap.size, 0, none⟩) (zc [(a1 : Int), (a2 : Int)]) := .inr ⟨wr.heap.size, 0, rfl, (Array.getElem?_eq_some_iff.1 hnn).1, fun j v hv => by
        rw [Nat.zero_add]
        exact (cell_at hnn j).trans (by rw [List.getElem?_toArray]; exact hv)⟩
      have HCf : Hid (Calls Try.prog 64 #[.slice (some ⟨wr.heap.size, 0, none⟩) 2 2, .func (.func 63) #[] #[.pointer (some ⟨b6, 0, none⟩)]] (wr.alloc (.cells #[.int .i64 (a1 : Int), .int .i64 (a2 : Int)] 97)) fun e w' => e = .returned (.bool (!decide (iv L a1 = -1 ∧ iv L a2 = -1))) ∧ Below (wr.alloc (.cells #[.int .i64 (a1 : Int), .int .i64 (a2 : Int)] 97)).heap.size (wr.alloc (.cells #[.int .i64 (a1 : Int), .int .i64 (a2 : Int)] 97)) w') := by
        rw [← any2]
        refine contf_any 63 #[.pointer (some ⟨b6, 0, none⟩)] (fun x => !decide (iv L x.toNat = -1)) [(a1 : Int), (a2 : Int)] 2 rfl (by omega) _ _ _ hrd2 entersPai1 (fun x hx V hV => ?_)
        have hV2 := HP2.out.on hV
        simp only [List.mem_cons, List.not_mem_nil, or_false] at hx
        rcases hx with rfl | rfl
        · rw [Int.toNat_natCast]; exact pai1_any a1 L N b6 gw (by omega) hV2.len V hV2.b6 hV2.row
        · rw [Int.toNat_natCast]; exact pai1_any a2 L N b6 gw (by omega) hV2.len V hV2.b6 hV2.row
      have HNn := Lib.hid hnn
      have t1 : (0 : Int) ≤ (i : Int) := by omega
      have t2 : (i : Int) < (m : Int) := by omega
      clear hnb hnn hrd2 hP hin
      go_wp2_with fail
      refine HCf.out.mono ?_
      rintro e w4 ⟨rfl, b4⟩
      have HP4 := Lib.hid (HP2.out.on b4)
      have HN4 : Hid (w4.heap[wr.heap.size]? = some (.cells #[.int .i64 (a1 : Int), .int .i64 (a2 : Int)] 97 (0, 0))) := (b4.block _ (Array.getElem?_eq_some_iff.1 HNn.out).1).trans HNn.out
      clear b4 HCf HNn HP2 k0 k1
      by_cases hc : iv L a1 = -1 ∧ iv L a2 = -1
      · rw [if_pos hc] at HFo
        rw [decide_eq_true hc]
        have h1 := HP4.out.cell (i := a1) (by omega)
        have hP5 := HP4.out.set a1 (a2 : Int)
        have h2 := HP4.out.cell (i := a2) hp2
        have HP6 := Lib.hid (hP5.set a2 (a1 : Int)).drew
        obtain ⟨c1, f1⟩ := h1
        obtain ⟨c2', f2⟩ := h2
        have k6 : w4.cell? ⟨b6, 0, none⟩ = some (.slice (some ⟨gw, 0, none⟩) N N) := (cell_at HP4.out.b6 0).trans rfl
        have k7 : w4.cell? ⟨wr.heap.size, 0, none⟩ = some (.int .i64 (a1 : Int)) := (cell_at HN4.out 0).trans rfl
        have k8 : w4.cell? ⟨wr.heap.size, 1, none⟩ = some (.int .i64 (a2 : Int)) := (cell_at HN4.out 1).trans rfl
        have hne : wr.heap.size ≠ gw := by
          intro e
          have h3 := HP4.out.row
          rw [← e, HN4.out] at h3
          have := Option.some.inj h3
          simp at this
        have t3 : (0 : Int) ≤ (a1 : Int) := by omega
        have t4 : (a1 : Int) < (N : Int) := by omega
        have t5 : (0 : Int) ≤ (a2 : Int) := by omega
        have t6 : (a2 : Int) < (N : Int) := by omega
        have j6 : (w4.setCell ⟨gw, a1, none⟩ (.int .i64 (a2 : Int))).cell? ⟨b6, 0, none⟩ = some (.slice (some ⟨gw, 0, none⟩) N N) := (cell_at hP5.b6 0).trans rfl
        have hj := (Below.heap_setCell w4 ⟨gw, a1, none⟩ (.int .i64 (a2 : Int)) wr.heap.size hne).trans HN4.out
        have j7 : (w4.setCell ⟨gw, a1, none⟩ (.int .i64 (a2 : Int))).cell? ⟨wr.heap.size, 0, none⟩ = some (.int .i64 (a1 : Int)) := (cell_at hj 0).trans rfl
        have j8 : (w4.setCell ⟨gw, a1, none⟩ (.int .i64 (a2 : Int))).cell? ⟨wr.heap.size, 1, none⟩ = some (.int .i64 (a2 : Int)) := (cell_at hj 1).trans rfl
        clear hj
        obtain ⟨Pb, hPb⟩ : ∃ Pb, wr.heap.size = Pb := ⟨_, rfl⟩
        rw [hPb] at k7 k8 j7 j8 HN4 ⊢
        clear hPb hne hP5 hc
        go_wp2_with fail
        go_region
        all_goals (
          go_wp2
          go_roundw
          case rel => exact ⟨i + 1, by omega, by go_num, by rw [HFo.out]; exact HP6.out⟩
          case measure => simp [intOf]; omega)
      · rw [if_neg hc] at HFo
        rw [decide_eq_false hc]
        clear hc
        go_wp2
        go_roundw
        case rel => exact ⟨i + 1, by omega, by go_num, by rw [HFo.out]; exact HP4.out⟩
        case measure => simp [intOf]; omega
    · obtain rfl : i = m := by omega
      rw [List.take_of_length_le (by rw [HM.out]; exact Nat.le_refl _)] at hP
      have HR : Hid (RdV wr wr.heap.size (some ⟨gw, 0, none⟩) (zc (pairing f N)) ∧ Below w.heap.size w wr) := ⟨.inr ⟨gw, 0, rfl, (Array.getElem?_eq_some_iff.1 hP.row).1, fun j v hv => by
        rw [Nat.zero_add]
        exact (cell_at hP.row j).trans (by rw [List.getElem?_toArray]; exact hv)⟩, HB1.out.trans (hP.low.mono HB1.out.size)⟩
      have k6 : wr.cell? ⟨b6, 0, none⟩ = some (.slice (some ⟨gw, 0, none⟩) N N) := (cell_at hP.b6 0).trans rfl
      clear hP
      go_wp2
      go_ret2
      exact ⟨gw, rfl, HLe.out, HR.out.1, HR.out.2⟩
end

section
set_option maxRecDepth 100000
set_option linter.unusedVariables false
open Go.RowKit Go.Shelf

def cG : List (List Nat) := [[0, 1, 2], [2], [0], [2], []]
theorem cG_ok : GOk cG := ⟨by decide, by decide, by decide, by decide⟩
theorem cG_trs : trs (near cG) 5 = [(0, 1, 2)] := by decide +kernel
theorem cG_pai : pairing (near cG) 5 = [1, 0, 3, 2, -1] := by decide +kernel
theorem cG_dg (i : Nat) (hi : i < 5) : dg (near cG) 5 (fun _ => true) i = ([2, 2, 3, 1, 0] : List Nat)[i]?.getD 0 := by
  rcases (show i = 0 ∨ i = 1 ∨ i = 2 ∨ i = 3 ∨ i = 4 by omega) with rfl | rfl | rfl | rfl | rfl <;> decide +kernel
theorem cG_two (i : Nat) (h : i < 3) : InK (near cG) 5 2 i := by
  refine ⟨fun m => decide (m < 3), by simpa using h, fun j hj hs => ?_⟩
  rcases (show j = 0 ∨ j = 1 ∨ j = 2 ∨ j = 3 ∨ j = 4 by omega) with rfl | rfl | rfl | rfl | rfl <;> first | (simp at hs; done) | decide +kernel
theorem cG_one : InK (near cG) 5 1 3 := by
  refine ⟨fun m => decide (m < 4), by decide, fun j hj hs => ?_⟩
  rcases (show j = 0 ∨ j = 1 ∨ j = 2 ∨ j = 3 ∨ j = 4 by omega) with rfl | rfl | rfl | rfl | rfl <;> first | (simp at hs; done) | decide +kernel
theorem cG_no3 : ¬ InK (near cG) 5 3 2 := by
  rintro ⟨S, hS, hK⟩
  have h2 := hK 2 (by omega) hS
  have h0 : S 0 = false := by
    cases h : S 0 with
    | false => rfl
    | true =>
      have h1 := hK 0 (by omega) h
      have h3 : dg (near cG) 5 S 0 ≤ dg (near cG) 5 (fun _ => true) 0 := dg_mono fun m _ _ q => ⟨rfl, q⟩
      rw [cG_dg 0 (by omega)] at h3
      simp at h3; omega
  have h4 : dg (near cG) 5 S 2 ≤ dg (near cG) 5 (fun m => decide (m ≠ 0)) 2 := dg_mono fun m _ q r => ⟨by
    have : m ≠ 0 := fun e => by subst e; rw [h0] at q; cases q
    simpa using this, r⟩
  have h5 : dg (near cG) 5 (fun m => decide (m ≠ 0)) 2 = 2 := by decide +kernel
  omega
theorem cG_cn (i : Nat) (hi : i < 5) : Cn (near cG) 5 i (([2, 2, 2, 1, 0] : List Nat)[i]?.getD 0) := by
  have key : ∀ k, dg (near cG) 5 (fun _ => true) i < k → ¬ InK (near cG) 5 k i := fun k hk h => by have := h.le hi; omega
  rw [cG_dg i hi] at key
  rcases (show i = 0 ∨ i = 1 ∨ i = 2 ∨ i = 3 ∨ i = 4 by omega) with rfl | rfl | rfl | rfl | rfl
  · exact ⟨cG_two 0 (by omega), key 3 (by decide)⟩
  · exact ⟨cG_two 1 (by omega), key 3 (by decide)⟩
  · exact ⟨cG_two 2 (by omega), cG_no3⟩
  · exact ⟨cG_one, key 2 (by decide)⟩
  · exact ⟨InK.zero _ _ _, key 1 (by decide)⟩
theorem cG_len (R : List Rw) (hg : gs R = cG.map ns) : R.length = 5 := by have := congrArg List.length hg; rw [gs_length] at this; exact this
theorem cb1 (R : List Rw) (hg : gs R = cG.map ns) (A : Option Addr) (c : Nat) (w : World) (h : RdG w w.heap.size A R) : Calls Try.prog 23 #[.agg #[.slice A 5 c]] w
    fun e w' => ∃ b, e = .returned (.tuple #[.slice (some ⟨b, 0, none⟩) 5 5, .int .i64 0]) ∧ RdV w' w'.heap.size (some ⟨b, 0, none⟩) (zc (ns [2, 2, 2, 1, 0])) ∧ Below w.heap.size w w' :=
  (cnum_ok R cG hg cG_ok 5 (cG_len R hg) A c w h).mono fun e w' ⟨b, o, q1, q2, q3, q4, q5⟩ => ⟨b, q1, by
    have : o = [2, 2, 2, 1, 0] := by
      apply List.ext_getElem (by rw [q2]; rfl)
      intro i h1 h2
      have := (q3 i (by omega)).uniq (cG_cn i (by omega))
      rw [List.getElem?_eq_getElem h1, List.getElem?_eq_getElem h2] at this
      exact this
    rw [← this]; exact q4, q5⟩
theorem cb2 (R : List Rw) (hg : gs R = cG.map ns) (A : Option Addr) (c : Nat) (w : World) (h : RdG w w.heap.size A R) : Calls Try.prog 24 #[.agg #[.slice A 5 c]] w
    fun e w' => ∃ b, e = .returned (.tuple #[.slice (some ⟨b, 0, none⟩) 5 5, .int .i64 1, .int .i64 0]) ∧ RdV w' w'.heap.size (some ⟨b, 0, none⟩) (zc (ns [1, 1, 1, 0, 0])) ∧ Below w.heap.size w w' :=
  (cthr_ok R cG hg cG_ok 5 (cG_len R hg) A c w h).mono fun e w' ⟨b, q1, q2, q3⟩ => ⟨b, by rw [cG_trs] at q1; exact q1, by rw [cG_trs] at q2; exact q2, q3⟩
theorem cb3 (R : List Rw) (hg : gs R = cG.map ns) (A : Option Addr) (c : Nat) (w : World) (h : RdG w w.heap.size A R) : Calls Try.prog 25 #[.agg #[.slice A 5 c]] w
    fun e w' => ∃ b, e = .returned (.tuple #[.slice (some ⟨b, 0, none⟩) 5 5, .int .i64 0]) ∧ RdV w' w'.heap.size (some ⟨b, 0, none⟩) (zc [1, 0, 3, 2, -1]) ∧ Below w.heap.size w w' :=
  (cpai_ok R cG hg cG_ok 5 (cG_len R hg) A c w h).mono fun e w' ⟨b, q1, _, q2, q3⟩ => ⟨b, q1, by rw [cG_pai] at q2; exact q2, q3⟩
theorem cb_g (w : World) : ∃ R, gs R = cG.map ns ∧ RdG ((((((w.alloc (.cells #[.int .i64 0, .int .i64 1, .int .i64 2] 3)).alloc (.cells #[.int .i64 2] 3)).alloc (.cells #[.int .i64 0] 3)).alloc (.cells #[.int .i64 2] 3)).alloc (.cells #[.slice (some ⟨w.heap.size, 0, none⟩) 3 3, .slice (some ⟨w.heap.size + 1, 0, none⟩) 1 1, .slice (some ⟨w.heap.size + 1 + 1, 0, none⟩) 1 1, .slice (some ⟨w.heap.size + 1 + 1 + 1, 0, none⟩) 1 1, .slice none 0 0] 25)).alloc (.cells #[.slice (some ⟨w.heap.size + 1 + 1 + 1 + 1, 0, none⟩) 5 5] 24)) ((((((w.alloc (.cells #[.int .i64 0, .int .i64 1, .int .i64 2] 3)).alloc (.cells #[.int .i64 2] 3)).alloc (.cells #[.int .i64 0] 3)).alloc (.cells #[.int .i64 2] 3)).alloc (.cells #[.slice (some ⟨w.heap.size, 0, none⟩) 3 3, .slice (some ⟨w.heap.size + 1, 0, none⟩) 1 1, .slice (some ⟨w.heap.size + 1 + 1, 0, none⟩) 1 1, .slice (some ⟨w.heap.size + 1 + 1 + 1, 0, none⟩) 1 1, .slice none 0 0] 25)).alloc (.cells #[.slice (some ⟨w.heap.size + 1 + 1 + 1 + 1, 0, none⟩) 5 5] 24)).heap.size (some ⟨w.heap.size + 1 + 1 + 1 + 1, 0, none⟩) R ∧ ((((((w.alloc (.cells #[.int .i64 0, .int .i64 1, .int .i64 2] 3)).alloc (.cells #[.int .i64 2] 3)).alloc (.cells #[.int .i64 0] 3)).alloc (.cells #[.int .i64 2] 3)).alloc (.cells #[.slice (some ⟨w.heap.size, 0, none⟩) 3 3, .slice (some ⟨w.heap.size + 1, 0, none⟩) 1 1, .slice (some ⟨w.heap.size + 1 + 1, 0, none⟩) 1 1, .slice (some ⟨w.heap.size + 1 + 1 + 1, 0, none⟩) 1 1, .slice none 0 0] 25)).alloc (.cells #[.slice (some ⟨w.heap.size + 1 + 1 + 1 + 1, 0, none⟩) 5 5] 24)).cell? ⟨w.heap.size + 1 + 1 + 1 + 1 + 1, 0, none⟩ = some (.slice (some ⟨w.heap.size + 1 + 1 + 1 + 1, 0, none⟩) 5 5) ∧ Below w.heap.size w ((((((w.alloc (.cells #[.int .i64 0, .int .i64 1, .int .i64 2] 3)).alloc (.cells #[.int .i64 2] 3)).alloc (.cells #[.int .i64 0] 3)).alloc (.cells #[.int .i64 2] 3)).alloc (.cells #[.slice (some ⟨w.heap.size, 0, none⟩) 3 3, .slice (some ⟨w.heap.size + 1, 0, none⟩) 1 1, .slice (some ⟨w.heap.size + 1 + 1, 0, none⟩) 1 1, .slice (some ⟨w.heap.size + 1 + 1 + 1, 0, none⟩) 1 1, .slice none 0 0] 25)).alloc (.cells #[.slice (some ⟨w.heap.size + 1 + 1 + 1 + 1, 0, none⟩) 5 5] 24)) := by
  obtain ⟨V1, hV1⟩ : ∃ X, w.alloc (.cells #[.int .i64 0, .int .i64 1, .int .i64 2] 3) = X := ⟨_, rfl⟩
  have s1 : V1.heap.size = w.heap.size + 1 := by rw [← hV1]; exact World.size_alloc _ _
  have b1 : Below w.heap.size w V1 := hV1 ▸ one_below _ _
  have r1 : RdV V1 V1.heap.size (some ⟨w.heap.size, 0, none⟩) (zc (ns [0, 1, 2])) := hV1 ▸ rdz_new w [0, 1, 2]
  obtain ⟨V2, hV2⟩ : ∃ X, V1.alloc (.cells #[.int .i64 2] 3) = X := ⟨_, rfl⟩
  have s2 : V2.heap.size = V1.heap.size + 1 := by rw [← hV2]; exact World.size_alloc _ _
  have b2 : Below V1.heap.size V1 V2 := hV2 ▸ one_below _ _
  have r2 : RdV V2 V2.heap.size (some ⟨V1.heap.size, 0, none⟩) (zc (ns [2])) := hV2 ▸ rdz_new V1 [2]
  obtain ⟨V3, hV3⟩ : ∃ X, V2.alloc (.cells #[.int .i64 0] 3) = X := ⟨_, rfl⟩
  have s3 : V3.heap.size = V2.heap.size + 1 := by rw [← hV3]; exact World.size_alloc _ _
  have b3 : Below V2.heap.size V2 V3 := hV3 ▸ one_below _ _
  have r3 : RdV V3 V3.heap.size (some ⟨V2.heap.size, 0, none⟩) (zc (ns [0])) := hV3 ▸ rdz_new V2 [0]
  obtain ⟨V4, hV4⟩ : ∃ X, V3.alloc (.cells #[.int .i64 2] 3) = X := ⟨_, rfl⟩
  have s4 : V4.heap.size = V3.heap.size + 1 := by rw [← hV4]; exact World.size_alloc _ _
  have b4 : Below V3.heap.size V3 V4 := hV4 ▸ one_below _ _
  have r4 : RdV V4 V4.heap.size (some ⟨V3.heap.size, 0, none⟩) (zc (ns [2])) := hV4 ▸ rdz_new V3 [2]
  have r1 := ((r1.on b2).on b3).on b4
  have r2 := (r2.on b3).on b4
  have r3 := r3.on b4
  rw [hV1, hV2, hV3, hV4]
  have hl := rdg_lit V4 [(some ⟨w.heap.size, 0, none⟩, 3, ns [0, 1, 2]), (some ⟨V1.heap.size, 0, none⟩, 1, ns [2]), (some ⟨V2.heap.size, 0, none⟩, 1, ns [0]), (some ⟨V3.heap.size, 0, none⟩, 1, ns [2]), (none, 0, [])] (fun r hr => by
    simp only [List.mem_cons, List.not_mem_nil, or_false] at hr
    rcases hr with rfl | rfl | rfl | rfl | rfl
    · exact ⟨r1, by simp [ns]⟩
    · exact ⟨r2, by simp [ns]⟩
    · exact ⟨r3, by simp [ns]⟩
    · exact ⟨r4, by simp [ns]⟩
    · exact ⟨.inl rfl, by simp⟩)
  have z1 : V1.heap.size = w.heap.size + 1 := s1
  have z2 : V2.heap.size = w.heap.size + 1 + 1 := by rw [s2, z1]
  have z3 : V3.heap.size = w.heap.size + 1 + 1 + 1 := by rw [s3, z2]
  have z4 : V4.heap.size = w.heap.size + 1 + 1 + 1 + 1 := by rw [s4, z3]
  have hb : Below w.heap.size w V4 := ((b1.trans (b2.mono b1.size)).trans (b3.mono (by omega))).trans (b4.mono (by omega))
  rw [z4, z1, z2, z3] at hl
  refine ⟨_, rfl, hl.on (one_below _ _), ?_, (hb.trans ((one_below V4 _).mono hb.size)).trans ((one_below _ _).mono (by rw [World.size_alloc]; omega))⟩
  have hn := World.alloc_heap_new (V4.alloc (.cells #[.slice (some ⟨w.heap.size, 0, none⟩) 3 3, .slice (some ⟨w.heap.size + 1, 0, none⟩) 1 1, .slice (some ⟨w.heap.size + 1 + 1, 0, none⟩) 1 1, .slice (some ⟨w.heap.size + 1 + 1 + 1, 0, none⟩) 1 1, .slice none 0 0] 25)) (.cells #[.slice (some ⟨w.heap.size + 1 + 1 + 1 + 1, 0, none⟩) 5 5] 24)
  rw [World.size_alloc, z4] at hn
  exact (cell_at hn 0).trans rfl
set_option maxHeartbeats 4000000 in
theorem corebegun_true (w : World) : Calls Try.prog 30 #[] w fun e w' => e = .returned (.bool true) ∧ Below w.heap.size w w' := by
    obtain ⟨R, hg, hr, k0, hb⟩ := cb_g w
    have HG := Lib.hid hg; clear hg
    have HB := Lib.hid hb; clear hb
    have HR := Lib.hid hr; clear hr
    have K0 := Lib.hid k0; clear k0
    go_enter Try.func30, Try.ntmps30
    have HC := Lib.hid (cb1 R HG.out _ 5 _ HR.out)
    have k_K0 := K0.out
    go_wp2_with fail
    clear k_K0
    refine HC.out.mono ?_
    rintro e w1 ⟨b1, rfl, q1, bq⟩
    clear HC
    have HBc := Lib.hid bq; clear bq
    have HBq : Hid (Below ((((((w.alloc (.cells #[.int .i64 0, .int .i64 1, .int .i64 2] 3)).alloc (.cells #[.int .i64 2] 3)).alloc (.cells #[.int .i64 0] 3)).alloc (.cells #[.int .i64 2] 3)).alloc (.cells #[.slice (some ⟨w.heap.size, 0, none⟩) 3 3, .slice (some ⟨w.heap.size + 1, 0, none⟩) 1 1, .slice (some ⟨w.heap.size + 1 + 1, 0, none⟩) 1 1, .slice (some ⟨w.heap.size + 1 + 1 + 1, 0, none⟩) 1 1, .slice none 0 0] 25)).alloc (.cells #[.slice (some ⟨w.heap.size + 1 + 1 + 1 + 1, 0, none⟩) 5 5] 24)).heap.size ((((((w.alloc (.cells #[.int .i64 0, .int .i64 1, .int .i64 2] 3)).alloc (.cells #[.int .i64 2] 3)).alloc (.cells #[.int .i64 0] 3)).alloc (.cells #[.int .i64 2] 3)).alloc (.cells #[.slice (some ⟨w.heap.size, 0, none⟩) 3 3, .slice (some ⟨w.heap.size + 1, 0, none⟩) 1 1, .slice (some ⟨w.heap.size + 1 + 1, 0, none⟩) 1 1, .slice (some ⟨w.heap.size + 1 + 1 + 1, 0, none⟩) 1 1, .slice none 0 0] 25)).alloc (.cells #[.slice (some ⟨w.heap.size + 1 + 1 + 1 + 1, 0, none⟩) 5 5] 24)) w1) := HBc.out
    replace HB : Hid (Below w.heap.size w w1) := HB.out.trans (HBq.out.mono HB.out.size)
    replace HR : Hid (RdG w1 (w1).heap.size (some ⟨w.heap.size + 1 + 1 + 1 + 1, 0, none⟩) R) := HR.out.on HBq.out
    replace K0 : Hid ((w1).cell? ⟨w.heap.size + 1 + 1 + 1 + 1 + 1, 0, none⟩ = some (.slice (some ⟨w.heap.size + 1 + 1 + 1 + 1, 0, none⟩) 5 5)) := (HBq.out.cell (World.block_lt_of_cell? _ _ K0.out)).trans K0.out
    clear HBq
    clear HBc
    have Q1 : Hid (RdV w1 (w1).heap.size (some ⟨b1, 0, none⟩) (zc (ns [2, 2, 2, 1, 0]))) := q1
    clear q1
    have HC := Lib.hid (cb2 R HG.out _ 5 _ HR.out)
    have k_K0 := K0.out
    go_wp2_with fail
    clear k_K0
    refine HC.out.mono ?_
    rintro e w2 ⟨b2, rfl, q2, bq⟩
    clear HC
    have HBc := Lib.hid bq; clear bq
    have HBq : Hid (Below w1.heap.size w1 w2) := HBc.out
    replace HB : Hid (Below w.heap.size w w2) := HB.out.trans (HBq.out.mono HB.out.size)
    replace HR : Hid (RdG w2 (w2).heap.size (some ⟨w.heap.size + 1 + 1 + 1 + 1, 0, none⟩) R) := HR.out.on HBq.out
    replace K0 : Hid ((w2).cell? ⟨w.heap.size + 1 + 1 + 1 + 1 + 1, 0, none⟩ = some (.slice (some ⟨w.heap.size + 1 + 1 + 1 + 1, 0, none⟩) 5 5)) := (HBq.out.cell (World.block_lt_of_cell? _ _ K0.out)).trans K0.out
    replace Q1 : Hid (RdV w2 (w2).heap.size (some ⟨b1, 0, none⟩) (zc (ns [2, 2, 2, 1, 0]))) := Q1.out.on HBq.out
    clear HBq
    clear HBc
    have Q2 : Hid (RdV w2 (w2).heap.size (some ⟨b2, 0, none⟩) (zc (ns [1, 1, 1, 0, 0]))) := q2
    clear q2
    have HC := Lib.hid (cb3 R HG.out _ 5 _ HR.out)
    have k_K0 := K0.out
    go_wp2_with fail
    clear k_K0
    refine HC.out.mono ?_
    rintro e w3 ⟨b3, rfl, q3, bq⟩
    clear HC
    have HBc := Lib.hid bq; clear bq
    have HBq : Hid (Below w2.heap.size w2 w3) := HBc.out
    replace HB : Hid (Below w.heap.size w w3) := HB.out.trans (HBq.out.mono HB.out.size)
    replace HR : Hid (RdG w3 (w3).heap.size (some ⟨w.heap.size + 1 + 1 + 1 + 1, 0, none⟩) R) := HR.out.on HBq.out
    replace K0 : Hid ((w3).cell? ⟨w.heap.size + 1 + 1 + 1 + 1 + 1, 0, none⟩ = some (.slice (some ⟨w.heap.size + 1 + 1 + 1 + 1, 0, none⟩) 5 5)) := (HBq.out.cell (World.block_lt_of_cell? _ _ K0.out)).trans K0.out
    replace Q1 : Hid (RdV w3 (w3).heap.size (some ⟨b1, 0, none⟩) (zc (ns [2, 2, 2, 1, 0]))) := Q1.out.on HBq.out
    replace Q2 : Hid (RdV w3 (w3).heap.size (some ⟨b2, 0, none⟩) (zc (ns [1, 1, 1, 0, 0]))) := Q2.out.on HBq.out
    clear HBq
    clear HBc
    have Q3 : Hid (RdV w3 (w3).heap.size (some ⟨b3, 0, none⟩) (zc [1, 0, 3, 2, -1])) := q3
    clear q3
    have HC := Lib.hid (siD (ns [2, 2, 2, 1, 0]) 5 rfl (by decide) _ 5 _ Q1.out)
    go_wp2_with fail
    refine HC.out.mono ?_
    rintro e w4 ⟨rfl, bq⟩
    clear HC
    have HBc := Lib.hid bq; clear bq
    have HBq : Hid (Below w3.heap.size w3 w4) := HBc.out
    replace HB : Hid (Below w.heap.size w w4) := HB.out.trans (HBq.out.mono HB.out.size)
    replace HR : Hid (RdG w4 (w4).heap.size (some ⟨w.heap.size + 1 + 1 + 1 + 1, 0, none⟩) R) := HR.out.on HBq.out
    replace K0 : Hid ((w4).cell? ⟨w.heap.size + 1 + 1 + 1 + 1 + 1, 0, none⟩ = some (.slice (some ⟨w.heap.size + 1 + 1 + 1 + 1, 0, none⟩) 5 5)) := (HBq.out.cell (World.block_lt_of_cell? _ _ K0.out)).trans K0.out
    replace Q1 : Hid (RdV w4 (w4).heap.size (some ⟨b1, 0, none⟩) (zc (ns [2, 2, 2, 1, 0]))) := Q1.out.on HBq.out
    replace Q2 : Hid (RdV w4 (w4).heap.size (some ⟨b2, 0, none⟩) (zc (ns [1, 1, 1, 0, 0]))) := Q2.out.on HBq.out
    replace Q3 : Hid (RdV w4 (w4).heap.size (some ⟨b3, 0, none⟩) (zc [1, 0, 3, 2, -1])) := Q3.out.on HBq.out
    clear HBq
    clear HBc
    have HC := Lib.hid (siD (ns [1, 1, 1, 0, 0]) 5 rfl (by decide) _ 5 _ Q2.out)
    go_wp2_with fail
    refine HC.out.mono ?_
    rintro e w5 ⟨rfl, bq⟩
    clear HC
    have HBc := Lib.hid bq; clear bq
    have HBq : Hid (Below w4.heap.size w4 w5) := HBc.out
    replace HB : Hid (Below w.heap.size w w5) := HB.out.trans (HBq.out.mono HB.out.size)
    replace HR : Hid (RdG w5 (w5).heap.size (some ⟨w.heap.size + 1 + 1 + 1 + 1, 0, none⟩) R) := HR.out.on HBq.out
    replace K0 : Hid ((w5).cell? ⟨w.heap.size + 1 + 1 + 1 + 1 + 1, 0, none⟩ = some (.slice (some ⟨w.heap.size + 1 + 1 + 1 + 1, 0, none⟩) 5 5)) := (HBq.out.cell (World.block_lt_of_cell? _ _ K0.out)).trans K0.out
    replace Q1 : Hid (RdV w5 (w5).heap.size (some ⟨b1, 0, none⟩) (zc (ns [2, 2, 2, 1, 0]))) := Q1.out.on HBq.out
    replace Q2 : Hid (RdV w5 (w5).heap.size (some ⟨b2, 0, none⟩) (zc (ns [1, 1, 1, 0, 0]))) := Q2.out.on HBq.out
    replace Q3 : Hid (RdV w5 (w5).heap.size (some ⟨b3, 0, none⟩) (zc [1, 0, 3, 2, -1])) := Q3.out.on HBq.out
    clear HBq
    clear HBc
    have HC := Lib.hid (siD [1, 0, 3, 2, -1] 5 rfl (by decide) _ 5 _ Q3.out)
    go_wp2_with fail
    refine HC.out.mono ?_
    rintro e w6 ⟨rfl, bq⟩
    clear HC
    have HBc := Lib.hid bq; clear bq
    have HBq : Hid (Below w5.heap.size w5 w6) := HBc.out
    replace HB : Hid (Below w.heap.size w w6) := HB.out.trans (HBq.out.mono HB.out.size)
    replace HR : Hid (RdG w6 (w6).heap.size (some ⟨w.heap.size + 1 + 1 + 1 + 1, 0, none⟩) R) := HR.out.on HBq.out
    replace K0 : Hid ((w6).cell? ⟨w.heap.size + 1 + 1 + 1 + 1 + 1, 0, none⟩ = some (.slice (some ⟨w.heap.size + 1 + 1 + 1 + 1, 0, none⟩) 5 5)) := (HBq.out.cell (World.block_lt_of_cell? _ _ K0.out)).trans K0.out
    replace Q1 : Hid (RdV w6 (w6).heap.size (some ⟨b1, 0, none⟩) (zc (ns [2, 2, 2, 1, 0]))) := Q1.out.on HBq.out
    replace Q2 : Hid (RdV w6 (w6).heap.size (some ⟨b2, 0, none⟩) (zc (ns [1, 1, 1, 0, 0]))) := Q2.out.on HBq.out
    replace Q3 : Hid (RdV w6 (w6).heap.size (some ⟨b3, 0, none⟩) (zc [1, 0, 3, 2, -1])) := Q3.out.on HBq.out
    clear HBq
    clear HBc
    go_wp2
    go_ret
    exact ⟨rfl, HB.out⟩
end

section
set_option maxRecDepth 100000
set_option linter.unusedVariables false
open Go.RowKit Go.Shelf

theorem co_len {R : List Rw} {g : List (List Nat)} (hg : gs R = g.map ns) : R.length = g.length := by have := congrArg List.length hg; rwa [gs_length, List.length_map] at this
/-- Each node's number, as a list. -/
def CnL (f : Nat → Nat → Bool) (N : Nat) (l : List Nat) : Prop := l.length = N ∧ ∀ x, x < N → Cn f N x (l[x]?.getD 0)
theorem cn_list (f : Nat → Nat → Bool) (N : Nat) : ∃ l, CnL f N l := by
  have h : ∀ x : Nat, ∃ k, x < N → Cn f N x k := fun x => by
    by_cases hx : x < N
    · obtain ⟨k, hk⟩ := Cn.ex f N x hx
      exact ⟨k, fun _ => hk⟩
    · exact ⟨0, fun q => absurd q hx⟩
  obtain ⟨c, hc⟩ := Classical.axiomOfChoice h
  refine ⟨(List.range N).map c, by simp, fun x hx => ?_⟩
  rw [List.getElem?_map, List.getElem?_range hx]
  exact hc x hx
theorem CnL.uniq {f : Nat → Nat → Bool} {N : Nat} {l o : List Nat} (h : CnL f N l) (k : CnL f N o) : o = l := by
  apply List.ext_getElem (by rw [h.1, k.1])
  intro i h1 h2
  have := (k.2 i (by rw [← k.1]; exact h1)).uniq (h.2 i (by rw [← k.1]; exact h1))
  rw [List.getElem?_eq_getElem h1, List.getElem?_eq_getElem h2] at this
  exact this
theorem lw_num (R : List Rw) (g : List (List Nat)) (hg : gs R = g.map ns) (hok : GOk g) (N : Nat) (hN : g.length = N) (l : List Nat) (hl : CnL (near g) N l) (A : Option Addr) (c : Nat) (V : World) (h : RdG V V.heap.size A R) :
    Calls Try.prog 23 #[.agg #[.slice A N c]] V fun e w' => ∃ b, e = .returned (.tuple #[.slice (some ⟨b, 0, none⟩) N N, .int .i64 0]) ∧ RdV w' w'.heap.size (some ⟨b, 0, none⟩) (zc (ns l)) ∧ Below V.heap.size V w' :=
  (cnum_ok R g hg hok N ((co_len hg).trans hN) A c V h).mono fun e w' ⟨b, o, q1, q2, q3, q4, q5⟩ => ⟨b, q1, by rw [hl.uniq ⟨q2, q3⟩] at q4; exact q4, q5⟩
theorem lw_thr (R : List Rw) (g : List (List Nat)) (hg : gs R = g.map ns) (hok : GOk g) (N : Nat) (hN : g.length = N) (A : Option Addr) (c : Nat) (V : World) (h : RdG V V.heap.size A R) :
    Calls Try.prog 24 #[.agg #[.slice A N c]] V fun e w' => ∃ b, e = .returned (.tuple #[.slice (some ⟨b, 0, none⟩) N N, .int .i64 ((trs (near g) N).length : Int), .int .i64 0]) ∧ RdV w' w'.heap.size (some ⟨b, 0, none⟩) (zc (ns (cnl N (trs (near g) N)))) ∧ Below V.heap.size V w' :=
  cthr_ok R g hg hok N ((co_len hg).trans hN) A c V h
theorem lw_pai (R : List Rw) (g : List (List Nat)) (hg : gs R = g.map ns) (hok : GOk g) (N : Nat) (hN : g.length = N) (A : Option Addr) (c : Nat) (V : World) (h : RdG V V.heap.size A R) :
    Calls Try.prog 25 #[.agg #[.slice A N c]] V fun e w' => ∃ b, e = .returned (.tuple #[.slice (some ⟨b, 0, none⟩) N N, .int .i64 0]) ∧ RdV w' w'.heap.size (some ⟨b, 0, none⟩) (zc (pairing (near g) N)) ∧ Below V.heap.size V w' :=
  (cpai_ok R g hg hok N ((co_len hg).trans hN) A c V h).mono fun e w' ⟨b, q1, _, q2, q3⟩ => ⟨b, q1, q2, q3⟩
theorem lw_num_e (R : List Rw) (N : Nat) (hN : R.length = N) (hn : N ≤ 140737488355328) (e0 : Int) (he : grE (gs R) = e0) (h0 : e0 ≠ 0) (A : Option Addr) (c : Nat) (V : World) (h : RdG V V.heap.size A R) :
    Calls Try.prog 23 #[.agg #[.slice A N c]] V fun e w' => e = .returned (.tuple #[.slice none 0 0, .int .i64 e0]) ∧ Below V.heap.size V w' := cnum_e R N hN hn e0 he h0 A c V h
theorem lw_thr_e (R : List Rw) (N : Nat) (hN : R.length = N) (hn : N ≤ 140737488355328) (e0 : Int) (he : grE (gs R) = e0) (h0 : e0 ≠ 0) (A : Option Addr) (c : Nat) (V : World) (h : RdG V V.heap.size A R) :
    Calls Try.prog 24 #[.agg #[.slice A N c]] V fun e w' => e = .returned (.tuple #[.slice none 0 0, .int .i64 0, .int .i64 e0]) ∧ Below V.heap.size V w' := cthr_e R N hN hn e0 he h0 A c V h
theorem lw_pai_e (R : List Rw) (N : Nat) (hN : R.length = N) (hn : N ≤ 140737488355328) (e0 : Int) (he : grE (gs R) = e0) (h0 : e0 ≠ 0) (A : Option Addr) (c : Nat) (V : World) (h : RdG V V.heap.size A R) :
    Calls Try.prog 25 #[.agg #[.slice A N c]] V fun e w' => e = .returned (.tuple #[.slice none 0 0, .int .i64 e0]) ∧ Below V.heap.size V w' := cpai_e R N hN hn e0 he h0 A c V h
theorem lw_near (R : List Rw) (g : List (List Nat)) (hg : gs R = g.map ns) (N : Nat) (hN : g.length = N) (A : Option Addr) (c : Nat) (i j : Nat) (hi : i < N) (hj : j < N) (V : World) (h : RdG V V.heap.size A R) :
    Calls Try.prog 32 #[.agg #[.slice A N c], .int .i64 (i : Int), .int .i64 (j : Int)] V fun e w' => e = .returned (.bool (near g i j)) ∧ Below V.heap.size V w' := near_any R g hg N ((co_len hg).trans hN) A c i j hi hj V h
theorem nsum_bd : ∀ (l : List Nat) (B : Nat), (∀ x ∈ l, x ≤ B) → nsum l ≤ l.length * B
  | [], B, _ => by simp [nsum]
  | x :: t, B, h => by
    have h1 := nsum_bd t B (fun y hy => h y (by simp [hy]))
    have h2 := h x (by simp)
    show x + nsum t ≤ (t.length + 1) * B
    rw [Nat.add_mul]; omega
theorem trs_bd (f : Nat → Nat → Bool) (N : Nat) (hN : N ≤ 100) : (trs f N).length ≤ 1000000 := by
  rw [tr_len, ← tz0_end]
  exact Nat.le_trans (tz0_len f N) (Nat.mul_le_mul hN (Nat.mul_le_mul hN hN))
theorem cnl_sum (f : Nat → Nat → Bool) (N : Nat) : nsum (cnl N (trs f N)) = 3 * (trs f N).length := tcn_sum _ fun t ht => trs_mem.1 ht
/-- A number of a list, read. -/
theorem rd_ns {W : World} {A : Option Addr} {l : List Nat} {N : Nat} (h : RdV W W.heap.size A (zc (ns l))) (hl : l.length = N) {i : Nat} (hi : i < N) : ∃ b off, A = some ⟨b, off, none⟩ ∧ W.cell? ⟨b, off + i, none⟩ = some (.int .i64 ((l[i]?.getD 0 : Nat) : Int)) := by
  obtain ⟨b, off, h1, h2, h3⟩ := h.at_ (zc_getN l i (l[i]?.getD 0) (by rw [List.getElem?_eq_getElem (by omega)]; rfl))
  exact ⟨b, off, h1, h3⟩
theorem rd_at0 {W : World} {b N : Nat} {l : List Nat} (h : RdV W W.heap.size (some ⟨b, 0, none⟩) (zc (ns l))) (hl : l.length = N) {i : Nat} (hi : i < N) : W.cell? ⟨b, i, none⟩ = some (.int .i64 ((l[i]?.getD 0 : Nat) : Int)) := by
  obtain ⟨b', off, h1, h2⟩ := rd_ns h hl hi
  simp only [Option.some.injEq, Addr.mk.injEq, and_true] at h1
  obtain ⟨rfl, rfl⟩ := h1
  rwa [Nat.zero_add] at h2
theorem rd_ati {W : World} {b N : Nat} {l : List Int} (h : RdV W W.heap.size (some ⟨b, 0, none⟩) (zc l)) (hl : l.length = N) {i : Nat} (hi : i < N) : W.cell? ⟨b, i, none⟩ = some (.int .i64 (iv l i)) := by
  obtain ⟨b', off, h1, h2, h3⟩ := h.at_ (zc_get l i (by omega))
  simp only [Option.some.injEq, Addr.mk.injEq, and_true] at h1
  obtain ⟨rfl, rfl⟩ := h1
  rw [Nat.zero_add] at h3
  rw [h3]
  unfold iv
  rw [List.getElem?_eq_getElem (by omega)]; rfl
end
end Go.Proofs.Ytnbjhldpadjgfaa
