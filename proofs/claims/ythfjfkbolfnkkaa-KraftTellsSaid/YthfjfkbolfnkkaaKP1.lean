/- Plain facts about lists of numbers and of bits: sorted lists are one, how much room there is for codes, and what costs least. No condition but those that each fact names. -/
namespace Go.Proofs.Ythfjfkbolfnkkaa
set_option linter.unusedVariables false

/-- Two sorted lists of the same are one. -/
theorem uniq {α : Type} (r : α → α → Prop) : ∀ l1 l2 : List α, l1.Perm l2 → l1.Pairwise r → l2.Pairwise r → (∀ a ∈ l1, ∀ b ∈ l1, r a b → r b a → a = b) → l1 = l2
  | [], l2, h, _, _, _ => (List.nil_perm.1 h).symm
  | a :: t, [], h, _, _, _ => absurd h.symm (by simp [List.nil_perm])
  | a :: t, b :: s, h, h1, h2, ha => by
    have hb : b ∈ a :: t := h.symm.subset (List.mem_cons_self)
    have haa : a ∈ b :: s := h.subset (List.mem_cons_self)
    have e : a = b := by
      rcases List.mem_cons.1 haa with e | e
      · exact e
      · rcases List.mem_cons.1 hb with e' | e'
        · exact e'.symm
        · exact ha a List.mem_cons_self b hb ((List.pairwise_cons.1 h1).1 b e') ((List.pairwise_cons.1 h2).1 a e)
    subst e
    have hp : t.Perm s := List.Perm.cons_inv h
    rw [uniq r t s hp (List.pairwise_cons.1 h1).2 (List.pairwise_cons.1 h2).2 (fun x hx y hy => ha x (List.mem_cons_of_mem _ hx) y (List.mem_cons_of_mem _ hy))]

/-- None begins with the other one. -/
def pf (x y : List Bool) : Prop := ¬ x <+: y ∧ ¬ y <+: x
theorem pf_symm {x y : List Bool} (h : pf x y) : pf y x := ⟨h.2, h.1⟩
def ks (d : Nat) : List (List Bool) → Nat
  | [] => 0
  | c :: t => 2 ^ (d - c.length) + ks d t
def tails (b : Bool) : List (List Bool) → List (List Bool)
  | [] => []
  | [] :: t => tails b t
  | (x :: c) :: t => if x = b then c :: tails b t else tails b t
theorem tails_mem (b : Bool) : ∀ cs c, c ∈ tails b cs → (b :: c) ∈ cs
  | [], c, h => by simp [tails] at h
  | [] :: t, c, h => List.mem_cons_of_mem _ (tails_mem b t c h)
  | (x :: e) :: t, c, h => by
    unfold tails at h
    by_cases hx : x = b
    · rw [if_pos hx] at h
      rcases List.mem_cons.1 h with rfl | h
      · rw [hx]; exact List.mem_cons_self
      · exact List.mem_cons_of_mem _ (tails_mem b t c h)
    · rw [if_neg hx] at h
      exact List.mem_cons_of_mem _ (tails_mem b t c h)
theorem tails_pf (b : Bool) : ∀ cs, cs.Pairwise pf → (tails b cs).Pairwise pf
  | [], _ => .nil
  | [] :: t, h => tails_pf b t (List.pairwise_cons.1 h).2
  | (x :: e) :: t, h => by
    have h2 := List.pairwise_cons.1 h
    unfold tails
    by_cases hx : x = b
    · rw [if_pos hx]
      refine List.pairwise_cons.2 ⟨fun c hc => ?_, tails_pf b t h2.2⟩
      have := h2.1 _ (tails_mem b t c hc)
      subst hx
      exact ⟨fun h => this.1 (List.cons_prefix_cons.2 ⟨rfl, h⟩), fun h => this.2 (List.cons_prefix_cons.2 ⟨rfl, h⟩)⟩
    · rw [if_neg hx]; exact tails_pf b t h2.2
theorem ks_tails (d : Nat) : ∀ cs, (∀ c ∈ cs, c ≠ [] ∧ c.length ≤ d + 1) → ks (d + 1) cs = ks d (tails false cs) + ks d (tails true cs)
  | [], _ => rfl
  | [] :: t, h => absurd rfl (h [] List.mem_cons_self).1
  | (x :: e) :: t, h => by
    have ih := ks_tails d t (fun c hc => h c (List.mem_cons_of_mem _ hc))
    have e1 : d + 1 - (x :: e).length = d - e.length := by simp
    cases x <;> simp [ks, tails] <;> omega
/-- KRAFT; McMILLAN: where none begins with another one there is room for all. -/
theorem kraft_le : ∀ (d : Nat) (cs : List (List Bool)), (∀ c ∈ cs, c.length ≤ d) → cs.Pairwise pf → ks d cs ≤ 2 ^ d := by
  intro d cs h hp
  by_cases hn : [] ∈ cs
  · obtain ⟨a, b, rfl⟩ := List.append_of_mem hn
    have h2 := List.pairwise_append.1 hp
    have ha : a = [] := by
      cases a with
      | nil => rfl
      | cons x t => exact absurd (List.nil_prefix) (h2.2.2 x List.mem_cons_self [] List.mem_cons_self).2
    have hb : b = [] := by
      cases b with
      | nil => rfl
      | cons x t => exact absurd (List.nil_prefix) ((List.pairwise_cons.1 h2.2.1).1 x List.mem_cons_self).1
    subst ha hb
    simp [ks]
  · induction d generalizing cs with
    | zero =>
      cases cs with
      | nil => simp [ks]
      | cons c t =>
        have := h c List.mem_cons_self
        have : c = [] := List.eq_nil_of_length_eq_zero (by omega)
        subst this
        exact absurd List.mem_cons_self hn
    | succ d ih =>
      rw [ks_tails d cs (fun c hc => ⟨fun e => hn (e ▸ hc), h c hc⟩)]
      have key : ∀ b, ks d (tails b cs) ≤ 2 ^ d := by
        intro b
        have hl : ∀ c ∈ tails b cs, c.length ≤ d := fun c hc => by have := h _ (tails_mem b cs c hc); simp at this; omega
        have hq := tails_pf b cs hp
        by_cases hm : [] ∈ tails b cs
        · obtain ⟨a, b', e⟩ := List.append_of_mem hm
          rw [e] at hq ⊢
          have h2 := List.pairwise_append.1 hq
          have ha : a = [] := by
            cases a with
            | nil => rfl
            | cons x t => exact absurd (List.nil_prefix) (h2.2.2 x List.mem_cons_self [] List.mem_cons_self).2
          have hb : b' = [] := by
            cases b' with
            | nil => rfl
            | cons x t => exact absurd (List.nil_prefix) ((List.pairwise_cons.1 h2.2.1).1 x List.mem_cons_self).1
          subst ha hb
          simp [ks]
        · exact ih _ hl hq hm
      have := key false
      have := key true
      rw [Nat.pow_succ]
      omega

/-! ### What costs least -/
def dot : List Nat → List Nat → Nat
  | w :: ws, l :: ls => w * l + dot ws ls
  | _, _ => 0
theorem swap_le (w w2 x m : Nat) (h : w ≤ w2) (k : x ≤ m) : w * m + w2 * x ≤ w * x + w2 * m := by
  obtain ⟨d, rfl⟩ := Nat.exists_eq_add_of_le h
  obtain ⟨e, rfl⟩ := Nat.exists_eq_add_of_le k
  simp only [Nat.mul_add, Nat.add_mul]
  omega
theorem move (m : Nat) : ∀ (a : List Nat) (w : Nat) (ws b : List Nat), (∀ x ∈ a, x ≤ m) → (w :: ws).Pairwise (· ≤ ·) → a.length ≤ ws.length → dot (w :: ws) (m :: (a ++ b)) ≤ dot (w :: ws) (a ++ m :: b)
  | [], w, ws, b, _, _, _ => Nat.le_refl _
  | x :: a, w, [], b, _, _, h => by simp at h
  | x :: a, w, w2 :: ws, b, hx, hs, hl => by
    have h1 := List.pairwise_cons.1 hs
    have ih := move m a w2 ws b (fun y hy => hx y (List.mem_cons_of_mem _ hy)) h1.2 (by simpa using hl)
    have h2 := swap_le w w2 x m (h1.1 w2 List.mem_cons_self) (hx x List.mem_cons_self)
    simp only [List.cons_append, dot] at ih ⊢
    omega
/-- Of greater weights the less: no other order costs less. -/
theorem rearr : ∀ (ds ws ls : List Nat), ws.Pairwise (· ≤ ·) → ds.Pairwise (· ≥ ·) → ls.Perm ds → ws.length = ds.length → dot ws ds ≤ dot ws ls
  | [], ws, ls, _, _, h, _ => by rw [List.perm_nil.1 h]; exact Nat.le_refl _
  | m :: r, [], ls, _, _, _, h => by simp at h
  | m :: r, w :: ws, ls, hw, hd, hp, hl => by
    have hm : m ∈ ls := hp.symm.subset List.mem_cons_self
    obtain ⟨a, b, rfl⟩ := List.append_of_mem hm
    have hab : (a ++ b).Perm r := by
      have : (m :: (a ++ b)).Perm (m :: r) := (List.perm_middle.symm).trans hp
      exact List.Perm.cons_inv this
    have hlen := hab.length_eq
    have hdm := List.pairwise_cons.1 hd
    have h1 := move m a w ws b (fun x hx => by
      have : x ∈ r := hab.subset (List.mem_append_left _ hx)
      exact hdm.1 x this) hw (by simp at hl hlen; omega)
    have h2 := rearr r ws (a ++ b) (List.pairwise_cons.1 hw).2 hdm.2 hab (by simpa using hl)
    simp only [dot] at h1 ⊢
    omega

def ksum (d : Nat) : List Nat → Nat
  | [] => 0
  | l :: t => 2 ^ (d - l) + ksum d t
theorem ksum_append (d : Nat) : ∀ a b, ksum d (a ++ b) = ksum d a + ksum d b
  | [], b => by simp [ksum]
  | x :: a, b => by simp [ksum, ksum_append d a b]; omega
theorem ksum_perm (d : Nat) {a b : List Nat} (h : a.Perm b) : ksum d a = ksum d b := by
  induction h with
  | nil => rfl
  | cons x _ ih => simp [ksum, ih]
  | swap x y l => simp [ksum]; omega
  | trans _ _ i1 i2 => exact i1.trans i2
theorem ksum_scale (d q : Nat) : ∀ l, (∀ x ∈ l, x ≤ d) → ksum (d + q) l = 2 ^ q * ksum d l
  | [], _ => by simp [ksum]
  | x :: t, h => by
    have hx := h x List.mem_cons_self
    have e : d + q - x = q + (d - x) := by omega
    simp only [ksum, ksum_scale d q t (fun y hy => h y (List.mem_cons_of_mem _ hy)), e, Nat.pow_add, Nat.mul_add]
/-- There is room for these lengths. -/
def Kr (l : List Nat) : Prop := ∃ d, (∀ x ∈ l, x ≤ d) ∧ ksum d l ≤ 2 ^ d
theorem Kr.perm {a b : List Nat} (h : a.Perm b) (k : Kr a) : Kr b := by
  obtain ⟨d, h1, h2⟩ := k
  exact ⟨d, fun x hx => h1 x (h.symm.subset hx), by rw [← ksum_perm d h]; exact h2⟩
/-- .. of any depth that is deep enough. -/
theorem Kr.at_ {l : List Nat} (k : Kr l) (d : Nat) (h : ∀ x ∈ l, x ≤ d) : ksum d l ≤ 2 ^ d := by
  obtain ⟨e, h1, h2⟩ := k
  rcases Nat.le_total d e with hde | hde
  · obtain ⟨q, rfl⟩ := Nat.exists_eq_add_of_le hde
    rw [ksum_scale d q l h, Nat.pow_add, Nat.mul_comm] at h2
    exact Nat.le_of_mul_le_mul_right h2 (Nat.two_pow_pos q)
  · obtain ⟨q, rfl⟩ := Nat.exists_eq_add_of_le hde
    rw [ksum_scale e q l h1, Nat.pow_add, Nat.mul_comm]
    exact Nat.mul_le_mul_right _ h2
/-- The two deepest may be as deep. -/
theorem Kr.level {m1 m2 : Nat} {r : List Nat} (k : Kr (m1 :: m2 :: r)) (h1 : m2 ≤ m1) (h2 : ∀ x ∈ r, x ≤ m2) : 2 + ksum m2 r ≤ 2 ^ m2 := by
  have hk := k.at_ m1 (fun x hx => by
    rcases List.mem_cons.1 hx with rfl | hx
    · exact Nat.le_refl _
    · rcases List.mem_cons.1 hx with rfl | hx
      · exact h1
      · exact Nat.le_trans (h2 x hx) h1)
  obtain ⟨q, rfl⟩ := Nat.exists_eq_add_of_le h1
  have hs := ksum_scale m2 q r h2
  simp only [ksum, hs, Nat.sub_self, Nat.pow_zero, show m2 + q - m2 = q by omega] at hk
  rw [Nat.pow_add] at hk
  have hq := Nat.two_pow_pos q
  generalize 2 ^ q = Q at *
  generalize 2 ^ m2 = M at *
  generalize ksum m2 r = S at *
  have : Q * (1 + S) + 1 ≤ Q * M := by rw [Nat.mul_add, Nat.mul_one, Nat.mul_comm Q M]; omega
  have : Q * (1 + S) < Q * M := by omega
  have := Nat.lt_of_mul_lt_mul_left this
  omega
theorem Kr.merge {m2 : Nat} {r : List Nat} (h : 2 + ksum m2 r ≤ 2 ^ m2) (h2 : ∀ x ∈ r, x ≤ m2) : 1 ≤ m2 ∧ Kr (r ++ [m2 - 1]) := by
  have h0 : 1 ≤ m2 := by
    rcases Nat.eq_zero_or_pos m2 with rfl | h'
    · simp at h; omega
    · exact h'
  refine ⟨h0, m2, fun x hx => ?_, ?_⟩
  · rcases List.mem_append.1 hx with hx | hx
    · exact h2 x hx
    · simp at hx; omega
  · rw [ksum_append]
    have : m2 - (m2 - 1) = 1 := by omega
    simp only [ksum, this]
    omega

def ins (x : Nat) : List Nat → List Nat
  | [] => [x]
  | y :: t => if x ≤ y then x :: y :: t else y :: ins x t
def isort : List Nat → List Nat
  | [] => []
  | x :: t => ins x (isort t)
theorem ins_perm (x : Nat) : ∀ t, (ins x t).Perm (x :: t)
  | [] => .refl _
  | y :: t => by
    unfold ins
    split
    · exact .refl _
    · exact ((ins_perm x t).cons y).trans (.swap x y t)
theorem isort_perm : ∀ l, (isort l).Perm l
  | [] => .refl _
  | x :: t => (ins_perm x _).trans ((isort_perm t).cons x)
theorem ins_sorted (x : Nat) : ∀ t, t.Pairwise (· ≤ ·) → (ins x t).Pairwise (· ≤ ·)
  | [], _ => by simp [ins]
  | y :: t, h => by
    have h1 := List.pairwise_cons.1 h
    unfold ins
    by_cases hx : x ≤ y
    · rw [if_pos hx]
      refine List.pairwise_cons.2 ⟨fun z hz => ?_, h⟩
      rcases List.mem_cons.1 hz with rfl | hz
      · exact hx
      · exact Nat.le_trans hx (h1.1 z hz)
    · rw [if_neg hx]
      refine List.pairwise_cons.2 ⟨fun z hz => ?_, ins_sorted x t h1.2⟩
      rcases List.mem_cons.1 ((ins_perm x t).subset hz) with rfl | hz
      · omega
      · exact h1.1 z hz
theorem isort_sorted : ∀ l, (isort l).Pairwise (· ≤ ·)
  | [] => .nil
  | x :: t => ins_sorted x _ (isort_sorted t)
theorem isort_eq {a b : List Nat} (h : a.Perm b) : isort a = isort b :=
  uniq (· ≤ ·) _ _ ((isort_perm a).trans (h.trans (isort_perm b).symm)) (isort_sorted a) (isort_sorted b) (fun x _ y _ h1 h2 => Nat.le_antisymm h1 h2)
theorem isort_id {a : List Nat} (h : a.Pairwise (· ≤ ·)) : isort a = a :=
  uniq (· ≤ ·) _ _ (isort_perm a) (isort_sorted a) h (fun x _ y _ h1 h2 => Nat.le_antisymm h1 h2)

def insP (p : Nat × Nat) : List (Nat × Nat) → List (Nat × Nat)
  | [] => [p]
  | q :: t => if p.1 ≤ q.1 then p :: q :: t else q :: insP p t
def psort : List (Nat × Nat) → List (Nat × Nat)
  | [] => []
  | x :: t => insP x (psort t)
theorem insP_perm (x : Nat × Nat) : ∀ t, (insP x t).Perm (x :: t)
  | [] => .refl _
  | y :: t => by
    unfold insP
    split
    · exact .refl _
    · exact ((insP_perm x t).cons y).trans (.swap x y t)
theorem psort_perm : ∀ l, (psort l).Perm l
  | [] => .refl _
  | x :: t => (insP_perm x _).trans ((psort_perm t).cons x)
theorem insP_fst (p : Nat × Nat) : ∀ t, (insP p t).map (·.1) = ins p.1 (t.map (·.1))
  | [] => rfl
  | q :: t => by
    unfold insP
    simp only [List.map_cons, ins]
    split
    · rfl
    · simp [insP_fst p t]
theorem psort_fst : ∀ l, (psort l).map (·.1) = isort (l.map (·.1))
  | [] => rfl
  | x :: t => by simp only [psort, insP_fst, psort_fst t, List.map_cons, isort]

def costp : List (Nat × Nat) → Nat
  | [] => 0
  | p :: t => p.1 * p.2 + costp t
theorem costp_perm {a b : List (Nat × Nat)} (h : a.Perm b) : costp a = costp b := by
  induction h with
  | nil => rfl
  | cons x _ ih => simp [costp, ih]
  | swap x y l => simp [costp]; omega
  | trans _ _ i1 i2 => exact i1.trans i2
theorem costp_append : ∀ a b, costp (a ++ b) = costp a + costp b
  | [], b => by simp [costp]
  | x :: a, b => by simp [costp, costp_append a b]; omega
theorem costp_dot : ∀ l : List (Nat × Nat), costp l = dot (l.map (·.1)) (l.map (·.2))
  | [] => rfl
  | p :: t => by simp [costp, dot, costp_dot t]
theorem costp_zip : ∀ a b : List Nat, costp (a.zip b) = dot a b
  | [], b => by cases b <;> rfl
  | x :: a, [] => rfl
  | x :: a, y :: b => by simp [costp, dot, costp_zip a b]

/-- What joining the two least, again and again, costs. -/
def hcs : Nat → List Nat → Nat
  | 0, _ => 0
  | n + 1, l => match isort l with
    | a :: b :: t => (a + b) + hcs n (t ++ [a + b])
    | _ => 0

/-- The greatest first. -/
def dsort (l : List Nat) : List Nat := (isort l).reverse
theorem dsort_perm (l : List Nat) : (dsort l).Perm l := (List.reverse_perm _).trans (isort_perm l)
theorem dsort_sorted (l : List Nat) : (dsort l).Pairwise (· ≥ ·) := List.pairwise_reverse.2 (isort_sorted l)

/-- HUFFMAN: no lengths for which there is room cost less. -/
theorem huffman : ∀ (n : Nat) (ps : List (Nat × Nat)), ps.length = n + 1 → Kr (ps.map (·.2)) → hcs n (ps.map (·.1)) ≤ costp ps := by
  intro n
  induction n with
  | zero => intro ps _ _; exact Nat.zero_le _
  | succ n ih =>
    intro ps hl hk
    have hp := psort_perm ps
    have hf := psort_fst ps
    have hlen : (psort ps).length = n + 2 := by rw [hp.length_eq, hl]
    rw [← costp_perm hp, costp_dot]
    have hk' : Kr ((psort ps).map (·.2)) := hk.perm (hp.symm.map _)
    have hs : ((psort ps).map (·.1)).Pairwise (· ≤ ·) := by rw [hf]; exact isort_sorted _
    unfold hcs
    rw [← hf]
    generalize psort ps = qs at *
    generalize hws : qs.map (·.1) = ws at *
    generalize hls : qs.map (·.2) = ls at *
    have l1 : ws.length = n + 2 := by rw [← hws, List.length_map]; exact hlen
    have l2 : ls.length = n + 2 := by rw [← hls, List.length_map]; exact hlen
    have hr := rearr (dsort ls) ws ls hs (dsort_sorted ls) (dsort_perm ls).symm (by rw [(dsort_perm ls).length_eq]; omega)
    have hk2 : Kr (dsort ls) := hk'.perm (dsort_perm ls).symm
    have hd := dsort_sorted ls
    have l3 : (dsort ls).length = n + 2 := by rw [(dsort_perm ls).length_eq]; exact l2
    generalize dsort ls = ds at *
    match ws, ds, l1, l3, hs, hr, hk2, hd with
    | a :: b :: t, m1 :: m2 :: r, l1, l3, hs, hr, hk2, hd =>
      have d1 := List.pairwise_cons.1 hd
      have d2 := List.pairwise_cons.1 d1.2
      have h12 : m2 ≤ m1 := d1.1 m2 List.mem_cons_self
      have hlev := hk2.level h12 d2.1
      obtain ⟨hm, hkr⟩ := Kr.merge hlev d2.1
      have lt : t.length = n := by simpa using l1
      have lr : r.length = n := by simpa using l3
      have hi := ih (t.zip r ++ [(a + b, m2 - 1)]) (by simp [lt, lr]) (by
        rw [List.map_append, List.map_snd_zip (by omega)]
        exact hkr)
      rw [List.map_append, List.map_fst_zip (by omega), costp_append, costp_zip] at hi
      simp only [dot] at hr
      simp only [costp, List.map_cons, List.map_nil] at hi
      have e1 : a * m2 ≤ a * m1 := Nat.mul_le_mul_left a h12
      have e2 : (a + b) * m2 = (a + b) * (m2 - 1) + (a + b) := by
        conv => lhs; rw [show m2 = (m2 - 1) + 1 by omega]
        rw [Nat.mul_add, Nat.mul_one]
      rw [Nat.add_mul] at e2
      show (a + b) + hcs n (t ++ [a + b]) ≤ _
      omega
end Go.Proofs.Ythfjfkbolfnkkaa
