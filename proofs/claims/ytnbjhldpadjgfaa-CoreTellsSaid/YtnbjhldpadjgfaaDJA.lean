/- math/bits.Mul of one and a small number; slices.Repeat of one number. -/
import Derived.Test.YtnbjhldpadjgfaaNMem
import Derived.Laws.Bits64b
import Derived.Laws.CopyOwn
import Derived.Deep.RegionLaw
import Derived.Test.YtnbjhldpadjgfaaWPure
import Derived.Test.YtnbjhldpadjgfaaNChk
import Derived.Test.YtnbjhldpadjgfaaWEnd
namespace Go.Proofs.Ytnbjhldpadjgfaa

section
set_option maxRecDepth 100000
set_option linter.unusedVariables false
open Go.RowKit Go.Shelf

set_option maxHeartbeats 1000000 in
theorem mul64_one (n : Nat) (hn : n ≤ 1000) (w : World) : Calls Try.prog 101 #[.int .u64 1, .int .u64 (n : Int)] w fun e w' => e = .returned (.tuple #[.int .u64 0, .int .u64 (n : Int)]) ∧ w = w' := by
  have a1 : bits .and .u64 (n : Int) 4294967295 = (n : Int) := by
    have h := bits_and_u64_nat n 4294967295 (by omega) (by omega)
    rw [show n &&& 4294967295 = n % 4294967296 from Nat.and_two_pow_sub_one_eq_mod n 32, Nat.mod_eq_of_lt (by omega)] at h
    exact h
  have a2 : bits .and .u64 1 4294967295 = 1 := by decide
  have a3 : bits .and .u64 0 4294967295 = 0 := by decide
  have a4 : (n : Int) / 4294967296 = 0 := by omega
  have a5 : IntKind.u64.wrap (n : Int) = (n : Int) := by rw [IntKind.wrap_u64]; omega
  clear hn
  go_enter Try.func101, Try.ntmps101
  go_wp2
  go_ret2
  exact ⟨rfl, rfl⟩
theorem mul_one_any (n : Nat) (hn : n ≤ 1000) (w : World) : Calls Try.prog 91 #[.int .u64 1, .int .u64 (n : Int)] w fun e w' => e = .returned (.tuple #[.int .u64 0, .int .u64 (n : Int)]) ∧ w = w' := by
  have HM := Lib.hid (mul64_one n hn w)
  clear hn
  go_enter Try.func91, Try.ntmps91
  go_wp2_with fail
  refine HM.out.mono ?_
  rintro e w1 ⟨rfl, rfl⟩
  go_wp2
  go_ret2
  exact ⟨rfl, rfl⟩
end

section
set_option linter.unusedVariables false

/-- A way of so many arcs leads from s to x. -/
def Rc (g : List (List Nat)) (s : Nat) : Nat → Nat → Prop
  | 0, x => x = s
  | d + 1, x => ∃ y, Rc g s d y ∧ x ∈ row g y
/-- All that lists name are nodes. -/
def Bdd (g : List (List Nat)) : Prop := ∀ i, ∀ x ∈ row g i, x < g.length
theorem row_lt {g : List (List Nat)} {i x : Nat} (h : x ∈ row g i) : i < g.length := by
  rcases Nat.lt_or_ge i g.length with h1 | h1
  · exact h1
  · rw [row_out h1] at h; simp at h
theorem GOk.bdd {g : List (List Nat)} (h : GOk g) : Bdd g := fun i x hx => h.bd _ (row_mem (row_lt hx)) x hx
theorem rc_bd {g : List (List Nat)} {s : Nat} (hb : Bdd g) (hs : s < g.length) : ∀ d x, Rc g s d x → x < g.length
  | 0, x, h => by cases h; exact hs
  | d + 1, x, ⟨y, _, h⟩ => hb y x h
theorem rc_trans {g : List (List Nat)} {s m : Nat} : ∀ (a b x : Nat), Rc g s a m → Rc g m b x → Rc g s (a + b) x
  | a, 0, x, h1, h2 => by cases h2; exact h1
  | a, b + 1, x, h1, ⟨y, h2, h3⟩ => ⟨y, rc_trans a b y h1 h2, h3⟩
theorem rc_one {g : List (List Nat)} {y x : Nat} (h : x ∈ row g y) : Rc g y 1 x := ⟨y, rfl, h⟩
theorem rc_head {g : List (List Nat)} {s y x : Nat} {d : Nat} (h1 : y ∈ row g s) (h2 : Rc g y d x) : Rc g s (d + 1) x := by
  have := rc_trans 1 d x (rc_one h1) h2
  rwa [Nat.add_comm] at this
theorem rc_uncons {g : List (List Nat)} : ∀ (d s x : Nat), Rc g s (d + 1) x → ∃ y, y ∈ row g s ∧ Rc g y d x
  | 0, s, x, ⟨y, h1, h2⟩ => by cases h1; exact ⟨x, h2, rfl⟩
  | d + 1, s, x, ⟨y, h1, h2⟩ => by
    obtain ⟨z, h3, h4⟩ := rc_uncons d s y h1
    exact ⟨z, h3, y, h4, h2⟩
theorem rc_mono {g k : List (List Nat)} (h : ∀ i x, x ∈ row g i → x ∈ row k i) {s : Nat} : ∀ d x, Rc g s d x → Rc k s d x
  | 0, _, h1 => h1
  | d + 1, _, ⟨y, h1, h2⟩ => ⟨y, rc_mono h d y h1, h y _ h2⟩
/-- The other way round. -/
theorem rc_rev {g k : List (List Nat)} (h : ∀ i x, x ∈ row g i → i ∈ row k x) : ∀ (d s x : Nat), Rc g s d x → Rc k x d s
  | 0, _, _, h1 => Eq.symm h1
  | d + 1, s, x, ⟨y, h1, h2⟩ => rc_head (h y x h2) (rc_rev h d s y h1)
/-- What stands for a node. -/
def fv (f : List Int) (x : Nat) : Int := f[x]?.getD (-1)
/-- How far each node is from s: -1 where no way leads. -/
structure Fa (g : List (List Nat)) (s : Nat) (f : List Int) : Prop where
  len : f.length = g.length
  val : ∀ x, x < g.length → (fv f x = -1 ∧ ∀ d, ¬ Rc g s d x) ∨ ∃ d : Nat, fv f x = (d : Int) ∧ Rc g s d x ∧ ∀ e, Rc g s e x → d ≤ e
theorem Fa.uniq {g : List (List Nat)} {s : Nat} {f k : List Int} (h1 : Fa g s f) (h2 : Fa g s k) : f = k := by
  apply List.ext_getElem (h1.len.trans h2.len.symm)
  intro x a b
  have hx : x < g.length := h1.len ▸ a
  have e1 : fv f x = f[x] := by unfold fv; rw [List.getElem?_eq_getElem a]; rfl
  have e2 : fv k x = k[x] := by unfold fv; rw [List.getElem?_eq_getElem b]; rfl
  rw [← e1, ← e2]
  rcases h1.val x hx with ⟨q1, q2⟩ | ⟨d, q1, q2, q3⟩
  · rcases h2.val x hx with ⟨r1, r2⟩ | ⟨e, r1, r2, r3⟩
    · rw [q1, r1]
    · exact absurd r2 (q2 e)
  · rcases h2.val x hx with ⟨r1, r2⟩ | ⟨e, r1, r2, r3⟩
    · exact absurd q2 (r2 d)
    · have := q3 e r2; have := r3 d q2
      rw [q1, r1]; omega
theorem least_ex {P : Nat → Prop} : ∀ n, P n → ∃ d, P d ∧ ∀ e, P e → d ≤ e := by
  intro n
  induction n using Nat.strongRecOn with
  | _ n ih =>
    intro h
    by_cases hx : ∃ m, m < n ∧ P m
    · obtain ⟨m, h1, h2⟩ := hx
      exact ih m h1 h2
    · exact ⟨n, h, fun e he => by
        rcases Nat.lt_or_ge e n with h1 | h1
        · exact absurd ⟨e, h1, he⟩ hx
        · exact h1⟩
theorem fa_ex (g : List (List Nat)) (s : Nat) : ∃ f, Fa g s f := by
  have h : ∀ n, ∃ f : List Int, f.length = n ∧ ∀ x, x < n → (fv f x = -1 ∧ ∀ d, ¬ Rc g s d x) ∨ ∃ d : Nat, fv f x = (d : Int) ∧ Rc g s d x ∧ ∀ e, Rc g s e x → d ≤ e := by
    intro n
    induction n with
    | zero => exact ⟨[], rfl, fun x hx => absurd hx (Nat.not_lt_zero _)⟩
    | succ n ih =>
      obtain ⟨f, h1, h2⟩ := ih
      have keep : ∀ v : Int, ∀ x, x < n → fv (f ++ [v]) x = fv f x := fun v x hx => by
        unfold fv; rw [List.getElem?_append_left (by omega)]
      have last : ∀ v : Int, fv (f ++ [v]) n = v := fun v => by unfold fv; rw [← h1]; simp
      by_cases hx : ∃ d, Rc g s d n
      · obtain ⟨d0, hd0⟩ := hx
        obtain ⟨d, hd, hm⟩ := least_ex (P := fun d => Rc g s d n) d0 hd0
        refine ⟨f ++ [(d : Int)], by simp [h1], fun x hx => ?_⟩
        rcases Nat.lt_or_ge x n with hl | hl
        · rw [keep _ x hl]; exact h2 x hl
        · obtain rfl : x = n := by omega
          exact .inr ⟨d, last _, hd, hm⟩
      · refine ⟨f ++ [-1], by simp [h1], fun x hx' => ?_⟩
        rcases Nat.lt_or_ge x n with hl | hl
        · rw [keep _ x hl]; exact h2 x hl
        · obtain rfl : x = n := by omega
          exact .inl ⟨last _, fun d hd => hx ⟨d, hd⟩⟩
  obtain ⟨f, h1, h2⟩ := h g.length
  exact ⟨f, h1, h2⟩
theorem Fa.zero {g : List (List Nat)} {s : Nat} {f : List Int} (h : Fa g s f) (hs : s < g.length) : fv f s = 0 := by
  rcases h.val s hs with ⟨_, q⟩ | ⟨d, q1, q2, q3⟩
  · exact absurd rfl (q 0)
  · have := q3 0 rfl
    rw [q1]; omega
theorem Fa.ge {g : List (List Nat)} {s : Nat} {f : List Int} (h : Fa g s f) (x : Nat) : -1 ≤ fv f x := by
  rcases Nat.lt_or_ge x g.length with hx | hx
  · rcases h.val x hx with ⟨q, _⟩ | ⟨d, q1, q2, q3⟩ <;> omega
  · unfold fv; rw [List.getElem?_eq_none (by rw [h.len]; exact hx)]; decide
/-- It is come to just where the number is no less than 0. -/
theorem Fa.reach {g : List (List Nat)} {s : Nat} {f : List Int} (h : Fa g s f) (x : Nat) (hx : x < g.length) : 0 ≤ fv f x ↔ ∃ d, Rc g s d x := by
  rcases h.val x hx with ⟨q1, q2⟩ | ⟨d, q1, q2, q3⟩
  · constructor
    · intro h; omega
    · rintro ⟨d, hd⟩; exact absurd hd (q2 d)
  · exact ⟨fun _ => ⟨d, q2⟩, fun _ => by omega⟩
theorem Fa.le {g : List (List Nat)} {s : Nat} {f : List Int} (h : Fa g s f) {x d : Nat} (hx : x < g.length) (hd : Rc g s d x) : 0 ≤ fv f x ∧ fv f x ≤ (d : Int) := by
  rcases h.val x hx with ⟨q1, q2⟩ | ⟨e, q1, q2, q3⟩
  · exact absurd hd (q2 d)
  · have := q3 d hd; omega
theorem Fa.way {g : List (List Nat)} {s : Nat} {f : List Int} (h : Fa g s f) {x : Nat} (hx : x < g.length) (h0 : 0 ≤ fv f x) : ∃ d : Nat, fv f x = (d : Int) ∧ Rc g s d x := by
  rcases h.val x hx with ⟨q1, q2⟩ | ⟨e, q1, q2, q3⟩
  · omega
  · exact ⟨e, q1, q2⟩
/-- No arc leads more than a step farther. -/
theorem Fa.step {g : List (List Nat)} {s : Nat} {f : List Int} (h : Fa g s f) (hb : Bdd g) {x y : Nat} (h0 : 0 ≤ fv f x) (hy : y ∈ row g x) : 0 ≤ fv f y ∧ fv f y ≤ fv f x + 1 := by
  obtain ⟨d, h1, h2⟩ := h.way (row_lt hy) h0
  have := h.le (hb x y hy) (d := d + 1) ⟨x, h2, hy⟩
  omega
/-- To each other one that is come to an arc leads that leads just a step farther. -/
theorem Fa.pred {g : List (List Nat)} {s : Nat} {f : List Int} (h : Fa g s f) (hb : Bdd g) {x : Nat} (hx : x < g.length) (h0 : 0 ≤ fv f x) (hne : x ≠ s) : ∃ y, y < g.length ∧ 0 ≤ fv f y ∧ fv f y + 1 = fv f x ∧ x ∈ row g y := by
  rcases h.val x hx with ⟨q1, q2⟩ | ⟨d, q1, q2, q3⟩
  · omega
  · cases d with
    | zero => exact absurd q2 hne
    | succ d =>
      obtain ⟨y, r1, r2⟩ := q2
      have hy := row_lt r2
      obtain ⟨a1, a2⟩ := h.le hy r1
      obtain ⟨e, b1, b2⟩ := h.way hy a1
      have := q3 (e + 1) ⟨y, b2, r2⟩
      exact ⟨y, hy, a1, by omega, r2⟩
/-- A list that steps as the arcs do is how far each node is. -/
theorem Fa.of {g : List (List Nat)} {s : Nat} {f : List Int} (hb : Bdd g) (hs : s < g.length) (hl : f.length = g.length) (h0 : fv f s = 0)
    (hv : ∀ x, x < g.length → fv f x = -1 ∨ 0 ≤ fv f x)
    (hst : ∀ x, 0 ≤ fv f x → ∀ y ∈ row g x, 0 ≤ fv f y ∧ fv f y ≤ fv f x + 1)
    (hp : ∀ x, x < g.length → 0 ≤ fv f x → (x = s ∧ fv f x = 0) ∨ ∃ y, 0 ≤ fv f y ∧ fv f y + 1 = fv f x ∧ x ∈ row g y) : Fa g s f := by
  have up : ∀ d x, Rc g s d x → 0 ≤ fv f x ∧ fv f x ≤ (d : Int) := by
    intro d
    induction d with
    | zero => intro x h; cases h; omega
    | succ d ih =>
      rintro x ⟨y, h1, h2⟩
      have := ih y h1
      have := hst y this.1 x h2
      omega
  have down : ∀ (d : Nat) x, x < g.length → fv f x = (d : Int) → Rc g s d x := by
    intro d
    induction d with
    | zero =>
      intro x hx h
      rcases hp x hx (by omega) with ⟨h1, _⟩ | ⟨y, h1, h2, _⟩
      · exact h1
      · omega
    | succ d ih =>
      intro x hx h
      rcases hp x hx (by omega) with ⟨_, h1⟩ | ⟨y, h1, h2, h3⟩
      · omega
      · exact ⟨y, ih y (row_lt h3) (by omega), h3⟩
  refine ⟨hl, fun x hx => ?_⟩
  rcases hv x hx with h | h
  · exact .inl ⟨h, fun d hd => by have := up d x hd; omega⟩
  · obtain ⟨d, hd⟩ := Int.eq_ofNat_of_zero_le h
    exact .inr ⟨d, hd, down d x hx hd, fun e he => by have := up e x he; omega⟩
/-- All numbers up to one that stands for a node stand for some. -/
theorem Fa.all {g : List (List Nat)} {s : Nat} {f : List Int} (h : Fa g s f) (hb : Bdd g) (hs : s < g.length) : ∀ (d : Nat) x, x < g.length → fv f x = (d : Int) → ∀ e : Nat, e ≤ d → ∃ y, y < g.length ∧ fv f y = (e : Int)
  | 0, x, hx, hd, e, he => ⟨x, hx, by omega⟩
  | d + 1, x, hx, hd, e, he => by
    by_cases q : e = d + 1
    · exact ⟨x, hx, by omega⟩
    · have hne : x ≠ s := fun e => by rw [e, h.zero hs] at hd; omega
      obtain ⟨y, h1, h2, h3, _⟩ := h.pred hb hx (by omega) hne
      exact Fa.all h hb hs d y h1 (by omega) e (by omega)
/-- Different nodes below n are no more than n. -/
theorem nodup_le (n : Nat) : ∀ (l : List Nat), l.Nodup → (∀ x ∈ l, x < n) → l.length ≤ n := by
  induction n with
  | zero => intro l _ h; cases l with
    | nil => simp
    | cons x t => exact absurd (h x (by simp)) (Nat.not_lt_zero _)
  | succ n ih =>
    intro l hn hb
    have h1 : (l.erase n).Nodup := hn.erase n
    have h2 : ∀ x ∈ l.erase n, x < n := fun x hx => by
      have hm := (hn.mem_erase_iff).1 hx
      have := hb x hm.2
      have := hm.1
      omega
    have h3 := ih _ h1 h2
    have h4 : l.length ≤ (l.erase n).length + 1 := by rw [List.length_erase]; split <;> omega
    omega
/-- No node is as far as there are nodes. -/
theorem Fa.lt {g : List (List Nat)} {s : Nat} {f : List Int} (h : Fa g s f) (hb : Bdd g) (hs : s < g.length) (x : Nat) (hx : x < g.length) : fv f x < (g.length : Int) := by
  rcases Int.lt_or_le (fv f x) 0 with q | q
  · omega
  obtain ⟨d, hd⟩ := Int.eq_ofNat_of_zero_le q
  have ha := h.all hb hs d x hx hd
  have hex : ∀ n, n ≤ d + 1 → ∃ l : List Nat, l.length = n ∧ l.Nodup ∧ ∀ y ∈ l, y < g.length ∧ 0 ≤ fv f y ∧ fv f y < (n : Int) := by
    intro n
    induction n with
    | zero => intro _; exact ⟨[], rfl, .nil, by simp⟩
    | succ n ih =>
      intro hn
      obtain ⟨l, h1, h2, h3⟩ := ih (by omega)
      obtain ⟨y, hy, hyv⟩ := ha n (by omega)
      refine ⟨y :: l, by simp [h1], List.nodup_cons.2 ⟨fun hm => by have := (h3 y hm).2.2; omega, h2⟩, fun z hz => ?_⟩
      rcases List.mem_cons.1 hz with rfl | hz
      · exact ⟨hy, by omega, by omega⟩
      · have := h3 z hz; exact ⟨this.1, this.2.1, by omega⟩
  obtain ⟨l, h1, h2, h3⟩ := hex (d + 1) (Nat.le_refl _)
  have := nodup_le g.length l h2 (fun y hy => (h3 y hy).1)
  omega
end

section
set_option maxRecDepth 100000
set_option linter.unusedVariables false
open Go.RowKit Go.Shelf

theorem info_intD : (Try.prog.info? 3).map (fun i => (i.zero, i.size, i.bytes)) = some (some (.int .i64 0), 1, 8) := by kernel_rfl
theorem fv_get (f : List Int) (i : Nat) (h : i < f.length) : (zc f)[i]? = some (.int .i64 (fv f i)) := by
  unfold zc fv; rw [List.getElem?_map, List.getElem?_eq_getElem h]; rfl
/-- A list of numbers in a row of the call's own, whole. -/
structure Ow (w0 W : World) (g : Nat) (f : List Int) : Prop where
  low : Below w0.heap.size w0 W
  ge : w0.heap.size ≤ g
  row : W.heap[g]? = some (.cells (zc f).toArray 3 (0, 0))
theorem Ow.lt {w0 W : World} {g : Nat} {f : List Int} (h : Ow w0 W g f) : g < W.heap.size := (Array.getElem?_eq_some_iff.1 h.row).1
theorem Ow.cell {w0 W : World} {g : Nat} {f : List Int} (h : Ow w0 W g f) (i : Nat) (hi : i < f.length) : W.cell? ⟨g, i, none⟩ = some (.int .i64 (fv f i)) ∧ W.frozen? ⟨g, i, none⟩ = false := by
  refine ⟨(cell_at h.row i).trans ?_, frz_at h.row i⟩
  rw [List.getElem?_toArray]; exact fv_get f i hi
theorem Ow.set {w0 W : World} {g : Nat} {f : List Int} (h : Ow w0 W g f) (i : Nat) (x : Int) : Ow w0 (W.setCell ⟨g, i, none⟩ (.int .i64 x)) g (f.set i x) := by
  refine ⟨h.low.setCell (p := ⟨g, i, none⟩) h.ge _, h.ge, ?_⟩
  rw [heap_set_same _ _ _ _ _ _ h.row, List.setIfInBounds_toArray]
  unfold zc
  rw [List.map_set]
theorem Ow.on {w0 W X : World} {g : Nat} {f : List Int} (h : Ow w0 W g f) (hb : Below W.heap.size W X) : Ow w0 X g f :=
  ⟨h.low.trans (hb.mono h.low.size), h.ge, (hb.block _ h.lt).trans h.row⟩
theorem Ow.drew {w0 W : World} {g : Nat} {f : List Int} (h : Ow w0 W g f) : Ow w0 W.drew g f := ⟨h.low.drew, h.ge, h.row⟩
theorem Ow.keep {w0 W X : World} {g : Nat} {f : List Int} (h : Ow w0 W g f) (hl : Below w0.heap.size w0 X) (hk : X.heap[g]? = W.heap[g]?) : Ow w0 X g f := ⟨hl, h.ge, hk.trans h.row⟩
theorem Ow.rd {w0 W : World} {g : Nat} {f : List Int} (h : Ow w0 W g f) : RdV W W.heap.size (some ⟨g, 0, none⟩) (zc f) := by
  refine .inr ⟨g, 0, rfl, h.lt, fun i v hi => ?_⟩
  rw [cell_at h.row, Nat.zero_add, List.getElem?_toArray]; exact hi
theorem Ow.of_own {w0 W : World} {g n : Nat} {f : List Int} (hb : Below w0.heap.size w0 W) (h : W.ownsRow w0.heap.size 3 1 (.slice (some ⟨g, 0, none⟩) n n) n (zc f)) : Ow w0 W g f := by
  rcases h.2 with ⟨h0, _⟩ | ⟨g', cap, cur, he, h1, h2, h3, h4, h5, h6⟩
  · cases h0
  · simp only [Value.slice.injEq, Option.some.injEq, Addr.mk.injEq, and_true] at he
    obtain ⟨rfl, _, rfl⟩ := he
    refine ⟨hb, h1, ?_⟩
    have : cur = (zc f).toArray := by
      rw [← h6, List.take_of_length_le (by rw [Array.length_toList, h5]; omega)]
    rw [h2, this]

/-- copy into a row of the call's own, as one step of a region that draws. -/
theorem step_copyD {P : Program} {ops : Array Oper} {o : Oper} {a : Act} {w : World} {K : Act → World → Prop} {Q : Exit → Act → World → Prop} {E : Prop}
    (hg : o.guard = none) (d s : Operand) (dT sT : TypeId) (hop : o.op = .call { callee := .builtin .copy, args := #[d, s], argTypes := #[dT, sT] }) (elem : TypeId) (hu : P.underlying dT = some (.slice elem)) (hsz : (P.info? elem).map (·.size) = some 1)
    (g off dLen dCap : Nat) (ad : Addr) (sLen sCap : Nat) (hd : a.eval d = .slice (some ⟨g, off, none⟩) dLen dCap) (hs : a.eval s = .slice (some ad) sLen sCap)
    (cur : Array Value) (t : TypeId) (hgc : w.heap[g]? = some (.cells cur t (0, 0))) (cs : List Value) (hn : cs.length = Nat.min sLen dLen)
    (hsrc : ∀ j v, cs[j]? = some v → w.cell? (ad.add j) = some v) (hfit : off + cs.length ≤ cur.size) (h1 : ∀ v ∈ cs, v.oneCell' = true) (M : Nat) (hM : cs.length = M)
    (hK : ∀ V, V.heap[g]? = some (.cells (cur.toList.take off ++ cs ++ cur.toList.drop (off + cs.length)).toArray t (0, 0)) → Below g w V → K (a.put o.dst (goInt M)) V) : if Region.wanted o (yielded ops a.tmps) = true then Oper.wp P o a w K Q else E := by
  have hw : Region.wanted o (yielded ops a.tmps) = true := by simp [Region.wanted, hg]
  rw [if_pos hw]
  have hrun := run_copy_row (P := P) w dT sT o.type elem g off dLen dCap ad sLen sCap cur t cs hu hsz hgc hn hsrc hfit h1
  unfold Oper.wp
  simp only [execOp, hop, resolve, invoke, builtin, List.map_toArray, List.map_cons, List.map_nil, hd, hs, hrun, Sem.run_bind, Sem.run_pure, Result.andThen_ok]
  rw [hM]
  refine hK _ ?_ (below_setRow (Below.refl _ _) (Nat.le_refl _) _)
  subst hM
  simp [World.setRow, Array.getElem?_modify, hgc]

theorem one_srcD {w : World} {b off : Nat} {x : Value} (h : w.cell? ⟨b, off + 0, none⟩ = some x) : ∀ j v, [x][j]? = some v → w.cell? ((⟨b, off, none⟩ : Addr).add j) = some v := by
  intro j v hj
  cases j with
  | zero =>
    simp at hj
    subst hj
    rw [show (⟨b, off, none⟩ : Addr).add 0 = ⟨b, off + 0, none⟩ by unfold Addr.add; split <;> simp_all]
    exact h
  | succ j => simp at hj
/-- So far as it is copied. -/
def reps (n k : Nat) : List Int := List.replicate k (-1) ++ List.replicate (n - k) 0
theorem reps_length (n k : Nat) (h : k ≤ n) : (reps n k).length = n := by simp [reps]; omega
theorem reps_copy (n k m : Nat) (h : k + m ≤ n) : ((zc (reps n k)).take k ++ zc (List.replicate m (-1)) ++ (zc (reps n k)).drop (k + m)) = zc (reps n (k + m)) := by
  unfold zc reps
  simp only [← List.map_take, ← List.map_drop, ← List.map_append]
  congr 1
  rw [List.take_left' (by simp), List.drop_append, List.drop_of_length_le (by simp), List.nil_append, List.length_replicate, List.drop_replicate, List.replicate_append_replicate]
  congr 2
  omega
set_option maxHeartbeats 2000000 in
theorem repeat_any (n : Nat) (hn : 1 ≤ n) (hn2 : n ≤ 1000) (A : Option Addr) (c : Nat) (w : World) (h : RdV w w.heap.size A (zc [-1])) :
    Calls Try.prog 62 #[.slice A 1 c, .int .i64 (n : Int)] w fun e w' => ∃ g, e = .returned (.slice (some ⟨g, 0, none⟩) n n) ∧ Ow w w' g (List.replicate n (-1)) := by
  obtain ⟨i0, hi, hz0, hz1, hz2⟩ := info_parts info_intD
  obtain ⟨b, off, rfl, hb, hc⟩ := h.at_ (i := 0) (v := .int .i64 (-1)) rfl
  have HM := Lib.hid (mul_one_any n hn2)
  have a1 : IntKind.u64.wrap (n : Int) = (n : Int) := by rw [IntKind.wrap_u64]; omega
  have a2 : IntKind.i64.wrap (n : Int) = (n : Int) := by rw [IntKind.wrap_i64]; omega
  have a3 : decide ((n : Int) < 0) = false := by simp
  have hsz : (Try.prog.info? 3).map (·.size) = some 1 := by kernel_rfl
  clear h
  go_enter Try.func62, Try.ntmps62
  go_wp2_with fail
  refine (HM.out w).mono ?_
  rintro e w1 ⟨rfl, rfl⟩
  have hmz : zc (reps n 0) = (madeCells (Value.int .i64 0).cells (n * 1)).toList := by
    rw [show (Value.int .i64 0).cells = #[Value.int .i64 0] from rfl, toList_madeCells_one, Nat.mul_one]; simp [zc, reps]
  have HMZ := Lib.hid hmz; clear hmz
  have hl0 : (zc (reps n 0)).length = n := by rw [zc_length, reps_length _ _ (Nat.zero_le _)]
  have HL0 := Lib.hid hl0; clear hl0
  go_wp2_with (first | (at_make; refine wpList_make_full _ rfl _ _ 25 rfl w.heap.size 3 i0 (.int .i64 0) 1 Try.underlying25 hi hz0 hz1 _ _ _ _ n rfl rfl rfl rfl (by rw [hz2]; omega) (by unfold maxLen; omega) (Nat.le_refl _) ?_; intro w3 hown1 hgrow1; rw [← HMZ.out] at hown1; have hlow : Below w.heap.size w w3 := (Below.refl _ w).grown hgrow1 (Nat.le_refl _) (fun j hj => nomatch hj); have HO : Hid (Ow w w3 w.heap.size (reps n 0)) := Ow.of_own hlow hown1; have hc3 := (hlow.cell (p := ⟨b, off + 0, none⟩) hb).trans hc; clear hown1 hgrow1 hlow) | (refine wpList_copy_own rfl _ _ _ _ rfl 3 Try.underlying25 hsz w.heap.size 0 n n ⟨b, off, none⟩ 1 c rfl rfl _ _ HO.out.row [.int .i64 (-1)] (by show 1 = min 1 n; omega) (one_srcD hc3) (by rw [List.size_toArray, HL0.out]; show 0 + 1 ≤ n; omega) (by simp [Value.oneCell']) ?_))
  go_loopw [8] (fun p wr => ∃ k : Nat, 1 ≤ k ∧ k ≤ n ∧ p = .int .i64 (k : Int) ∧ Ow w wr w.heap.size (reps n k)) (fun p _ => n - (intOf p).toNat)
  case atStart =>
    refine ⟨1, Nat.le_refl _, hn, rfl, below_setRow HO.out.low (Nat.le_refl _) _, Nat.le_refl _, ?_⟩
    have h0 := HO.out.row
    have e := reps_copy n 0 1 (by omega)
    simp only [List.take_zero, List.nil_append, Nat.zero_add] at e
    rw [← e]
    simp [World.setRow, Array.getElem?_modify, h0, zc]
  case round =>
    obtain ⟨k, hk1, hk2, rfl, hO⟩ := hrel
    by_cases hlt : k < n
    · obtain ⟨m, hm⟩ : ∃ m, Nat.min k (n - k) = m := ⟨_, rfl⟩
      have hmk : 1 ≤ m ∧ k + m ≤ n := by
        have h1 : Nat.min k (n - k) ≤ n - k := Nat.min_le_right _ _
        have h2 : 1 ≤ Nat.min k (n - k) := Nat.le_min.2 ⟨hk1, by omega⟩
        omega
      have t1 : (0 : Int) ≤ (k : Int) := by omega
      have t2 : (k : Int) ≤ (n : Int) := by omega
      have t3 : (n = k) = False := by simp; omega
      have t4 : (k = n) = False := by simp; omega
      have t5 : IntKind.i64.wrap ((k : Int) + (m : Int)) = ((k + m : Nat) : Int) := by rw [IntKind.wrap_i64]; omega
      have HOO := Lib.hid hO
      have HL : Hid ((zc (List.replicate m (-1))).length = m) := by show _ = _; rw [zc_length, List.length_replicate]
      have HS : Hid (k + (zc (List.replicate m (-1))).length ≤ (zc (reps n k)).toArray.size) := by show _ ≤ _; rw [HL.out, List.size_toArray, zc_length, reps_length _ _ hk2]; omega
      have HN : Hid ((zc (List.replicate m (-1))).length = Nat.min k (n - k)) := by show _ = _; rw [HL.out, hm]
      have HSrc : Hid (∀ V, Ow w V w.heap.size (reps n k) → ∀ j v, (zc (List.replicate m (-1)))[j]? = some v → V.cell? ((⟨w.heap.size, 0, none⟩ : Addr).add j) = some v) := fun V hV j v hj => by
        have hjm : j < m := by have := (List.getElem?_eq_some_iff.1 hj).1; rwa [HL.out] at this
        have e : (⟨w.heap.size, 0, none⟩ : Addr).add j = ⟨w.heap.size, j, none⟩ := by unfold Addr.add; split <;> simp_all
        rw [e, (hV.cell j (by rw [reps_length _ _ hk2]; omega)).1, ← hj]
        have hjk : j < k := by have : Nat.min k (n - k) ≤ k := Nat.min_le_left _ _; omega
        unfold fv reps zc
        rw [List.getElem?_append_left (by simpa using hjk), List.getElem?_map, List.getElem?_replicate_of_lt hjk, List.getElem?_replicate_of_lt hjm]; rfl
      clear hO hm
      go_wp2
      go_region_law (refine step_copyD rfl _ _ _ _ rfl 3 Try.underlying25 hsz w.heap.size k (n - k) (n - k) ⟨w.heap.size, 0, none⟩ k n ?hd ?hs _ 3 HOO.out.drew.row (zc (List.replicate m (-1))) HN.out (HSrc.out _ HOO.out.drew) HS.out (zc_one _) m HL.out ?_; (case hd => go_simp); (case hs => go_simp); intro V hV hb)
      have HF : Hid (Ow w V w.heap.size (reps n (k + m))) := by
        refine ⟨HOO.out.drew.low.trans hb, Nat.le_refl _, ?_⟩
        rw [hV, ← reps_copy n k m (by omega), HL.out]
      clear hV hb
      simp only [Act.put, List.getElem_toArray, List.getElem_cons_succ, List.getElem_cons_zero, List.setIfInBounds_toArray, List.set_cons_succ, List.set_cons_zero]
      go_wp2
      go_roundw
      case rel => exact ⟨k + m, by omega, by omega, by go_num, HF.out⟩
      case measure => simp [intOf]; omega
    · obtain rfl : k = n := by omega
      have HF := Lib.hid hO; clear hO
      go_wp2
      go_ret
      refine ⟨w.heap.size, rfl, ?_⟩
      have := HF.out
      unfold reps at this
      simpa using this
end

section
set_option linter.unusedVariables false

def qa (q : List Nat) (i : Nat) : Nat := q[i]?.getD 0
theorem qa_eq {q : List Nat} {i : Nat} (h : i < q.length) : q[i]? = some (qa q i) := by unfold qa; rw [List.getElem?_eq_getElem h]; rfl
theorem qa_get {q : List Nat} {i : Nat} (h : i < q.length) : q[i] = qa q i := by unfold qa; rw [List.getElem?_eq_getElem h]; rfl
theorem qa_mem {q : List Nat} {i : Nat} (h : i < q.length) : qa q i ∈ q := by rw [← qa_get h]; exact List.getElem_mem h
theorem qa_snoc {q : List Nat} {i : Nat} (y : Nat) (h : i < q.length) : qa (q ++ [y]) i = qa q i := by unfold qa; rw [List.getElem?_append_left h]
theorem fv_set (f : List Int) (y x : Nat) (v : Int) (hy : y < f.length) : fv (f.set y v) x = if x = y then v else fv f x := by
  unfold fv
  rw [List.getElem?_set]
  by_cases e : x = y
  · subst e; rw [if_pos rfl, if_pos hy, if_pos rfl]; rfl
  · rw [if_neg (fun q => e q.symm), if_neg e]
/-- What all rounds keep. -/
structure Bc (g : List (List Nat)) (s : Nat) (q : List Nat) (f : List Int) (i : Nat) : Prop where
  len : f.length = g.length
  fst : q[0]? = some s
  zero : fv f s = 0
  nod : q.Nodup
  bd : ∀ x ∈ q, x < g.length
  vis : ∀ x, x < g.length → (x ∈ q ∧ 0 ≤ fv f x) ∨ (x ∉ q ∧ fv f x = -1)
  prd : ∀ x ∈ q, (x = s ∧ fv f x = 0) ∨ ∃ y ∈ q, fv f y + 1 = fv f x ∧ x ∈ row g y
  srt : q.Pairwise (fun a b => fv f a ≤ fv f b)
  don : ∀ k, k < i → ∀ y ∈ row g (qa q k), y ∈ q ∧ fv f y ≤ fv f (qa q k) + 1
  bnd : ∀ x ∈ q, fv f x < (q.length : Int)
/-- Ahead of a node. -/
structure Bf (g : List (List Nat)) (s : Nat) (q : List Nat) (f : List Int) (i : Nat) : Prop where
  all : Bc g s q f i
  le : i ≤ q.length
  top : i < q.length → ∀ x ∈ q, fv f x ≤ fv f (qa q i) + 1
/-- At a node, behind the first j of its list. -/
structure Bi (g : List (List Nat)) (s : Nat) (q : List Nat) (f : List Int) (i c j : Nat) : Prop where
  all : Bc g s q f i
  lt : i < q.length
  cur : qa q i = c
  top : ∀ x ∈ q, fv f x ≤ fv f c + 1
  now : ∀ y ∈ (row g c).take j, y ∈ q ∧ fv f y ≤ fv f c + 1
theorem Bc.qlen {g : List (List Nat)} {s i : Nat} {q : List Nat} {f : List Int} (h : Bc g s q f i) : q.length ≤ g.length := nodup_le _ q h.nod h.bd
theorem bf_start {g : List (List Nat)} {s N : Nat} (hN : g.length = N) (hs : s < N) : Bf g s [s] ((List.replicate N (-1)).set s 0) 0 := by
  have hv : ∀ x, x < N → fv ((List.replicate N (-1)).set s 0) x = if x = s then 0 else -1 := fun x hx => by
    rw [fv_set _ _ _ _ (by simpa using hs)]
    by_cases e : x = s
    · rw [if_pos e, if_pos e]
    · rw [if_neg e, if_neg e]; unfold fv; rw [List.getElem?_replicate_of_lt hx]; rfl
  have h0 := hv s hs
  rw [if_pos rfl] at h0
  refine ⟨⟨by simp [hN], rfl, h0, by simp, fun x hx => ?_, fun x hx => ?_, fun x hx => ?_, by simp, fun k hk => absurd hk (Nat.not_lt_zero _), fun x hx => by simp only [List.mem_singleton] at hx; subst hx; simp [h0]⟩, Nat.zero_le _, fun _ x hx => ?_⟩
  · simp only [List.mem_singleton] at hx; omega
  · rw [hN] at hx
    by_cases e : x = s
    · left; rw [hv x hx, if_pos e]; simp [e]
    · right; rw [hv x hx, if_neg e]; simp [e]
  · simp only [List.mem_singleton] at hx; left; exact ⟨hx, by rw [hx, h0]⟩
  · simp only [List.mem_singleton] at hx; subst hx; show _ ≤ fv _ x + 1; omega
theorem Bf.go {g : List (List Nat)} {s i : Nat} {q : List Nat} {f : List Int} (h : Bf g s q f i) (hi : i < q.length) : Bi g s q f i (qa q i) 0 :=
  ⟨h.all, hi, rfl, h.top hi, by simp⟩
theorem Bi.seen {g : List (List Nat)} {s i c j : Nat} {q : List Nat} {f : List Int} (h : Bi g s q f i c j) (hj : j < (row g c).length) (hb : Bdd g) (hne : fv f (qa (row g c) j) ≠ -1) : Bi g s q f i c (j + 1) := by
  refine ⟨h.all, h.lt, h.cur, h.top, fun y hy => ?_⟩
  rw [List.take_succ_eq_append_getElem hj] at hy
  rcases List.mem_append.1 hy with hy | hy
  · exact h.now y hy
  · simp only [List.mem_singleton] at hy
    rw [qa_get hj] at hy
    subst hy
    have hm := qa_mem hj
    rcases h.all.vis _ (hb c _ hm) with ⟨h1, _⟩ | ⟨_, h2⟩
    · exact ⟨h1, h.top _ h1⟩
    · exact absurd h2 hne
theorem Bi.new {g : List (List Nat)} {s i c j : Nat} {q : List Nat} {f : List Int} (h : Bi g s q f i c j) (hj : j < (row g c).length) (hb : Bdd g) (y : Nat) (hy : qa (row g c) j = y) (hne : fv f y = -1) : Bi g s (q ++ [y]) (f.set y (fv f c + 1)) i c (j + 1) := by
  have hm : y ∈ row g c := hy ▸ qa_mem hj
  have hyl : y < g.length := hb c y hm
  have hyf : y < f.length := by rw [h.all.len]; exact hyl
  have hnq : y ∉ q := by
    rcases h.all.vis y hyl with ⟨_, h2⟩ | ⟨h1, _⟩
    · omega
    · exact h1
  have hcq : c ∈ q := h.cur ▸ qa_mem h.lt
  have hc0 : 0 ≤ fv f c := by
    rcases h.all.vis c (h.all.bd c hcq) with ⟨_, h2⟩ | ⟨h1, _⟩
    · exact h2
    · exact absurd hcq h1
  have hne' : ∀ x ∈ q, x ≠ y := fun x hx e => hnq (e ▸ hx)
  have hk : ∀ x ∈ q, fv (f.set y (fv f c + 1)) x = fv f x := fun x hx => by rw [fv_set _ _ _ _ hyf, if_neg (hne' x hx)]
  have hyv : fv (f.set y (fv f c + 1)) y = fv f c + 1 := by rw [fv_set _ _ _ _ hyf, if_pos rfl]
  have hsq : s ∈ q := by obtain ⟨h1, h2⟩ := List.getElem?_eq_some_iff.1 h.all.fst; rw [← h2]; exact List.getElem_mem h1
  have hnow : ∀ z ∈ (row g c).take (j + 1), z ∈ q ++ [y] ∧ fv (f.set y (fv f c + 1)) z ≤ fv f c + 1 := fun z hz => by
    rw [List.take_succ_eq_append_getElem hj] at hz
    rcases List.mem_append.1 hz with hz | hz
    · obtain ⟨h1, h2⟩ := h.now z hz
      exact ⟨by simp [h1], by rw [hk z h1]; exact h2⟩
    · simp only [List.mem_singleton] at hz
      rw [qa_get hj, hy] at hz
      subst hz
      exact ⟨by simp, by omega⟩
  refine ⟨⟨by rw [List.length_set]; exact h.all.len, ?_, by rw [hk s hsq]; exact h.all.zero, ?_, ?_, ?_, ?_, ?_, ?_, ?_⟩, by rw [List.length_append]; have := h.lt; omega, by rw [qa_snoc _ h.lt]; exact h.cur, ?_, by rw [hk c hcq]; exact hnow⟩
  · have := h.lt; rw [List.getElem?_append_left (by omega)]; exact h.all.fst
  · exact List.nodup_append.2 ⟨h.all.nod, by simp, fun a ha b hb => by simp only [List.mem_singleton] at hb; subst hb; exact hne' a ha⟩
  · intro x hx
    rcases List.mem_append.1 hx with hx | hx
    · exact h.all.bd x hx
    · simp only [List.mem_singleton] at hx; rw [hx]; exact hyl
  · intro x hx
    by_cases e : x = y
    · left; subst e; rw [hyv]; exact ⟨by simp, by omega⟩
    · rw [fv_set _ _ _ _ hyf, if_neg e]
      rcases h.all.vis x hx with ⟨h1, h2⟩ | ⟨h1, h2⟩
      · exact .inl ⟨by simp [h1], h2⟩
      · exact .inr ⟨by simp [h1, e], h2⟩
  · intro x hx
    rcases List.mem_append.1 hx with hx | hx
    · rcases h.all.prd x hx with ⟨h1, h2⟩ | ⟨z, h1, h2, h3⟩
      · exact .inl ⟨h1, by rw [hk x hx]; exact h2⟩
      · exact .inr ⟨z, by simp [h1], by rw [hk z h1, hk x hx]; exact h2, h3⟩
    · simp only [List.mem_singleton] at hx
      subst hx
      exact .inr ⟨c, by simp [hcq], by rw [hk c hcq, hyv], hm⟩
  · refine List.pairwise_append.2 ⟨h.all.srt.imp_of_mem fun ha hb hab => by rw [hk _ ha, hk _ hb]; exact hab, by simp, fun a ha b hb => ?_⟩
    simp only [List.mem_singleton] at hb
    subst hb
    rw [hk a ha, hyv]; exact h.top a ha
  · intro k hki z hz
    have hkl : k < q.length := by have := h.lt; omega
    rw [qa_snoc _ hkl] at hz ⊢
    obtain ⟨h1, h2⟩ := h.all.don k hki z hz
    exact ⟨by simp [h1], by rw [hk z h1, hk _ (qa_mem hkl)]; exact h2⟩
  · intro x hx
    have hb1 := h.all.bnd c hcq
    rw [List.length_append, List.length_singleton]
    rcases List.mem_append.1 hx with hx | hx
    · have := h.all.bnd x hx
      rw [hk x hx]; omega
    · simp only [List.mem_singleton] at hx; subst hx; omega
  · intro x hx
    rw [hk c hcq]
    rcases List.mem_append.1 hx with hx | hx
    · rw [hk x hx]; exact h.top x hx
    · simp only [List.mem_singleton] at hx; subst hx; omega
theorem Bi.fin {g : List (List Nat)} {s i c : Nat} {q : List Nat} {f : List Int} (h : Bi g s q f i c (row g c).length) : Bf g s q f (i + 1) := by
  have hcq := h.cur
  refine ⟨⟨h.all.len, h.all.fst, h.all.zero, h.all.nod, h.all.bd, h.all.vis, h.all.prd, h.all.srt, fun k hk y hy => ?_, h.all.bnd⟩, h.lt, fun hl x hx => ?_⟩
  · by_cases e : k = i
    · subst e
      rw [hcq] at hy ⊢
      exact h.now y (by rw [List.take_length]; exact hy)
    · exact h.all.don k (by omega) y hy
  · have h1 := h.top x hx
    have h2 := List.pairwise_iff_getElem.1 h.all.srt i (i + 1) h.lt hl (by omega)
    rw [qa_get h.lt, qa_get hl, hcq] at h2
    omega
theorem Bf.fin {g : List (List Nat)} {s : Nat} {q : List Nat} {f : List Int} (h : Bf g s q f q.length) (hb : Bdd g) (hs : s < g.length) : Fa g s f := by
  have hin : ∀ x, 0 ≤ fv f x → x ∈ q := fun x hx => by
    rcases Nat.lt_or_ge x g.length with hl | hl
    · rcases h.all.vis x hl with ⟨h1, _⟩ | ⟨_, h2⟩
      · exact h1
      · omega
    · unfold fv at hx; rw [List.getElem?_eq_none (by rw [h.all.len]; exact hl)] at hx; simp at hx
  refine Fa.of hb hs h.all.len h.all.zero (fun x hx => ?_) (fun x hx y hy => ?_) (fun x hx h0 => ?_)
  · rcases h.all.vis x hx with ⟨_, h2⟩ | ⟨_, h2⟩
    · exact .inr h2
    · exact .inl h2
  · obtain ⟨k, hk, e⟩ := List.getElem_of_mem (hin x hx)
    rw [qa_get hk] at e
    subst e
    obtain ⟨h1, h2⟩ := h.all.don k hk y hy
    rcases h.all.vis y (h.all.bd y h1) with ⟨_, h3⟩ | ⟨h3, _⟩
    · exact ⟨h3, h2⟩
    · exact absurd h1 h3
  · rcases h.all.prd x (hin x h0) with h1 | ⟨y, h1, h2, h3⟩
    · exact .inl h1
    · rcases h.all.vis y (h.all.bd y h1) with ⟨_, h4⟩ | ⟨h4, _⟩
      · exact .inr ⟨y, h4, h2, h3⟩
      · exact absurd h1 h4
end

section
set_option maxRecDepth 100000
set_option linter.unusedVariables false
open Go.RowKit Go.Shelf

/-- The place of the first one that meets p, or -1. -/
def IdxF (p : Int → Bool) (xs : List Int) (r : Int) : Prop := (r = -1 ∧ ∀ x ∈ xs, p x = false) ∨ ∃ i : Nat, i < xs.length ∧ r = (i : Int) ∧ p (xs[i]?.getD 0) = true ∧ ∀ j, j < i → p (xs[j]?.getD 0) = false
theorem IdxF.any {p : Int → Bool} {xs : List Int} {r : Int} (h : IdxF p xs r) : decide (0 ≤ r) = xs.any p := by
  rcases h with ⟨rfl, h⟩ | ⟨i, h1, rfl, h2, _⟩
  · have : xs.any p = false := by rw [List.any_eq_false]; intro x hx; rw [h x hx]; simp
    rw [this]; rfl
  · have : xs.any p = true := List.any_eq_true.2 ⟨_, by rw [List.getElem?_eq_getElem h1]; exact List.getElem_mem h1, h2⟩
    rw [this]; simp
set_option maxHeartbeats 1000000 in
theorem idxf_any (gf : Nat) (lb : Array Value) (p : Int → Bool) (xs : List Int) (n : Nat) (hn : xs.length = n) (hn2 : n ≤ 140737488355328) (A : Option Addr) (c : Nat) (w : World) (h : RdV w w.heap.size A (zc xs))
    (eg : ∀ args w, (callFunc gf args).run Try.prog w = .ok (.enter gf args) w)
    (hp : ∀ x ∈ xs, ∀ V, Below w.heap.size w V → Calls Try.prog gf (#[.int .i64 x] ++ lb) V fun e w' => e = .returned (.bool (p x)) ∧ Below V.heap.size V w') :
    Calls Try.prog 70 #[.slice A n c, .func (.func gf) #[] lb] w fun e w' => ∃ r, e = .returned (.int .i64 r) ∧ IdxF p xs r ∧ Below w.heap.size w w' := by
  have HX := Lib.hid h; have HN := Lib.hid hn; have HP := Lib.hid hp
  clear h hn hp
  go_enter Try.func70, Try.ntmps70
  go_wp2
  go_loopw [8] (fun v wr => ∃ i : Nat, i ≤ n ∧ v = .int .i64 (i : Int) ∧ (∀ j, j < i → p (xs[j]?.getD 0) = false) ∧ Below w.heap.size w wr) (fun v _ => n - (intOf v).toNat)
  case atStart => exact ⟨0, Nat.zero_le _, rfl, fun j hj => absurd hj (Nat.not_lt_zero _), Below.refl _ _⟩
  case round =>
    obtain ⟨i, hi, rfl, hno, hbel⟩ := hrel
    by_cases hlt : i < n
    · have hin : i < xs.length := by rw [HN.out]; exact hlt
      obtain ⟨b, off, rfl, hb, k0⟩ := (HX.out.on hbel).at_ (zc_get xs i hin)
      have hmem : xs[i]?.getD 0 ∈ xs := by rw [List.getElem?_eq_getElem hin]; exact List.getElem_mem hin
      have HC := Lib.hid (HP.out _ hmem wr hbel)
      have HNo := Lib.hid hno
      have HBl := Lib.hid hbel
      have hfin : ∀ q, p (xs[i]?.getD 0) = q → (q = true → IdxF p xs (i : Int)) ∧ (q = false → ∀ j, j < i + 1 → p (xs[j]?.getD 0) = false) := fun q hq => ⟨fun e => .inr ⟨i, hin, rfl, hq.trans e, HNo.out⟩, fun e j hj => by
        rcases Nat.lt_or_ge j i with h | h
        · exact HNo.out j h
        · obtain rfl : j = i := by omega
          exact hq.trans e⟩
      have t1 : (0 : Int) ≤ (i : Int) := by omega
      have t2 : (i : Int) < (n : Int) := by omega
      obtain ⟨q, hq⟩ : ∃ q, p (xs[i]?.getD 0) = q := ⟨_, rfl⟩
      have HF := Lib.hid (hfin q hq)
      rw [hq] at HC
      clear hno hbel hfin hq hmem
      generalize xs[i]?.getD 0 = x at *
      go_wp2_with fail
      refine HC.out.mono ?_
      rintro e w1 ⟨rfl, b1⟩
      have HB1 : Hid (Below w.heap.size w w1) := HBl.out.trans (b1.mono HBl.out.size)
      clear b1
      cases q with
      | true =>
        go_wp2
        go_ret
        exact ⟨_, rfl, HF.out.1 (by simp), HB1.out⟩
      | false =>
        go_wp2
        go_roundw
        case rel => exact ⟨i + 1, by omega, by go_num, HF.out.2 (by simp), HB1.out⟩
        case measure => simp [intOf]; omega
    · obtain rfl : i = n := by omega
      have HF : Hid (IdxF p xs (-1)) := .inl ⟨rfl, fun x hx => by
        obtain ⟨j, hj, e⟩ := List.getElem_of_mem hx
        have := hno j (by rw [← HN.out]; exact hj)
        rwa [List.getElem?_eq_getElem hj, e] at this⟩
      have HBl := Lib.hid hbel
      clear hno hbel
      go_wp2
      go_ret
      exact ⟨_, rfl, HF.out, HBl.out⟩
set_option maxHeartbeats 1000000 in
theorem contf_any (gf : Nat) (lb : Array Value) (p : Int → Bool) (xs : List Int) (n : Nat) (hn : xs.length = n) (hn2 : n ≤ 140737488355328) (A : Option Addr) (c : Nat) (w : World) (h : RdV w w.heap.size A (zc xs))
    (eg : ∀ args w, (callFunc gf args).run Try.prog w = .ok (.enter gf args) w)
    (hp : ∀ x ∈ xs, ∀ V, Below w.heap.size w V → Calls Try.prog gf (#[.int .i64 x] ++ lb) V fun e w' => e = .returned (.bool (p x)) ∧ Below V.heap.size V w') :
    Calls Try.prog 64 #[.slice A n c, .func (.func gf) #[] lb] w fun e w' => e = .returned (.bool (xs.any p)) ∧ Below w.heap.size w w' := by
  have HC := Lib.hid (idxf_any gf lb p xs n hn hn2 A c w h eg hp)
  obtain ⟨z, hz⟩ : ∃ z, xs.any p = z := ⟨_, rfl⟩
  rw [hz]
  have HZ := Lib.hid hz
  clear h hp eg hn hz
  go_enter Try.func64, Try.ntmps64
  go_wp2_with fail
  refine HC.out.mono ?_
  rintro e w1 ⟨r, rfl, hr, hb⟩
  have t1 : decide ((0 : Int) ≤ r) = z := hr.any.trans HZ.out
  have HB := Lib.hid hb
  clear hb hr
  go_wp2
  go_ret
  exact ⟨rfl, HB.out⟩
/-- The greatest one. -/
def MaxI (xs : List Int) (r : Int) : Prop := r ∈ xs ∧ ∀ x ∈ xs, x ≤ r
set_option maxHeartbeats 1000000 in
theorem maxi_any (xs : List Int) (n : Nat) (hn : xs.length = n) (h0 : 0 < n) (hn2 : n ≤ 140737488355328) (A : Option Addr) (c : Nat) (w : World) (h : RdV w w.heap.size A (zc xs)) :
    Calls Try.prog 51 #[.slice A n c] w fun e w' => ∃ r, e = .returned (.int .i64 r) ∧ MaxI xs r ∧ Below w.heap.size w w' := by
  obtain ⟨b, off, rfl, hb, k0⟩ := h.at_ (zc_get xs 0 (by omega))
  rw [Nat.add_zero] at k0
  have HX := Lib.hid h; have HN := Lib.hid hn
  have t0 : decide ((n : Int) < 1) = false := by simp; omega
  have t1 : (0 : Int) < (n : Int) := by omega
  clear h hn
  go_enter Try.func51, Try.ntmps51
  go_wp2
  go_loopw [3, 4] (fun u v wr => ∃ (i : Nat) (m : Int), 1 ≤ i ∧ i ≤ n ∧ u = .int .i64 m ∧ v = .int .i64 (i : Int) ∧ MaxI (xs.take i) m ∧ Below w.heap.size w wr) (fun _ v _ => n - (intOf v).toNat)
  case atStart =>
    refine ⟨1, _, Nat.le_refl _, h0, rfl, rfl, ?_, Below.refl _ _⟩
    have h1 : 0 < xs.length := by rw [HN.out]; exact h0
    rw [List.take_succ_eq_append_getElem h1, List.getElem?_eq_getElem h1]
    exact ⟨by simp, fun x hx => by simp at hx; subst hx; simp⟩
  case round =>
    obtain ⟨i, m, h1, hi, rfl, rfl, hm, hbel⟩ := hrel
    by_cases hlt : i < n
    · have hin : i < xs.length := by rw [HN.out]; exact hlt
      obtain ⟨b2, off2, e2, hb2, k1⟩ := (HX.out.on hbel).at_ (zc_get xs i hin)
      simp only [Option.some.injEq, Addr.mk.injEq, and_true] at e2
      obtain ⟨rfl, rfl⟩ := e2
      have hst : ∀ x, xs[i]?.getD 0 = x → MaxI (xs.take (i + 1)) (if m < x then x else m) := fun x hx => by
        rw [List.take_succ_eq_append_getElem hin]
        rw [List.getElem?_eq_getElem hin] at hx
        have hx' : xs[i] = x := hx
        rw [hx']
        by_cases hq : m < x
        · rw [if_pos hq]
          refine ⟨by simp, fun y hy => ?_⟩
          rcases List.mem_append.1 hy with hy | hy
          · have := hm.2 y hy; omega
          · simp only [List.mem_singleton] at hy; omega
        · rw [if_neg hq]
          refine ⟨List.mem_append_left _ hm.1, fun y hy => ?_⟩
          rcases List.mem_append.1 hy with hy | hy
          · exact hm.2 y hy
          · simp only [List.mem_singleton] at hy; omega
      obtain ⟨x, hx⟩ : ∃ x, xs[i]?.getD 0 = x := ⟨_, rfl⟩
      have HS := Lib.hid (hst x hx)
      rw [hx] at k1
      have HBl := Lib.hid hbel
      have t2 : (0 : Int) ≤ (i : Int) := by omega
      have t3 : (i : Int) < (n : Int) := by omega
      clear hst hx hm hbel
      by_cases hq : m < x
      · rw [if_pos hq] at HS
        have e1 : max m x = x := by omega
        go_wp2
        go_roundw
        case rel => exact ⟨i + 1, x, by omega, by omega, by simp, by go_num, HS.out, HBl.out⟩
        case measure => simp [intOf]; omega
      · rw [if_neg hq] at HS
        have e1 : max m x = m := by omega
        go_wp2
        go_roundw
        case rel => exact ⟨i + 1, m, by omega, by omega, by simp, by go_num, HS.out, HBl.out⟩
        case measure => simp [intOf]; omega
    · obtain rfl : i = n := by omega
      rw [List.take_of_length_le (by rw [HN.out]; omega)] at hm
      have HM := Lib.hid hm
      have HBl := Lib.hid hbel
      clear hm hbel
      go_wp2
      go_ret
      exact ⟨m, rfl, HM.out, HBl.out⟩

/-- Is it no node? -/
def nokG (n : Int) (x : Int) : Bool := !okG n x
set_option maxHeartbeats 1000000 in
theorem isout1 (x : Int) (N : Nat) (A : Option Addr) (c : Nat) (B : Nat) (w : World) (hb : w.heap[B]? = some (.cells #[.slice A N c] 24 (0, 0))) : Calls Try.prog 69 (#[.int .i64 x] ++ #[.pointer (some ⟨B, 0, none⟩)]) w fun e w' => e = .returned (.bool (nokG (N : Int) x)) ∧ w = w' := by
  show Calls Try.prog 69 #[.int .i64 x, .pointer (some ⟨B, 0, none⟩)] w _
  have hc : w.cell? ⟨B, 0, none⟩ = some (.slice A N c) := (cell_at hb _).trans rfl
  clear hb
  by_cases h1 : x < 0
  · have e : nokG (N : Int) x = true := by unfold nokG okG; simp; omega
    have t1 : decide (x < 0) = true := by simp; omega
    rw [e]
    go_enter Try.func69, Try.ntmps69
    go_wp2
    go_ret
    exact ⟨rfl, rfl⟩
  · have t1 : decide (x < 0) = false := by simp; omega
    obtain ⟨r, hr⟩ : ∃ r, nokG (N : Int) x = r := ⟨_, rfl⟩
    have t2 : decide ((N : Int) ≤ x) = r := by rw [← hr]; unfold nokG okG; by_cases q : (N : Int) ≤ x <;> simp [q] <;> omega
    rw [hr]
    clear hr h1
    go_enter Try.func69, Try.ntmps69
    go_wp2
    go_ret
    exact ⟨rfl, rfl⟩
theorem entersOut1 : ∀ args w, (callFunc 69 args).run Try.prog w = .ok (.enter 69 args) w := enters_of Try.func69 (by kernel_rfl) rfl
/-- What is said of a graph and of numbers that shall be nodes. -/
def cnE (g : List (List Int)) (ts : List Int) : Int := rgE (grE g) [!ts.any (nokG (g.length : Int))]
set_option maxHeartbeats 1000000 in
theorem checkn_any (R : List Rw) (N : Nat) (hN : R.length = N) (hN2 : N ≤ 140737488355328) (A : Option Addr) (c : Nat) (ts : List Int) (m : Nat) (hm : ts.length = m) (hm2 : m ≤ 1000) (AT : Option Addr) (cT : Nat) (w : World) (h : RdG w w.heap.size A R) (ht : RdV w w.heap.size AT (zc ts)) :
    Calls Try.prog 34 #[.agg #[.slice A N c], .slice AT m cT] w fun e w' => e = .returned (.int .i64 (cnE (gs R) ts)) ∧ Below w.heap.size w w' := by
  obtain ⟨r, hr⟩ : ∃ r, cnE (gs R) ts = r := ⟨_, rfl⟩
  rw [hr]
  unfold cnE at hr
  rw [gs_length, hN] at hr
  have hb0 := one_below w (.cells #[.slice A N c] 24)
  have hn0 := World.alloc_heap_new w (.cells #[.slice A N c] 24)
  have hs0 : (w.alloc (.cells #[.slice A N c] 24)).heap.size = w.heap.size + 1 := World.size_alloc _ _
  have HC := Lib.hid (gchk_any R N hN hN2 A c _ (h.on hb0))
  have HF : Hid (∀ V, Below (w.heap.size + 1) (w.alloc (.cells #[.slice A N c] 24)) V → Calls Try.prog 64 #[.slice AT m cT, .func (.func 69) #[] #[.pointer (some ⟨w.heap.size, 0, none⟩)]] V fun e w' => e = .returned (.bool (ts.any (nokG (N : Int)))) ∧ Below V.heap.size V w') := fun V hV =>
    contf_any _ _ (nokG (N : Int)) ts m hm (by omega) AT cT V ((ht.on hb0).below (hs0 ▸ hV) hV.size) entersOut1 (fun x _ W hW => by
      have := (hV.block w.heap.size (by omega)).trans hn0
      exact (isout1 x N A c w.heap.size W ((hW.block _ (by have := hV.size; rw [hs0] at this; omega)).trans this)).mono fun e w' ⟨h1, h2⟩ => ⟨h1, h2 ▸ Below.refl _ _⟩)
  have HB0 := Lib.hid hb0
  have HS0 := Lib.hid hs0
  generalize grE (gs R) = e0 at *
  generalize ts.any (nokG (N : Int)) = z at *
  have HR := Lib.hid hr
  clear h ht hr hb0 hn0 hs0
  go_enter Try.func34, Try.ntmps34
  go_wp2_with fail
  refine HC.out.mono ?_
  rintro e w1 ⟨rfl, b1⟩
  have HB1 : Hid (Below (w.heap.size + 1) (w.alloc (.cells #[.slice A N c] 24)) w1) := HS0.out ▸ b1
  clear b1
  go_wp2_with fail
  refine (HF.out w1 HB1.out).mono ?_
  rintro e w2 ⟨rfl, b2⟩
  have HB2 : Hid (Below w.heap.size w w2) := HB0.out.trans ((HB1.out.trans (b2.mono (by have := HB1.out.size; rw [HS0.out] at this; exact this))).mono (by omega))
  clear b2
  go_wp2_with fail
  refine (range1 e0 (!z) r HR.out w2 _ rfl).mono ?_
  rintro e w3 ⟨rfl, b3⟩
  have HB3 : Hid (Below w.heap.size w w3) := HB2.out.trans (b3.mono HB2.out.size)
  clear b3
  go_wp2
  go_ret
  exact ⟨rfl, HB3.out⟩
end

section
set_option maxRecDepth 100000
set_option linter.unusedVariables false
open Go.RowKit Go.Shelf

theorem row_ofD (R : List Rw) (g : List (List Nat)) (h : gs R = g.map ns) (i : Nat) (hi : i < g.length) : (R[i]?.getD (none, 0, [])).2.2 = ns (row g i) := by
  have h1 : (gs R)[i]? = (g.map ns)[i]? := by rw [h]
  unfold gs at h1
  have hl : R.length = g.length := by have := congrArg List.length h; rwa [gs_length, List.length_map] at this
  rw [List.getElem?_map, List.getElem?_map, List.getElem?_eq_getElem (by omega), List.getElem?_eq_getElem hi] at h1
  simp only [Option.map_some, Option.some.injEq] at h1
  rw [List.getElem?_eq_getElem (by omega)]
  unfold row
  rw [List.getElem?_eq_getElem hi]
  exact h1
/-- What a round of the walk in breadth holds in memory: how far each is, in a row of its own, and the nodes in their order, in another one. -/
structure Di (w W : World) (b B1 : Nat) (f : List Int) (v : Value) (q : List Nat) : Prop where
  far : Ow w W b f
  lt : b < B1
  le : B1 ≤ W.heap.size
  own : W.ownsRow B1 3 1 v q.length (zc (ns q))
theorem own_elsewhere {w X : World} {base k n : Nat} {T : TypeId} {v : Value} {xs : List Value} (h : w.ownsRow base T k v n xs) (hx : ∀ j, base ≤ j → X.heap[j]? = w.heap[j]?) : X.ownsRow base T k v n xs := by
  refine ⟨h.1, ?_⟩
  rcases h.2 with h0 | ⟨g, cap, cur, e, h1, h2, h3⟩
  · exact .inl h0
  · exact .inr ⟨g, cap, cur, e, h1, (hx g h1).trans h2, h3⟩
theorem Di.set {w W : World} {b B1 : Nat} {f : List Int} {v : Value} {q : List Nat} (h : Di w W b B1 f v q) (i : Nat) (x : Int) : Di w (W.setCell ⟨b, i, none⟩ (.int .i64 x)) b B1 (f.set i x) v q :=
  ⟨h.far.set i x, h.lt, by have := h.le; simpa [World.setCell] using this, own_elsewhere h.own (fun j hj => Below.heap_setCell _ _ _ _ (by have := h.lt; show j ≠ b; omega))⟩
theorem Di.alloc {w W : World} {b B1 : Nat} {f : List Int} {v : Value} {q : List Nat} (h : Di w W b B1 f v q) (o : Obj) : Di w (W.alloc o) b B1 f v q :=
  ⟨h.far.on (one_below W o), h.lt, by have := h.le; rw [World.size_alloc]; omega, h.own.alloc _⟩
theorem Di.app {w W X : World} {b B1 y : Nat} {f : List Int} {v v' : Value} {q : List Nat} (h : Di w W b B1 f v q) (h1 : X.ownsRow B1 3 1 v' (q.length + 1) (zc (ns q) ++ [.int .i64 (y : Int)])) (h2 : W.grownBy X v.ownBlock) : Di w X b B1 f v' (q ++ [y]) := by
  have hb := grown_low h2 h.own h.le
  refine ⟨h.far.keep (h.far.low.trans (hb.mono (Nat.le_trans h.far.ge (Nat.le_of_lt h.lt)))) (hb.block b h.lt), h.lt, Nat.le_trans h.le h2.size, ?_⟩
  rw [List.length_append, List.length_singleton]
  have e : zc (ns (q ++ [y])) = zc (ns q) ++ [.int .i64 (y : Int)] := by unfold zc ns; simp
  rw [e]; exact h1

set_option maxHeartbeats 4000000 in
theorem dist_any (R : List Rw) (g : List (List Nat)) (hg : gs R = g.map ns) (hbd : Bdd g) (N : Nat) (hN : R.length = N) (hN1 : N ≤ 1000) (s : Nat) (hs : s < N) (A : Option Addr) (c : Nat) (w : World) (h : RdG w w.heap.size A R) :
    Calls Try.prog 35 #[.slice A N c, .int .i64 (s : Int)] w fun e w' => ∃ b F, e = .returned (.slice (some ⟨b, 0, none⟩) N N) ∧ Fa g s F ∧ Ow w w' b F := by
  obtain ⟨i0, hi, hz0, hz1, hz2⟩ := info_parts info_intD
  have hgl : g.length = N := by have := congrArg List.length hg; rw [gs_length, List.length_map] at this; omega
  have hrd1 : RdV (w.alloc (.cells #[.int .i64 (-1)] 3)) (w.alloc (.cells #[.int .i64 (-1)] 3)).heap.size (some ⟨w.heap.size, 0, none⟩) (zc [-1]) :=
    .inr ⟨w.heap.size, 0, rfl, by simp, fun i v hi => by rw [cell_at (World.alloc_heap_new w _), Nat.zero_add]; simpa [zc] using hi⟩
  have HRp := Lib.hid (repeat_any N (by omega) hN1 (some ⟨w.heap.size, 0, none⟩) 1 _ hrd1)
  have HH := Lib.hid (⟨hg, hbd, hN, hgl, h⟩ : gs R = g.map ns ∧ Bdd g ∧ R.length = N ∧ g.length = N ∧ RdG w w.heap.size A R)
  clear hrd1 hg hbd hN hgl h
  go_enter Try.func35, Try.ntmps35
  go_wp2_with fail
  refine HRp.out.mono ?_
  rintro e w1 ⟨b, rfl, hO⟩
  have HO : Hid (Ow w w1 b (List.replicate N (-1))) := ⟨(one_below w _).trans (hO.low.mono (by simp)), by have := hO.ge; rw [World.size_alloc] at this; omega, hO.row⟩
  obtain ⟨kc, kf⟩ := HO.out.cell s (by simpa using hs)
  have kc0 : w1.cell? ⟨b, 0 + s, none⟩ = some (.int .i64 (fv (List.replicate N (-1)) s)) := by rw [Nat.zero_add]; exact kc
  have kf0 : w1.frozen? ⟨b, 0 + s, none⟩ = false := by rw [Nat.zero_add]; exact kf
  have t1 : (0 : Int) ≤ (s : Int) := by omega
  have t2 : (s : Int) < (N : Int) := by omega
  clear hO HRp
  go_wp2
  have hD0 : Di w ((w1.setCell ⟨b, s, none⟩ (.int .i64 0)).alloc (.cells #[.int .i64 (s : Int)] 3)) b w1.heap.size ((List.replicate N (-1)).set s 0) (.slice (some ⟨w1.heap.size, 0, none⟩) 1 1) [s] := by
    have e : (w1.setCell ⟨b, s, none⟩ (.int .i64 0)).heap.size = w1.heap.size := by simp [World.setCell]
    have hn := World.alloc_heap_new (w1.setCell ⟨b, s, none⟩ (.int .i64 0)) (.cells #[.int .i64 (s : Int)] 3)
    rw [e] at hn
    exact ⟨(HO.out.set s 0).on (one_below _ _), HO.out.lt, by rw [World.size_alloc, e]; omega, rfl, .inr ⟨w1.heap.size, 1, #[.int .i64 (s : Int)], rfl, Nat.le_refl _, hn, Nat.le_refl _, by unfold maxLen; omega, rfl, rfl⟩⟩
  have HD0 := Lib.hid hD0; clear hD0
  have HB0 : Hid (Bf g s [s] ((List.replicate N (-1)).set s 0) 0) := bf_start HH.out.2.2.2.1 hs
  obtain ⟨B1, hB1⟩ : ∃ B1, w1.heap.size = B1 := ⟨_, rfl⟩
  rw [hB1] at HD0
  have HB1 := Lib.hid hB1; clear hB1
  go_loopw [6, 7] (fun v p wr => ∃ (q : List Nat) (f : List Int) (i : Nat), p = .int .i64 (i : Int) ∧ Di w wr b B1 f v q ∧ Bf g s q f i) (fun v p _ => N + 1 - (intOf p).toNat)
  case atStart => exact ⟨[s], _, 0, rfl, by rw [HB1.out]; exact HD0.out, HB0.out⟩
  case round =>
   as_aux_lemma =>
    obtain ⟨q, f, i, rfl, hD, hB⟩ := hrel
    obtain ⟨Av, cv, rfl⟩ := own_sliceT hD.own
    have hql := hB.all.qlen
    rw [HH.out.2.2.2.1] at hql
    by_cases hlt : i < q.length
    · obtain ⟨gb, cap, e0, hgb, hgb2⟩ := hD.own.form (by omega)
      simp only [Value.slice.injEq] at e0
      obtain ⟨rfl, -, rfl⟩ := e0
      have hI := hB.go hlt
      obtain ⟨k0, -⟩ := own_cell hD.own (i := i) (v := .int .i64 ((qa q i : Nat) : Int)) (by unfold zc ns; rw [List.getElem?_map, List.getElem?_map, qa_eq hlt]; rfl)
      have hcl : qa q i < N := by rw [← HH.out.2.2.2.1]; exact hB.all.bd _ (qa_mem hlt)
      generalize qa q i = cn at *
      have hil : cn < R.length := by rw [HH.out.2.2.1]; exact hcl
      obtain ⟨b2, off2, rfl, hb2, k1'⟩ := HH.out.2.2.2.2.1.at_ (rcl_get R cn hil)
      have k1 := (hD.far.low.cell (p := ⟨b2, off2 + cn, none⟩) hb2).trans k1'
      have hrd := HH.out.2.2.2.2.2 _ (rw_mem R cn hil)
      have hro := row_ofD R g HH.out.1 cn (by rw [HH.out.2.2.2.1]; exact hcl)
      generalize R[cn]?.getD (none, 0, []) = x at *
      obtain ⟨A3, c3, xs⟩ := x
      unfold sl at k1 k1'
      simp only at k1 k1' hrd hro
      subst hro
      obtain ⟨m, hm⟩ : ∃ m, (row g cn).length = m := ⟨_, rfl⟩
      rw [ns_length, hm] at k1 k1' hrd
      have t3 : (0 : Int) ≤ (i : Int) := by omega
      have t4 : (i : Int) < (q.length : Int) := by omega
      have t5 : (0 : Int) ≤ (cn : Int) := by omega
      have t6 : (cn : Int) < (N : Int) := by omega
      have hm47 := hrd.2
      have HRow := Lib.hid (⟨hrd, hm⟩ : _ ∧ _)
      have HDI := Lib.hid (⟨hD, hI⟩ : _ ∧ _)
      clear hD hI hB hrd hm k1' hql
      generalize q.length = ql at *
      go_wp2
      go_loopw [6, 35] (fun v p wq => ∃ (q : List Nat) (f : List Int) (j : Nat), j ≤ m ∧ p = .int .i64 (j : Int) ∧ Di w wq b B1 f v q ∧ Bi g s q f i cn j) (fun _ p _ => m - (intOf p).toNat)
      case atStart => exact ⟨q, f, 0, Nat.zero_le _, rfl, HDI.out.1, HDI.out.2⟩
      case round =>
       as_aux_lemma =>
        clear HDI k0 k1
        obtain ⟨q, f, j, hj, rfl, hD, hI⟩ := hrel
        obtain ⟨Av, cv, rfl⟩ := own_sliceT hD.own
        by_cases hjm : j < m
        · have hjl : j < (row g cn).length := by rw [HRow.out.2]; exact hjm
          obtain ⟨b4, off4, rfl, hb4, k3'⟩ := HRow.out.1.1.at_ (zc_getN (row g cn) j (qa (row g cn) j) (qa_eq hjl))
          have k3 := (hD.far.low.cell (p := ⟨b4, off4 + j, none⟩) hb4).trans k3'
          have hto : qa (row g cn) j < N := by rw [← HH.out.2.2.2.1]; exact HH.out.2.1 cn _ (qa_mem hjl)
          have hfl : f.length = N := hI.all.len.trans HH.out.2.2.2.1
          obtain ⟨k4, k5⟩ := hD.far.cell (qa (row g cn) j) (by rw [hfl]; exact hto)
          obtain ⟨k6, -⟩ := hD.far.cell cn (by rw [hfl]; exact hcl)
          have hcb := hI.all.bnd cn (hI.cur ▸ qa_mem hI.lt)
          have hcz : 0 ≤ fv f cn := by
            have hcq : cn ∈ q := hI.cur ▸ qa_mem hI.lt
            rcases hI.all.vis cn (hI.all.bd cn hcq) with ⟨_, h2⟩ | ⟨h1, _⟩
            · exact h2
            · exact absurd hcq h1
          have hql2 := hI.all.qlen
          rw [HH.out.2.2.2.1] at hql2
          have hseen := hI.seen hjl HH.out.2.1
          have hnew := fun y hy hne => hI.new hjl HH.out.2.1 y hy hne
          clear k3'
          obtain ⟨y, hy⟩ : ∃ y, qa (row g cn) j = y := ⟨_, rfl⟩
          have hnew2 := hnew y hy
          rw [hy] at k3 hto k4 k5 hseen
          clear hnew hy
          have t7 : (0 : Int) ≤ (j : Int) := by omega
          have t8 : (j : Int) < (m : Int) := by omega
          have t9 : (0 : Int) ≤ (y : Int) := by omega
          have t10 : (y : Int) < (N : Int) := by omega
          have HDq := Lib.hid hD
          by_cases hv : fv f y = -1
          · have hnew3 := hnew2 hv
            have HNew := Lib.hid hnew3
            have HSt := Lib.hid (hD.set y (fv f cn + 1))
            have HLe := Lib.hid hD.le
            have a1 : IntKind.i64.wrap (fv f cn + 1) = fv f cn + 1 := by rw [IntKind.wrap_i64]; omega
            rw [hv] at k4
            generalize fv f cn = z at *
            clear hnew2 hnew3 hseen hv hcb hcz hD hI hto hfl
            generalize hqe : q.length = ql2 at *
            have HQe := Lib.hid hqe; clear hqe
            have HOw : Hid ((wr.setCell ⟨b, y, none⟩ (.int .i64 (z + 1))).ownsRow B1 3 1 (.slice Av ql2 cv) ql2 (zc (ns q))) := by
              have := HSt.out.own
              rw [HQe.out] at this; exact this
            have HNw : Hid (∀ (k : Nat) (u : Value), [Value.int .i64 (y : Int)][k]? = some u → ((wr.setCell ⟨b, y, none⟩ (.int .i64 (z + 1))).alloc (.cells #[.int .i64 (y : Int)] 3)).cell? ((⟨wr.heap.size, 0, none⟩ : Addr).add k) = some u) := by
              have h1 := news_row (wr.setCell ⟨b, y, none⟩ (.int .i64 (z + 1))) [.int .i64 (y : Int)] 3
              rw [show (wr.setCell ⟨b, y, none⟩ (.int .i64 (z + 1))).heap.size = wr.heap.size by simp [World.setCell]] at h1
              exact h1
            go_wp2_with (at_builtin; go_loud (refine wpList_append_own _ rfl _ _ 25 rfl B1 3 i0 (.int .i64 0) 1 8 Try.underlying25 hi hz0 hz1 hz2 rfl (by decide) _ _ _ rfl (HOw.out.alloc _) ⟨wr.heap.size, 0, none⟩ 1 1 [.int .i64 (y : Int)] rfl rfl HNw.out (by simp [Value.oneCell']) (by unfold maxLen; omega) (by omega) (by have := HLe.out; simp; omega) ?_); intro v' w3 hown' hgrow _)
            have HFn : Hid (Di w w3 b B1 (f.set y (z + 1)) v' (q ++ [y])) := (HSt.out.alloc _).app (by rw [HQe.out]; exact hown') hgrow
            clear hown' hgrow
            exact ⟨⟨_, _, j + 1, by omega, by go_num, HFn.out, HNew.out⟩, by simp [intOf]; omega⟩
          · have HSn := Lib.hid (hseen hv)
            have t11 : (fv f y == -1) = false := by simpa using hv
            generalize fv f y = z at *
            clear hseen hnew2 hv hD hI
            go_wp2
            exact ⟨⟨_, _, j + 1, by omega, by go_num, HDq.out, HSn.out⟩, by simp [intOf]; omega⟩
        · obtain rfl : j = m := by omega
          have HFn : Hid (Di w wr b B1 f (.slice Av q.length cv) q ∧ Bf g s q f (i + 1)) := ⟨hD, by have h1 := hI; rw [← HRow.out.2] at h1; exact h1.fin⟩
          have hil2 := hI.lt
          have hq2 := hI.all.qlen
          rw [HH.out.2.2.2.1] at hq2
          have hil3 : i < N := by omega
          clear hD hI hil2 hq2
          go_wp2
          go_roundw
          case rel => exact ⟨_, _, i + 1, by go_num, HFn.out.1, HFn.out.2⟩
          case measure => simp [intOf]; omega
    · obtain rfl : i = q.length := by have := hB.le; omega
      have HFn := Lib.hid (⟨hD.far, hB.fin HH.out.2.1 (by rw [HH.out.2.2.2.1]; exact hs)⟩ : _ ∧ _)
      clear hD hB hql
      go_wp2
      go_ret
      exact ⟨b, f, rfl, HFn.out.2, HFn.out.1⟩
end

section
set_option maxRecDepth 100000
set_option linter.unusedVariables false
open Go.RowKit Go.Shelf

theorem cnE_zero {g : List (List Int)} {ts : List Int} (h : cnE g ts = 0) : grE g = 0 ∧ ∀ x ∈ ts, 0 ≤ x ∧ x < (g.length : Int) := by
  unfold cnE rgE at h
  have h0 : grE g = 0 := by
    split at h
    · rename_i q; exact q.1
    · exact h
  refine ⟨h0, fun x hx => ?_⟩
  by_cases q : ts.any (nokG (g.length : Int)) = true
  · rw [q, h0] at h; simp at h
  · rw [List.any_eq_true] at q
    have : ¬ nokG (g.length : Int) x = true := fun e => q ⟨x, hx, e⟩
    unfold nokG okG at this
    simp at this
    exact this
theorem cnE_ok {g : List (List Int)} {ts : List Int} (h0 : grE g = 0) (h : ∀ x ∈ ts, 0 ≤ x ∧ x < (g.length : Int)) : cnE g ts = 0 := by
  have : ts.any (nokG (g.length : Int)) = false := by
    rw [List.any_eq_false]
    intro x hx
    have := h x hx
    unfold nokG okG; simp; omega
  unfold cnE rgE
  rw [this, h0]; simp
theorem cnE_bad {g : List (List Int)} {ts : List Int} (h0 : grE g ≠ 0) : cnE g ts = grE g := by
  unfold cnE rgE; rw [if_neg (fun q => h0 q.1)]
theorem cnE_out {g : List (List Int)} {ts : List Int} (h0 : grE g = 0) (h : ∃ x ∈ ts, ¬ (0 ≤ x ∧ x < (g.length : Int))) : cnE g ts = 3 := by
  have : ts.any (nokG (g.length : Int)) = true := by
    obtain ⟨x, hx, hn⟩ := h
    rw [List.any_eq_true]
    refine ⟨x, hx, ?_⟩
    unfold nokG okG; simp; omega
  unfold cnE rgE
  rw [this, h0]; simp
/-- A list of numbers, just made. -/
theorem lit_rdv (w : World) (xs : List Int) : RdV (w.alloc (.cells (zc xs).toArray 3)) (w.alloc (.cells (zc xs).toArray 3)).heap.size (some ⟨w.heap.size, 0, none⟩) (zc xs) :=
  .inr ⟨w.heap.size, 0, rfl, by simp, fun i v hi => by rw [cell_at (World.alloc_heap_new w _), Nat.zero_add, List.getElem?_toArray]; exact hi⟩
set_option maxHeartbeats 1000000 in
theorem far_e (R : List Rw) (N : Nat) (hN : R.length = N) (hN2 : N ≤ 140737488355328) (s e0 : Int) (he : cnE (gs R) [s] = e0) (h0 : e0 ≠ 0) (A : Option Addr) (c : Nat) (w : World) (h : RdG w w.heap.size A R) :
    Calls Try.prog 14 #[.agg #[.slice A N c], .int .i64 s] w fun e w' => e = .returned (.tuple #[.slice none 0 0, .int .i64 e0]) ∧ Below w.heap.size w w' := by
  have HC : Hid (∀ V, Below w.heap.size w V → Calls Try.prog 34 #[.agg #[.slice A N c], .slice (some ⟨V.heap.size, 0, none⟩) 1 1] (V.alloc (.cells #[.int .i64 s] 3)) fun e w' => e = .returned (.int .i64 e0) ∧ Below V.heap.size V w') := fun V hV => by
    have := checkn_any R N hN hN2 A c [s] 1 rfl (by omega) (some ⟨V.heap.size, 0, none⟩) 1 _ ((h.on hV).on (one_below V (.cells #[.int .i64 s] 3))) (lit_rdv V [s])
    rw [he] at this
    exact this.mono fun e w' q => ⟨q.1, (one_below V _).trans (q.2.mono (by simp))⟩
  have t0 : (e0 == 0) = false := by simpa using h0
  clear he h hN h0
  go_enter Try.func14, Try.ntmps14
  go_wp2_with fail
  have HB0 : Hid (Below w.heap.size w (w.alloc (.cells #[.slice A N c] 24))) := one_below w _
  have hC := HC.out _ HB0.out
  simp only [World.size_alloc] at hC
  refine hC.mono ?_
  rintro e w1 ⟨rfl, b1⟩
  have HB1 : Hid (Below w.heap.size w w1) := HB0.out.trans (b1.mono (by simp))
  clear b1 hC
  go_wp2
  go_ret2
  exact ⟨rfl, HB1.out⟩
set_option maxHeartbeats 1000000 in
theorem far_ok (R : List Rw) (g : List (List Nat)) (hg : gs R = g.map ns) (hok : GOk g) (N : Nat) (hN : R.length = N) (s : Nat) (hs : s < N) (F : List Int) (hF : Fa g s F) (A : Option Addr) (c : Nat) (w : World) (h : RdG w w.heap.size A R) :
    Calls Try.prog 14 #[.agg #[.slice A N c], .int .i64 (s : Int)] w fun e w' => ∃ b, e = .returned (.tuple #[.slice (some ⟨b, 0, none⟩) N N, .int .i64 0]) ∧ Ow w w' b F := by
  have hgl : g.length = N := by have := congrArg List.length hg; rw [gs_length, List.length_map] at this; omega
  have hN1 : N ≤ 100 := by have := hok.nodes; omega
  have he : cnE (gs R) [(s : Int)] = 0 := cnE_ok (by rw [hg]; exact grE_ok g hok) (fun x hx => by simp only [List.mem_singleton] at hx; subst hx; rw [gs_length, hN]; omega)
  have HC : Hid (∀ V, Below w.heap.size w V → Calls Try.prog 34 #[.agg #[.slice A N c], .slice (some ⟨V.heap.size, 0, none⟩) 1 1] (V.alloc (.cells #[.int .i64 (s : Int)] 3)) fun e w' => e = .returned (.int .i64 0) ∧ Below V.heap.size V w') := fun V hV => by
    have := checkn_any R N hN (by omega) A c [(s : Int)] 1 rfl (by omega) (some ⟨V.heap.size, 0, none⟩) 1 _ ((h.on hV).on (one_below V (.cells #[.int .i64 (s : Int)] 3))) (lit_rdv V [(s : Int)])
    rw [he] at this
    exact this.mono fun e w' q => ⟨q.1, (one_below V _).trans (q.2.mono (by simp))⟩
  have HD : Hid (∀ V, Below w.heap.size w V → Calls Try.prog 35 #[.slice A N c, .int .i64 (s : Int)] V fun e w' => ∃ b, e = .returned (.slice (some ⟨b, 0, none⟩) N N) ∧ Ow V w' b F) := fun V hV =>
    (dist_any R g hg hok.bdd N hN (by omega) s hs A c V (h.on hV)).mono fun e w' ⟨b, F', q1, q2, q3⟩ => ⟨b, q1, by rw [hF.uniq q2]; exact q3⟩
  clear he h hN hg hok hF hgl
  go_enter Try.func14, Try.ntmps14
  go_wp2_with fail
  have HB0 : Hid (Below w.heap.size w (w.alloc (.cells #[.slice A N c] 24)) ∧ (w.alloc (.cells #[.slice A N c] 24)).heap[w.heap.size]? = some (.cells #[.slice A N c] 24 (0, 0))) := ⟨one_below w _, World.alloc_heap_new w _⟩
  have hC := HC.out _ HB0.out.1
  simp only [World.size_alloc] at hC
  refine hC.mono ?_
  rintro e w1 ⟨rfl, b1⟩
  have HB1 : Hid (Below w.heap.size w w1) := HB0.out.1.trans (b1.mono (by simp))
  have kg : w1.cell? ⟨w.heap.size, 0, none⟩ = some (.slice A N c) := (cell_at ((b1.block _ (by simp)).trans HB0.out.2) 0).trans rfl
  clear b1 hC
  go_wp2_with fail
  refine (HD.out w1 HB1.out).mono ?_
  rintro e w2 ⟨b, rfl, hO⟩
  have HO : Hid (Ow w w2 b F) := ⟨HB1.out.trans (hO.low.mono HB1.out.size), Nat.le_trans HB1.out.size hO.ge, hO.row⟩
  clear hO kg
  go_wp2
  go_ret2
  exact ⟨b, rfl, HO.out⟩
/-- How far all are together: the greatest number, 0 if there is none. -/
def MoG (g : List (List Nat)) (r : Int) : Prop := 0 ≤ r ∧ (∀ s, s < g.length → ∀ F, Fa g s F → ∀ x, x < g.length → fv F x ≤ r) ∧ (g.length = 0 ∧ r = 0 ∨ ∃ s, s < g.length ∧ ∃ x, x < g.length ∧ ∀ F, Fa g s F → fv F x = r)
theorem MoG.uniq {g : List (List Nat)} {r t : Int} (h : MoG g r) (k : MoG g t) : r = t := by
  rcases h.2.2 with ⟨h0, e⟩ | ⟨s, hs, x, hx, hq⟩
  · rcases k.2.2 with ⟨k0, e'⟩ | ⟨s, hs, _⟩
    · omega
    · omega
  · rcases k.2.2 with ⟨k0, e'⟩ | ⟨s', hs', x', hx', hq'⟩
    · omega
    · obtain ⟨F, hF⟩ := fa_ex g s
      obtain ⟨F', hF'⟩ := fa_ex g s'
      have h1 := hq F hF
      have h2 := hq' F' hF'
      have h3 := k.2.1 s hs F hF x hx
      have h4 := h.2.1 s' hs' F' hF' x' hx'
      omega
end
end Go.Proofs.Ytnbjhldpadjgfaa
