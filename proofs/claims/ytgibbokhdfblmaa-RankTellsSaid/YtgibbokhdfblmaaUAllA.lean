/- Words on lists of numbers of the call's own and on the positions of 1 bits (the part of UAll that names no All). -/
import Derived.Test.YtgibbokhdfblmaaURead
namespace Go.Proofs.Ytgibbokhdfblmaa
open Go.RowKit Go.Shelf

attribute [local go_sem] Oper.semAt_some

/-- How far it is from the position after the last code to a 1 bit, as a number of 64 bits. -/
def gap (a x : Nat) : Nat := if a ≤ x then x - a else 18446744073709551616 - (a - x)
/-- The position after the last one. -/
def aft (pre : List Nat) : Nat := match pre.getLast? with | none => 0 | some x => clamp 0 x + 1
def gaps : Nat → List Nat → List Nat
  | _, [] => []
  | a, x :: xs => gap a (clamp 0 x) :: gaps (clamp 0 x + 1) xs
theorem gaps_length : ∀ (xs : List Nat) (a : Nat), (gaps a xs).length = xs.length
  | [], _ => rfl
  | x :: xs, a => by simp [gaps, gaps_length xs]
theorem aft_snoc (pre : List Nat) (x : Nat) : aft (pre ++ [x]) = clamp 0 x + 1 := by simp [aft]
theorem gaps_snoc (xs : List Nat) (x : Nat) : ∀ a, gaps a (xs ++ [x]) = gaps a xs ++ [gap (match xs.getLast? with | none => a | some y => clamp 0 y + 1) (clamp 0 x)] := by
  induction xs with
  | nil => intro a; simp [gaps]
  | cons y ys ih =>
    intro a
    simp only [List.cons_append, gaps, ih]
    congr 3
    cases ys with
    | nil => simp
    | cons z zs =>
      rw [List.getLast?_cons_cons]
      cases hq : (z :: zs).getLast? with
      | none => simp at hq
      | some q => rfl
theorem gaps_snoc0 (xs : List Nat) (x : Nat) : gaps 0 (xs ++ [x]) = gaps 0 xs ++ [gap (aft xs) (clamp 0 x)] := by rw [gaps_snoc]; rfl
theorem aft_le (xs : List Nat) : aft xs ≤ 8192 := by
  unfold aft
  split
  · omega
  · unfold clamp; omega
theorem clamp0_le (x : Nat) : clamp 0 x ≤ 8191 := by unfold clamp; omega

/-- Numbers, a position and an error come back. -/
def AllP (w : World) (ns : List Nat) (to : Nat) (err : Int) (e : Ending) (w' : World) : Prop :=
  ∃ A c, e = .returned (.tuple #[.slice A ns.length c, .int .i64 (to : Int), .int .i64 err]) ∧ RdV w' w'.heap.size A (nc ns) ∧ Below w.heap.size w w'

theorem check_two (len : Int) (A : Option Addr) (c : Nat) (bs : List Nat) (p : Int) (w : World) (hb : ∀ b ∈ bs, b < 256) (h : Rd w w.heap.size A bs) :
    Calls Try.prog 43 #[.agg #[.int .i64 len, .slice A bs.length c]] ((w.alloc (.cells #[.int .i64 len, .slice A bs.length c] 25)).alloc (.cells #[.int .i64 p] 3)) fun e w' => e = .returned (.int .i64 (chk len bs)) ∧ Below (w.heap.size + 2) ((w.alloc (.cells #[.int .i64 len, .slice A bs.length c] 25)).alloc (.cells #[.int .i64 p] 3)) w' := by
  have hu := up2 w (.cells #[.int .i64 len, .slice A bs.length c] 25) (.cells #[.int .i64 p] 3)
  have hz : ((w.alloc (.cells #[.int .i64 len, .slice A bs.length c] 25)).alloc (.cells #[.int .i64 p] 3)).heap.size = w.heap.size + 2 := two_size w _ _
  have := check_any len A c bs _ hb (h.below hu hu.size)
  rwa [hz] at this

theorem own_slice25 {w : World} {base : Nat} {v : Value} {n : Nat} {xs : List Value} (h : w.ownsRow base 22 1 v n xs) : ∃ A c, v = .slice A n c := by
  rcases h.2 with ⟨rfl, rfl⟩ | ⟨g, cap, cur, rfl, _⟩
  · exact ⟨none, 0, rfl⟩
  · exact ⟨_, cap, rfl⟩

theorem info25 : (Try.prog.info? 22).map (fun i => (i.zero, i.size, i.bytes)) = some (some (.int .u64 0), 1, 8) := by kernel_rfl

/-- The blocks that All's visit keeps: s: the heap's size where All began; N: where it laid its own boxes. -/
def akept (N : Nat) (k : Nat) : Prop := k < N ∨ k = N + 2 ∨ k = N + 3 ∨ k = N + 5

/-- The list so far, in its box. -/
def ARow (X : World) (N : Nat) (pre : List Nat) : Prop :=
  ∃ v, Boxed X N 26 v ∧ X.ownsRow (N + 6) 22 1 v pre.length (nc (gaps 0 pre))
theorem aRow_own (N : Nat) : Own (fun (pre : List Nat) X => ARow X N pre) := by
  rintro pre X Y row ⟨v, hb, ho⟩ hg hr
  refine ⟨v, box_own N 26 (fun _ : Unit => v) () X Y row hb hg hr, ho.kept hg ?_⟩
  rcases ho.2 with ⟨rfl, _⟩ | ⟨g, cap, cur, rfl, _, hgb, _⟩
  · exact .inl rfl
  · refine .inr fun e' => ?_
    obtain ⟨o, h1, h2⟩ := hr g (by simpa [Value.ownBlock] using e'.symm)
    rw [hgb] at h1; cases h1; cases h2

theorem own_rdv {w : World} {base : Nat} {e : TypeId} {A : Option Addr} {n c : Nat} {vs : List Value} (h : w.ownsRow base e 1 (.slice A n c) n vs) : RdV w w.heap.size A vs := by
  rcases h.2 with ⟨_, h0⟩ | ⟨g, cap, cur, he, _, hg, _⟩
  · have := h.1
    rw [h0] at this
    exact .inl (List.eq_nil_of_length_eq_zero (by omega))
  · simp only [Value.slice.injEq] at he
    obtain ⟨rfl, _, _⟩ := he
    refine .inr ⟨g, 0, rfl, (Array.getElem?_eq_some_iff.1 hg).1, fun i v hi => ?_⟩
    have hh := h.cells (g := g) rfl i v hi
    have ha : (⟨g, 0, none⟩ : Addr).add i = ⟨g, 0 + i, none⟩ := by unfold Addr.add; split <;> simp_all
    rw [ha] at hh
    exact hh

theorem gap_wrap (pa cx : Nat) (h1 : pa ≤ 8192) (h2 : cx ≤ 8191) : ∃ g : Nat, IntKind.u64.wrap ((cx : Int) - (pa : Int)) = (g : Int) ∧ gap pa cx = g := by
  refine ⟨gap pa cx, ?_, rfl⟩
  rw [IntKind.wrap_u64]
  unfold gap
  split <;> omega

theorem row_ne25 {w : World} {W : Nat} {t : TypeId} {cs : Array Value} {base : Nat} (hW : w.heap[W]? = some (.cells cs t (0, 0))) (ht : t ≠ 22) {v : Value} {n : Nat} {xs : List Value} (h : w.ownsRow base 22 1 v n xs) : ∀ g, v.ownBlock = some g → g ≠ W := by
  rintro g hg rfl
  rcases h.2 with ⟨rfl, _⟩ | ⟨g', cap, cur, rfl, _, hh, _⟩
  · simp [Value.ownBlock] at hg
  · have : g' = g := by simpa [Value.ownBlock] using hg
    subst this
    rw [hW] at hh
    simp at hh
    exact ht hh.2

/-- One number more: behind the append, and behind the two stores. -/
theorem all_step {X w3 w5 : World} {N k g' cap' cx : Nat} {Av : Option Addr} {cv : Nat} {xs ys : List Value} {tmp : Obj} {b0 : Int}
    (hbv : Boxed X N 26 (.slice Av k cv)) (hba : Boxed X (N + 1) 3 (.int .i64 b0)) (hrow : X.ownsRow (N + 6) 22 1 (.slice Av k cv) k xs)
    (hgrow : (X.alloc tmp).grownBy w3 (Value.slice Av k cv).ownBlock) (hown' : w3.ownsRow (N + 6) 22 1 (.slice (some ⟨g', 0, none⟩) (k + 1) cap') (k + 1) ys)
    (hXs : N ≤ X.heap.size) (hz : N + 6 ≤ w5.heap.size) (hzz : w5.heap.size ≤ X.heap.size) :
    w3.cell? ⟨N, 0, none⟩ = some (.slice Av k cv) ∧ w3.frozen? ⟨N, 0, none⟩ = false ∧ w3.cell? ⟨N + 1, 0, none⟩ = some (.int .i64 b0) ∧ w3.frozen? ⟨N + 1, 0, none⟩ = false ∧
    Hid (Boxed ((w3.setCell ⟨N, 0, none⟩ (.slice (some ⟨g', 0, none⟩) (k + 1) cap')).setCell ⟨N + 1, 0, none⟩ (.int .i64 ((cx : Int) + 1))) N 26 (.slice (some ⟨g', 0, none⟩) (k + 1) cap') ∧
      ((w3.setCell ⟨N, 0, none⟩ (.slice (some ⟨g', 0, none⟩) (k + 1) cap')).setCell ⟨N + 1, 0, none⟩ (.int .i64 ((cx : Int) + 1))).ownsRow (N + 6) 22 1 (.slice (some ⟨g', 0, none⟩) (k + 1) cap') (k + 1) ys ∧
      Boxed ((w3.setCell ⟨N, 0, none⟩ (.slice (some ⟨g', 0, none⟩) (k + 1) cap')).setCell ⟨N + 1, 0, none⟩ (.int .i64 ((cx : Int) + 1))) (N + 1) 3 (.int .i64 ((cx : Int) + 1)) ∧
      Fr (akept N) X ((w3.setCell ⟨N, 0, none⟩ (.slice (some ⟨g', 0, none⟩) (k + 1) cap')).setCell ⟨N + 1, 0, none⟩ (.int .i64 ((cx : Int) + 1)))) := by
  have hv1 : Boxed w3 N 26 (.slice Av k cv) := (hbv.alloc tmp).kept hgrow (hbv.not_row (by decide) hrow)
  have ha1 : Boxed w3 (N + 1) 3 (.int .i64 b0) := (hba.alloc tmp).kept hgrow (hba.not_row (by decide) hrow)
  have hne : some N ≠ (Value.slice (some ⟨g', 0, none⟩) (k + 1) cap').ownBlock := hv1.not_row (by decide) hown'
  have hne2 : some (N + 1) ≠ (Value.slice (some ⟨g', 0, none⟩) (k + 1) cap').ownBlock := ha1.not_row (by decide) hown'
  refine ⟨hv1.cell, hv1.frozen, ha1.cell, ha1.frozen, (hv1.set _).other (by omega) _, ?_, ((ha1.other (by omega) _).set _), ?_⟩
  · exact (hown'.kept (grownBy_setCell' w3 N _) (.inr hne.symm)).kept (grownBy_setCell' _ (N + 1) _) (.inr hne2.symm)
  · have nN : ¬ akept N N := by rintro (h | h | h | h) <;> omega
    have nN1 : ¬ akept N (N + 1) := by rintro (h | h | h | h) <;> omega
    refine ((((Fr.refl (akept N) X).alloc ?_ tmp).grown hgrow ?_ ?_ ?_).setCell (p := ⟨N, 0, none⟩) nN _).setCell (p := ⟨N + 1, 0, none⟩) nN1 _
    · rintro j (h | h | h | h) <;> omega
    · rintro j (h | h | h | h) <;> simp <;> omega
    · intro j hj hk
      have := (hrow.lt j hj).1
      rcases hk with h | h | h | h <;> omega
    · intro j o hj ho
      exact own_cells (hrow.alloc tmp) j o hj ho
end Go.Proofs.Ytgibbokhdfblmaa
