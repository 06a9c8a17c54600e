/- What Get answers, for whatever bits, position and width it is handed. -/
import Derived.Test.YtnbjhldpadjgfaaAddBits
namespace Go.Proofs.Ytnbjhldpadjgfaa
open Go.RowKit Go.Shelf

attribute [local go_sem] Oper.semAt_some

/-- Bits as a number, the first one the highest. -/
def num (l : List Bool) : Nat := l.foldl (fun n b => 2 * n + b.toNat) 0
theorem num_snoc (l : List Bool) (b : Bool) : num (l ++ [b]) = 2 * num l + b.toNat := by simp [num]
theorem fold_lt (l : List Bool) : ∀ a : Nat, l.foldl (fun n b => 2 * n + b.toNat) a < (a + 1) * 2 ^ l.length := by
  induction l with
  | nil => intro a; simp
  | cons b l ih =>
    intro a
    rw [List.foldl_cons, List.length_cons]
    refine Nat.lt_of_lt_of_le (ih _) ?_
    have := Bool.toNat_le b
    rw [Nat.pow_succ, Nat.mul_comm (2 ^ l.length) 2, ← Nat.mul_assoc]
    exact Nat.mul_le_mul_right _ (by omega)
theorem num_lt (l : List Bool) : num l < 2 ^ l.length := by
  have := fold_lt l 0
  rwa [Nat.zero_add, Nat.one_mul] at this

/-- A number and an error come back. -/
def Got (w : World) (n : Nat) (err : Int) (e : Ending) (w' : World) : Prop := e = .returned (.tuple #[.int .u64 (n : Int), .int .i64 err]) ∧ Below w.heap.size w w'

theorem one_below (w : World) (o : Obj) : Below w.heap.size w (w.alloc o) := (Below.refl _ w).alloc (Nat.le_refl _) _

theorem or_last (m : Nat) (b : Bool) : (2 * m) ||| b.toNat = 2 * m + b.toNat := by
  cases b
  · simp
  · have h := Nat.two_pow_add_eq_or_of_lt (i := 1) (b := 1) (by decide) m
    simpa using h.symm

theorem shl_or (m : Nat) (b : Bool) (hm : m < 2 ^ 63) : bits .or .u64 ((m : Int) * 2) (b.toNat : Int) = ((2 * m + b.toNat : Nat) : Int) := by
  have hb := Bool.toNat_le b
  have e : (m : Int) * 2 = ((2 * m : Nat) : Int) := by omega
  rw [e, u64_or_nat (2 * m) b.toNat (by omega) (by omega), or_last]

theorem box_own {β : Type} (B : Nat) (t : TypeId) (f : β → Value) : Own (fun (s : β) X => Boxed X B t (f s)) := by
  rintro s X Y row h hgr hrow
  refine h.kept hgr (fun e => ?_)
  obtain ⟨o, h1, h2⟩ := hrow B e.symm
  rw [show X.heap[B]? = _ from h] at h1; cases h1; cases h2

theorem four (w : World) (a b c d : Obj) : (((((w.alloc a).alloc b).alloc c).alloc d).heap.size = w.heap.size + 4) ∧
    ((((w.alloc a).alloc b).alloc c).alloc d).heap[w.heap.size]? = some a ∧ ((((w.alloc a).alloc b).alloc c).alloc d).heap[w.heap.size + 1]? = some b ∧
    ((((w.alloc a).alloc b).alloc c).alloc d).heap[w.heap.size + 2]? = some c ∧ ((((w.alloc a).alloc b).alloc c).alloc d).heap[w.heap.size + 3]? = some d := by
  have n0 := World.alloc_heap_new w a
  have n1 := World.alloc_heap_new (w.alloc a) b
  have n2 := World.alloc_heap_new ((w.alloc a).alloc b) c
  have n3 := World.alloc_heap_new (((w.alloc a).alloc b).alloc c) d
  simp only [World.size_alloc] at n1 n2 n3
  refine ⟨by simp only [World.size_alloc], ?_, ?_, ?_, n3⟩
  · rw [Below.heap_alloc _ _ _ (by simp only [World.size_alloc]; omega), Below.heap_alloc _ _ _ (by simp only [World.size_alloc]; omega), Below.heap_alloc _ _ _ (by simp only [World.size_alloc]; omega)]; exact n0
  · rw [Below.heap_alloc _ _ _ (by simp only [World.size_alloc]; omega), Below.heap_alloc _ _ _ (by simp only [World.size_alloc]; omega)]; exact n1
  · rw [Below.heap_alloc _ _ _ (by simp only [World.size_alloc]; omega)]; exact n2

/-- The blocks that Get's visit wants kept. -/
def kept (B N : Nat) (k : Nat) : Prop := k < B ∨ k = N + 1 ∨ k = N + 2 ∨ k = N + 3

/-- What Get answers. -/
def getE (len : Int) (bs : List Nat) (p width : Int) : Int := if chk len bs ≠ 0 then chk len bs else if width < 0 ∨ 64 < width ∨ p < 0 ∨ len < p then 3 else if len - p < width then 7 else 0
def getN (len : Int) (bs : List Nat) (p width : Int) : Nat := if getE len bs p width = 0 then num (((unpack len.toNat bs).drop p.toNat).take width.toNat) else 0

end Go.Proofs.Ytnbjhldpadjgfaa
