/- Join in letters, lists of the same numbers, new rows; each fact names its conditions. -/
import Derived.Test.YticdnodlapafoaaGreatJSSLw
import Derived.Test.YticdnodlapafoaaGreatJS2
namespace Go.Proofs.YticdnodlapafoaaGreat
set_option maxRecDepth 100000
set_option linter.unusedVariables false
open Go.RowKit Go.Shelf

/-- What Join answers. -/
def jL (lx : Int) (xs : List Nat) (ly : Int) (ys : List Nat) : List Bool := if joinE lx xs ly ys = 0 then unpack lx.toNat xs ++ unpack ly.toNat ys else []
theorem join_g (lx ly : Int) (A B : Option Addr) (c d : Nat) (xs ys : List Nat) (w : World) (hx : ∀ b ∈ xs, b < 256) (hy : ∀ b ∈ ys, b < 256) (hA : Rd w w.heap.size A xs) (hB : Rd w w.heap.size B ys) :
    Calls Tryz.prog 25 #[.agg #[.int .i64 lx, .slice A xs.length c], .agg #[.int .i64 ly, .slice B ys.length d]] w (Gv w ((jL lx xs ly ys).length : Int) (pack (jL lx xs ly ys)).length (pack (jL lx xs ly ys)) (joinE lx xs ly ys)) := join_any lx ly A B c d xs ys w hx hA hy hB
theorem jL_no (lx ly : Int) (xs ys : List Nat) (h : joinE lx xs ly ys ≠ 0) : jL lx xs ly ys = [] := by unfold jL; rw [if_neg h]
theorem jL_ok (a b : List Bool) (h : joinE (a.length : Int) (pack a) (b.length : Int) (pack b) = 0) : jL (a.length : Int) (pack a) (b.length : Int) (pack b) = a ++ b := by
  unfold jL
  rw [if_pos h, Int.toNat_natCast, Int.toNat_natCast, unpack_pack, unpack_pack]
theorem sameI_x (xs : List Int) (n : Nat) (hn : xs.length = n) (h2 : n ≤ 9223372036854775807) (A B : Option Addr) (c d : Nat) (w : World) (hA : RdV w w.heap.size A (zc xs)) (hB : RdV w w.heap.size B (zc xs)) :
    Calls Tryz.prog 23 #[.slice A n c, .slice B n d] w fun e w' => e = .returned (.bool true) ∧ Below w.heap.size w w' := by
  have h := sameI_any w A B c d xs xs (by omega) hA hB
  rw [hn] at h
  simpa using h
theorem rz_row {V : World} {b : Nat} (l : List Nat) {cs : Array Value} (h : V.heap[b]? = some (.cells cs 3 (0, 0))) (hc : (zc (ns l)).toArray = cs) : RdV V V.heap.size (some ⟨b, 0, none⟩) (zc (ns l)) := by
  subst hc
  refine .inr ⟨b, 0, rfl, (Array.getElem?_eq_some_iff.1 h).1, fun i v hi => ?_⟩
  rw [cell_of_row _ _ _ _ _ _ h]
  simpa using hi
theorem rb_row {V : World} {b : Nat} (x : Nat) (h : V.heap[b]? = some (.cells #[.int .u8 (x : Int)] 5 (0, 0))) : Rd V V.heap.size (some ⟨b, 0, none⟩) [x] := by
  refine .inr ⟨b, 0, rfl, (Array.getElem?_eq_some_iff.1 h).1, fun i hi => ?_⟩
  have h0 : i = 0 := by simp at hi; omega
  subst h0
  rw [cell_of_row _ _ _ _ _ _ h]
  rfl
end Go.Proofs.YticdnodlapafoaaGreat
