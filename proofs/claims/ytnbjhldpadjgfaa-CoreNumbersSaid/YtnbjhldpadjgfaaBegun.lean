/- What is asked in any case of bits: it answers true, in whatever world. -/
import Derived.Test.YtnbjhldpadjgfaaJoin
import Derived.Test.YtnbjhldpadjgfaaCut
import Derived.Test.YtnbjhldpadjgfaaGet
namespace Go.Proofs.Ytnbjhldpadjgfaa
open Go.RowKit

/-- Bits, written out, and an error come back. -/
def Gv (w : World) (len : Int) (n : Nat) (bs : List Nat) (err : Int) (e : Ending) (w' : World) : Prop :=
  ∃ A c, e = .returned (.tuple #[.agg #[.int .i64 len, .slice A n c], .int .i64 err]) ∧ Rd w' w'.heap.size A bs ∧ Below w.heap.size w w'

theorem lt256 {bs : List Nat} (h : bs.all (fun b => decide (b < 256)) = true) : ∀ b ∈ bs, b < 256 := by
  intro b hb
  have := List.all_eq_true.1 h b hb
  simpa using this

/-- A literal of bytes. -/
theorem rd_lit1 (w : World) (x : Nat) : Rd (w.alloc (.cells #[.int .u8 (x : Int)] 5)) (w.alloc (.cells #[.int .u8 (x : Int)] 5)).heap.size (some ⟨w.heap.size, 0, none⟩) [x] := by
  refine .inr ⟨w.heap.size, 0, rfl, by simp, fun i hi => ?_⟩
  have e := World.alloc_heap_new w (.cells #[.int .u8 (x : Int)] 5)
  have hi0 : i = 0 := by simp at hi; exact hi
  subst hi0
  exact box_cell e
theorem rd_lit2 (w : World) (x y : Nat) : Rd (w.alloc (.cells #[.int .u8 (x : Int), .int .u8 (y : Int)] 5)) (w.alloc (.cells #[.int .u8 (x : Int), .int .u8 (y : Int)] 5)).heap.size (some ⟨w.heap.size, 0, none⟩) [x, y] := by
  refine .inr ⟨w.heap.size, 0, rfl, by simp, fun i hi => ?_⟩
  have e := World.alloc_heap_new w (.cells #[.int .u8 (x : Int), .int .u8 (y : Int)] 5)
  have hi0 : i = 0 ∨ i = 1 := by simp at hi; omega
  rcases hi0 with rfl | rfl
  · exact (blk_cells e).1
  · exact (blk_cells e).2.1
theorem Rd.on {w V : World} {A : Option Addr} {bs : List Nat} (h : Rd w w.heap.size A bs) (hb : Below w.heap.size w V) : Rd V V.heap.size A bs := h.below hb hb.size

end Go.Proofs.Ytnbjhldpadjgfaa
