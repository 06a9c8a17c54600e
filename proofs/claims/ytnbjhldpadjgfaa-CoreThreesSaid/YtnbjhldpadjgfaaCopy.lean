/- A writer is made that goes on behind given bits, whose bytes are copied. -/
import Derived.Test.YtnbjhldpadjgfaaAddBit
import Derived.Deep.RegionLaw
namespace Go.Proofs.Ytnbjhldpadjgfaa
open Go.RowKit

theorem bc_one (bs : List Nat) : ∀ u ∈ bc bs, u.oneCell' = true := by
  intro u hu
  simp only [bc, List.mem_map] at hu
  obtain ⟨x, _, rfl⟩ := hu
  rfl

theorem news_of {w W : World} {b off : Nat} {bs : List Nat} (hb : b < w.heap.size) (hk : ∀ k, k < w.heap.size → W.heap[k]? = w.heap[k]?)
    (hc : ∀ i, i < bs.length → w.cell? ⟨b, off + i, none⟩ = some (.int .u8 ((bs[i]?.getD 0 : Nat) : Int))) :
    ∀ j u, (bc bs)[j]? = some u → W.cell? ((⟨b, off, none⟩ : Addr).add j) = some u := by
  intro j u hu
  have hj : j < bs.length := by
    rcases Nat.lt_or_ge j bs.length with h | h
    · exact h
    · rw [List.getElem?_eq_none (by rw [bc_length]; exact h)] at hu; cases hu
  rw [bc_get bs j hj] at hu
  cases hu
  have ha : (⟨b, off, none⟩ : Addr).add j = ⟨b, off + j, none⟩ := by unfold Addr.add; split <;> simp_all
  rw [ha]
  exact (World.cell?_of_block (w := w) (a := ⟨b, off + j, none⟩) (hk b hb)).trans (hc j hj)

/-- What comes back from the copy: a slice of the call's own. -/
def Copied (w : World) (len : Int) (n : Nat) (bs : List Nat) (e : Ending) (w' : World) : Prop :=
  ∃ A c, e = .returned (.agg #[.int .i64 len, .slice A n c]) ∧ w'.ownsRow w.heap.size 5 1 (.slice A n c) n (bc bs) ∧ Below w.heap.size w w'

theorem two_size (w : World) (o p : Obj) : (((w.alloc o).alloc p).drew).heap.size = w.heap.size + 2 := by
  show ((w.heap.push o).push p).size = _
  simp
theorem two_old (w : World) (o p : Obj) (k : Nat) (hk : k < w.heap.size) : (((w.alloc o).alloc p).drew).heap[k]? = w.heap[k]? := by
  show ((w.alloc o).alloc p).heap[k]? = _
  rw [Below.heap_alloc _ _ _ (by simp; omega), Below.heap_alloc _ _ _ hk]
theorem two_new (w : World) (o p : Obj) : (((w.alloc o).alloc p).drew).heap[w.heap.size + 1]? = some p := by
  show ((w.alloc o).alloc p).heap[w.heap.size + 1]? = _
  have := World.alloc_heap_new (w.alloc o) p
  rwa [World.size_alloc] at this

end Go.Proofs.Ytnbjhldpadjgfaa
