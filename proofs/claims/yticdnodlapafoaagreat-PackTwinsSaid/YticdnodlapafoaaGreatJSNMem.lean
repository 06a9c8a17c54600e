/- Words for lists of whole numbers in memory (for seats without kraft); no condition but those that each fact names. -/
import Derived.Test.YticdnodlapafoaaGreatJS3
import Derived.Test.YticdnodlapafoaaGreatJSNPure
import Derived.Test.YticdnodlapafoaaGreatJS4
namespace Go.Proofs.YticdnodlapafoaaGreat
set_option maxRecDepth 100000
set_option linter.unusedVariables false
open Go.RowKit Go.Shelf

theorem cell_at {w : World} {W : Nat} {t : TypeId} {cs : Array Value} (h : w.heap[W]? = some (.cells cs t (0, 0))) (i : Nat) : w.cell? ⟨W, i, none⟩ = cs[i]? := by simp [World.cell?, h]
theorem frz_at {w : World} {W : Nat} {t : TypeId} {cs : Array Value} (h : w.heap[W]? = some (.cells cs t (0, 0))) (i : Nat) : w.frozen? ⟨W, i, none⟩ = false := by simp [World.frozen?, h]
/-- Cells of numbers with signs. -/
def zc (xs : List Int) : List Value := xs.map (Value.int .i64)
theorem zc_length (xs : List Int) : (zc xs).length = xs.length := by simp [zc]
theorem zc_get (xs : List Int) (i : Nat) (h : i < xs.length) : (zc xs)[i]? = some (.int .i64 (xs[i]?.getD 0)) := by
  simp [zc, List.getElem?_map, List.getElem?_eq_getElem h]
theorem zc_append (a b : List Int) : zc (a ++ b) = zc a ++ zc b := by simp [zc]
theorem zc_one (xs : List Int) : ∀ u ∈ zc xs, u.oneCell' = true := by
  intro u hu
  simp only [zc, List.mem_map] at hu
  obtain ⟨x, _, rfl⟩ := hu
  rfl
theorem nc_ones (xs : List Nat) : ∀ u ∈ nc xs, u.oneCell' = true := by
  intro u hu
  simp only [nc, List.mem_map] at hu
  obtain ⟨x, _, rfl⟩ := hu
  rfl
theorem ns_get (l : List Nat) (i : Nat) (h : i < l.length) : (zc (ns l))[i]? = some (.int .i64 ((l[i]?.getD 0 : Nat) : Int)) := by
  simp [zc, ns, List.getElem?_map, List.getElem?_eq_getElem h]
theorem at_mem (l : List Nat) (i : Nat) (h : i < l.length) : l[i]?.getD 0 ∈ l := by rw [List.getElem?_eq_getElem h]; exact List.getElem_mem h
theorem zc_nset (l : List Nat) (i u : Nat) : zc (ns (l.set i u)) = (zc (ns l)).set i (.int .i64 (u : Int)) := by simp [zc, ns, List.map_set]
theorem ret_i64 {a b : Int} (h : a = b) : Ending.returned (.int .i64 a) = .returned (.int .i64 b) := by rw [h]
theorem own_sliceT {w : World} {base k : Nat} {T : TypeId} {v : Value} {n : Nat} {xs : List Value} (h : w.ownsRow base T k v n xs) : ∃ A c, v = .slice A n c := by
  rcases h.2 with ⟨rfl, rfl⟩ | ⟨g, cap, cur, rfl, _⟩
  · exact ⟨none, 0, rfl⟩
  · exact ⟨_, cap, rfl⟩
theorem grown_low {w w' : World} {B : Nat} {v : Value} {n k : Nat} {T : TypeId} {xs : List Value} (h : w.grownBy w' v.ownBlock) (ho : w.ownsRow B T k v n xs) (hB : B ≤ w.heap.size) : Below B w w' := by
  refine ⟨h.os, h.tape, h.output, h.size, fun j hj => h.block j (by omega) ?_⟩
  intro e
  rcases ho.2 with ⟨rfl, _⟩ | ⟨g, cap, cur, rfl, hb, _⟩
  · simp [Value.ownBlock] at e
  · simp only [Value.ownBlock, Option.some.injEq] at e
    omega
/-- New cells, read one by one. -/
theorem news_row (w : World) (vs : List Value) (T : TypeId) : ∀ j u, vs[j]? = some u → (w.alloc (.cells vs.toArray T)).cell? ((⟨w.heap.size, 0, none⟩ : Addr).add j) = some u := by
  intro j u hu
  have ha : (⟨w.heap.size, 0, none⟩ : Addr).add j = ⟨w.heap.size, 0 + j, none⟩ := by unfold Addr.add; split <;> simp_all
  rw [ha, cell_at (World.alloc_heap_new w (.cells vs.toArray T)), Nat.zero_add]
  simpa using hu
end Go.Proofs.YticdnodlapafoaaGreat
