/- Join gives bits that lie in no old block: the contract of Join once more, with that. -/
import Derived.Test.YticdnodlapafoaaGreatJS1
import Derived.Test.YticdnodlapafoaaGreatJS2
namespace Go.Proofs.YticdnodlapafoaaGreat
set_option maxRecDepth 100000
set_option linter.unusedVariables false
open Go.RowKit

/-- Bits come back that lie in no old block. -/
def GaveF (w : World) (l : List Bool) (e : Ending) (w' : World) : Prop :=
  ∃ A c, e = .returned (.tuple #[.agg #[.int .i64 (l.length : Int), .slice A (pack l).length c], .int .i64 0]) ∧ Rd w' w'.heap.size A (pack l) ∧ Below w.heap.size w w' ∧ ∀ g, (Value.slice A (pack l).length c).ownBlock = some g → w.heap.size ≤ g
theorem finishF {w wr : World} {S : Nat → Prop} {W r : Nat} {L : List Bool} {a b : Value} (hw : Wr wr S W L) (hS : ∀ k, k < w.heap.size → S k) (hr : w.heap.size ≤ r) (hSr : S r) (hrb : wr.heap[r]? = some (.cells #[a, b] 27 (0, 0))) (hb : Below w.heap.size w wr) :
    ∃ A c, (wr.cell? ⟨W, 0, none⟩ = some (.int .i64 (L.length : Int)) ∧ wr.cell? ⟨W, 1, none⟩ = some (.slice A (pack L).length c)) ∧
      (wr.cell? ⟨r, 0, none⟩ = some a ∧ wr.cell? ⟨r, 1, none⟩ = some b ∧ wr.frozen? ⟨r, 0, none⟩ = false ∧ wr.frozen? ⟨r, 1, none⟩ = false) ∧
      Hid (GaveF w L (.returned (.tuple #[.agg #[.int .i64 (L.length : Int), .slice A (pack L).length c], .int .i64 0])) ((wr.setCell ⟨r, 0, none⟩ (.int .i64 (L.length : Int))).setCell ⟨r, 1, none⟩ (.slice A (pack L).length c))) := by
  have hw' := hw
  obtain ⟨v, hW, ho, _, hg⟩ := hw
  obtain ⟨A0, c0, rfl⟩ := own_slice ho
  obtain ⟨A, c, h1, h2, h3⟩ := finish hw' hr hSr hrb hb
  have e1 := (blk_cells hW).2.1
  have e2 := h1.2
  rw [e1] at e2
  simp only [Option.some.injEq, Value.slice.injEq] at e2
  obtain ⟨rfl, _, rfl⟩ := e2
  obtain ⟨A', c', g1, g2, g3⟩ := h3.out
  simp only [Ending.returned.injEq, Value.tuple.injEq] at g1
  refine ⟨A0, c0, h1, h2, A0, c0, rfl, ?_, g3, fun g hgg => ?_⟩
  · have : A' = A0 := by simp at g1; exact g1.1.symm
    rw [this] at g2
    exact g2
  · rcases Nat.lt_or_ge g w.heap.size with hlt | hge
    · exact absurd (hS g hlt) (hg g hgg)
    · exact hge
set_option maxHeartbeats 1000000 in
theorem join_f (a b L : List Bool) (ha : a.length ≤ 8192) (hb : b.length ≤ 8192) (A B : Option Addr) (c d : Nat) (w : World) (hA : Rd w w.heap.size A (pack a)) (hB : Rd w w.heap.size B (pack b)) (hL : L = a ++ b) (hf' : a.length + b.length ≤ 8192) :
    Calls Tryz.prog 25 #[.agg #[.int .i64 (a.length : Int), .slice A (pack a).length c], .agg #[.int .i64 (b.length : Int), .slice B (pack b).length d]] w (GaveF w L) := by
  have hX := check_later (a.length : Int) A c (pack a) w (pack_lt a) hA (begun3 w (.int .i64 (a.length : Int)) (.int .i64 (b.length : Int)) (.slice A (pack a).length c) (.slice B (pack b).length d)) (begun3_below _ _ _ _ _)
  rw [chk_pack a ha, begun3_size] at hX
  have HX := Lib.hid hX; clear hX
  have hY := check_later (b.length : Int) B d (pack b) w (pack_lt b) hB
  rw [chk_pack b hb] at hY
  have HY := Lib.hid hY; clear hY
  have HBz := Lib.hid (begun3_below w (.int .i64 (a.length : Int)) (.int .i64 (b.length : Int)) (.slice A (pack a).length c) (.slice B (pack b).length d))
  have HCP : Hid (∀ w2, Below w.heap.size w w2 → Calls Tryz.prog 59 #[.agg #[.int .i64 (a.length : Int), .slice A (pack a).length c]] w2 (Copied w2 (a.length : Int) (pack a).length (pack a))) := fun w2 hq =>
    copy_any _ w2 A c (pack a) (by rw [pack_length]; omega) (hA.below hq hq.size)
  have HL := Lib.hid hL; clear hL
  have HBR := Lib.hid hB; clear hB hA
  go_enter Tryz.func25, Tryz.ntmps25
  go_wp2_with fail
  refine HX.out.mono ?_
  rintro e w1 ⟨rfl, hq⟩
  unfold begun3 at hq
  obtain ⟨hc1, hf1⟩ := old_cells hq
  have HS : Hid (w.heap.size + 3 ≤ w1.heap.size) := by have := hq.size; rw [show (((w.alloc _).alloc _).alloc _).heap.size = w.heap.size + 3 from begun3_size w _ _ _ _] at this; exact this
  go_wp2_with fail
  refine (HY.out w1 (HBz.out.trans (hq.mono (by omega)))).mono ?_
  rintro e w2 ⟨rfl, hq2⟩
  have hq3 := hq.trans (hq2.mono HS.out)
  have HS2 : Hid (w.heap.size + 3 ≤ w2.heap.size) := by have h1 := HS.out; have h2 := hq2.size; show _ ≤ _; omega
  clear hc1 hf1 hq hq2
  obtain ⟨hc1, hf1⟩ := old_cells hq3
  go_wp2_with fail
  refine (HCP.out w2 (HBz.out.trans (hq3.mono (by omega)))).mono ?_
  rintro e w3 ⟨A2, c2, rfl, ho3, hb3⟩
  have hq4 := hq3.trans (hb3.mono HS2.out)
  have HS3 : Hid (w.heap.size + 3 ≤ w3.heap.size) := by have h1 := HS2.out; have h2 := hb3.size; show _ ≤ _; omega
  have HW : Hid (Wr (w3.alloc (.cells #[.int .i64 (a.length : Int), .slice A2 (pack a).length c2] 95)) (fun k => k < w.heap.size + 3) w3.heap.size a) := Wr.laid ho3 (fun j hj => by have := HS2.out; omega) hb3.size
  have HR : Hid (Rd (w3.alloc (.cells #[.int .i64 (a.length : Int), .slice A2 (pack a).length c2] 95)) w.heap.size B (pack b)) := HBR.out.below ((HBz.out.trans (hq4.mono (by omega))).alloc (by have := HS3.out; omega) _) (Nat.le_refl _)
  clear hc1 hf1 ho3 hb3
  obtain ⟨hc1, hf1⟩ := old_cells hq4
  have hs1 : w.heap.size + 1 < w3.heap.size := by have := HS3.out; omega
  go_wp2_with fail
  have hz0 : ((0 : Nat) : Int) = 0 := rfl
  rw [← hz0]
  refine (addBits_any _ (fun k => k < w.heap.size + 3) (fun j hj => by have := HS3.out; simp only [World.size_alloc]; omega) w3.heap.size a b hb B d w.heap.size (fun k hk => by omega) (by have := HS3.out; simp only [World.size_alloc]; omega) 0 b.length (by omega) (Nat.le_refl _) (by omega) HW.out HR.out).mono ?_
  rintro e w4 ⟨rfl, hw4, hf4⟩
  rw [List.drop_zero, Nat.sub_zero, List.take_length, ← HL.out] at hw4
  have hwb : w4.heap[w.heap.size + 1 + 1]? = some (.cells #[.int .i64 0, .slice none 0 0] 27 (0, 0)) := by
    rw [hf4.block _ (by omega), Below.heap_alloc _ _ _ (by have := HS3.out; omega), hq4.block _ (by omega)]
    exact begun3_res w _ _ _ _
  have hlow : Below w.heap.size w w4 := ((HBz.out.trans (hq4.mono (by omega))).alloc (by have := HS3.out; omega) _).trans (hf4.below (fun j hj => by omega))
  obtain ⟨A3, c3, ⟨d0, d1⟩, ⟨d2, d3, g0, g1⟩, HG⟩ := finishF hw4 (fun k hk => by omega) (r := w.heap.size + 1 + 1) (by omega) (by omega) hwb hlow
  clear hwb hlow hw4 hf4 hc1 hf1 hz0
  go_wp2
  exact bodyPost_ret (v := .tuple #[.agg #[.int .i64 (L.length : Int), .slice A3 (pack L).length c3], .int .i64 0]) (by simp [results, Tryz.results25, go_sem, d2, d3]) rfl HG.out
end Go.Proofs.YticdnodlapafoaaGreat
