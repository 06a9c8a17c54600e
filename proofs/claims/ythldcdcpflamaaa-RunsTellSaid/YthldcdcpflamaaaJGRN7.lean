/- Two rows of the call's own, one of runs and one of whole numbers, their slices in two boxes: a run more in the one, a run's numbers more in the other. -/
import Derived.Test.YthldcdcpflamaaaJGRN6
namespace Go.Proofs.Ythldcdcpflamaaa
set_option maxRecDepth 100000
set_option linter.unusedVariables false
open Go.RowKit Go.Shelf

theorem info_run : (Try.prog.info? 60).map (fun i => (i.zero, i.size, i.bytes)) = some (some (.agg #[.int .i64 0, .int .i64 0]), 2, 16) := by kernel_rfl
theorem own_same {W W' : World} {base size n : Nat} {e : TypeId} {v : Value} {xs : List Value} (h : W.ownsRow base e size v n xs) (hs : ∀ g, v.ownBlock = some g → W'.heap[g]? = W.heap[g]?) : W'.ownsRow base e size v n xs := by
  refine ⟨h.1, ?_⟩
  rcases h.2 with h | ⟨g, cap, cur, rfl, hb, hg, rest⟩
  · exact .inl h
  · exact .inr ⟨g, cap, cur, rfl, hb, (hs g rfl).trans hg, rest⟩
theorem own_type {W : World} {base size n : Nat} {e : TypeId} {v : Value} {xs : List Value} (h : W.ownsRow base e size v n xs) (g : Nat) (hg : v.ownBlock = some g) : ∃ cs, W.heap[g]? = some (.cells cs e (0, 0)) ∧ base ≤ g := by
  rcases h.2 with ⟨rfl, _⟩ | ⟨g', cap, cur, rfl, hb, hh, _⟩
  · simp [Value.ownBlock] at hg
  · have : g' = g := by simpa [Value.ownBlock] using hg
    subst this
    exact ⟨cur, hh, hb⟩
theorem own_ltb {W : World} {base size n : Nat} {e : TypeId} {v : Value} {xs : List Value} (h : W.ownsRow base e size v n xs) (g : Nat) (hg : v.ownBlock = some g) : base ≤ g ∧ g < W.heap.size := by
  obtain ⟨cs, h1, h2⟩ := own_type h g hg
  exact ⟨h2, (Array.getElem?_eq_some_iff.1 h1).1⟩
theorem good_of {base B1 B2 size n : Nat} {X : World} {t t2 e : TypeId} {v1 v2 : Value} {xs : List Value} (h1 : base ≤ B1) (h2 : base ≤ B2) (b1 : Boxed X B1 t v1) (r1 : X.ownsRow base e size v1 n xs) (b2 : Boxed X B2 t2 v2) : Good base B1 B2 X :=
  ⟨h1, h2, b1.lt, b2.lt, fun j ⟨v, hv, ho⟩ => by
    rw [b1.cell] at hv; cases hv
    exact own_ltb r1 j ho⟩
theorem ownB_box {B : Nat} {X : World} {t : TypeId} {v : Value} (b : Boxed X B t v) (j : Nat) : OwnB B X j ↔ v.ownBlock = some j := by
  unfold OwnB
  rw [b.cell]
  constructor
  · rintro ⟨v', h1, h2⟩; cases h1; exact h2
  · exact fun h => ⟨v, rfl, h⟩

theorem long_step {base B1 B2 n1 m1 n2 : Nat} {X w3 : World} {v1 v1' v2 : Value} {xs1 ys1 xs2 : List Value} {tmp : Obj} (h1 : base ≤ B1) (h2 : base ≤ B2) (hne : B1 ≠ B2)
    (b1 : Boxed X B1 49 v1) (r1 : X.ownsRow base 60 2 v1 n1 xs1) (b2 : Boxed X B2 22 v2) (r2 : X.ownsRow base 3 1 v2 n2 xs2)
    (hgrow : (X.alloc tmp).grownBy w3 v1.ownBlock) (hown : w3.ownsRow base 60 2 v1' m1 ys1) (hat : v1'.ownBlock = v1.ownBlock ∨ v1'.ownBlock = some (X.alloc tmp).heap.size) :
    w3.cell? ⟨B1, 0, none⟩ = some v1 ∧ w3.frozen? ⟨B1, 0, none⟩ = false ∧
    Hid (KX base B1 B2 X (w3.setCell ⟨B1, 0, none⟩ v1') ∧ Boxed (w3.setCell ⟨B1, 0, none⟩ v1') B1 49 v1' ∧ (w3.setCell ⟨B1, 0, none⟩ v1').ownsRow base 60 2 v1' m1 ys1 ∧
      Boxed (w3.setCell ⟨B1, 0, none⟩ v1') B2 22 v2 ∧ (w3.setCell ⟨B1, 0, none⟩ v1').ownsRow base 3 1 v2 n2 xs2 ∧ Fr (fun j => j < base) X (w3.setCell ⟨B1, 0, none⟩ v1')) := by
  have g := good_of h1 h2 b1 r1 b2
  have b13 : Boxed w3 B1 49 v1 := (b1.alloc tmp).kept hgrow (b1.not_row (by decide) r1)
  have b23 : Boxed w3 B2 22 v2 := (b2.alloc tmp).kept hgrow (b2.not_row (by decide) r1)
  have hsz : X.heap.size + 1 ≤ w3.heap.size := by have := hgrow.size; simpa using this
  have hX : ∀ j, j < X.heap.size → v1.ownBlock ≠ some j → w3.heap[j]? = X.heap[j]? := fun j hj hn =>
    (hgrow.block j (by simp; omega) (fun e => hn e.symm)).trans (Below.heap_alloc _ _ _ hj)
  have r23 : w3.ownsRow base 3 1 v2 n2 xs2 := own_same r2 (fun q hq => hX q (own_ltb r2 q hq).2 (fun e => by
    obtain ⟨cs, e1, _⟩ := own_type r1 q e
    obtain ⟨cs2, e2, _⟩ := own_type r2 q hq
    rw [e1] at e2
    simp only [Option.some.injEq, Obj.cells.injEq] at e2
    exact absurd e2.2.1 (by decide)))
  have hset : ∀ j, j ≠ B1 → (w3.setCell ⟨B1, 0, none⟩ v1').heap[j]? = w3.heap[j]? := fun j hj => Below.heap_setCell _ _ _ _ hj
  have k1 := b13.set v1'
  have hs4 : (w3.setCell ⟨B1, 0, none⟩ v1').heap.size = w3.heap.size := by simp [World.setCell]
  refine ⟨b13.cell, b13.frozen, ?_, k1, ?_, b23.other hne.symm _, ?_, ?_⟩
  · intro _
    have g' : Good base B1 B2 (w3.setCell ⟨B1, 0, none⟩ v1') := ⟨h1, h2, by rw [hs4]; exact b13.lt, by rw [hs4]; exact b23.lt, fun j hj => by rw [ownB_box k1] at hj; rw [hs4]; exact own_ltb hown j hj⟩
    refine ⟨g', by rw [hs4]; omega, fun j hj => ?_⟩
    have hn1 : v1.ownBlock ≠ some j := fun e => by
      rcases hj.2 with h | ⟨_, _, _, h⟩
      · have := (own_ltb r1 j e).1; omega
      · exact h ((ownB_box b1 j).2 e)
    have hnb : j ≠ B1 := by
      rcases hj.2 with h | ⟨_, h, _, _⟩
      · omega
      · exact h
    have hh := (hset j hnb).trans (hX j hj.1 hn1)
    refine ⟨hh, by have := hj.1; rw [hs4]; omega, ?_⟩
    rcases hj.2 with h | ⟨⟨cs, t, fr, h, ht⟩, a, b, _⟩
    · exact .inl h
    · refine .inr ⟨⟨cs, t, fr, hh.trans h, ht⟩, a, b, fun q => ?_⟩
      rw [ownB_box k1] at q
      rcases hat with e | e
      · rw [e] at q; exact hn1 q
      · rw [e] at q
        have := hj.1
        simp only [World.size_alloc, Option.some.injEq] at q
        omega
  · exact own_same hown (fun q hq => hset q (fun e => b13.not_row (by decide) hown (by rw [hq, e])))
  · exact own_same r23 (fun q hq => hset q (fun e => b13.not_row (by decide) r23 (by rw [hq, e])))
  · refine ((((Fr.refl (fun j => j < base) X).alloc (fun j hj => by have := b1.lt; omega) tmp).grown hgrow (fun j hj => by have := b1.lt; simp; omega) (fun j hj => by have := (own_ltb r1 j hj).1; omega) (fun j o hj ho => own_cells (r1.alloc tmp) j o hj ho))).setCell (p := ⟨B1, 0, none⟩) (fun h => by simp only at h; omega) _

theorem short_step {base B1 B2 n1 m2 : Nat} {X w3 : World} {v1 v2 v2' : Value} {xs1 ys2 : List Value} {tmp : Obj} (h1 : base ≤ B1) (h2 : base ≤ B2) (hne : B1 ≠ B2)
    (b1 : Boxed X B1 49 v1) (r1 : X.ownsRow base 60 2 v1 n1 xs1) (b2 : Boxed X B2 22 v2)
    (hfr : Fr (SI base (X.alloc tmp)) (X.alloc tmp) w3) (hown : w3.ownsRow base 3 1 v2' m2 ys2) :
    w3.cell? ⟨B2, 0, none⟩ = some v2 ∧ w3.frozen? ⟨B2, 0, none⟩ = false ∧
    Hid (KX base B1 B2 X (w3.setCell ⟨B2, 0, none⟩ v2') ∧ Boxed (w3.setCell ⟨B2, 0, none⟩ v2') B1 49 v1 ∧ (w3.setCell ⟨B2, 0, none⟩ v2').ownsRow base 60 2 v1 n1 xs1 ∧
      Boxed (w3.setCell ⟨B2, 0, none⟩ v2') B2 22 v2' ∧ (w3.setCell ⟨B2, 0, none⟩ v2').ownsRow base 3 1 v2' m2 ys2 ∧ Fr (fun j => j < base) X (w3.setCell ⟨B2, 0, none⟩ v2')) := by
  have hX : ∀ j, j < X.heap.size → (j < base ∨ ∃ cs t fr, X.heap[j]? = some (.cells cs t fr) ∧ t ≠ 3) → w3.heap[j]? = X.heap[j]? := fun j hj hc => by
    have ha : (X.alloc tmp).heap[j]? = X.heap[j]? := Below.heap_alloc _ _ _ hj
    refine (hfr.block j ⟨?_, by simp; omega⟩).trans ha
    rcases hc with h | ⟨cs, t, fr, h, ht⟩
    · exact .inl h
    · exact .inr ⟨cs, t, fr, ha.trans h, ht⟩
  have b13 : Boxed w3 B1 49 v1 := (hX B1 b1.lt (.inr ⟨_, _, _, b1, by decide⟩)).trans b1
  have b23 : Boxed w3 B2 22 v2 := (hX B2 b2.lt (.inr ⟨_, _, _, b2, by decide⟩)).trans b2
  have r13 : w3.ownsRow base 60 2 v1 n1 xs1 := own_same r1 (fun q hq => by
    obtain ⟨cs, e1, _⟩ := own_type r1 q hq
    exact hX q (own_ltb r1 q hq).2 (.inr ⟨_, _, _, e1, by decide⟩))
  have hsz : X.heap.size + 1 ≤ w3.heap.size := by have := hfr.size; simpa using this
  have hset : ∀ j, j ≠ B2 → (w3.setCell ⟨B2, 0, none⟩ v2').heap[j]? = w3.heap[j]? := fun j hj => Below.heap_setCell _ _ _ _ hj
  have k1 : Boxed (w3.setCell ⟨B2, 0, none⟩ v2') B1 49 v1 := b13.other hne _
  have hs4 : (w3.setCell ⟨B2, 0, none⟩ v2').heap.size = w3.heap.size := by simp [World.setCell]
  refine ⟨b23.cell, b23.frozen, ?_, k1, ?_, b23.set _, ?_, ?_⟩
  · intro g
    refine ⟨⟨h1, h2, by rw [hs4]; exact b13.lt, by rw [hs4]; exact b23.lt, fun j hj => by rw [ownB_box k1] at hj; rw [hs4]; exact own_ltb r13 j hj⟩, by rw [hs4]; omega, fun j hj => ?_⟩
    have hnb : j ≠ B2 := by
      rcases hj.2 with h | ⟨_, _, h, _⟩
      · omega
      · exact h
    have hh := (hset j hnb).trans (hX j hj.1 (hj.2.imp id (fun h => h.1)))
    refine ⟨hh, by have := hj.1; rw [hs4]; omega, ?_⟩
    rcases hj.2 with h | ⟨⟨cs, t, fr, h, ht⟩, a, b, c⟩
    · exact .inl h
    · refine .inr ⟨⟨cs, t, fr, hh.trans h, ht⟩, a, b, fun q => ?_⟩
      rw [ownB_box k1] at q
      exact c ((ownB_box b1 j).2 q)
  · exact own_same r13 (fun q hq => hset q (fun e => b23.not_row (by decide) r13 (by rw [hq, e])))
  · exact own_same hown (fun q hq => hset q (fun e => b23.not_row (by decide) hown (by rw [hq, e])))
  · refine (((Fr.refl (fun j => j < base) X).alloc (fun j hj => by have := b1.lt; omega) tmp).trans (hfr.mono (fun j hj => ⟨.inl hj, by have := b1.lt; simp; omega⟩))).setCell (p := ⟨B2, 0, none⟩) (fun h => by simp only at h; omega) _
end Go.Proofs.Ythldcdcpflamaaa
