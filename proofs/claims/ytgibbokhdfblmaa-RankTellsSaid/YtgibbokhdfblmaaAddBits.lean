/- A part of a sequence of bits is added to a writer. -/
import Derived.Test.YtgibbokhdfblmaaIter
namespace Go.Proofs.Ytgibbokhdfblmaa
open Go.RowKit Go.Shelf

attribute [local go_sem] Oper.semAt_some

/-- A writer is one still where a block that is no cells has turned. -/
theorem wr_own (S : Nat → Prop) (W : Nat) (l0 : List Bool) : Own (fun (pre : List Bool) X => Wr X S W (l0 ++ pre)) := by
  rintro pre X Y row ⟨v, hW, ho, hS, hg⟩ hgr hrow
  refine ⟨v, (hgr.block W (Array.getElem?_eq_some_iff.1 hW).1 (fun e => ?_)).trans hW, ho.kept hgr ?_, hS, hg⟩
  · obtain ⟨o, h1, h2⟩ := hrow W e.symm
    rw [hW] at h1; cases h1; cases h2
  · rcases ho.2 with ⟨rfl, _⟩ | ⟨g, cap, cur, rfl, _, hgb, _⟩
    · exact .inl rfl
    · refine .inr fun e' => ?_
      obtain ⟨o, h1, h2⟩ := hrow g (by simpa [Value.ownBlock] using e'.symm)
      rw [hgb] at h1; cases h1; cases h2

theorem fr_own {β : Type} (S : Nat → Prop) (w : World) (B : Nat) (hB : w.heap.size ≤ B) (hS : ∀ k, S k → k < B) : OwnFrom B (fun (_ : β) X => Fr S w X ∧ B ≤ X.heap.size) := by
  rintro s X Y row ⟨h, hz⟩ hgr hrow
  have hk : ∀ k, k < B → Y.heap[k]? = X.heap[k]? := fun k hk => hgr.block k (by omega) (fun e => by have := (hrow k e.symm).1; omega)
  refine ⟨⟨hgr.os.trans h.os, hgr.tape.trans h.tape, hgr.output.trans h.output, Nat.le_trans h.size hgr.size, fun k hs => (hk k (hS k hs)).trans (h.block k hs), fun k o ho hc => ?_⟩, Nat.le_trans hz hgr.size⟩
  have : k < w.heap.size := (Array.getElem?_eq_some_iff.1 ho).1
  exact (hk k (by omega)).trans (h.same k o ho hc)

theorem fr_put {S : Nat → Prop} {w X : World} {B D : Nat} {o o' : Obj} (h : Fr S w X) (hB : w.heap.size ≤ B) (hS : ∀ k, S k → k < B) (hD : B ≤ D) (_ : X.heap[D]? = some o) : Fr S w (X.putObj D o') :=
  ⟨h.os, h.tape, h.output, by rw [World.putObj_size]; exact h.size, fun k hs => (World.putObj_heap_other (by have := hS k hs; omega)).trans (h.block k hs), fun k p hp hc =>
    (World.putObj_heap_other (by have : k < w.heap.size := (Array.getElem?_eq_some_iff.1 hp).1; omega)).trans (h.same k p hp hc)⟩

/-- The blocks that a visit wants kept, and those of S0. -/
def visit (S0 : Nat → Prop) (s : Nat) (k : Nat) : Prop := S0 k ∨ k = s ∨ k = s + 2 ∨ k = s + 3 ∨ k = s + 4

/-- Five blocks, as addBits lays them. -/
theorem five (w : World) (a b c d e : Obj) : ((((((w.alloc a).alloc b).alloc c).alloc d).alloc e).heap.size = w.heap.size + 5) ∧
    (((((w.alloc a).alloc b).alloc c).alloc d).alloc e).heap[w.heap.size]? = some a ∧ (((((w.alloc a).alloc b).alloc c).alloc d).alloc e).heap[w.heap.size + 2]? = some c ∧
    (((((w.alloc a).alloc b).alloc c).alloc d).alloc e).heap[w.heap.size + 3]? = some d ∧ (((((w.alloc a).alloc b).alloc c).alloc d).alloc e).heap[w.heap.size + 4]? = some e := by
  have n0 := World.alloc_heap_new w a
  have n2 := World.alloc_heap_new ((w.alloc a).alloc b) c
  have n3 := World.alloc_heap_new (((w.alloc a).alloc b).alloc c) d
  have n4 := World.alloc_heap_new ((((w.alloc a).alloc b).alloc c).alloc d) e
  simp only [World.size_alloc] at n2 n3 n4
  refine ⟨by simp only [World.size_alloc], ?_, ?_, ?_, n4⟩
  · rw [Below.heap_alloc _ _ _ (by simp only [World.size_alloc]; omega), Below.heap_alloc _ _ _ (by simp only [World.size_alloc]; omega), Below.heap_alloc _ _ _ (by simp only [World.size_alloc]; omega), Below.heap_alloc _ _ _ (by simp only [World.size_alloc]; omega)]; exact n0
  · rw [Below.heap_alloc _ _ _ (by simp only [World.size_alloc]; omega), Below.heap_alloc _ _ _ (by simp only [World.size_alloc]; omega)]; exact n2
  · rw [Below.heap_alloc _ _ _ (by simp only [World.size_alloc]; omega)]; exact n3

theorem box_cell {w : World} {B : Nat} {t : TypeId} {v : Value} (h : w.heap[B]? = some (.cells #[v] t (0, 0))) : w.cell? ⟨B, 0, none⟩ = some v := by simp [World.cell?, h]

theorem Wr.keep {w w' : World} {S S' : Nat → Prop} {W : Nat} {l : List Bool} (h : Wr w S W l) (hk : ∀ k, k < w.heap.size → w'.heap[k]? = w.heap[k]?) (hS : ∀ k, S' k → S k ∨ w.heap.size ≤ k) : Wr w' S' W l := by
  obtain ⟨v, hW, ho, hs, hg⟩ := h
  have hlt : W < w.heap.size := (Array.getElem?_eq_some_iff.1 hW).1
  refine ⟨v, (hk W hlt).trans hW, ⟨ho.1, ?_⟩, fun h => ?_, fun g e h => ?_⟩
  · rcases ho.2 with h | ⟨g, cap, cur, h1, h2, h3, h4⟩
    · exact .inl h
    · exact .inr ⟨g, cap, cur, h1, h2, (hk g (Array.getElem?_eq_some_iff.1 h3).1).trans h3, h4⟩
  · rcases hS W h with h | h
    · exact hs h
    · omega
  · rcases hS g h with h | h
    · exact hg g e h
    · have := (ho.lt g e).2; omega

set_option maxRecDepth 100000 in
set_option maxHeartbeats 2000000 in
theorem addBits_any (w : World) (S0 : Nat → Prop) (hS0 : ∀ k, S0 k → k < w.heap.size) (W : Nat) (l0 l : List Bool) (hl : l.length ≤ 8192) (A : Option Addr) (c B0 : Nat) (hB0 : ∀ k, k < B0 → S0 k) (hB1 : B0 ≤ w.heap.size) (fr to : Nat) (hft : fr ≤ to) (hto : to ≤ l.length)
    (hroom : l0.length + (to - fr) ≤ 8192) (hw : Wr w S0 W l0) (hRd : Rd w B0 A (pack l)) :
    Calls Try.prog 68 #[.pointer (some ⟨W, 0, none⟩), .agg #[.int .i64 (l.length : Int), .slice A (pack l).length c], .int .i64 (fr : Int), .int .i64 (to : Int)] w fun e w' => e = .returned (.tuple #[]) ∧ Wr w' S0 W (l0 ++ (l.drop fr).take (to - fr)) ∧ Fr S0 w w' := by
  refine (callsIn_wide (n := 3)).1 ?_
  refine callsIn_of_wp_marks Try.func68 rfl trivial ?_ rfl
  simp only [Try.ntmps68, List.size_toArray, List.length_cons, List.length_nil, Nat.reduceAdd, Nat.reduceSub, Array.replicate_succ, Array.replicate_zero, List.push_toArray, List.append_toArray, List.nil_append, List.cons_append]
  gi_wp2_with (refine ⟨trivial, ?_⟩; gi_at_call 66; refine (bitsOf_in Fence.wide 2 trivial rfl _ _ _ _ _ _ _).mono ?_; rintro e w' ⟨rfl, rfl⟩)
  simp only [Nat.add_assoc, Nat.reduceAdd]
  obtain ⟨hz, b0, b2, b3, b4⟩ := five w (.cells #[.pointer (some ⟨W, 0, none⟩)] 122) (.cells #[.int .i64 (l.length : Int), .slice A (pack l).length c] 25) (.cells #[.int .i64 (l.length : Int), .slice A (pack l).length c] 25) (.cells #[.int .i64 (fr : Int)] 3) (.cells #[.int .i64 (to : Int)] 3)
  have hfr0 : Fr S0 w (((((w.alloc (.cells #[.pointer (some ⟨W, 0, none⟩)] 122)).alloc (.cells #[.int .i64 (l.length : Int), .slice A (pack l).length c] 25)).alloc (.cells #[.int .i64 (l.length : Int), .slice A (pack l).length c] 25)).alloc (.cells #[.int .i64 (fr : Int)] 3)).alloc (.cells #[.int .i64 (to : Int)] 3)) := by
    refine (((((Fr.refl S0 w).alloc hS0 _).alloc ?_ _).alloc ?_ _).alloc ?_ _).alloc ?_ _
    all_goals
      intro k hk
      have := hS0 k hk
      simp only [World.size_alloc]
      omega
  have hold : ∀ k, k < w.heap.size → (((((w.alloc (.cells #[.pointer (some ⟨W, 0, none⟩)] 122)).alloc (.cells #[.int .i64 (l.length : Int), .slice A (pack l).length c] 25)).alloc (.cells #[.int .i64 (l.length : Int), .slice A (pack l).length c] 25)).alloc (.cells #[.int .i64 (fr : Int)] 3)).alloc (.cells #[.int .i64 (to : Int)] 3)).heap[k]? = w.heap[k]? := by
    intro k hk
    rw [Below.heap_alloc _ _ _ (by simp only [World.size_alloc]; omega), Below.heap_alloc _ _ _ (by simp only [World.size_alloc]; omega), Below.heap_alloc _ _ _ (by simp only [World.size_alloc]; omega), Below.heap_alloc _ _ _ (by simp only [World.size_alloc]; omega), Below.heap_alloc _ _ _ hk]
  generalize (((((w.alloc (.cells #[.pointer (some ⟨W, 0, none⟩)] 122)).alloc (.cells #[.int .i64 (l.length : Int), .slice A (pack l).length c] 25)).alloc (.cells #[.int .i64 (l.length : Int), .slice A (pack l).length c] 25)).alloc (.cells #[.int .i64 (fr : Int)] 3)).alloc (.cells #[.int .i64 (to : Int)] 3)) = w5 at *
  have hvis : ∀ k, visit S0 w.heap.size k → k < w5.heap.size := by
    rintro k (h | h | h | h | h)
    · have := hS0 k h; omega
    all_goals omega
  have hwr0 : Wr w5 (visit S0 w.heap.size) W l0 := hw.keep hold (fun k hk => by
    rcases hk with h | h | h | h | h
    · exact .inl h
    all_goals (right; omega))
  refine wpIn_rangeFunc_ownG rfl (by decide) (gf := 88) (lb := #[.pointer (some ⟨w.heap.size + 3, 0, none⟩), .pointer (some ⟨w.heap.size + 4, 0, none⟩), .pointer (some ⟨w.heap.size + 2, 0, none⟩)]) rfl trivial (enters_of Try.func88 (by kernel_rfl) rfl)
    (bits_stops Fence.wide 2 trivial rfl (by decide) (w.heap.size + 3) (w.heap.size + 4) (w.heap.size + 2) B0 c A (visit S0 w.heap.size) l hl fr to hft hto (.inr (.inr (.inr (.inr rfl)))) (.inr (.inr (.inl rfl))) (fun k hk => .inl (hB0 k hk)) w5 (by omega) (by omega) (by omega) (by omega)
      (box_cell b3) (box_cell b4) (blk_cells b2).2.1 (hRd.keep (Nat.le_refl _) (fun k hk => hold k (by omega))))
    (fun h k => keepQ_t h k) (keepQ_b hvis) (Below.refl _ _) (fun _ => rfl)
    (fun pre X => Wr X (visit S0 w.heap.size) W (l0 ++ pre) ∧ (Fr (visit S0 w.heap.size) w5 X ∧ w5.heap.size ≤ X.heap.size))
    (fun _ _ _ => False)
    (OwnFrom.and (Own.from (wr_own _ W l0) _) (fr_own _ w5 w5.heap.size (Nat.le_refl _) hvis))
    (fun _ _ _ _ _ hs _ _ => hs)
    ⟨by rw [List.append_nil]; exact hwr0, Fr.refl _ _, Nat.le_refl _⟩
    (fun x => { tmps := #[.pointer (some ⟨W, 0, none⟩), .agg #[.int .i64 (l.length : Int), .slice A (pack l).length c], .int .i64 (fr : Int), .int .i64 (to : Int), .pointer (some ⟨w.heap.size, 0, none⟩), .pointer (some ⟨w.heap.size + 1, 0, none⟩), undef, undef, .int .u8 (x.toNat : Int), .agg #[.int .i64 (l.length : Int), .slice A (pack l).length c], .int .i64 (fr : Int), .int .i64 (to : Int), .func (.func 88) #[] #[.pointer (some ⟨w.heap.size + 3, 0, none⟩), .pointer (some ⟨w.heap.size + 4, 0, none⟩), .pointer (some ⟨w.heap.size + 2, 0, none⟩)], .int .u8 (x.toNat : Int), undef, undef, undef], defers := [] }) ?assign ?body ?done ?stop
  case assign =>
    intro lp x X K hK
    gi_wp2
    exact hK
  case body =>
    rintro lp pre x X ⟨hwr, hfr, hzz⟩ hlt
    have hcp : X.cell? ⟨w.heap.size, 0, none⟩ = some (.pointer (some ⟨W, 0, none⟩)) := box_cell ((hfr.block _ (.inr (.inl rfl))).trans b0)
    have HA := Lib.hid (addBit_any X (visit S0 w.heap.size) (fun k hk => by have := hvis k hk; omega) W (l0 ++ pre) x (by rw [List.length_append]; omega) hwr)
    clear hwr
    gi_wp2_with (refine ⟨trivial, ?_⟩; gi_at_call 87; refine (CallsIn.inRound lp (callsIn_wide.2 HA.out)).mono ?_; rintro e X2 ⟨rfl, hw2, hf2⟩)
    exact ⟨hf2.others.from _, hf2.block, by rw [← List.append_assoc]; exact hw2, hfr.trans hf2, Nat.le_trans hzz hf2.size⟩
  case done =>
    rintro D ys X hD rfl ⟨hwr, hfr, hzz⟩ hK
    gi_wp2
    refine ⟨by simp, .inl ⟨_, _, rfl, run_takeDeferred hK, ?_⟩⟩
    have hw3 : Wr (X.putObj D (.deferred none)) S0 W (l0 ++ (l.drop fr).take (to - fr)) := by
      obtain ⟨v, h1, h2, h3, h4⟩ := wr_own (visit S0 w.heap.size) W l0 _ X (X.putObj D (.deferred none)) (some D) hwr (grownBy_putObj' X D _) (fun r e => by cases e; exact ⟨_, hK, rfl⟩)
      exact ⟨v, h1, h2, fun h => h3 (.inl h), fun g e h => h4 g e (.inl h)⟩
    have hf3 : Fr S0 w (X.putObj D (.deferred none)) := fr_put (hfr0.trans (hfr.mono (fun k h => .inl h))) (by omega) (fun k hk => by have := hS0 k hk; omega) hD hK
    exact ⟨_, results_none rfl _ _ _, rfl, hw3, hf3⟩
  case stop =>
    rintro D c pre W _ _ h _
    exact h.elim
end Go.Proofs.Ytgibbokhdfblmaa
