/- What is asked of all arcs of a list; no condition but those that each fact names. -/
import Derived.Test.YtnbjhldpadjgfaaWCkA
namespace Go.Proofs.Ytnbjhldpadjgfaa
set_option maxRecDepth 100000
set_option linter.unusedVariables false
open Go.RowKit Go.Shelf

def EarRel (N : Int) (bm Bm : Nat) (l : List Ri) (w : World) (p : Value) (wr : World) : Prop :=
  ∃ (i : Nat) (S : List Ar), i ≤ l.length ∧ p = .int .i64 (i : Int) ∧ caE N [] l = caE N S (l.drop i) ∧ ASet wr bm i S ∧ wr.heap[Bm]? = some (.cells #[.map (some bm)] 100 (0, 0)) ∧ Below bm w wr
theorem entersCkA1 : ∀ args w, (callFunc 79 args).run Try.prog w = .ok (.enter 79 args) w := enters_of Try.func79 (by kernel_rfl) rfl
set_option maxHeartbeats 1000000 in
theorem each_arc (N : Int) (hN : N ≤ 100) (Bi Bm bm Bn : Nat) (hi : Bi < bm) (hbn : Bn < bm) (hm : bm < Bm) (l : List Ri) (n : Nat) (hn : l.length = n) (hn2 : n ≤ 600) (A : Option Addr) (c : Nat) (w : World) (h : RdV w bm A (rcs l))
    (hBi : w.heap[Bi]? = some (.cells #[.func (.func 80) #[] #[.pointer (some ⟨Bn, 0, none⟩)]] 54 (0, 0))) (hBn : w.heap[Bn]? = some (.cells #[.int .i64 N] 3 (0, 0))) (hBm : w.heap[Bm]? = some (.cells #[.map (some bm)] 100 (0, 0))) (hS : ASet w bm 0 []) :
    Calls Try.prog 78 #[.slice A n c, .func (.func 79) #[] #[.pointer (some ⟨Bi, 0, none⟩), .pointer (some ⟨Bm, 0, none⟩)]] w fun e w' => e = .returned (.int .i64 (caE N [] l)) ∧ Below bm w w' := by
  have hlm : Bm < w.heap.size := (Array.getElem?_eq_some_iff.1 hBm).1
  have HR := Lib.hid h; clear h
  have HNn := Lib.hid hn; clear hn
  have HG := Lib.hid (entersCkA1)
  have HH := Lib.hid (⟨hBi, hBn, hBm, hS⟩ : _ ∧ _ ∧ _ ∧ _)
  clear hBi hBn hBm hS
  go_enter Try.func78, Try.ntmps78
  go_wp2
  go_loopw [10] (fun p wr => EarRel N bm Bm l w p wr) (fun p _ => n - (intOf p).toNat)
  case atStart => exact ⟨0, [], Nat.zero_le _, rfl, rfl, HH.out.2.2.2, HH.out.2.2.1, Below.refl _ _⟩
  case round =>
    obtain ⟨i, S, hi2, rfl, ht, hset, hbox, hbel⟩ := hrel
    rw [HNn.out] at hi2
    by_cases hlt : i < n
    · have hin : i < l.length := by rw [HNn.out]; exact hlt
      have hR := HR.out.below hbel (Nat.le_refl _)
      obtain ⟨r0, r1⟩ := rcs_at l i hin
      obtain ⟨b, off, rfl, hb, k0⟩ := hR.at_ r0
      obtain ⟨b2, off2, hA2, hb2, k1⟩ := hR.at_ r1
      simp only [Option.some.injEq, Addr.mk.injEq, and_true] at hA2
      obtain ⟨rfl, rfl⟩ := hA2
      rw [← Nat.add_assoc] at k1
      rw [drop_atP l i hin, caE_cons] at ht
      clear r0 r1 hR
      generalize l[i]?.getD (0, 0) = x at *
      have hBa := one_below wr (.cells #[.int .i64 x.1, .int .i64 x.2] 36)
      have hws := hbel.size
      have hbs : bm < wr.heap.size := hset.lt
      have HC := Lib.hid (arc1_any N hN x i (by omega) S Bi Bm bm Bn hi hbn hm (wr.alloc (.cells #[.int .i64 x.1, .int .i64 x.2] 36)) ((hBa.block Bi (by omega)).trans ((hbel.block Bi hi).trans HH.out.1)) ((hBa.block Bn (by omega)).trans ((hbel.block Bn hbn).trans HH.out.2.1)) ((hBa.block Bm (by omega)).trans hbox) (hset.below hBa hbs))
      have HB : Hid (Below bm w (wr.alloc (.cells #[.int .i64 x.1, .int .i64 x.2] 36))) := hbel.alloc (by omega) _
      clear hbel hbox hBa hset hws hbs
      obtain ⟨x1, x2⟩ := x
      simp only at k0 k1 HC HB
      by_cases hf : caO N S (x1, x2) = 0
      · rw [if_pos hf] at ht
        have HT := Lib.hid ht
        rw [hf] at HC
        clear hf ht
        generalize toA (x1, x2) = ta at *
        go_wp2_with fail
        refine HC.out.mono ?_
        rintro e w1 ⟨rfl, b1, m1, s1⟩
        have HE := Lib.hid (⟨b1, m1, s1 (by simp)⟩ : _ ∧ _ ∧ _); clear b1 m1 s1
        go_wp2
        go_roundw
        case rel => exact ⟨i + 1, _, by rw [HNn.out]; omega, by go_num, HT.out, HE.out.2.2, HE.out.2.1, HB.out.trans HE.out.1⟩
        case measure => simp [intOf]; omega
      · rw [if_neg hf] at ht
        have HE := Lib.hid ht
        have t0 : (caO N S (x1, x2) == 0) = false := by simpa using hf
        clear ht hf
        generalize caO N S (x1, x2) = y at *
        go_wp2_with fail
        refine HC.out.mono ?_
        rintro e w1 ⟨rfl, b1, -, -⟩
        have HB1 := Lib.hid b1; clear b1
        go_wp2
        go_ret
        exact ⟨ret_i64 HE.out.symm, HB.out.trans HB1.out⟩
    · have HT : Hid (caE N [] l = 0) := by
        show _ = _
        rw [ht, List.drop_of_length_le (by rw [HNn.out]; omega)]; rfl
      clear ht hbox hset
      have HB := Lib.hid hbel; clear hbel
      go_wp2
      go_ret
      exact ⟨ret_i64 HT.out.symm, HB.out⟩
set_option maxHeartbeats 1000000 in
/-- The first error of the arcs. -/
theorem ckarcs_any (N : Int) (hN : N ≤ 100) (Bn : Nat) (l : List Ri) (n : Nat) (hn : l.length = n) (hn2 : n ≤ 600) (A : Option Addr) (c : Nat) (w : World) (h : RdV w w.heap.size A (rcs l)) (hBn : w.heap[Bn]? = some (.cells #[.int .i64 N] 3 (0, 0))) :
    Calls Try.prog 42 #[.slice A n c, .func (.func 80) #[] #[.pointer (some ⟨Bn, 0, none⟩)]] w fun e w' => e = .returned (.int .i64 (caE N [] l)) ∧ Below w.heap.size w w' := by
  have hbn : Bn < w.heap.size := (Array.getElem?_eq_some_iff.1 hBn).1
  obtain ⟨v1, h1⟩ : ∃ v, w.alloc (.cells #[.func (.func 80) #[] #[.pointer (some ⟨Bn, 0, none⟩)]] 54) = v := ⟨_, rfl⟩
  obtain ⟨v2, h2⟩ : ∃ v, v1.alloc (.map #[] 0) = v := ⟨_, rfl⟩
  obtain ⟨v3, h3⟩ : ∃ v, v2.alloc (.cells #[.map (some (w.heap.size + 1))] 100) = v := ⟨_, rfl⟩
  have s1 : v1.heap.size = w.heap.size + 1 := by rw [← h1]; exact World.size_alloc _ _
  have s2 : v2.heap.size = w.heap.size + 2 := by rw [← h2, World.size_alloc, s1]
  have b1 : Below w.heap.size w v1 := h1 ▸ one_below _ _
  have b2 : Below v1.heap.size v1 v2 := h2 ▸ one_below _ _
  have b3 : Below v2.heap.size v2 v3 := h3 ▸ one_below _ _
  have n1 : v1.heap[w.heap.size]? = some (.cells #[.func (.func 80) #[] #[.pointer (some ⟨Bn, 0, none⟩)]] 54 (0, 0)) := h1 ▸ World.alloc_heap_new _ _
  have n2 : ASet v2 (w.heap.size + 1) 0 [] := by have := ASet.made v1; rw [h2, s1] at this; exact this
  have n3 : v3.heap[w.heap.size + 2]? = some (.cells #[.map (some (w.heap.size + 1))] 100 (0, 0)) := by have := World.alloc_heap_new v2 (.cells #[.map (some (w.heap.size + 1))] 100); rw [h3, s2] at this; exact this
  have b13 : Below v1.heap.size v1 v3 := b2.trans (b3.mono (by omega))
  have b03 : Below w.heap.size w v3 := b1.trans (b13.mono (by omega))
  have HC := Lib.hid (each_arc N hN w.heap.size (w.heap.size + 2) (w.heap.size + 1) Bn (by omega) (by omega) (by omega) l n hn hn2 A c v3 (h.below b03 (by omega)) ((b13.block _ (by omega)).trans n1) ((b03.block _ hbn).trans hBn) n3 (n2.below b3 (by omega)))
  have HV : Hid (((w.alloc (.cells #[.func (.func 80) #[] #[.pointer (some ⟨Bn, 0, none⟩)]] 54)).alloc (.map #[] 0)).alloc (.cells #[.map (some (w.heap.size + 1))] 100) = v3) := by show _ = _; rw [h1, h2, h3]
  have HB := Lib.hid b03
  have hmm := @run_makeMap Try.prog
  generalize caE N [] l = r at *
  clear hn h hBn hbn h1 h2 h3 s1 s2 b1 b2 b3 n1 n2 n3 b13 b03
  go_enter Try.func42, Try.ntmps42
  go_wp2_with fail
  rw [HV.out]
  refine HC.out.mono ?_
  rintro e w1 ⟨rfl, b1⟩
  have HB1 : Hid (Below w.heap.size w w1) := HB.out.trans (b1.mono (by omega))
  clear b1
  go_wp2
  go_ret
  exact ⟨rfl, HB1.out⟩
end Go.Proofs.Ytnbjhldpadjgfaa
