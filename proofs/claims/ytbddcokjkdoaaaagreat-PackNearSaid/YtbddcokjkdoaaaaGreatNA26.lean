/- Texts of this proof, one behind the other; each fact names its conditions. -/
import Derived.Test.YtbddcokjkdoaaaaGreatNA24
import Derived.Test.YtbddcokjkdoaaaaGreatNA1
import Derived.Test.YtbddcokjkdoaaaaGreatNA25
import Derived.Deep.RegionHeld3
namespace Go.Proofs.YtbddcokjkdoaaaaGreat
section
set_option maxRecDepth 100000
set_option linter.unusedVariables false
open Go.RowKit Go.Shelf
def GvM (w : World) (len : Int) (n : Nat) (bs : List Nat) (m : Int) (e : Ending) (w' : World) : Prop :=
  ∃ A c, e = .returned (.tuple #[.agg #[.int .i64 len, .slice A n c], .int .i64 m]) ∧ Rd w' w'.heap.size A bs ∧ Below w.heap.size w w'
theorem e9_storeM {w w1 W : World} {b : Nat} {len m : Int} {A : Option Addr} {n c : Nat} {bs : List Nat} (h : E9 w1 W b len A n c bs) (hrb : W.heap[w.heap.size]? = some (.cells #[.int .i64 0, .slice none 0 0] 27 (0, 0))) (hlow : Below w.heap.size w W) :
    GvM w len n bs m (.returned (.tuple #[.agg #[.int .i64 len, .slice A n c], .int .i64 m])) ((W.setCell ⟨w.heap.size, 0, none⟩ (.int .i64 len)).setCell ⟨w.heap.size, 1, none⟩ (.slice A n c)) := by
  obtain ⟨A', c', q1, q2, q3⟩ := e9_store h hrb hlow
  injection q1 with q1
  injection q1 with q1
  have q1 := congrArg Array.toList q1
  simp at q1
  obtain ⟨rfl, rfl⟩ := q1
  exact ⟨A, c, rfl, q2, q3⟩
theorem GvM.drew {w w' : World} {m len : Int} {n : Nat} {bs : List Nat} {e : Ending} (h : GvM w len n bs m e w') : GvM w len n bs m e w'.drew := by
  obtain ⟨A, c, q1, q2, q3⟩ := h
  exact ⟨A, c, q1, q2, q3.drew⟩
theorem E9.side {w1 W : World} {b : Nat} {len : Int} {A : Option Addr} {n c : Nat} {bs : List Nat} (h : E9 w1 W b len A n c bs) (k : Nat) (hk : k < w1.heap.size) (u v : Value) :
    ((W.setCell ⟨k, 0, none⟩ u).setCell ⟨k, 1, none⟩ v).cell? ⟨b, 0, none⟩ = some (.int .i64 len) ∧ ((W.setCell ⟨k, 0, none⟩ u).setCell ⟨k, 1, none⟩ v).cell? ⟨b, 1, none⟩ = some (.slice A n c) ∧
    ((W.setCell ⟨k, 0, none⟩ u).setCell ⟨k, 1, none⟩ v).drew.cell? ⟨b, 0, none⟩ = some (.int .i64 len) ∧ ((W.setCell ⟨k, 0, none⟩ u).setCell ⟨k, 1, none⟩ v).drew.cell? ⟨b, 1, none⟩ = some (.slice A n c) := by
  have hne : b ≠ k := by have := h.ge; omega
  have hb : ((W.setCell ⟨k, 0, none⟩ u).setCell ⟨k, 1, none⟩ v).heap[b]? = some (.cells #[.int .i64 len, .slice A n c] 27 (0, 0)) :=
    (Below.heap_setCell _ ⟨k, 1, none⟩ v b hne).trans ((Below.heap_setCell W ⟨k, 0, none⟩ u b hne).trans h.row)
  exact ⟨(cell_at hb 0).trans rfl, (cell_at hb 1).trans rfl, (cell_at hb 0).trans rfl, (cell_at hb 1).trans rfl⟩
set_option maxHeartbeats 8000000 in
theorem near1_w (w : World) (ph pg pn N c i r hd tot : Nat) (B ls k : Int) (L : List Bool) (A1 : Option Addr) (n1 c1 : Nat) (A2 : Option Addr) (n2 c2 bA oA : Nat)
    (HC : Hid (∀ V, Below w.heap.size w V → V.cell? ⟨ph, 0, none⟩ = some (.int .i64 B) ∧ V.cell? ⟨ph, 1, none⟩ = some (.int .i64 ls) ∧ V.cell? ⟨ph, 2, none⟩ = some (.int .i64 k) ∧ V.cell? ⟨pg, 0, none⟩ = some (.slice (some ⟨bA, oA, none⟩) N c) ∧ V.cell? ⟨pn, 0, none⟩ = some (.int .i64 (i : Int)) ∧ V.cell? ⟨bA, oA + i, none⟩ = some (.slice A1 n1 c1)))
    (hi : i < N) (hN : N ≤ 100) (hr : r ≤ 7)
    (HRf : (r = 0 ∧ A2 = none ∧ n2 = 0 ∧ c2 = 0) ∨ (0 < r ∧ ∃ j : Nat, (i : Int) - (r : Int) = (j : Int) ∧ ∀ V, Below w.heap.size w V → V.cell? ⟨bA, oA + j, none⟩ = some (.slice A2 n2 c2)))
    (HHd : (B = 0 ∧ hd = 0) ∨ (0 < B ∧ ∀ V, Calls Tryz.prog 34 #[.int .u64 (r : Int)] V fun e w' => (∃ A c, e = .returned (.slice A hd c)) ∧ Below V.heap.size V w'))
    (HWr : Hid (∀ V, Below w.heap.size w V → Calls Tryz.prog 13 #[.int .i64 (i : Int), .slice A1 n1 c1, .slice A2 n2 c2, .agg #[.int .i64 (r : Int), .int .i64 ls, .int .i64 k]] V (Gv V (L.length : Int) (pack L).length (pack L) 0)))
    (hT : hd + L.length = tot) (hb : tot ≤ 10000) :
    Calls Tryz.prog 33 (#[.int .i64 (r : Int)] ++ #[.pointer (some ⟨ph, 0, none⟩), .pointer (some ⟨pg, 0, none⟩), .pointer (some ⟨pn, 0, none⟩)]) w (GvM w (L.length : Int) (pack L).length (pack L) (tot : Int)) := by
  show Calls Tryz.prog 33 #[.int .i64 (r : Int), .pointer (some ⟨ph, 0, none⟩), .pointer (some ⟨pg, 0, none⟩), .pointer (some ⟨pn, 0, none⟩)] w _
  obtain ⟨w1, ew1⟩ : ∃ w1, w.alloc (.cells #[.int .i64 0, .slice none 0 0] 27) = w1 := ⟨_, rfl⟩
  have s1 : w1.heap.size = w.heap.size + 1 := ew1 ▸ World.size_alloc _ _
  have hb1 : Below w.heap.size w w1 := ew1 ▸ one_below w _
  have hr1 : w1.heap[w.heap.size]? = some (.cells #[.int .i64 0, .slice none 0 0] 27 (0, 0)) := ew1 ▸ World.alloc_heap_new w _
  have HB1 := Lib.hid hb1
  have HR1 := Lib.hid (And.intro hr1 s1)
  have hLow : Hid (∀ V, Below w1.heap.size w1 V → Below w.heap.size w V) := fun V hV => HB1.out.trans (hV.mono (by have := HR1.out.2; omega))
  obtain ⟨k1, k2, k3, k4, k5, k6⟩ := HC.out w1 hb1
  have u1 : (0 : Int) ≤ (i : Int) := by omega
  have u2 : (i : Int) < (N : Int) := by omega
  have u3 : IntKind.u64.wrap (r : Int) = (r : Int) := by rw [IntKind.wrap_u64]; omega
  have HT := Lib.hid (And.intro hT hb)
  have HN := Lib.hid (And.intro hi hN)
  clear s1 hb1 hr1 hT hb hN hi
  rcases HHd with ⟨hB0, hh0⟩ | ⟨hB, HG⟩
  · rcases HRf with ⟨hr00, rfl, rfl, rfl⟩ | ⟨hr0, j, hj, hcj⟩
    · have t1 : ¬ (0 : Int) < B := by omega
      have t1' : decide ((0 : Int) < B) = false := by simpa using t1
      have hLt : wrap64 ((L.length : Int)) = (tot : Int) := by have h1 := HT.out.1; have h2 := HT.out.2; unfold wrap64; omega
      have hLt2 : wrap64 (0 + (L.length : Int)) = (tot : Int) := by rw [Int.zero_add]; exact hLt
      have t2 : ¬ (0 : Int) < (r : Int) := by omega
      have t2' : decide (0 < r) = false := by simp; omega
      obtain ⟨X, hX⟩ : ∃ X, w1 = X := ⟨_, rfl⟩
      have HX : Hid (Below w1.heap.size w1 X) := by rw [hX]; exact Below.refl _ _
      rw [hX] at k1 k2 k3 k4 k5 k6
      have ew2 := ew1.trans hX
      clear hX ew1
      clear hB0 hh0
      clear hr00
      go_enter Tryz.func33, Tryz.ntmps33
      go_wp2_with fail
      try rw [ew2]
      have HCX : Hid (∀ V, Below X.heap.size X V → Below w1.heap.size w1 V) := fun V hV => HX.out.trans (hV.mono HX.out.size)
      have HS : Hid (∀ V, Below X.heap.size X V → V.cell? ⟨ph, 0, none⟩ = some (.int .i64 B) ∧ V.cell? ⟨ph, 1, none⟩ = some (.int .i64 ls) ∧ V.cell? ⟨ph, 2, none⟩ = some (.int .i64 k) ∧ V.cell? ⟨pg, 0, none⟩ = some (.slice (some ⟨bA, oA, none⟩) N c) ∧ V.cell? ⟨pn, 0, none⟩ = some (.int .i64 (i : Int)) ∧ V.cell? ⟨bA, oA + i, none⟩ = some (.slice A1 n1 c1)) := fun V hV => HC.out V (hLow.out V (HCX.out V hV))
      have HD : Hid (Below X.heap.size X X.drew) := (Below.refl _ _).drew
      have HDZ : Hid (Below X.heap.size X (X.drew.alloc (.cells #[.int .i64 0, .slice none 0 0] 27))) := HD.out.trans ((one_below X.drew _).mono HD.out.size)
      go_wp2
      clear k1 k2 k3 k4 k5 k6
      go_region_held3 (fun V => V.cell? ⟨ph, 0, none⟩ = some (.int .i64 B) ∧ V.cell? ⟨ph, 1, none⟩ = some (.int .i64 ls) ∧ V.cell? ⟨ph, 2, none⟩ = some (.int .i64 k) ∧ V.cell? ⟨pg, 0, none⟩ = some (.slice (some ⟨bA, oA, none⟩) N c) ∧ V.cell? ⟨pn, 0, none⟩ = some (.int .i64 (i : Int)) ∧ V.cell? ⟨bA, oA + i, none⟩ = some (.slice A1 n1 c1))
        ((first | exact HS.out _ HE.out.low | exact HS.out _ HL6.out | exact HS.out _ HL6z.out | exact HS.out _ HDZ.out | exact HS.out _ HD.out))
        ((go_at_call 13; first
          | (refine (HWr.out (X.drew.alloc (.cells #[.int .i64 0, .slice none 0 0] 27)) (hLow.out _ (HCX.out _ HDZ.out))).mono ?_; rintro e w6 ⟨A6, c6, rfl, r6, q6⟩; have HL6 : Hid (Below X.heap.size X w6) := HDZ.out.trans (q6.mono HDZ.out.size); have hz6 : w6.heap[X.heap.size]? = some (.cells #[.int .i64 0, .slice none 0 0] 27 (0, 0)) := (q6.block _ (by rw [World.size_alloc]; exact Nat.lt_succ_self _)).trans (World.alloc_heap_new X.drew _); obtain ⟨v0, v1, v2, v3⟩ := blk_cells hz6; have HE := Lib.hid (e9_set (len := (L.length : Int)) (n := (pack L).length) (c := c6) HL6.out (Nat.le_refl _) hz6 r6); clear q6 r6 hz6)
          | (refine (HWr.out X.drew (hLow.out _ (HCX.out _ HD.out))).mono ?_; rintro e w6 ⟨A6, c6, rfl, r6, q6⟩; have HL6 : Hid (Below X.heap.size X w6) := HD.out.trans (q6.mono HD.out.size); have HL6z : Hid (Below X.heap.size X (w6.alloc (.cells #[.int .i64 0, .slice none 0 0] 27))) := HL6.out.trans ((one_below w6 _).mono HL6.out.size); have HE := Lib.hid (e9_new (len := (L.length : Int)) (n := (pack L).length) (c := c6) HL6.out r6); clear q6 r6)))
      all_goals (
        obtain ⟨s0, s1⟩ := HE.out.cells
        have hlow := HCX.out _ HE.out.low
        have hrr := (hlow.block w.heap.size (by have := HR1.out.2; omega)).trans HR1.out.1
        obtain ⟨g0, g1, g2, g3⟩ := blk_cells hrr
        have HFin := Lib.hid (e9_storeM (m := (tot : Int)) HE.out hrr (hLow.out _ hlow))
        have t9 : wrap64 ((hd : Int) + (L.length : Int)) = (tot : Int) := by have h1 := HT.out.1; have h2 := HT.out.2; unfold wrap64; omega
        clear hrr hlow
        obtain ⟨y0, y1, y2, y3⟩ := HE.out.side w.heap.size (by have h1 := HX.out.size; have h2 := HR1.out.2; omega) (.int .i64 (L.length : Int)) (.slice A6 (pack L).length c6)
        go_wp2
        go_region
        all_goals (
          go_wp2
          first
            | exact bodyPost_ret (v := .tuple #[.agg #[.int .i64 (L.length : Int), .slice A6 (pack L).length c6], .int .i64 (tot : Int)]) (by simp [results, Tryz.results33, go_sem, g0, g1]; try (first | exact t9 | exact hLt | exact hLt2)) rfl HFin.out
            | exact bodyPost_ret (v := .tuple #[.agg #[.int .i64 (L.length : Int), .slice A6 (pack L).length c6], .int .i64 (tot : Int)]) (by simp [results, Tryz.results33, go_sem, g0, g1]; try (first | exact t9 | exact hLt | exact hLt2)) rfl HFin.out.drew))
    · have t1 : ¬ (0 : Int) < B := by omega
      have t1' : decide ((0 : Int) < B) = false := by simpa using t1
      have hLt : wrap64 ((L.length : Int)) = (tot : Int) := by have h1 := HT.out.1; have h2 := HT.out.2; unfold wrap64; omega
      have hLt2 : wrap64 (0 + (L.length : Int)) = (tot : Int) := by rw [Int.zero_add]; exact hLt
      have t2 : (0 : Int) < (r : Int) := by omega
      have t2' : decide (0 < r) = true := by simpa using hr0
      have t3 : IntKind.i64.wrap ((i : Int) - (r : Int)) = (j : Int) := by rw [hj, IntKind.wrap_i64]; have := HN.out; omega
      have t3' : wrap64 ((i : Int) - (r : Int)) = (j : Int) := by rw [hj]; have := HN.out; unfold wrap64; omega
      have t4 : (j : Int) < (N : Int) := by have := HN.out; omega
      have t5 : (0 : Int) ≤ (j : Int) := by omega
      have HCj := Lib.hid hcj
      obtain ⟨X, hX⟩ : ∃ X, w1 = X := ⟨_, rfl⟩
      have HX : Hid (Below w1.heap.size w1 X) := by rw [hX]; exact Below.refl _ _
      rw [hX] at k1 k2 k3 k4 k5 k6
      have k7 := HCj.out X (hLow.out X HX.out)
      have ew2 := ew1.trans hX
      clear hX ew1
      clear hB0 hh0
      clear hj
      go_enter Tryz.func33, Tryz.ntmps33
      go_wp2_with fail
      try rw [ew2]
      have HCX : Hid (∀ V, Below X.heap.size X V → Below w1.heap.size w1 V) := fun V hV => HX.out.trans (hV.mono HX.out.size)
      have HS : Hid (∀ V, Below X.heap.size X V → V.cell? ⟨ph, 0, none⟩ = some (.int .i64 B) ∧ V.cell? ⟨ph, 1, none⟩ = some (.int .i64 ls) ∧ V.cell? ⟨ph, 2, none⟩ = some (.int .i64 k) ∧ V.cell? ⟨pg, 0, none⟩ = some (.slice (some ⟨bA, oA, none⟩) N c) ∧ V.cell? ⟨pn, 0, none⟩ = some (.int .i64 (i : Int)) ∧ V.cell? ⟨bA, oA + i, none⟩ = some (.slice A1 n1 c1)) := fun V hV => HC.out V (hLow.out V (HCX.out V hV))
      have HD : Hid (Below X.heap.size X X.drew) := (Below.refl _ _).drew
      have HDZ : Hid (Below X.heap.size X (X.drew.alloc (.cells #[.int .i64 0, .slice none 0 0] 27))) := HD.out.trans ((one_below X.drew _).mono HD.out.size)
      go_wp2
      clear k1 k2 k3 k4 k5 k6
      go_region_held3 (fun V => V.cell? ⟨ph, 0, none⟩ = some (.int .i64 B) ∧ V.cell? ⟨ph, 1, none⟩ = some (.int .i64 ls) ∧ V.cell? ⟨ph, 2, none⟩ = some (.int .i64 k) ∧ V.cell? ⟨pg, 0, none⟩ = some (.slice (some ⟨bA, oA, none⟩) N c) ∧ V.cell? ⟨pn, 0, none⟩ = some (.int .i64 (i : Int)) ∧ V.cell? ⟨bA, oA + i, none⟩ = some (.slice A1 n1 c1))
        ((first | exact HS.out _ HE.out.low | exact HS.out _ HL6.out | exact HS.out _ HL6z.out | exact HS.out _ HDZ.out | exact HS.out _ HD.out))
        ((go_at_call 13; first
          | (refine (HWr.out (X.drew.alloc (.cells #[.int .i64 0, .slice none 0 0] 27)) (hLow.out _ (HCX.out _ HDZ.out))).mono ?_; rintro e w6 ⟨A6, c6, rfl, r6, q6⟩; have HL6 : Hid (Below X.heap.size X w6) := HDZ.out.trans (q6.mono HDZ.out.size); have hz6 : w6.heap[X.heap.size]? = some (.cells #[.int .i64 0, .slice none 0 0] 27 (0, 0)) := (q6.block _ (by rw [World.size_alloc]; exact Nat.lt_succ_self _)).trans (World.alloc_heap_new X.drew _); obtain ⟨v0, v1, v2, v3⟩ := blk_cells hz6; have HE := Lib.hid (e9_set (len := (L.length : Int)) (n := (pack L).length) (c := c6) HL6.out (Nat.le_refl _) hz6 r6); clear q6 r6 hz6)
          | (refine (HWr.out X.drew (hLow.out _ (HCX.out _ HD.out))).mono ?_; rintro e w6 ⟨A6, c6, rfl, r6, q6⟩; have HL6 : Hid (Below X.heap.size X w6) := HD.out.trans (q6.mono HD.out.size); have HL6z : Hid (Below X.heap.size X (w6.alloc (.cells #[.int .i64 0, .slice none 0 0] 27))) := HL6.out.trans ((one_below w6 _).mono HL6.out.size); have HE := Lib.hid (e9_new (len := (L.length : Int)) (n := (pack L).length) (c := c6) HL6.out r6); clear q6 r6)))
      all_goals (
        obtain ⟨s0, s1⟩ := HE.out.cells
        have hlow := HCX.out _ HE.out.low
        have hrr := (hlow.block w.heap.size (by have := HR1.out.2; omega)).trans HR1.out.1
        obtain ⟨g0, g1, g2, g3⟩ := blk_cells hrr
        have HFin := Lib.hid (e9_storeM (m := (tot : Int)) HE.out hrr (hLow.out _ hlow))
        have t9 : wrap64 ((hd : Int) + (L.length : Int)) = (tot : Int) := by have h1 := HT.out.1; have h2 := HT.out.2; unfold wrap64; omega
        clear hrr hlow
        obtain ⟨y0, y1, y2, y3⟩ := HE.out.side w.heap.size (by have h1 := HX.out.size; have h2 := HR1.out.2; omega) (.int .i64 (L.length : Int)) (.slice A6 (pack L).length c6)
        go_wp2
        go_region
        all_goals (
          go_wp2
          first
            | exact bodyPost_ret (v := .tuple #[.agg #[.int .i64 (L.length : Int), .slice A6 (pack L).length c6], .int .i64 (tot : Int)]) (by simp [results, Tryz.results33, go_sem, g0, g1]; try (first | exact t9 | exact hLt | exact hLt2)) rfl HFin.out
            | exact bodyPost_ret (v := .tuple #[.agg #[.int .i64 (L.length : Int), .slice A6 (pack L).length c6], .int .i64 (tot : Int)]) (by simp [results, Tryz.results33, go_sem, g0, g1]; try (first | exact t9 | exact hLt | exact hLt2)) rfl HFin.out.drew))
  · rcases HRf with ⟨hr00, rfl, rfl, rfl⟩ | ⟨hr0, j, hj, hcj⟩
    · have t1 : (0 : Int) < B := hB
      have t1' : decide ((0 : Int) < B) = true := by simpa using hB
      have t2 : ¬ (0 : Int) < (r : Int) := by omega
      have t2' : decide (0 < r) = false := by simp; omega
      clear hr00
      go_enter Tryz.func33, Tryz.ntmps33
      go_wp2_with fail
      try rw [ew1]
      refine (HG _).mono ?_
      rintro e X ⟨⟨Ag, cg, rfl⟩, q3⟩
      have HX : Hid (Below w1.heap.size w1 X) := q3
      obtain ⟨k1, k2, k3, k4, k5, k6⟩ := HC.out X (hLow.out X q3)
      clear q3
      have HCX : Hid (∀ V, Below X.heap.size X V → Below w1.heap.size w1 V) := fun V hV => HX.out.trans (hV.mono HX.out.size)
      have HS : Hid (∀ V, Below X.heap.size X V → V.cell? ⟨ph, 0, none⟩ = some (.int .i64 B) ∧ V.cell? ⟨ph, 1, none⟩ = some (.int .i64 ls) ∧ V.cell? ⟨ph, 2, none⟩ = some (.int .i64 k) ∧ V.cell? ⟨pg, 0, none⟩ = some (.slice (some ⟨bA, oA, none⟩) N c) ∧ V.cell? ⟨pn, 0, none⟩ = some (.int .i64 (i : Int)) ∧ V.cell? ⟨bA, oA + i, none⟩ = some (.slice A1 n1 c1)) := fun V hV => HC.out V (hLow.out V (HCX.out V hV))
      have HD : Hid (Below X.heap.size X X.drew) := (Below.refl _ _).drew
      have HDZ : Hid (Below X.heap.size X (X.drew.alloc (.cells #[.int .i64 0, .slice none 0 0] 27))) := HD.out.trans ((one_below X.drew _).mono HD.out.size)
      go_wp2
      clear k1 k2 k3 k4 k5 k6
      go_region_held3 (fun V => V.cell? ⟨ph, 0, none⟩ = some (.int .i64 B) ∧ V.cell? ⟨ph, 1, none⟩ = some (.int .i64 ls) ∧ V.cell? ⟨ph, 2, none⟩ = some (.int .i64 k) ∧ V.cell? ⟨pg, 0, none⟩ = some (.slice (some ⟨bA, oA, none⟩) N c) ∧ V.cell? ⟨pn, 0, none⟩ = some (.int .i64 (i : Int)) ∧ V.cell? ⟨bA, oA + i, none⟩ = some (.slice A1 n1 c1))
        ((first | exact HS.out _ HE.out.low | exact HS.out _ HL6.out | exact HS.out _ HL6z.out | exact HS.out _ HDZ.out | exact HS.out _ HD.out))
        ((go_at_call 13; first
          | (refine (HWr.out (X.drew.alloc (.cells #[.int .i64 0, .slice none 0 0] 27)) (hLow.out _ (HCX.out _ HDZ.out))).mono ?_; rintro e w6 ⟨A6, c6, rfl, r6, q6⟩; have HL6 : Hid (Below X.heap.size X w6) := HDZ.out.trans (q6.mono HDZ.out.size); have hz6 : w6.heap[X.heap.size]? = some (.cells #[.int .i64 0, .slice none 0 0] 27 (0, 0)) := (q6.block _ (by rw [World.size_alloc]; exact Nat.lt_succ_self _)).trans (World.alloc_heap_new X.drew _); obtain ⟨v0, v1, v2, v3⟩ := blk_cells hz6; have HE := Lib.hid (e9_set (len := (L.length : Int)) (n := (pack L).length) (c := c6) HL6.out (Nat.le_refl _) hz6 r6); clear q6 r6 hz6)
          | (refine (HWr.out X.drew (hLow.out _ (HCX.out _ HD.out))).mono ?_; rintro e w6 ⟨A6, c6, rfl, r6, q6⟩; have HL6 : Hid (Below X.heap.size X w6) := HD.out.trans (q6.mono HD.out.size); have HL6z : Hid (Below X.heap.size X (w6.alloc (.cells #[.int .i64 0, .slice none 0 0] 27))) := HL6.out.trans ((one_below w6 _).mono HL6.out.size); have HE := Lib.hid (e9_new (len := (L.length : Int)) (n := (pack L).length) (c := c6) HL6.out r6); clear q6 r6)))
      all_goals (
        obtain ⟨s0, s1⟩ := HE.out.cells
        have hlow := HCX.out _ HE.out.low
        have hrr := (hlow.block w.heap.size (by have := HR1.out.2; omega)).trans HR1.out.1
        obtain ⟨g0, g1, g2, g3⟩ := blk_cells hrr
        have HFin := Lib.hid (e9_storeM (m := (tot : Int)) HE.out hrr (hLow.out _ hlow))
        have t9 : wrap64 ((hd : Int) + (L.length : Int)) = (tot : Int) := by have h1 := HT.out.1; have h2 := HT.out.2; unfold wrap64; omega
        clear hrr hlow
        obtain ⟨y0, y1, y2, y3⟩ := HE.out.side w.heap.size (by have h1 := HX.out.size; have h2 := HR1.out.2; omega) (.int .i64 (L.length : Int)) (.slice A6 (pack L).length c6)
        go_wp2
        go_region
        all_goals (
          go_wp2
          first
            | exact bodyPost_ret (v := .tuple #[.agg #[.int .i64 (L.length : Int), .slice A6 (pack L).length c6], .int .i64 (tot : Int)]) (by simp [results, Tryz.results33, go_sem, g0, g1]; try (first | exact t9 | exact hLt | exact hLt2)) rfl HFin.out
            | exact bodyPost_ret (v := .tuple #[.agg #[.int .i64 (L.length : Int), .slice A6 (pack L).length c6], .int .i64 (tot : Int)]) (by simp [results, Tryz.results33, go_sem, g0, g1]; try (first | exact t9 | exact hLt | exact hLt2)) rfl HFin.out.drew))
    · have t1 : (0 : Int) < B := hB
      have t1' : decide ((0 : Int) < B) = true := by simpa using hB
      have t2 : (0 : Int) < (r : Int) := by omega
      have t2' : decide (0 < r) = true := by simpa using hr0
      have t3 : IntKind.i64.wrap ((i : Int) - (r : Int)) = (j : Int) := by rw [hj, IntKind.wrap_i64]; have := HN.out; omega
      have t3' : wrap64 ((i : Int) - (r : Int)) = (j : Int) := by rw [hj]; have := HN.out; unfold wrap64; omega
      have t4 : (j : Int) < (N : Int) := by have := HN.out; omega
      have t5 : (0 : Int) ≤ (j : Int) := by omega
      have HCj := Lib.hid hcj
      clear hj
      go_enter Tryz.func33, Tryz.ntmps33
      go_wp2_with fail
      try rw [ew1]
      refine (HG _).mono ?_
      rintro e X ⟨⟨Ag, cg, rfl⟩, q3⟩
      have HX : Hid (Below w1.heap.size w1 X) := q3
      obtain ⟨k1, k2, k3, k4, k5, k6⟩ := HC.out X (hLow.out X q3)
      have k7 := HCj.out X (hLow.out X q3)
      clear q3
      have HCX : Hid (∀ V, Below X.heap.size X V → Below w1.heap.size w1 V) := fun V hV => HX.out.trans (hV.mono HX.out.size)
      have HS : Hid (∀ V, Below X.heap.size X V → V.cell? ⟨ph, 0, none⟩ = some (.int .i64 B) ∧ V.cell? ⟨ph, 1, none⟩ = some (.int .i64 ls) ∧ V.cell? ⟨ph, 2, none⟩ = some (.int .i64 k) ∧ V.cell? ⟨pg, 0, none⟩ = some (.slice (some ⟨bA, oA, none⟩) N c) ∧ V.cell? ⟨pn, 0, none⟩ = some (.int .i64 (i : Int)) ∧ V.cell? ⟨bA, oA + i, none⟩ = some (.slice A1 n1 c1)) := fun V hV => HC.out V (hLow.out V (HCX.out V hV))
      have HD : Hid (Below X.heap.size X X.drew) := (Below.refl _ _).drew
      have HDZ : Hid (Below X.heap.size X (X.drew.alloc (.cells #[.int .i64 0, .slice none 0 0] 27))) := HD.out.trans ((one_below X.drew _).mono HD.out.size)
      go_wp2
      clear k1 k2 k3 k4 k5 k6
      go_region_held3 (fun V => V.cell? ⟨ph, 0, none⟩ = some (.int .i64 B) ∧ V.cell? ⟨ph, 1, none⟩ = some (.int .i64 ls) ∧ V.cell? ⟨ph, 2, none⟩ = some (.int .i64 k) ∧ V.cell? ⟨pg, 0, none⟩ = some (.slice (some ⟨bA, oA, none⟩) N c) ∧ V.cell? ⟨pn, 0, none⟩ = some (.int .i64 (i : Int)) ∧ V.cell? ⟨bA, oA + i, none⟩ = some (.slice A1 n1 c1))
        ((first | exact HS.out _ HE.out.low | exact HS.out _ HL6.out | exact HS.out _ HL6z.out | exact HS.out _ HDZ.out | exact HS.out _ HD.out))
        ((go_at_call 13; first
          | (refine (HWr.out (X.drew.alloc (.cells #[.int .i64 0, .slice none 0 0] 27)) (hLow.out _ (HCX.out _ HDZ.out))).mono ?_; rintro e w6 ⟨A6, c6, rfl, r6, q6⟩; have HL6 : Hid (Below X.heap.size X w6) := HDZ.out.trans (q6.mono HDZ.out.size); have hz6 : w6.heap[X.heap.size]? = some (.cells #[.int .i64 0, .slice none 0 0] 27 (0, 0)) := (q6.block _ (by rw [World.size_alloc]; exact Nat.lt_succ_self _)).trans (World.alloc_heap_new X.drew _); obtain ⟨v0, v1, v2, v3⟩ := blk_cells hz6; have HE := Lib.hid (e9_set (len := (L.length : Int)) (n := (pack L).length) (c := c6) HL6.out (Nat.le_refl _) hz6 r6); clear q6 r6 hz6)
          | (refine (HWr.out X.drew (hLow.out _ (HCX.out _ HD.out))).mono ?_; rintro e w6 ⟨A6, c6, rfl, r6, q6⟩; have HL6 : Hid (Below X.heap.size X w6) := HD.out.trans (q6.mono HD.out.size); have HL6z : Hid (Below X.heap.size X (w6.alloc (.cells #[.int .i64 0, .slice none 0 0] 27))) := HL6.out.trans ((one_below w6 _).mono HL6.out.size); have HE := Lib.hid (e9_new (len := (L.length : Int)) (n := (pack L).length) (c := c6) HL6.out r6); clear q6 r6)))
      all_goals (
        obtain ⟨s0, s1⟩ := HE.out.cells
        have hlow := HCX.out _ HE.out.low
        have hrr := (hlow.block w.heap.size (by have := HR1.out.2; omega)).trans HR1.out.1
        obtain ⟨g0, g1, g2, g3⟩ := blk_cells hrr
        have HFin := Lib.hid (e9_storeM (m := (tot : Int)) HE.out hrr (hLow.out _ hlow))
        have t9 : wrap64 ((hd : Int) + (L.length : Int)) = (tot : Int) := by have h1 := HT.out.1; have h2 := HT.out.2; unfold wrap64; omega
        clear hrr hlow
        obtain ⟨y0, y1, y2, y3⟩ := HE.out.side w.heap.size (by have h1 := HX.out.size; have h2 := HR1.out.2; omega) (.int .i64 (L.length : Int)) (.slice A6 (pack L).length c6)
        go_wp2
        go_region
        all_goals (
          go_wp2
          first
            | exact bodyPost_ret (v := .tuple #[.agg #[.int .i64 (L.length : Int), .slice A6 (pack L).length c6], .int .i64 (tot : Int)]) (by simp [results, Tryz.results33, go_sem, g0, g1]; try (first | exact t9 | exact hLt | exact hLt2)) rfl HFin.out
            | exact bodyPost_ret (v := .tuple #[.agg #[.int .i64 (L.length : Int), .slice A6 (pack L).length c6], .int .i64 (tot : Int)]) (by simp [results, Tryz.results33, go_sem, g0, g1]; try (first | exact t9 | exact hLt | exact hLt2)) rfl HFin.out.drew))
end
section
set_option maxRecDepth 100000
set_option linter.unusedVariables false
open Go.RowKit Go.Shelf
structure NeI (w W : World) (A : Option Addr) (N c : Nat) (B ls k node : Int) : Prop where
  low : Below w.heap.size w W
  g : W.heap[w.heap.size]? = some (.cells #[.slice A N c] 42 (0, 0))
  h : W.heap[w.heap.size + 1]? = some (.cells #[.int .i64 B, .int .i64 ls, .int .i64 k] 24 (0, 0))
  n : W.heap[w.heap.size + 1 + 1]? = some (.cells #[.int .i64 node] 3 (0, 0))
theorem NeI.on {w W X : World} {A : Option Addr} {N c : Nat} {B ls k node : Int} (h : NeI w W A N c B ls k node) (hb : Below W.heap.size W X) : NeI w X A N c B ls k node :=
  ⟨h.low.trans (hb.mono h.low.size), (hb.block _ (Array.getElem?_eq_some_iff.1 h.g).1).trans h.g, (hb.block _ (Array.getElem?_eq_some_iff.1 h.h).1).trans h.h, (hb.block _ (Array.getElem?_eq_some_iff.1 h.n).1).trans h.n⟩
theorem nei_at (w : World) (A : Option Addr) (N c : Nat) (B ls k node : Int) : ∃ w1, ((w.alloc (.cells #[.slice A N c] 42)).alloc (.cells #[.int .i64 B, .int .i64 ls, .int .i64 k] 24)).alloc (.cells #[.int .i64 node] 3) = w1 ∧ NeI w w1 A N c B ls k node := by
  obtain ⟨w1, ew1, s1, hb1, g2, g3, g4⟩ := three_at w N B ls k A c (.cells #[.int .i64 node] 3)
  exact ⟨w1, ew1, hb1, g2, g3, g4⟩
structure NeS (w W : World) (A : Option Addr) (N c : Nat) (B ls k node : Int) (b9 : Nat) (N1 B1 ls1 k1 len1 : Int) (A2 : Option Addr) (nb c2 : Nat) (bs : List Nat) (A3 : Option Addr) (xs1 : List Int) (A4 : Option Addr) (xs2 : List Int) : Prop where
  i : NeI w W A N c B ls k node
  p : W.heap[b9]? = some (.cells #[.int .i64 N1, .int .i64 B1, .int .i64 ls1, .int .i64 k1, .int .i64 len1, .slice A2 nb c2] 44 (0, 0))
  r2 : Rd W W.heap.size A2 bs
  r3 : RdV W W.heap.size A3 (zc xs1)
  r4 : RdV W W.heap.size A4 (zc xs2)
theorem NeS.on {w W X : World} {A : Option Addr} {N c : Nat} {B ls k node : Int} {b9 : Nat} {N1 B1 ls1 k1 len1 : Int} {A2 : Option Addr} {nb c2 : Nat} {bs : List Nat} {A3 : Option Addr} {xs1 : List Int} {A4 : Option Addr} {xs2 : List Int} (h : NeS w W A N c B ls k node b9 N1 B1 ls1 k1 len1 A2 nb c2 bs A3 xs1 A4 xs2) (hb : Below W.heap.size W X) : NeS w X A N c B ls k node b9 N1 B1 ls1 k1 len1 A2 nb c2 bs A3 xs1 A4 xs2 :=
  ⟨h.i.on hb, (hb.block _ (Array.getElem?_eq_some_iff.1 h.p).1).trans h.p, h.r2.on hb, h.r3.on hb, h.r4.on hb⟩
set_option maxHeartbeats 8000000 in
theorem packnear_a (w : World) (A : Option Addr) (N c : Nat) (B ls k node back e1 N1 B1 ls1 k1 len1 : Int) (n1 : Nat) (xs1 : List Int) (n2 : Nat) (xs2 : List Int) (nb : Nat) (bs : List Nat)
    (HBg : Hid (∀ V, Calls Tryz.prog 30 #[] V fun e w' => e = .returned (.bool true) ∧ Below V.heap.size V w'))
    (HSb : Hid (∀ V, Calls Tryz.prog 17 #[] V fun e w' => e = .returned (.bool true) ∧ Below V.heap.size V w'))
    (HBb : Hid (∀ V, Calls Tryz.prog 22 #[] V fun e w' => e = .returned (.bool true) ∧ Below V.heap.size V w'))
    (HW : Hid (∀ V, Below w.heap.size w V → Calls Tryz.prog 24 #[.agg #[.slice A N c], .agg #[.int .i64 B, .int .i64 ls, .int .i64 k]] V (PwP V N1 B1 ls1 k1 len1 nb bs e1)))
    (HTl : Hid (∀ V, Below w.heap.size w V → Calls Tryz.prog 26 #[.agg #[.slice A N c], .agg #[.int .i64 B, .int .i64 ls, .int .i64 k]] V (PtP V n1 xs1 n2 xs2 e1)))
    (H1 : e1 ≠ 0 ∨ (e1 = 0 ∧ n1 = N ∧ n2 = N ∧ (node < 0 ∨ (N : Int) ≤ node))) :
    Calls Tryz.prog 6 #[.agg #[.slice A N c], .agg #[.int .i64 B, .int .i64 ls, .int .i64 k], .int .i64 node, .int .i64 back] w fun e w' => e = .returned (.bool true) ∧ Below w.heap.size w w' := by
  obtain ⟨w1, ew1, hI⟩ := nei_at w A N c B ls k node
  have HI1 := Lib.hid hI
  have k0 := box_cell hI.g
  obtain ⟨x1, x2, x3⟩ := how_at hI.h
  clear hI
  go_enter Tryz.func6, Tryz.ntmps6
  go_wp2_with fail
  try rw [ew1]
  refine (HW.out w1 HI1.out.low).mono ?_
  rintro e w2 ⟨A2, c2, rfl, r2, q2⟩
  obtain ⟨X2, hX2, hth2, hx2, hbX2, hzX2⟩ := pd_new w2 [.int .i64 N1, .int .i64 B1, .int .i64 ls1, .int .i64 k1, .int .i64 len1, .slice A2 nb c2] rfl
  have HI2 := Lib.hid (HI1.out.on (q2.trans (hbX2.mono q2.size)))
  have HP2 := Lib.hid hx2
  have HR2 := Lib.hid (r2.on hbX2)
  have HZ2 := Lib.hid hzX2
  clear q2 r2 hx2 hbX2 hzX2 k0 x1 x2 x3 ew1
  have k0 := box_cell HI2.out.g
  obtain ⟨x1, x2, x3⟩ := how_at HI2.out.h
  go_wp2_with (refine wpList_store_mid rfl 44 _ _ rfl w2.heap.size 0 #[.int .i64 N1, .int .i64 B1, .int .i64 ls1, .int .i64 k1, .int .i64 len1, .slice A2 nb c2] rfl rfl hth2 info_pd (by simp [Value.oneCell']) ?_; rw [hX2]; clear hX2 hth2)
  refine (HTl.out X2 HI2.out.low).mono ?_
  rintro e w3 ⟨A3, c3, A4, c4, rfl, r3, r4, q3⟩
  obtain ⟨b9, hb9⟩ : ∃ b, w2.heap.size = b := ⟨_, rfl⟩
  have HS3 : Hid (NeS w w3 A N c B ls k node b9 N1 B1 ls1 k1 len1 A2 nb c2 bs A3 xs1 A4 xs2) := by
    rw [← hb9]
    exact ⟨HI2.out.on q3, (q3.block _ (Array.getElem?_eq_some_iff.1 HP2.out).1).trans HP2.out, HR2.out.on q3, r3, r4⟩
  rw [hb9]
  clear q3 r3 r4 k0 x1 x2 x3 hb9 HP2 HI2 HI1 HR2 HZ2 HTl HW
  go_wp2_with fail
  refine (HBg.out w3).mono ?_
  rintro e w4 ⟨rfl, q4⟩
  have HS4 := Lib.hid (HS3.out.on q4)
  clear q4
  go_wp2_with fail
  refine (HSb.out w4).mono ?_
  rintro e w5 ⟨rfl, q5⟩
  have HS5 := Lib.hid (HS4.out.on q5)
  clear q5
  go_wp2_with fail
  refine (HBb.out w5).mono ?_
  rintro e w6 ⟨rfl, q6⟩
  have HS6 := Lib.hid (HS5.out.on q6)
  have HF6 := Lib.hid HS6.out.i.low
  clear q6 HS3 HS4 HS5 HBg HSb HBb
  have kn := box_cell HS6.out.i.n
  have kg := box_cell HS6.out.i.g
  rcases H1 with he | ⟨rfl, rfl, rfl, hn⟩
  · have t1 : (e1 != 0) = true := by simpa using he
    clear he kn kg
    go_wp2
    go_ret
    exact ⟨by simp, HF6.out⟩
  · rcases (show node < 0 ∨ (¬ node < 0 ∧ (n2 : Int) ≤ node) by omega) with h | ⟨h, h2⟩
    · clear hn
      go_wp2
      go_ret
      exact ⟨by simp, HF6.out⟩
    · clear hn
      go_wp2
      go_ret
      exact ⟨by simp, HF6.out⟩
set_option maxHeartbeats 8000000 in
theorem packnear_b (w : World) (A : Option Addr) (N c : Nat) (B ls k back N1 B1 ls1 k1 : Int) (xs1 xs2 : List Int) (i r s E f tot : Nat) (L LL : List Bool) (e1 node len1 : Int) (n1 n2 nb : Nat) (bs : List Nat) (he1 : e1 = 0) (hno : node = (i : Int)) (hn1 : N = n1) (hn2 : N = n2) (hlen1 : len1 = (LL.length : Int)) (hnb : nb = (pack LL).length) (hbs : bs = pack LL)
    (HBg : Hid (∀ V, Calls Tryz.prog 30 #[] V fun e w' => e = .returned (.bool true) ∧ Below V.heap.size V w'))
    (HSb : Hid (∀ V, Calls Tryz.prog 17 #[] V fun e w' => e = .returned (.bool true) ∧ Below V.heap.size V w'))
    (HBb : Hid (∀ V, Calls Tryz.prog 22 #[] V fun e w' => e = .returned (.bool true) ∧ Below V.heap.size V w'))
    (HW : Hid (∀ V, Below w.heap.size w V → Calls Tryz.prog 24 #[.agg #[.slice A N c], .agg #[.int .i64 B, .int .i64 ls, .int .i64 k]] V (PwP V N1 B1 ls1 k1 len1 nb bs e1)))
    (HTl : Hid (∀ V, Below w.heap.size w V → Calls Tryz.prog 26 #[.agg #[.slice A N c], .agg #[.int .i64 B, .int .i64 ls, .int .i64 k]] V (PtP V n1 xs1 n2 xs2 e1)))
    (hi : i < N) (hN : N ≤ 100) (h1 : xs1[i]? = some (r : Int)) (h2 : xs2[i]? = some (s : Int)) (h3 : i + 1 < N → xs2[i + 1]? = some (E : Int)) (h4 : ¬ i + 1 < N → LL.length = E)
    (hr7 : r ≤ 7) (hrB : (r : Int) ≤ B) (hri : r ≤ i) (hsE : s + tot = E) (hE : E ≤ LL.length) (hLL : LL.length ≤ 8192) (hf : f + L.length = E) (hL : L = (LL.drop f).take (E - f))
    (HNr : Hid (∀ V, NeI w V A N c B ls k (i : Int) → Calls Tryz.prog 33 #[.int .i64 (r : Int), .pointer (some ⟨w.heap.size + 1, 0, none⟩), .pointer (some ⟨w.heap.size, 0, none⟩), .pointer (some ⟨w.heap.size + 1 + 1, 0, none⟩)] V (GvM V (L.length : Int) (pack L).length (pack L) (tot : Int))))
    (HNq : Hid (¬ (back < 0 ∨ B < back ∨ (i : Int) < back) → ∃ (L2 : List Bool) (tot2 : Nat), (tot < tot2 ∨ tot = tot2 ∧ (r : Int) ≤ back) ∧ ∀ V, NeI w V A N c B ls k (i : Int) → Calls Tryz.prog 33 #[.int .i64 (back : Int), .pointer (some ⟨w.heap.size + 1, 0, none⟩), .pointer (some ⟨w.heap.size, 0, none⟩), .pointer (some ⟨w.heap.size + 1 + 1, 0, none⟩)] V (GvM V (L2.length : Int) (pack L2).length (pack L2) (tot2 : Int)))) :
    Calls Tryz.prog 6 #[.agg #[.slice A N c], .agg #[.int .i64 B, .int .i64 ls, .int .i64 k], .int .i64 node, .int .i64 back] w fun e w' => e = .returned (.bool true) ∧ Below w.heap.size w w' := by
  subst he1
  subst hno
  subst hn1
  subst hn2
  subst hlen1
  subst hnb
  subst hbs
  have HA := Lib.hid (And.intro hi (And.intro hN (And.intro hr7 (And.intro hri (And.intro hsE (And.intro hE (And.intro hLL hf)))))))
  have HL := Lib.hid hL
  have HB := Lib.hid hrB
  clear hL
  clear hsE hE hLL hf hrB
  obtain ⟨w1, ew1, hI⟩ := nei_at w A N c B ls k (i : Int)
  have HI1 := Lib.hid hI
  have k0 := box_cell hI.g
  obtain ⟨x1, x2, x3⟩ := how_at hI.h
  clear hI
  go_enter Tryz.func6, Tryz.ntmps6
  go_wp2_with fail
  try rw [ew1]
  refine (HW.out w1 HI1.out.low).mono ?_
  rintro e w2 ⟨A2, c2, rfl, r2, q2⟩
  obtain ⟨X2, hX2, hth2, hx2, hbX2, hzX2⟩ := pd_new w2 [.int .i64 N1, .int .i64 B1, .int .i64 ls1, .int .i64 k1, .int .i64 (LL.length : Int), .slice A2 (pack LL).length c2] rfl
  have HI2 := Lib.hid (HI1.out.on (q2.trans (hbX2.mono q2.size)))
  have HP2 := Lib.hid hx2
  have HR2 := Lib.hid (r2.on hbX2)
  have HZ2 := Lib.hid hzX2
  clear q2 r2 hx2 hbX2 hzX2 k0 x1 x2 x3 ew1
  have k0 := box_cell HI2.out.g
  obtain ⟨x1, x2, x3⟩ := how_at HI2.out.h
  go_wp2_with (refine wpList_store_mid rfl 44 _ _ rfl w2.heap.size 0 #[.int .i64 N1, .int .i64 B1, .int .i64 ls1, .int .i64 k1, .int .i64 (LL.length : Int), .slice A2 (pack LL).length c2] rfl rfl hth2 info_pd (by simp [Value.oneCell']) ?_; rw [hX2]; clear hX2 hth2)
  refine (HTl.out X2 HI2.out.low).mono ?_
  rintro e w3 ⟨A3, c3, A4, c4, rfl, r3, r4, q3⟩
  obtain ⟨b9, hb9⟩ : ∃ b, w2.heap.size = b := ⟨_, rfl⟩
  have HS3 : Hid (NeS w w3 A N c B ls k (i : Int) b9 N1 B1 ls1 k1 (LL.length : Int) A2 (pack LL).length c2 (pack LL) A3 xs1 A4 xs2) := by
    rw [← hb9]
    exact ⟨HI2.out.on q3, (q3.block _ (Array.getElem?_eq_some_iff.1 HP2.out).1).trans HP2.out, HR2.out.on q3, r3, r4⟩
  rw [hb9]
  clear q3 r3 r4 k0 x1 x2 x3 hb9 HP2 HI2 HI1 HR2 HZ2 HTl HW
  go_wp2_with fail
  refine (HBg.out w3).mono ?_
  rintro e w4 ⟨rfl, q4⟩
  have HS4 := Lib.hid (HS3.out.on q4)
  clear q4
  go_wp2_with fail
  refine (HSb.out w4).mono ?_
  rintro e w5 ⟨rfl, q5⟩
  have HS5 := Lib.hid (HS4.out.on q5)
  clear q5
  go_wp2_with fail
  refine (HBb.out w5).mono ?_
  rintro e w6 ⟨rfl, q6⟩
  have HS6 := Lib.hid (HS5.out.on q6)
  have HF6 := Lib.hid HS6.out.i.low
  clear q6 HS3 HS4 HS5 HBg HSb HBb
  obtain ⟨kh1, kh2, kh3⟩ := how_at HS6.out.i.h
  have kn := box_cell HS6.out.i.n
  have kg := box_cell HS6.out.i.g
  have kp : w6.cell? ⟨b9, 4, none⟩ = some (.int .i64 (LL.length : Int)) := (cell_at HS6.out.p 4).trans rfl
  obtain ⟨b3, o3, rfl, l3, m3⟩ := HS6.out.r3.at_ (i := i) (v := .int .i64 (r : Int)) (by unfold zc; rw [List.getElem?_map, h1]; rfl)
  obtain ⟨b4, o4, rfl, l4, m4⟩ := HS6.out.r4.at_ (i := i) (v := .int .i64 (s : Int)) (by unfold zc; rw [List.getElem?_map, h2]; rfl)
  have HX1 := Lib.hid h1
  have HX2 := Lib.hid h2
  have HM3 := Lib.hid (And.intro l3 m3)
  have HM4 := Lib.hid (And.intro l4 m4)
  have t1 : ¬ (i : Int) < 0 := by omega
  have t2 : ¬ (N : Int) ≤ (i : Int) := by omega
  have t2' : ¬ N ≤ i := by omega
  have t3 : wrap64 ((i : Int) + 1) = (i : Int) + 1 := by unfold wrap64; omega
  have t4 : (0 : Int) ≤ (i : Int) + 1 := by omega
  have t5 : (0 : Int) ≤ (i : Int) := by omega
  have t6 : (i : Int) < (N : Int) := by omega
  have t7 : ¬ (r : Int) < 0 := by omega
  have t8 : decide ((r : Int) < 0) = false := by simp
  have t8' : decide (B < (r : Int)) = false := by simp; exact HB.out
  have t8'' : decide ((i : Int) < (r : Int)) = false := by simp; omega
  have t8n : decide (i < r) = false := by simp; omega
  have hEE : Hid (i + 1 < N → w6.cell? ⟨b4, o4 + (i + 1), none⟩ = some (.int .i64 (E : Int))) := fun hlt => by
    obtain ⟨b6, o6, ex, -, m6⟩ := HS6.out.r4.at_ (i := i + 1) (v := .int .i64 (E : Int)) (by unfold zc; rw [List.getElem?_map, h3 hlt]; rfl)
    injection ex with ex; injection ex with ea eb ec
    subst ea; subst eb
    exact m6
  clear h1 h2 h3 hr7 hri hi hN l3 l4
  by_cases hlt : i + 1 < N
  case' pos =>
    have mE := hEE.out hlt
    have t9 : (i : Int) + 1 < (N : Int) := by omega
    have t10 : ((i : Int) + 1).toNat = i + 1 := by omega
    clear h4 hlt hEE
  case' neg =>
    have t9 : ¬ (i : Int) + 1 < (N : Int) := by omega
    have hLE := h4 hlt
    rw [hLE] at kp
    clear h4 hlt hEE hLE
  all_goals (
    have tm1 : decide (min B (i : Int) < (r : Int)) = false := by have h1 := HB.out; have h2 := HA.out; simp; omega
    have tm2 : (r : Int) ≤ min B (i : Int) := by have h1 := HB.out; have h2 := HA.out; omega
    go_wp2
    go_region_held3 (fun V => V.cell? ⟨w.heap.size + 1, 0, none⟩ = some (.int .i64 B) ∧ V.cell? ⟨w.heap.size + 1 + 1, 0, none⟩ = some (.int .i64 (i : Int)) ∧ V.cell? ⟨b3, o3 + i, none⟩ = some (.int .i64 (r : Int)))
      ((first | exact ⟨kh1, kn, m3⟩ | (trace_state; fail)))
      (fail)
    all_goals (
      go_wp2_with fail
      have HS7 := Lib.hid (HS6.out.on ((Below.refl _ w6).drew))
      obtain ⟨W7, hW7⟩ : ∃ W, w6.drew = W := ⟨_, rfl⟩
      rw [hW7] at HS7 ⊢
      refine (HNr.out W7 HS7.out.i).mono ?_
      rintro e w8 ⟨A5, c5, rfl, r5, q5⟩
      have HE8 := Lib.hid (e9_new (w1 := w8) (len := (L.length : Int)) (n := (pack L).length) (c := c5) (Below.refl _ _) r5)
      have HS8a := Lib.hid ((HS7.out.on q5).on (one_below w8 (.cells #[.int .i64 (L.length : Int), .slice A5 (pack L).length c5] 27)))
      obtain ⟨X8, hX8⟩ : ∃ X, w8.alloc (.cells #[.int .i64 (L.length : Int), .slice A5 (pack L).length c5] 27) = X := ⟨_, rfl⟩
      obtain ⟨b16, hb16⟩ : ∃ b, w8.heap.size = b := ⟨_, rfl⟩
      rw [hX8, hb16] at HE8
      rw [hX8] at HS8a
      have kp4 : X8.cell? ⟨b9, 4, none⟩ = some (.int .i64 (LL.length : Int)) := (cell_at HS8a.out.p 4).trans rfl
      have kp5 : X8.cell? ⟨b9, 5, none⟩ = some (.slice A2 (pack LL).length c2) := (cell_at HS8a.out.p 5).trans rfl
      obtain ⟨s0, s1⟩ := HE8.out.cells
      have t11w : IntKind.i64.wrap ((E : Int) - (L.length : Int)) = (f : Int) := by have h := HA.out; rw [IntKind.wrap_i64]; omega
      have t11 : wrap64 ((E : Int) - (L.length : Int)) = (f : Int) := by have h := HA.out; unfold wrap64; omega
      have HCu := Lib.hid (cut_l LL L HA.out.2.2.2.2.2.2.1 A2 c2 f E (by have h := HA.out; omega) HA.out.2.2.2.2.2.1 HL.out X8 HS8a.out.r2)
      clear r5 q5 kp kh1 kh2 kh3 kn kg m3 m4 hW7
      try clear mE
      go_wp2_with fail
      try rw [hX8]
      refine HCu.out.mono ?_
      rintro e w9 ⟨A6, c6, rfl, r6, q6⟩
      have HE9 := Lib.hid (e9_new (w1 := w9) (len := (L.length : Int)) (n := (pack L).length) (c := c6) (Below.refl _ _) r6)
      have hb9 := q6.trans ((one_below w9 (.cells #[.int .i64 (L.length : Int), .slice A6 (pack L).length c6] 27)).mono q6.size)
      have HE8b := Lib.hid (HE8.out.on hb9)
      have HS9 := Lib.hid (HS8a.out.on hb9)
      obtain ⟨X9, hX9⟩ : ∃ X, w9.alloc (.cells #[.int .i64 (L.length : Int), .slice A6 (pack L).length c6] 27) = X := ⟨_, rfl⟩
      obtain ⟨b18, hb18⟩ : ∃ b, w9.heap.size = b := ⟨_, rfl⟩
      rw [hX9, hb18] at HE9
      rw [hX9] at HE8b HS9
      obtain ⟨u0, u1⟩ := HE9.out.cells
      obtain ⟨v0, v1⟩ := HE8b.out.cells
      have HSm := sameBits_any X9 (L.length : Int) (L.length : Int) A6 A5 c6 c5 (pack L) (pack L) (by rw [pack_length]; have h := HA.out; omega) HE9.out.rd HE8b.out.rd
      rw [decide_eq_true rfl, decide_eq_true rfl, Bool.and_true] at HSm
      have HSm := Lib.hid HSm
      clear r6 q6 hb9 kp4 kp5 s0 s1
      go_wp2_with fail
      try rw [hX9]
      refine HSm.out.mono ?_
      rintro e w10 ⟨rfl, q10⟩
      have HS10 := Lib.hid (HS9.out.on q10)
      have HF10 := Lib.hid HS10.out.i.low
      obtain ⟨kh1, kh2, kh3⟩ := how_at HS10.out.i.h
      have kn := box_cell HS10.out.i.n
      have kg := box_cell HS10.out.i.g
      obtain ⟨bq3, oq3, eq3, -, m3⟩ := HS10.out.r3.at_ (i := i) (v := .int .i64 (r : Int)) (by unfold zc; rw [List.getElem?_map, HX1.out]; rfl)
      obtain ⟨bq4, oq4, eq4, -, m4⟩ := HS10.out.r4.at_ (i := i) (v := .int .i64 (s : Int)) (by unfold zc; rw [List.getElem?_map, HX2.out]; rfl)
      injection eq3 with eq3; injection eq3 with ea3 eb3 ec3
      injection eq4 with eq4; injection eq4 with ea4 eb4 ec4
      subst ea3; subst eb3; subst ea4; subst eb4
      have t12 : wrap64 ((E : Int) - (s : Int)) = (tot : Int) := by have h := HA.out; unfold wrap64; omega
      clear q10 u0 u1 v0 v1 hX8 hX9 hb16 hb18
      by_cases hq : back < 0 ∨ B < back ∨ (i : Int) < back
      · by_cases hq0 : back < 0
        · have t13 : decide (back < 0) = true := by simpa using hq0
          clear hq
          go_wp2
          go_ret
          exact ⟨rfl, HF10.out⟩
        · have t13 : decide (back < 0) = false := by simpa using hq0
          have t14 : decide (min B (i : Int) < back) = true := by simp; omega
          have t15 : min B (i : Int) < back := by omega
          clear hq
          go_wp2
          go_ret
          exact ⟨rfl, HF10.out⟩
      · obtain ⟨L2, tot2, hcm, HN2⟩ := HNq.out hq
        have HN2 := Lib.hid HN2
        have t13 : ¬ back < 0 := by omega
        have t14 : decide (min B (i : Int) < back) = false := by simp; omega
        have t15 : back ≤ min B (i : Int) := by omega
        clear hq
        go_wp2_with fail
        refine (HN2.out w10 HS10.out.i).mono ?_
        rintro e w11 ⟨A7, c7, rfl, r7, q7⟩
        have HB12 : Hid (Below w.heap.size w (w11.alloc (.cells #[.int .i64 (L2.length : Int), .slice A7 (pack L2).length c7] 27))) := HF10.out.trans ((q7.mono HF10.out.size).trans ((one_below w11 _).mono (Nat.le_trans HF10.out.size q7.size)))
        have HS12 := (HS10.out.on q7).on (one_below w11 (.cells #[.int .i64 (L2.length : Int), .slice A7 (pack L2).length c7] 27))
        have kn2 := box_cell HS12.i.n
        obtain ⟨bq3, oq3, eq3, -, m3b⟩ := HS12.r3.at_ (i := i) (v := .int .i64 (r : Int)) (by unfold zc; rw [List.getElem?_map, HX1.out]; rfl)
        injection eq3 with eq3; injection eq3 with ea3 eb3 ec3
        subst ea3; subst eb3
        clear r7 q7 HS12 kh1 kh2 kh3 kn kg m3 m4
        rcases hcm with hcm | ⟨hcm, hrb⟩
        · have t16 : decide (tot < tot2) = true := by simpa using hcm
          have t17 : (tot : Int) < (tot2 : Int) := by omega
          clear hcm
          go_wp2
          go_ret
          exact ⟨rfl, HB12.out⟩
        · subst hcm
          have t16 : decide ((r : Int) ≤ back) = true := by simpa using hrb
          go_wp2
          go_ret
          exact ⟨by first | rfl | simp, HB12.out⟩))
end
end Go.Proofs.YtbddcokjkdoaaaaGreat
