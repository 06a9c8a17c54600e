/- Of all ways to tell a node's list the shortest, the first of them ((*packer).fewest): bst. -/
import Derived.Test.YticdnodlapafoaaGreatPkEnc
namespace Go.Proofs.YticdnodlapafoaaGreat
set_option maxRecDepth 100000
set_option linter.unusedVariables false
open Go.RowKit Go.Shelf

/-- A number and bits come back. -/
def GvN (w : World) (m : Int) (len : Int) (n : Nat) (bs : List Nat) (e : Ending) (w' : World) : Prop :=
  ∃ A c, e = .returned (.tuple #[.int .i64 m, .agg #[.int .i64 len, .slice A n c]]) ∧ Rd w' w'.heap.size A bs ∧ Below w.heap.size w w'
theorem e9_storeN {w w1 W : World} {b : Nat} {len m : Int} {A : Option Addr} {n c : Nat} {bs : List Nat} (h : E9 w1 W b len A n c bs) (hrb : W.heap[w.heap.size]? = some (.cells #[.int .i64 0, .slice none 0 0] 27 (0, 0))) (hlow : Below w.heap.size w W) :
    GvN w m len n bs (.returned (.tuple #[.int .i64 m, .agg #[.int .i64 len, .slice A n c]])) ((W.setCell ⟨w.heap.size, 0, none⟩ (.int .i64 len)).setCell ⟨w.heap.size, 1, none⟩ (.slice A n c)) := by
  obtain ⟨A', c', q1, q2, q3⟩ := e9_store h hrb hlow
  injection q1 with q1
  injection q1 with q1
  have q1 := congrArg Array.toList q1
  simp at q1
  obtain ⟨rfl, rfl⟩ := q1
  exact ⟨A, c, rfl, q2, q3⟩
/-- What is stored in the box is there, all else as it was. -/
theorem E9.put {w1 W : World} {b : Nat} {len len2 : Int} {A A2 : Option Addr} {n c n2 c2 : Nat} {bs bs2 : List Nat} (h : E9 w1 W b len A n c bs) (h2 : Rd W W.heap.size A2 bs2) :
    E9 w1 ((W.setCell ⟨b, 0, none⟩ (.int .i64 len2)).setCell ⟨b, 1, none⟩ (.slice A2 n2 c2)) b len2 A2 n2 c2 bs2 := by
  have r1 := h2.setK (i := 0) (.int .i64 len2) h.row
  have hr2 : (W.setCell ⟨b, 0, none⟩ (.int .i64 len2)).heap[b]? = some (.cells #[.int .i64 len2, .slice A n c] 27 (0, 0)) := by
    rw [heap_set_same _ _ _ _ 27 _ h.row]; simp
  have r2 := r1.setK (i := 1) (.slice A2 n2 c2) hr2
  have e : ((W.setCell ⟨b, 0, none⟩ (.int .i64 len2)).setCell ⟨b, 1, none⟩ (.slice A2 n2 c2)).heap.size = W.heap.size := by simp [World.setCell]
  refine ⟨(h.low.setCell (p := ⟨b, 0, none⟩) h.ge _).setCell (p := ⟨b, 1, none⟩) h.ge _, h.ge, ?_, ?_⟩
  · rw [heap_set_same _ _ _ _ 27 _ hr2]; simp
  · rw [e]; exact r2
theorem E9.frz {w1 W : World} {b : Nat} {len : Int} {A : Option Addr} {n c : Nat} {bs : List Nat} (h : E9 w1 W b len A n c bs) : W.frozen? ⟨b, 0, none⟩ = false ∧ W.frozen? ⟨b, 1, none⟩ = false := ⟨frz_at h.row 0, frz_at h.row 1⟩
theorem E9.drew {w1 W : World} {b : Nat} {len : Int} {A : Option Addr} {n c : Nat} {bs : List Nat} (h : E9 w1 W b len A n c bs) : E9 w1 W.drew b len A n c bs := ⟨h.low.drew, h.ge, h.row, h.rd⟩
theorem GvN.drew {w w' : World} {m len : Int} {n : Nat} {bs : List Nat} {e : Ending} (h : GvN w m len n bs e w') : GvN w m len n bs e w'.drew := by
  obtain ⟨A, c, q1, q2, q3⟩ := h
  exact ⟨A, c, q1, q2, q3.drew⟩
set_option maxHeartbeats 4000000 in
theorem fewest_ok {g : List (List Nat)} {R : List Rw} (h : GrR g R) (N : Nat) (hN : R.length = N) (B ls k : Nat) (hB : B ≤ 7) (hls : ls = 0 ∨ 2 ≤ ls ∧ ls ≤ 300) (hk : 1 ≤ k) (hk2 : k ≤ 16) (i : Nat) (hi : i < N) (P : Nat) (A : Option Addr) (c : Nat) (L : List Bool) (hL : ndB B ls k g i (bst B ls k g i) = L) (m : Int) (hm : ((bst B ls k g i : Nat) : Int) = m) (w : World) (hG : RdG w w.heap.size A R) (hP : P < w.heap.size)
    (h1 : w.cell? ⟨P, 1, none⟩ = some (.int .i64 (B : Int))) (h2 : w.cell? ⟨P, 2, none⟩ = some (.int .i64 (ls : Int))) (h3 : w.cell? ⟨P, 3, none⟩ = some (.int .i64 (k : Int))) :
    Calls Tryz.prog 118 #[.pointer (some ⟨P, 0, none⟩), .int .i64 (i : Int), .slice A N c] w (GvN w m (L.length : Int) (pack L).length (pack L)) := by
  have hn : N ≤ 100 := by have := h.ok.nodes; have := h.len; omega
  have HCell : Hid (∀ V, Below w.heap.size w V → V.cell? ⟨P, 1, none⟩ = some (.int .i64 (B : Int)) ∧ V.cell? ⟨P, 2, none⟩ = some (.int .i64 (ls : Int)) ∧ V.cell? ⟨P, 3, none⟩ = some (.int .i64 (k : Int))) := fun V hV =>
    ⟨(hV.cell (p := ⟨P, 1, none⟩) hP).trans h1, (hV.cell (p := ⟨P, 2, none⟩) hP).trans h2, (hV.cell (p := ⟨P, 3, none⟩) hP).trans h3⟩
  have HEn : Hid (∀ (r : Nat) (L1 : List Bool) (V : World), r ≤ min B i → ndB B ls k g i r = L1 → Below w.heap.size w V → Calls Tryz.prog 144 #[.pointer (some ⟨P, 0, none⟩), .int .i64 (i : Int), .int .i64 (r : Int), .slice A N c] V (GvB V (L1.length : Int) (pack L1).length (pack L1))) := fun r L1 V hr hL1 hV => by
    obtain ⟨y1, y2, y3⟩ := HCell.out V hV
    exact encode_ok h N hN B ls k hB hls hk hk2 i r hi hr P A c L1 hL1 V (hG.on hV) (by have := hV.size; omega) y1 y2 y3
  have HFa : Hid (∀ V : World, Calls Tryz.prog 145 #[.agg #[.int .i64 (B : Int), .int .i64 (ls : Int), .int .i64 (k : Int)], .int .i64 (i : Int)] V fun e w' => e = .returned (.int .i64 ((min B i : Nat) : Int)) ∧ Below V.heap.size V w') := fun V => by
    have hh := farthest_any B ls k i V
    have e : min (B : Int) (i : Int) = ((min B i : Nat) : Int) := by omega
    rw [e] at hh
    exact hh
  obtain ⟨w1, ew1⟩ : ∃ w1, w.alloc (.cells #[.int .i64 0, .slice none 0 0] 27) = w1 := ⟨_, rfl⟩
  have s1 : w1.heap.size = w.heap.size + 1 := ew1 ▸ World.size_alloc _ _
  have hb1 : Below w.heap.size w w1 := ew1 ▸ one_below w _
  have hr1 : w1.heap[w.heap.size]? = some (.cells #[.int .i64 0, .slice none 0 0] 27 (0, 0)) := ew1 ▸ World.alloc_heap_new w _
  have HB1 := Lib.hid hb1
  have HR1 := Lib.hid hr1
  have HS1 := Lib.hid s1
  obtain ⟨M, hM⟩ : ∃ M, min B i = M := ⟨_, rfl⟩
  have HM : Hid (M ≤ 7 ∧ ∀ r, r ≤ M → r ≤ min B i) := ⟨by omega, fun r hr => by omega⟩
  have HLm : Hid (ndB B ls k g i (fw B ls k g i M) = L ∧ ((fw B ls k g i M : Nat) : Int) = m) := by rw [← hM]; exact ⟨hL, hm⟩
  rw [hM] at HFa
  obtain ⟨L0, hL0⟩ : ∃ L0, ndB B ls k g i 0 = L0 := ⟨_, rfl⟩
  have HL0 := Lib.hid hL0
  have HE0 := Lib.hid (HEn.out 0 L0 w1 (Nat.zero_le _) hL0 hb1)
  have hLow : Hid (∀ V, Below w1.heap.size w1 V → Below w.heap.size w V) := fun V hV => HB1.out.trans (hV.mono (by have := HS1.out; omega))
  clear hL hm hM hL0 hG h1 h2 h3 hP hn hN h hls hk hk2 hB hi hb1 hr1 s1
  go_enter Tryz.func118, Tryz.ntmps118
  go_wp2_with fail
  refine HE0.out.mono ?_
  rintro e w2 ⟨A2, c2, rfl, r2, q2⟩
  have HE2 := Lib.hid (e9_new (w1 := w1) (len := (L0.length : Int)) (n := (pack L0).length) (c := c2) q2 r2)
  obtain ⟨b9, hb9⟩ : ∃ b9, w2.heap.size = b9 := ⟨_, rfl⟩
  rw [hb9] at HE2
  clear q2 r2 ew1 HE0
  go_wp2
  go_loopw [8, 10] (fun al p wr => ∃ (s : Nat) (A9 : Option Addr) (c9 : Nat) (L9 : List Bool), s ≤ M ∧ al = .int .i64 ((fw B ls k g i s : Nat) : Int) ∧ p = .int .i64 ((s : Int) + 1) ∧ ndB B ls k g i (fw B ls k g i s) = L9 ∧ E9 w1 wr b9 (L9.length : Int) A9 (pack L9).length c9 (pack L9)) (fun _ p _ => M + 1 - (intOf p).toNat)
  case atStart => exact ⟨0, _, _, L0, Nat.zero_le _, rfl, rfl, HL0.out, HE2.out⟩
  case round =>
   as_aux_lemma =>
    clear HE2
    obtain ⟨s, A9, c9, L9, hs, rfl, rfl, hL9, hE⟩ := hrel
    have hw := hLow.out _ hE.low
    obtain ⟨y1, y2, y3⟩ := HCell.out _ hw
    have HEr := Lib.hid hE
    have HBr := Lib.hid hw
    have HL9 := Lib.hid hL9
    by_cases hlt : s < M
    · have t1 : decide (((s : Int) + 1) ≤ (M : Int)) = true := by simp; omega
      obtain ⟨L1, hL1⟩ : ∃ L1, ndB B ls k g i (s + 1) = L1 := ⟨_, rfl⟩
      have HL1 := Lib.hid hL1
      have HC : Hid (∀ V, Below w.heap.size w V → Calls Tryz.prog 144 #[.pointer (some ⟨P, 0, none⟩), .int .i64 (i : Int), .int .i64 ((s : Int) + 1), .slice A N c] V (GvB V (L1.length : Int) (pack L1).length (pack L1))) := fun V hV => by
        have hh := HEn.out (s + 1) L1 V (HM.out.2 _ hlt) hL1 hV
        have ecast : ((s + 1 : Nat) : Int) = (s : Int) + 1 := by omega
        rw [ecast] at hh
        exact hh
      clear hE hw hL1 hL9
      obtain ⟨v, hv⟩ : ∃ v : Nat, fw B ls k g i s = v := ⟨_, rfl⟩
      have HV := Lib.hid hv
      rw [hv]
      clear hv
      go_wp2_with fail
      refine (HFa.out wr).mono ?_
      rintro e w3 ⟨rfl, q3⟩
      have HE3 := Lib.hid (HEr.out.on q3)
      have HB3 : Hid (Below w.heap.size w w3) := hLow.out _ HE3.out.low
      clear q3 y1 y2 y3
      go_wp2_with fail
      refine (HC.out w3 HB3.out).mono ?_
      rintro e w4 ⟨A4, c4, rfl, r4, q4⟩
      have HE4 := Lib.hid (HE3.out.on q4)
      have HF5 := Lib.hid (e9_new (w1 := w4) (len := (L1.length : Int)) (n := (pack L1).length) (c := c4) (Below.refl _ _) r4)
      have HE5 := Lib.hid (HE4.out.on (one_below w4 (.cells #[.int .i64 (L1.length : Int), .slice A4 (pack L1).length c4] 27)))
      obtain ⟨x0, x1⟩ := HF5.out.cells
      obtain ⟨v0, v1⟩ := HE5.out.cells
      obtain ⟨f0, f1⟩ := HE5.out.frz
      clear q4 r4
      have t5 : wrap64 ((s : Int) + 1 + 1) = (s : Int) + 1 + 1 := by have := HM.out.1; unfold wrap64; omega
      have HW : Hid (fw B ls k g i (s + 1) = if L1.length < L9.length then s + 1 else v) := by
        show _ = _
        unfold fw
        rw [HL1.out, HL9.out, HV.out]
      by_cases hless : L1.length < L9.length
      · have t2 : decide (L1.length < L9.length) = true := by simp; omega
        have HW2 : Hid (fw B ls k g i (s + 1) = s + 1) := by show _ = _; rw [HW.out, if_pos hless]
        clear HW hless
        go_wp2
        go_region
        all_goals (
          go_wp2
          refine ⟨⟨s + 1, A4, c4, L1, hlt, by rw [HW2.out]; exact congrArg _ (by omega), by rw [t5]; exact congrArg _ (by omega), by rw [HW2.out]; exact HL1.out, ?_⟩, by rw [t5]; simp [intOf]; omega⟩
          first | exact (HE5.out.put HF5.out.rd).drew | exact HE5.out.put HF5.out.rd)
      · have t2 : decide (L1.length < L9.length) = false := by simp; omega
        have HW2 : Hid (fw B ls k g i (s + 1) = v) := by show _ = _; rw [HW.out, if_neg hless]
        clear HW hless
        go_wp2
        exact ⟨⟨s + 1, _, _, L9, hlt, by rw [HW2.out], by rw [t5]; exact congrArg _ (by omega), by rw [HW2.out, ← HV.out]; exact HL9.out, HE5.out⟩, by rw [t5]; simp [intOf]; omega⟩
    · obtain rfl : s = M := by omega
      have t1 : decide (((s : Int) + 1) ≤ (s : Int)) = false := by simp; omega
      obtain rfl : L9 = L := by rw [← hL9, HLm.out.1]
      rw [HLm.out.2]
      clear hE hw hL9
      go_wp2_with fail
      refine (HFa.out wr).mono ?_
      rintro e w3 ⟨rfl, q3⟩
      have HE3 := Lib.hid (HEr.out.on q3)
      have HB3 : Hid (Below w.heap.size w w3) := hLow.out _ HE3.out.low
      obtain ⟨v0, v1⟩ := HE3.out.cells
      have hr3 := (HE3.out.low.block w.heap.size (by have := HS1.out; omega)).trans HR1.out
      obtain ⟨r0, r1, r2, r3⟩ := blk_cells hr3
      have HFin := Lib.hid (e9_storeN (m := m) HE3.out hr3 HB3.out)
      clear q3 y1 y2 y3 hr3
      go_wp2
      go_region
      all_goals (
        go_wp2
        exact bodyPost_ret (v := .tuple #[.int .i64 m, .agg #[.int .i64 (L9.length : Int), .slice A9 (pack L9).length c9]]) (by simp [results, Tryz.results118, go_sem, r0, r1]) rfl (by first | exact HFin.out.drew | exact HFin.out))
end Go.Proofs.YticdnodlapafoaaGreat
