/- The document's own way to make bits of a list: PackBits, for whatever list of bits. -/
import Derived.Test.YtgibbokhdfblmaaRefNumA
namespace Go.Proofs.Ytgibbokhdfblmaa
set_option maxRecDepth 100000
set_option linter.unusedVariables false
open Go.RowKit

/-- k bits from position i on, as a number; 0 behind the end. -/
def pk (l : List Bool) (i : Nat) : Nat → Nat
  | 0 => 0
  | k + 1 => 2 * pk l i k + bt l (i + k)
theorem pk_lt (l : List Bool) (i k : Nat) : pk l i k < 2 ^ k := by
  induction k with
  | zero => simp [pk]
  | succ k ih => have := bt_le l (i + k); rw [pk, Nat.pow_succ]; omega
theorem pk_eight (l : List Bool) (j : Nat) : pk l (8 * j) 8 = byteAt l j := by
  unfold byteAt
  simp only [pk, Nat.add_zero]
  omega
theorem pack_take_succ (l : List Bool) (j : Nat) (h : 8 * j < l.length) : (pack l).take (j + 1) = (pack l).take j ++ [byteAt l j] := by
  have hj : j < (pack l).length := by rw [pack_length]; omega
  rw [List.take_succ_eq_append_getElem hj]
  have := pack_get l j
  rw [List.getElem?_eq_getElem hj] at this
  rw [← this]; rfl

def PKRel (l : List Bool) (i : Nat) (v p : Value) : Prop := ∃ k : Nat, k ≤ 8 ∧ p = .int .i64 (k : Int) ∧ v = .int .i64 (pk l i k : Int)

/-- At each outer round's head: j bytes lie in a row of the call's own. -/
def PBRel (w w1 : World) (l : List Bool) (p : Value) (wr : World) : Prop :=
  ∃ j : Nat, 8 * j < l.length + 8 ∧ p = .int .i64 ((8 * j : Nat) : Int) ∧ ∃ v, wr.heap[w.heap.size + 1]? = some (.cells #[.int .i64 (l.length : Int), v] 25 (0, 0)) ∧ wr.ownsRow (w.heap.size + 2) 5 1 v ((pack l).take j).length (bc ((pack l).take j)) ∧ Below (w.heap.size + 1) w1 wr ∧ w1.heap.size ≤ wr.heap.size

/-- Bits come back. -/
def PkP (w : World) (l : List Bool) (e : Ending) (w' : World) : Prop :=
  ∃ A c, e = .returned (.agg #[.int .i64 (l.length : Int), .slice A (pack l).length c]) ∧ Rd w' w'.heap.size A (pack l) ∧ Below w.heap.size w w'

/-- One byte more: behind the append, and behind the store. -/
theorem pb_step {wr w3 w1 : World} {s k g' cap' ln : Nat} {Av : Option Addr} {cv : Nat} {xs ys : List Value} {tmp : Obj}
    (hblk : wr.heap[s + 1]? = some (.cells #[.int .i64 (ln : Int), .slice Av k cv] 25 (0, 0))) (hrow : wr.ownsRow (s + 2) 5 1 (.slice Av k cv) k xs) (hbel : Below (s + 1) w1 wr) (hz : s + 2 ≤ w1.heap.size) (hzz : w1.heap.size ≤ wr.heap.size)
    (hgrow : (wr.alloc tmp).grownBy w3 (Value.slice Av k cv).ownBlock) (hown' : w3.ownsRow (s + 2) 5 1 (.slice (some ⟨g', 0, none⟩) (k + 1) cap') (k + 1) ys) :
    (w3.cell? ⟨s + 1, 1, none⟩ = some (.slice Av k cv) ∧ w3.frozen? ⟨s + 1, 1, none⟩ = false) ∧
    Hid ((w3.setCell ⟨s + 1, 1, none⟩ (.slice (some ⟨g', 0, none⟩) (k + 1) cap')).heap[s + 1]? = some (.cells #[.int .i64 (ln : Int), .slice (some ⟨g', 0, none⟩) (k + 1) cap'] 25 (0, 0)) ∧
      (w3.setCell ⟨s + 1, 1, none⟩ (.slice (some ⟨g', 0, none⟩) (k + 1) cap')).ownsRow (s + 2) 5 1 (.slice (some ⟨g', 0, none⟩) (k + 1) cap') (k + 1) ys ∧
      Below (s + 1) w1 (w3.setCell ⟨s + 1, 1, none⟩ (.slice (some ⟨g', 0, none⟩) (k + 1) cap')) ∧ w1.heap.size ≤ (w3.setCell ⟨s + 1, 1, none⟩ (.slice (some ⟨g', 0, none⟩) (k + 1) cap')).heap.size) := by
  have hne : ∀ j, (Value.slice Av k cv).ownBlock = some j → s + 2 ≤ j := fun j hj => (hrow.lt j hj).1
  have h3 : w3.heap[s + 1]? = some (.cells #[.int .i64 (ln : Int), .slice Av k cv] 25 (0, 0)) :=
    (hgrow.block (s + 1) (by simp; omega) (fun e => by have := hne _ e.symm; omega)).trans ((Below.heap_alloc _ _ _ (by omega)).trans hblk)
  have hb3 : Below (s + 1) w1 w3 := (hbel.alloc (by omega) tmp).grown hgrow (by simp; omega) (fun j hj => by have := hne j hj; omega)
  obtain ⟨_, c1, _, f1⟩ := blk_cells h3
  have hg : s + 2 ≤ g' := (hown'.lt g' rfl).1
  refine ⟨⟨c1, f1⟩, ?_, ?_, hb3.setCell (p := ⟨s + 1, 1, none⟩) (Nat.le_refl _) _, by simpa [World.setCell] using hb3.size⟩
  · rw [heap_set_same _ _ _ _ 25 _ h3]; simp
  · refine hown'.kept (row := some (s + 1)) (grown_set _ _ _ _) (.inr ?_)
    simp [Value.ownBlock]; omega

set_option maxRecDepth 100000 in
set_option maxHeartbeats 2000000 in
theorem packBits_any (l : List Bool) (n : Nat) (hn : l.length = n) (hl : n ≤ 8192) (A : Option Addr) (c : Nat) (w : World) (h : RdV w w.heap.size A (ic l)) :
    Calls Try.prog 57 #[.slice A n c] w (PkP w l) := by
  subst hn
  obtain ⟨i0, hi, hz0, hz1, hz2⟩ := info_parts info5
  have HR := Lib.hid h; clear h
  obtain ⟨w1, hw1⟩ : ∃ w1, w1 = (w.alloc (.cells #[.int .i64 0, .slice none 0 0] 25)).alloc (.cells #[.int .i64 (l.length : Int), .slice none 0 0] 25) := ⟨_, rfl⟩
  have HW1 : Hid (w1.heap.size = w.heap.size + 2 ∧ Below w.heap.size w w1 ∧ w1.heap[w.heap.size]? = some (.cells #[.int .i64 0, .slice none 0 0] 25) ∧ w1.heap[w.heap.size + 1]? = some (.cells #[.int .i64 (l.length : Int), .slice none 0 0] 25)) := by
    rw [hw1]; exact ⟨two_size w _ _, up2 w _ _, (Below.heap_alloc _ _ _ (by simp)).trans (World.alloc_heap_new w _), two_new w _ _⟩
  have HE := Lib.hid hw1; clear hw1
  go_enter Try.func57, Try.ntmps57
  go_wp2
  rw [← HE.out]
  go_loopw [4] (fun p wr => PBRel w w1 l p wr) (fun p _ => l.length + 8 - (intOf p).toNat)
  case atStart => exact ⟨0, by omega, rfl, .slice none 0 0, HW1.out.2.2.2, ⟨rfl, .inl ⟨rfl, rfl⟩⟩, Below.refl _ _, Nat.le_refl _⟩
  case round =>
    obtain ⟨j, hj, rfl, v, hblk, hrow, hbel, hsz⟩ := hrel
    obtain ⟨Av, cv, rfl⟩ := own_slice hrow
    obtain ⟨d0, d1, f0, f1⟩ := blk_cells hblk
    by_cases hlt : 8 * j < l.length
    · have HU := Lib.hid (pack_take_succ l j hlt)
      have hjl : ((pack l).take j).length = j := by rw [List.length_take, pack_length]; omega
      rw [hjl] at hrow hblk d1
      have HRw : Hid (RdV wr w.heap.size A (ic l)) := HR.out.below (HW1.out.2.1.trans (hbel.mono (by omega))) (Nat.le_refl _)
      have HP8 := Lib.hid (pk_eight l j)
      have HBlk := Lib.hid hblk; clear hblk
      have HBel := Lib.hid hbel; clear hbel
      have HSz := Lib.hid hsz; clear hsz
      have hjn : ((8 * j : Nat) : Int) < (l.length : Int) := by omega
      have hjb : j ≤ 1024 := by omega
      generalize hq : 8 * j = q at *
      have HQ := Lib.hid hq; clear hq
      go_wp2
      go_loop [5, 6] (fun v p => PKRel l q v p) (fun _ p => 8 - (intOf p).toNat)
      case atStart => exact ⟨0, Nat.zero_le _, rfl, rfl⟩
      case round =>
        obtain ⟨k, hk, rfl, rfl⟩ := hrel
        have hpl := pk_lt l q k
        have hp2 : 2 ^ k ≤ 2 ^ 8 := Nat.pow_le_pow_right (by omega) hk
        have hpk : pk l q k < 256 := by omega
        clear hpl hp2
        by_cases hks : k < 8
        · have HS : Hid (pk l q (k + 1) = 2 * pk l q k + bt l (q + k)) := rfl
          have hqk : (q : Int) + (k : Int) = ((q + k : Nat) : Int) := by omega
          by_cases hin : q + k < l.length
          · obtain ⟨b, off, rfl, hb, hc⟩ := HRw.out.at_ (ic_get l (q + k) hin)
            have HBt : Hid (bt l (q + k) = (l[q + k]?.getD false).toNat) := rfl
            have hbl := Bool.toNat_le (l[q + k]?.getD false)
            generalize l[q + k]?.getD false = bb at *
            generalize bt l (q + k) = bq at *
            generalize pk l q k = y at *
            have t1 : (q : Int) + (k : Int) < (l.length : Int) := by omega
            have i0' : (0 : Int) ≤ (q : Int) + (k : Int) := by omega
            have i2' : ((q : Int) + (k : Int)).toNat = q + k := by omega
            clear hqk
            go_wp2
            go_round
            case rel => exact ⟨k + 1, by omega, by go_num, by rw [HS.out, HBt.out]; go_num⟩
            case measure => simp [intOf]; omega
          · have HBt : Hid (bt l (q + k) = 0) := bt_beyond l _ (by omega)
            generalize bt l (q + k) = bq at *
            generalize pk l q k = y at *
            have t1 : ¬ (q : Int) + (k : Int) < (l.length : Int) := by omega
            clear hqk
            go_wp2
            go_round
            case rel => exact ⟨k + 1, by omega, by go_num, by rw [HS.out, HBt.out]; go_num⟩
            case measure => simp [intOf]; omega
        · have e8 : k = 8 := by omega
          have HV : Hid (pk l q k = byteAt l j) := by show _ = _; rw [e8]; exact HP8.out
          clear e8
          generalize byteAt l j = y8 at *
          generalize pk l q k = y at *
          have hy256 : (y : Int) < 256 := by omega
          go_wp2_with (at_builtin; refine wpList_append_own _ rfl _ _ 23 rfl (w.heap.size + 2) 5 i0 (.int .u8 0) 1 1 Try.underlying23 hi hz0 hz1 hz2 rfl (by decide) _ _ _ rfl (hrow.alloc _) ⟨wr.heap.size, 0, none⟩ 1 1 [.int .u8 (y : Int)] rfl rfl (cell_one_new _ _ _) (by simp [Value.oneCell']) (by unfold maxLen; omega) (by omega) (by have := HSz.out; have := HW1.out.1; simp; omega) ?_; intro v' w3 hown' hgrow _; obtain ⟨g', cap', rfl⟩ := ownsRow_succ hown'; obtain ⟨⟨e1, e2⟩, HF⟩ := pb_step (ln := l.length) HBlk.out hrow HBel.out (by have := HW1.out.1; omega) HSz.out hgrow hown'; clear hgrow hown')
          go_roundw
          case rel =>
            have hq := HQ.out
            obtain ⟨F1, F2, F3, F4⟩ := HF.out
            refine ⟨j + 1, by omega, ?_, _, F1, ?_, F3, F4⟩
            · rw [← hq]; go_num
            · have e1 : ((pack l).take (j + 1)).length = j + 1 := by rw [HU.out, List.length_append, hjl]; rfl
              rw [e1, HU.out, bc_append, ← HV.out]
              exact F2
          case measure => simp [intOf]; omega
    · have hpt : (pack l).take j = pack l := List.take_of_length_le (by rw [pack_length]; omega)
      rw [hpt] at hrow hblk d1
      have hrb : wr.heap[w.heap.size]? = some (.cells #[.int .i64 0, .slice none 0 0] 25) := (hbel.block _ (by omega)).trans HW1.out.2.2.1
      have hlow : Below w.heap.size w wr := HW1.out.2.1.trans (hbel.mono (by omega))
      obtain ⟨r0, r1, k0, k1⟩ := blk_cells hrb
      have HF : Hid (PkP w l (.returned (.agg #[.int .i64 (l.length : Int), .slice Av (pack l).length cv])) ((wr.setCell ⟨w.heap.size, 0, none⟩ (.int .i64 (l.length : Int))).setCell ⟨w.heap.size, 1, none⟩ (.slice Av (pack l).length cv))) := by
        refine ⟨Av, cv, rfl, ?_, (hlow.setCell (p := ⟨w.heap.size, 0, none⟩) (Nat.le_refl _) _).setCell (p := ⟨w.heap.size, 1, none⟩) (Nat.le_refl _) _⟩
        have q1 := (own_rd hrow).setK (i := 0) (.int .i64 (l.length : Int)) hrb
        have hr2 : (wr.setCell ⟨w.heap.size, 0, none⟩ (.int .i64 (l.length : Int))).heap[w.heap.size]? = some (.cells #[.int .i64 (l.length : Int), .slice none 0 0] 25 (0, 0)) := by
          rw [heap_set_same _ _ _ _ 25 _ hrb]; simp
        have q2 := q1.setK (i := 1) (.slice Av (pack l).length cv) hr2
        have e : ((wr.setCell ⟨w.heap.size, 0, none⟩ (.int .i64 (l.length : Int))).setCell ⟨w.heap.size, 1, none⟩ (.slice Av (pack l).length cv)).heap.size = wr.heap.size := by simp [World.setCell]
        rw [e]
        exact q2
      have hge : ¬ ((8 * j : Nat) : Int) < (l.length : Int) := by omega
      clear hrow hblk hbel hrb hlow hpt
      generalize 8 * j = q at *
      go_wp2
      exact bodyPost_ret (v := .agg #[.int .i64 (l.length : Int), .slice Av (pack l).length cv]) (by simp [results, Try.results57, go_sem, r0, r1]) rfl HF.out
end Go.Proofs.Ytgibbokhdfblmaa
