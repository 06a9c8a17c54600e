/- Texts of this proof, one behind the other (RefList, RefNumA, RefNum, RefPack, RefCheck, RefGen); each fact names its conditions. -/
import Derived.Test.YticdnodlapafoaaGreatJS2
import Derived.Laws.AppendOwnNone
namespace Go.Proofs.YticdnodlapafoaaGreat

section
open Go.RowKit

/-- Cells of bits, as ints. -/
def ic (l : List Bool) : List Value := l.map fun b => Value.int .i64 (b.toNat : Int)
theorem ic_length (l : List Bool) : (ic l).length = l.length := by simp [ic]
theorem ic_append (a b : List Bool) : ic (a ++ b) = ic a ++ ic b := by simp [ic]
theorem ic_get (l : List Bool) (i : Nat) (h : i < l.length) : (ic l)[i]? = some (.int .i64 ((l[i]?.getD false).toNat : Int)) := by
  simp [ic, List.getElem?_map, List.getElem?_eq_getElem h]
theorem ic_one (l : List Bool) : ∀ u ∈ ic l, u.oneCell' = true := by
  intro u hu
  simp only [ic, List.mem_map] at hu
  obtain ⟨x, _, rfl⟩ := hu
  rfl

theorem info3 : (Tryz.prog.info? 3).map (fun i => (i.zero, i.size, i.bytes)) = some (some (.int .i64 0), 1, 8) := by kernel_rfl
theorem own_slice3 {w : World} {base : Nat} {v : Value} {n : Nat} {xs : List Value} (h : w.ownsRow base 3 1 v n xs) : ∃ A c, v = .slice A n c := by
  rcases h.2 with ⟨rfl, rfl⟩ | ⟨g, cap, cur, rfl, _⟩
  · exact ⟨none, 0, rfl⟩
  · exact ⟨_, cap, rfl⟩

theorem own_base {w : World} {base base' : Nat} {e : TypeId} {size n : Nat} {v : Value} {xs : List Value} (h : w.ownsRow base e size v n xs) (hb : base' ≤ base) : w.ownsRow base' e size v n xs := by
  refine ⟨h.1, ?_⟩
  rcases h.2 with h | ⟨g, cap, cur, h1, h2, h3⟩
  · exact .inl h
  · exact .inr ⟨g, cap, cur, h1, by omega, h3⟩

/-- The bit at a position, of bytes. -/
def bitAt (bs : List Nat) (i : Nat) : Bool := bs[i / 8]?.getD 0 / 2 ^ (7 - i % 8) % 2 == 1
theorem unpack_take_succ (n : Nat) (bs : List Nat) (i : Nat) (h : i < n) : (unpack n bs).take (i + 1) = (unpack n bs).take i ++ [bitAt bs i] := by
  rw [List.take_succ_eq_append_getElem (by rw [unpack_length]; exact h)]
  simp [unpack, bitAt]

/-- At each outer round's head: i bits are told, in a row of the call's own. -/
def BLRel (w1 : World) (m : Nat) (bs : List Nat) (v p : Value) (wr : World) : Prop :=
  ∃ i : Nat, i ≤ m ∧ p = .int .i64 (i : Int) ∧ wr.ownsRow w1.heap.size 3 1 v i (ic ((unpack m bs).take i)) ∧ Below w1.heap.size w1 wr

/-- At each inner round's head: the byte has been halved k times. -/
def HalfRel (x s : Nat) (v p : Value) : Prop := ∃ k : Nat, k ≤ s ∧ p = .int .i64 (k : Int) ∧ v = .int .i64 ((x / 2 ^ k : Nat) : Int)

/-- What comes back: a row of the call's own. -/
def Listed (w : World) (l : List Bool) (e : Ending) (w' : World) : Prop :=
  ∃ A c, e = .returned (.slice A l.length c) ∧ w'.ownsRow w.heap.size 3 1 (.slice A l.length c) l.length (ic l) ∧ Below w.heap.size w w'

set_option maxRecDepth 100000 in
set_option maxHeartbeats 2000000 in
theorem bitList_any (m : Nat) (hm : m ≤ 8192) (A : Option Addr) (n c : Nat) (bs : List Nat) (hn : bs.length = n) (hmb : m ≤ 8 * n) (hb : ∀ b ∈ bs, b < 256) (w : World) (h : Rd w w.heap.size A bs) (L : List Bool) (hL : L = unpack m bs) :
    Calls Tryz.prog 53 #[.agg #[.int .i64 (m : Int), .slice A n c]] w (Listed w L) := by
  obtain ⟨i0, hi, hz0, hz1, hz2⟩ := info_parts info3
  have HR := Lib.hid h; clear h
  have HN := Lib.hid hn; clear hn
  have HL := Lib.hid hL; clear hL
  have HBy := Lib.hid hb; clear hb
  obtain ⟨w1, hw1⟩ : ∃ w1, w1 = w.alloc (.cells #[.int .i64 (m : Int), .slice A n c] 27) := ⟨_, rfl⟩
  have HW1 : Hid (w1.heap.size = w.heap.size + 1 ∧ Below w.heap.size w w1 ∧ w1.heap[w.heap.size]? = some (.cells #[.int .i64 (m : Int), .slice A n c] 27)) := by
    rw [hw1]; exact ⟨World.size_alloc _ _, one_below w _, World.alloc_heap_new w _⟩
  have HE := Lib.hid hw1; clear hw1
  go_enter Tryz.func53, Tryz.ntmps53
  go_wp2
  rw [← HE.out]
  go_loopw [3, 4] (fun v p wr => BLRel w1 m bs v p wr) (fun _ p _ => m - (intOf p).toNat)
  case atStart => exact ⟨0, Nat.zero_le _, rfl, ⟨rfl, .inl ⟨rfl, rfl⟩⟩, Below.refl _ _⟩
  case round =>
    obtain ⟨i, him, rfl, hrow, hbel⟩ := hrel
    obtain ⟨Av, cv, rfl⟩ := own_slice3 hrow
    obtain ⟨hz, hlow, hbx⟩ := HW1.out
    obtain ⟨d0, d1, _, _⟩ := blk_cells ((hbel.block _ (by omega)).trans hbx)
    by_cases hlt : i < m
    · obtain ⟨b, off, rfl, hbb, hc⟩ : ∃ b off, A = some ⟨b, off, none⟩ ∧ b < w.heap.size ∧ ∀ i, i < bs.length → w.cell? ⟨b, off + i, none⟩ = some (.int .u8 ((bs[i]?.getD 0 : Nat) : Int)) := by
        rcases HR.out with h | h
        · exfalso; have := HN.out; rw [h] at this; simp at this; omega
        · exact h
      have cx : wr.cell? ⟨b, off + i / 8, none⟩ = some (.int .u8 ((bs[i / 8]?.getD 0 : Nat) : Int)) :=
        ((hlow.trans (hbel.mono (by omega))).cell (p := ⟨b, off + i / 8, none⟩) hbb).trans (hc (i / 8) (by rw [HN.out]; omega))
      have hx := getD_lt bs HBy.out (i / 8)
      have HU := Lib.hid (unpack_take_succ m bs i hlt)
      have HBt : Hid (bitAt bs i = (bs[i / 8]?.getD 0 / 2 ^ (7 - i % 8) % 2 == 1)) := rfl
      generalize bitAt bs i = bt at *
      generalize bs[i / 8]?.getD 0 = x at *
      have i0' : (0 : Int) ≤ (i : Int) / 8 := by omega
      have i1' : (i : Int) / 8 < (n : Int) := by omega
      have i2' : ((i : Int) / 8).toNat = i / 8 := by omega
      clear hc
      have HBel := Lib.hid hbel; clear hbel
      have HZ := Lib.hid (⟨hz, hlow, hbx⟩ : _ ∧ _ ∧ _); clear hz hlow hbx
      go_wp2
      go_loop [5, 6] (fun v p => HalfRel x (7 - i % 8) v p) (fun _ p => (7 - i % 8) - (intOf p).toNat)
      case atStart => exact ⟨0, Nat.zero_le _, rfl, by rw [Nat.pow_zero, Nat.div_one]⟩
      case round =>
        obtain ⟨k, hk, rfl, rfl⟩ := hrel
        have hxk : x / 2 ^ k ≤ x := Nat.div_le_self _ _
        have HH : Hid (x / 2 ^ (k + 1) = x / 2 ^ k / 2) := by show _ = _; rw [Nat.pow_succ, Nat.div_div_eq_div_mul]
        by_cases hks : k < 7 - i % 8
        · have t1 : (k : Int) < 7 - (i : Int) % 8 := by omega
          generalize x / 2 ^ k = y at *
          go_wp2
          go_round
          case rel => exact ⟨k + 1, by omega, by go_num, by rw [HH.out]; go_num⟩
          case measure => simp [intOf]; omega
        · have t1 : ¬ (k : Int) < 7 - (i : Int) % 8 := by omega
          have e : k = 7 - i % 8 := by omega
          have HV : Hid (((bt.toNat : Nat) : Int) = ((x / 2 ^ k : Nat) : Int) % 2) := by
            show _ = _
            rw [HBt.out, e]
            generalize x / 2 ^ (7 - i % 8) = y
            rcases (show y % 2 = 0 ∨ y % 2 = 1 by omega) with h | h
            · rw [h]; simp; omega
            · rw [h]; simp; omega
          clear e HH
          generalize x / 2 ^ k = y at *
          go_wp2_with (at_builtin; refine wpList_append_own _ rfl _ _ 22 rfl w1.heap.size 3 i0 (.int .i64 0) 1 8 Tryz.underlying22 hi hz0 hz1 hz2 rfl (by decide) _ _ _ rfl (hrow.alloc _) ⟨wr.heap.size, 0, none⟩ 1 1 [.int .i64 ((y : Int) % 2)] rfl rfl (cell_one_new _ _ _) (by simp [Value.oneCell']) (by unfold maxLen; omega) (by omega) (by have := HBel.out.size; simp; omega) ?_; intro v' w3 hown' hgrow _; obtain ⟨g', cap', rfl⟩ := ownsRow_succ hown')
          have HGr := Lib.hid hgrow; clear hgrow
          have HOw := Lib.hid hown'; clear hown'
          go_roundw
          case rel =>
            refine ⟨i + 1, by omega, by go_num, ?_, (HBel.out.alloc HBel.out.size _).grown HGr.out (by have := HBel.out.size; simp; omega) (fun k hk => (hrow.lt k hk).1)⟩
            rw [HU.out, ic_append]
            have e1 : ic [bt] = [.int .i64 ((y : Int) % 2)] := by simp only [ic, List.map_cons, List.map_nil]; rw [HV.out]
            rw [e1]
            exact HOw.out
          case measure => simp [intOf]; omega
    · have e : i = m := by omega
      subst e
      rw [List.take_of_length_le (by rw [unpack_length]; omega), ← HL.out] at hrow
      have hLl : L.length = i := by rw [HL.out, unpack_length]
      have HF : Hid (Listed w L (.returned (.slice Av i cv)) wr) := by
        refine ⟨Av, cv, by rw [hLl], ?_, hlow.trans (hbel.mono (by omega))⟩
        rw [hLl]
        exact own_base hrow (by omega)
      clear hrow hLl hbx
      go_wp2
      go_ret
      exact HF.out
end

section
set_option maxRecDepth 100000
set_option linter.unusedVariables false
open Go.RowKit

set_option maxHeartbeats 400000 in
theorem between_any (n lo hi : Int) (w : World) : Calls Tryz.prog 48 #[.int .i64 n, .int .i64 lo, .int .i64 hi] w fun e w' => e = .returned (.bool (decide (lo ≤ n ∧ n ≤ hi))) ∧ w = w' := by
  by_cases h1 : lo ≤ n
  · by_cases h2 : n ≤ hi
    · have e : decide (lo ≤ n ∧ n ≤ hi) = true := by simp; omega
      have t1 : decide (lo ≤ n) = true := by simp; omega
      have t2 : decide (n ≤ hi) = true := by simp; omega
      rw [e]
      go_enter Tryz.func48, Tryz.ntmps48
      go_wp2
      go_ret
      exact ⟨rfl, rfl⟩
    · have e : decide (lo ≤ n ∧ n ≤ hi) = false := by simp; omega
      have t1 : decide (lo ≤ n) = true := by simp; omega
      have t2 : decide (n ≤ hi) = false := by simp; omega
      rw [e]
      go_enter Tryz.func48, Tryz.ntmps48
      go_wp2
      go_ret
      exact ⟨rfl, rfl⟩
  · have e : decide (lo ≤ n ∧ n ≤ hi) = false := by simp; omega
    have t1 : decide (lo ≤ n) = false := by simp; omega
    rw [e]
    go_enter Tryz.func48, Tryz.ntmps48
    go_wp2
    go_ret
    exact ⟨rfl, rfl⟩
theorem between_yes (n lo hi : Int) (h : lo ≤ n ∧ n ≤ hi) (w : World) : Calls Tryz.prog 48 #[.int .i64 n, .int .i64 lo, .int .i64 hi] w fun e w' => e = .returned (.bool true) ∧ w = w' := by
  have := between_any n lo hi w
  rwa [decide_eq_true h] at this
theorem between_no (n lo hi : Int) (h : ¬ (lo ≤ n ∧ n ≤ hi)) (w : World) : Calls Tryz.prog 48 #[.int .i64 n, .int .i64 lo, .int .i64 hi] w fun e w' => e = .returned (.bool false) ∧ w = w' := by
  have := between_any n lo hi w
  rwa [decide_eq_false h] at this

theorem own_set {w : World} {base g n cap i : Nat} {e : TypeId} {xs : List Value} (h : w.ownsRow base e 1 (.slice (some ⟨g, 0, none⟩) n cap) n xs) (u : Value) :
    (w.setCell ⟨g, i, none⟩ u).ownsRow base e 1 (.slice (some ⟨g, 0, none⟩) n cap) n (xs.set i u) := by
  refine ⟨by rw [List.length_set]; exact h.1, .inr ?_⟩
  rcases h.2 with ⟨h, _⟩ | ⟨g', cap', cur, hv, hb, hh, h1, h2, h3, h4⟩
  · cases h
  · simp only [Value.slice.injEq, Option.some.injEq, Addr.mk.injEq, and_true] at hv
    obtain ⟨rfl, _, rfl⟩ := hv
    refine ⟨g, cap, cur.setIfInBounds i u, rfl, hb, heap_set_same _ _ _ _ _ _ hh, h1, h2, by simpa using h3, ?_⟩
    rw [Array.toList_setIfInBounds, List.take_set, h4]
theorem own_cell {w : World} {base g n cap i : Nat} {e : TypeId} {xs : List Value} {v : Value} (h : w.ownsRow base e 1 (.slice (some ⟨g, 0, none⟩) n cap) n xs) (hi : xs[i]? = some v) :
    w.cell? ⟨g, i, none⟩ = some v ∧ w.frozen? ⟨g, i, none⟩ = false := by
  have hh := h.cells (g := g) rfl i v hi
  have ha : (⟨g, 0, none⟩ : Addr).add i = ⟨g, i, none⟩ := by unfold Addr.add; split <;> simp_all
  rw [ha] at hh
  refine ⟨hh, ?_⟩
  rcases h.2 with ⟨h, _⟩ | ⟨g', cap', cur, hv, hb, hg, _⟩
  · cases h
  · simp only [Value.slice.injEq, Option.some.injEq, Addr.mk.injEq, and_true] at hv
    obtain ⟨rfl, _⟩ := hv
    simp [World.frozen?, hg]
theorem made_zero (k : Nat) : (madeCells (Value.int .i64 0).cells (k * 1)).toList = ic (List.replicate k false) := by
  rw [show (Value.int .i64 0).cells = #[Value.int .i64 0] from rfl, toList_madeCells_one, Nat.mul_one]
  simp [ic]
end

section
set_option maxRecDepth 100000
set_option linter.unusedVariables false
open Go.RowKit

/-- At each round's head: i bits have been read as a number. -/
def BNRel (l : List Bool) (v p : Value) : Prop := ∃ i : Nat, i ≤ l.length ∧ p = .int .i64 (i : Int) ∧ v = .int .u64 (num (l.take i) : Int)

set_option maxHeartbeats 1000000 in
theorem bitNum_any (l : List Bool) (n : Nat) (hn : l.length = n) (hl : n ≤ 64) (A : Option Addr) (c : Nat) (w : World) (h : RdV w w.heap.size A (ic l)) :
    Calls Tryz.prog 121 #[.slice A n c] w fun e w' => e = .returned (.int .u64 (num l : Int)) ∧ w = w' := by
  have HR := Lib.hid h; clear h
  have HN := Lib.hid hn; clear hn
  go_enter Tryz.func121, Tryz.ntmps121
  go_wp2
  go_loop [3, 4] (fun v p => BNRel l v p) (fun _ p => n - (intOf p).toNat)
  case atStart => exact ⟨0, Nat.zero_le _, rfl, rfl⟩
  case round =>
    obtain ⟨i, hi, rfl, rfl⟩ := hrel
    rw [HN.out] at hi
    by_cases hlt : i < n
    · have hil : i < l.length := by rw [HN.out]; exact hlt
      obtain ⟨b, off, rfl, hb, hc⟩ := HR.out.at_ (ic_get l i hil)
      have HS : Hid (num (l.take (i + 1)) = 2 * num (l.take i) + (l[i]?.getD false).toNat) := by
        show _ = _
        rw [List.take_succ_eq_append_getElem hil, num_snoc, List.getElem?_eq_getElem hil]; rfl
      have hnl : num (l.take i) < 2 ^ 63 := Nat.lt_of_lt_of_le (num_lt _) (Nat.pow_le_pow_right (by omega) (by rw [List.length_take]; omega))
      have hbl := Bool.toNat_le (l[i]?.getD false)
      generalize l[i]?.getD false = bt at *
      generalize num (l.take i) = y at *
      have hy2 : (2 : Int) * (y : Int) < 18446744073709551615 := by omega
      go_wp2
      go_round
      case rel => exact ⟨i + 1, by rw [HN.out]; omega, by go_num, by rw [HS.out]; go_num⟩
      case measure => simp [intOf]; omega
    · have HE : Hid (num (l.take i) = num l) := by show _ = _; rw [List.take_of_length_le (by rw [HN.out]; omega)]
      go_wp2
      go_ret
      exact ⟨by rw [← HE.out]; rfl, rfl⟩

/-- At each round's head: q places are still to be filled. -/
def NBRel (w : World) (n k : Nat) (v p : Value) (wr : World) : Prop :=
  ∃ q : Nat, q ≤ k ∧ p = .int .i64 ((q : Int) - 1) ∧ v = .int .u64 ((n / 2 ^ (k - q) : Nat) : Int) ∧ wr.ownsRow w.heap.size 3 1 (.slice (some ⟨w.heap.size, 0, none⟩) k k) k (ic (List.replicate q false ++ (nb n k).drop q)) ∧ Below w.heap.size w wr

theorem nb_fill (n k q : Nat) (h : q < k) : (ic (List.replicate (q + 1) false ++ (nb n k).drop (q + 1))).set q (.int .i64 ((n / 2 ^ (k - (q + 1)) % 2 : Nat) : Int)) = ic (List.replicate q false ++ (nb n k).drop q) := by
  have e1 : (nb n k).drop q = (n / 2 ^ (k - (q + 1)) % 2 == 1) :: (nb n k).drop (q + 1) := by
    rw [List.drop_eq_getElem_cons (by rw [nb_length]; exact h)]
    congr 1
    simp only [nb, List.getElem_map, List.getElem_range]
    rw [show k - 1 - q = k - (q + 1) from by omega]
  have e2 : (((n / 2 ^ (k - (q + 1)) % 2 == 1).toNat : Nat) : Int) = ((n / 2 ^ (k - (q + 1)) % 2 : Nat) : Int) := by
    generalize n / 2 ^ (k - (q + 1)) = y
    rcases (show y % 2 = 0 ∨ y % 2 = 1 by omega) with h | h <;> rw [h] <;> rfl
  rw [e1, List.replicate_succ', List.append_assoc]
  simp only [ic, List.map_append, List.map_cons, List.singleton_append]
  rw [List.set_append_right _ _ (by simp)]
  simp only [List.length_map, List.length_replicate, Nat.sub_self, List.set_cons_zero, e2]

set_option maxHeartbeats 1000000 in
theorem numBits_any (n k : Nat) (hk : k ≤ 64) (hn : n < 18446744073709551616) (L : List Bool) (hL : L = nb n k) (w : World) :
    Calls Tryz.prog 169 #[.int .u64 (n : Int), .int .i64 (k : Int)] w (Listed w L) := by
  obtain ⟨i0, hi, hz0, hz1, hz2⟩ := info_parts info3
  have HL := Lib.hid hL; clear hL
  go_enter Tryz.func169, Tryz.ntmps169
  go_wp2_with (first | (at_make; refine wpList_make_full _ rfl _ _ 22 rfl w.heap.size 3 i0 (.int .i64 0) 1 Tryz.underlying22 hi hz0 hz1 _ _ _ _ k rfl rfl rfl rfl (by rw [hz2]; omega) (by unfold maxLen; omega) (by omega) ?_; intro w1 hown1 hgrow1; rw [made_zero] at hown1; have HO := Lib.hid hown1; have HG : Hid (Below w.heap.size w w1) := (Below.refl _ w).grown hgrow1 (Nat.le_refl _) (fun k hk => by cases hk); clear hown1 hgrow1))
  go_loopw [0, 6] (fun v p wr => NBRel w n k v p wr) (fun _ p _ => (intOf p + 1).toNat)
  case atStart => exact ⟨k, Nat.le_refl _, rfl, by rw [Nat.sub_self, Nat.pow_zero, Nat.div_one], by rw [List.drop_of_length_le (by rw [nb_length]; omega), List.append_nil]; exact HO.out, HG.out⟩
  case round =>
    obtain ⟨q, hqk, hp, rfl, hrow, hbel⟩ := hrel
    have hyn : n / 2 ^ (k - q) ≤ n := Nat.div_le_self _ _
    rcases q with _ | q
    · have hp' := hp.trans (show Value.int .i64 (((0 : Nat) : Int) - 1) = Value.int .i64 (-1) from rfl)
      clear hp
      subst hp'
      have HF : Hid (Listed w L (.returned (.slice (some ⟨w.heap.size, 0, none⟩) k k)) wr) := by
        have hLl : L.length = k := by rw [HL.out, nb_length]
        refine ⟨_, k, by rw [hLl], ?_, hbel⟩
        rw [hLl, HL.out]
        simpa using hrow
      clear hrow hbel
      generalize n / 2 ^ (k - 0) = y at *
      go_wp2
      go_ret
      exact HF.out
    · have hp' := hp.trans (show Value.int .i64 (((q + 1 : Nat) : Int) - 1) = Value.int .i64 (q : Int) from by congr 1; omega)
      clear hp
      subst hp'
      have HS := Lib.hid (own_set (i := q) hrow (.int .i64 ((n / 2 ^ (k - (q + 1)) % 2 : Nat) : Int)))
      rw [nb_fill n k q (by omega)] at HS
      obtain ⟨cq, fq⟩ := own_cell hrow (i := q) (ic_get _ q (by rw [List.length_append, List.length_replicate]; omega))
      have HBel := Lib.hid hbel; clear hbel hrow
      have HH : Hid (n / 2 ^ (k - q) = n / 2 ^ (k - (q + 1)) / 2) := by
        show _ = _
        rw [show k - q = k - (q + 1) + 1 from by omega, Nat.pow_succ, Nat.div_div_eq_div_mul]
      generalize ((List.replicate (q + 1) false ++ (nb n k).drop (q + 1))[q]?.getD false).toNat = oldv at *
      generalize n / 2 ^ (k - (q + 1)) = y at *
      have iq0 : (0 : Int) ≤ (q : Int) := by omega
      have iq1 : (q : Int) < (k : Int) := by omega
      go_wp2
      refine ⟨⟨q, by omega, rfl, by rw [HH.out]; go_num, ?_, HBel.out.setCell (p := ⟨w.heap.size, q, none⟩) (Nat.le_refl _) _⟩, by simp [intOf]⟩
      have e : ((y : Int) % 2) = ((y % 2 : Nat) : Int) := by omega
      rw [e]
      exact HS.out
end

section
set_option maxRecDepth 100000
set_option linter.unusedVariables false
open Go.RowKit

/-- k bits from position i on, as a number; 0 behind the end. -/
def pk (l : List Bool) (i : Nat) : Nat → Nat
  | 0 => 0
  | k + 1 => 2 * pk l i k + bt l (i + k)
theorem pk_lt (l : List Bool) (i k : Nat) : pk l i k < 2 ^ k := by
  induction k with
  | zero => simp [pk]
  | succ k ih => have := bt_le l (i + k); rw [pk, Nat.pow_succ]; omega
theorem pk_eight (l : List Bool) (j : Nat) : pk l (8 * j) 8 = byteAt l j := by
  unfold byteAt
  simp only [pk, Nat.add_zero]
  omega
theorem pack_take_succ (l : List Bool) (j : Nat) (h : 8 * j < l.length) : (pack l).take (j + 1) = (pack l).take j ++ [byteAt l j] := by
  have hj : j < (pack l).length := by rw [pack_length]; omega
  rw [List.take_succ_eq_append_getElem hj]
  have := pack_get l j
  rw [List.getElem?_eq_getElem hj] at this
  rw [← this]; rfl

def PKRel (l : List Bool) (i : Nat) (v p : Value) : Prop := ∃ k : Nat, k ≤ 8 ∧ p = .int .i64 (k : Int) ∧ v = .int .i64 (pk l i k : Int)

/-- At each outer round's head: j bytes lie in a row of the call's own. -/
def PBRel (w w1 : World) (l : List Bool) (p : Value) (wr : World) : Prop :=
  ∃ j : Nat, 8 * j < l.length + 8 ∧ p = .int .i64 ((8 * j : Nat) : Int) ∧ ∃ v, wr.heap[w.heap.size + 1]? = some (.cells #[.int .i64 (l.length : Int), v] 27 (0, 0)) ∧ wr.ownsRow (w.heap.size + 2) 5 1 v ((pack l).take j).length (bc ((pack l).take j)) ∧ Below (w.heap.size + 1) w1 wr ∧ w1.heap.size ≤ wr.heap.size

/-- Bits come back. -/
def PkP (w : World) (l : List Bool) (e : Ending) (w' : World) : Prop :=
  ∃ A c, e = .returned (.agg #[.int .i64 (l.length : Int), .slice A (pack l).length c]) ∧ Rd w' w'.heap.size A (pack l) ∧ Below w.heap.size w w'

/-- One byte more: behind the append, and behind the store. -/
theorem pb_step {wr w3 w1 : World} {s k g' cap' ln : Nat} {Av : Option Addr} {cv : Nat} {xs ys : List Value} {tmp : Obj}
    (hblk : wr.heap[s + 1]? = some (.cells #[.int .i64 (ln : Int), .slice Av k cv] 27 (0, 0))) (hrow : wr.ownsRow (s + 2) 5 1 (.slice Av k cv) k xs) (hbel : Below (s + 1) w1 wr) (hz : s + 2 ≤ w1.heap.size) (hzz : w1.heap.size ≤ wr.heap.size)
    (hgrow : (wr.alloc tmp).grownBy w3 (Value.slice Av k cv).ownBlock) (hown' : w3.ownsRow (s + 2) 5 1 (.slice (some ⟨g', 0, none⟩) (k + 1) cap') (k + 1) ys) :
    (w3.cell? ⟨s + 1, 1, none⟩ = some (.slice Av k cv) ∧ w3.frozen? ⟨s + 1, 1, none⟩ = false) ∧
    Hid ((w3.setCell ⟨s + 1, 1, none⟩ (.slice (some ⟨g', 0, none⟩) (k + 1) cap')).heap[s + 1]? = some (.cells #[.int .i64 (ln : Int), .slice (some ⟨g', 0, none⟩) (k + 1) cap'] 27 (0, 0)) ∧
      (w3.setCell ⟨s + 1, 1, none⟩ (.slice (some ⟨g', 0, none⟩) (k + 1) cap')).ownsRow (s + 2) 5 1 (.slice (some ⟨g', 0, none⟩) (k + 1) cap') (k + 1) ys ∧
      Below (s + 1) w1 (w3.setCell ⟨s + 1, 1, none⟩ (.slice (some ⟨g', 0, none⟩) (k + 1) cap')) ∧ w1.heap.size ≤ (w3.setCell ⟨s + 1, 1, none⟩ (.slice (some ⟨g', 0, none⟩) (k + 1) cap')).heap.size) := by
  have hne : ∀ j, (Value.slice Av k cv).ownBlock = some j → s + 2 ≤ j := fun j hj => (hrow.lt j hj).1
  have h3 : w3.heap[s + 1]? = some (.cells #[.int .i64 (ln : Int), .slice Av k cv] 27 (0, 0)) :=
    (hgrow.block (s + 1) (by simp; omega) (fun e => by have := hne _ e.symm; omega)).trans ((Below.heap_alloc _ _ _ (by omega)).trans hblk)
  have hb3 : Below (s + 1) w1 w3 := (hbel.alloc (by omega) tmp).grown hgrow (by simp; omega) (fun j hj => by have := hne j hj; omega)
  obtain ⟨_, c1, _, f1⟩ := blk_cells h3
  have hg : s + 2 ≤ g' := (hown'.lt g' rfl).1
  refine ⟨⟨c1, f1⟩, ?_, ?_, hb3.setCell (p := ⟨s + 1, 1, none⟩) (Nat.le_refl _) _, by simpa [World.setCell] using hb3.size⟩
  · rw [heap_set_same _ _ _ _ 27 _ h3]; simp
  · refine hown'.kept (row := some (s + 1)) (grown_set _ _ _ _) (.inr ?_)
    simp [Value.ownBlock]; omega

set_option maxRecDepth 100000 in
set_option maxHeartbeats 2000000 in
theorem packBits_any (l : List Bool) (n : Nat) (hn : l.length = n) (hl : n ≤ 8192) (A : Option Addr) (c : Nat) (w : World) (h : RdV w w.heap.size A (ic l)) :
    Calls Tryz.prog 34 #[.slice A n c] w (PkP w l) := by
  subst hn
  obtain ⟨i0, hi, hz0, hz1, hz2⟩ := info_parts info5
  have HR := Lib.hid h; clear h
  obtain ⟨w1, hw1⟩ : ∃ w1, w1 = (w.alloc (.cells #[.int .i64 0, .slice none 0 0] 27)).alloc (.cells #[.int .i64 (l.length : Int), .slice none 0 0] 27) := ⟨_, rfl⟩
  have HW1 : Hid (w1.heap.size = w.heap.size + 2 ∧ Below w.heap.size w w1 ∧ w1.heap[w.heap.size]? = some (.cells #[.int .i64 0, .slice none 0 0] 27) ∧ w1.heap[w.heap.size + 1]? = some (.cells #[.int .i64 (l.length : Int), .slice none 0 0] 27)) := by
    rw [hw1]; exact ⟨two_size w _ _, up2 w _ _, (Below.heap_alloc _ _ _ (by simp)).trans (World.alloc_heap_new w _), two_new w _ _⟩
  have HE := Lib.hid hw1; clear hw1
  go_enter Tryz.func34, Tryz.ntmps34
  go_wp2
  rw [← HE.out]
  go_loopw [4] (fun p wr => PBRel w w1 l p wr) (fun p _ => l.length + 8 - (intOf p).toNat)
  case atStart => exact ⟨0, by omega, rfl, .slice none 0 0, HW1.out.2.2.2, ⟨rfl, .inl ⟨rfl, rfl⟩⟩, Below.refl _ _, Nat.le_refl _⟩
  case round =>
    obtain ⟨j, hj, rfl, v, hblk, hrow, hbel, hsz⟩ := hrel
    obtain ⟨Av, cv, rfl⟩ := own_slice hrow
    obtain ⟨d0, d1, f0, f1⟩ := blk_cells hblk
    by_cases hlt : 8 * j < l.length
    · have HU := Lib.hid (pack_take_succ l j hlt)
      have hjl : ((pack l).take j).length = j := by rw [List.length_take, pack_length]; omega
      rw [hjl] at hrow hblk d1
      have HRw : Hid (RdV wr w.heap.size A (ic l)) := HR.out.below (HW1.out.2.1.trans (hbel.mono (by omega))) (Nat.le_refl _)
      have HP8 := Lib.hid (pk_eight l j)
      have HBlk := Lib.hid hblk; clear hblk
      have HBel := Lib.hid hbel; clear hbel
      have HSz := Lib.hid hsz; clear hsz
      have hjn : ((8 * j : Nat) : Int) < (l.length : Int) := by omega
      have hjb : j ≤ 1024 := by omega
      generalize hq : 8 * j = q at *
      have HQ := Lib.hid hq; clear hq
      go_wp2
      go_loop [5, 6] (fun v p => PKRel l q v p) (fun _ p => 8 - (intOf p).toNat)
      case atStart => exact ⟨0, Nat.zero_le _, rfl, rfl⟩
      case round =>
        obtain ⟨k, hk, rfl, rfl⟩ := hrel
        have hpl := pk_lt l q k
        have hp2 : 2 ^ k ≤ 2 ^ 8 := Nat.pow_le_pow_right (by omega) hk
        have hpk : pk l q k < 256 := by omega
        clear hpl hp2
        by_cases hks : k < 8
        · have HS : Hid (pk l q (k + 1) = 2 * pk l q k + bt l (q + k)) := rfl
          have hqk : (q : Int) + (k : Int) = ((q + k : Nat) : Int) := by omega
          by_cases hin : q + k < l.length
          · obtain ⟨b, off, rfl, hb, hc⟩ := HRw.out.at_ (ic_get l (q + k) hin)
            have HBt : Hid (bt l (q + k) = (l[q + k]?.getD false).toNat) := rfl
            have hbl := Bool.toNat_le (l[q + k]?.getD false)
            generalize l[q + k]?.getD false = bb at *
            generalize bt l (q + k) = bq at *
            generalize pk l q k = y at *
            have t1 : (q : Int) + (k : Int) < (l.length : Int) := by omega
            have i0' : (0 : Int) ≤ (q : Int) + (k : Int) := by omega
            have i2' : ((q : Int) + (k : Int)).toNat = q + k := by omega
            clear hqk
            go_wp2
            go_round
            case rel => exact ⟨k + 1, by omega, by go_num, by rw [HS.out, HBt.out]; go_num⟩
            case measure => simp [intOf]; omega
          · have HBt : Hid (bt l (q + k) = 0) := bt_beyond l _ (by omega)
            generalize bt l (q + k) = bq at *
            generalize pk l q k = y at *
            have t1 : ¬ (q : Int) + (k : Int) < (l.length : Int) := by omega
            clear hqk
            go_wp2
            go_round
            case rel => exact ⟨k + 1, by omega, by go_num, by rw [HS.out, HBt.out]; go_num⟩
            case measure => simp [intOf]; omega
        · have e8 : k = 8 := by omega
          have HV : Hid (pk l q k = byteAt l j) := by show _ = _; rw [e8]; exact HP8.out
          clear e8
          generalize byteAt l j = y8 at *
          generalize pk l q k = y at *
          have hy256 : (y : Int) < 256 := by omega
          go_wp2_with (at_builtin; refine wpList_append_own _ rfl _ _ 25 rfl (w.heap.size + 2) 5 i0 (.int .u8 0) 1 1 Tryz.underlying25 hi hz0 hz1 hz2 rfl (by decide) _ _ _ rfl (hrow.alloc _) ⟨wr.heap.size, 0, none⟩ 1 1 [.int .u8 (y : Int)] rfl rfl (cell_one_new _ _ _) (by simp [Value.oneCell']) (by unfold maxLen; omega) (by omega) (by have := HSz.out; have := HW1.out.1; simp; omega) ?_; intro v' w3 hown' hgrow _; obtain ⟨g', cap', rfl⟩ := ownsRow_succ hown'; obtain ⟨⟨e1, e2⟩, HF⟩ := pb_step (ln := l.length) HBlk.out hrow HBel.out (by have := HW1.out.1; omega) HSz.out hgrow hown'; clear hgrow hown')
          go_roundw
          case rel =>
            have hq := HQ.out
            obtain ⟨F1, F2, F3, F4⟩ := HF.out
            refine ⟨j + 1, by omega, ?_, _, F1, ?_, F3, F4⟩
            · rw [← hq]; go_num
            · have e1 : ((pack l).take (j + 1)).length = j + 1 := by rw [HU.out, List.length_append, hjl]; rfl
              rw [e1, HU.out, bc_append, ← HV.out]
              exact F2
          case measure => simp [intOf]; omega
    · have hpt : (pack l).take j = pack l := List.take_of_length_le (by rw [pack_length]; omega)
      rw [hpt] at hrow hblk d1
      have hrb : wr.heap[w.heap.size]? = some (.cells #[.int .i64 0, .slice none 0 0] 27) := (hbel.block _ (by omega)).trans HW1.out.2.2.1
      have hlow : Below w.heap.size w wr := HW1.out.2.1.trans (hbel.mono (by omega))
      obtain ⟨r0, r1, k0, k1⟩ := blk_cells hrb
      have HF : Hid (PkP w l (.returned (.agg #[.int .i64 (l.length : Int), .slice Av (pack l).length cv])) ((wr.setCell ⟨w.heap.size, 0, none⟩ (.int .i64 (l.length : Int))).setCell ⟨w.heap.size, 1, none⟩ (.slice Av (pack l).length cv))) := by
        refine ⟨Av, cv, rfl, ?_, (hlow.setCell (p := ⟨w.heap.size, 0, none⟩) (Nat.le_refl _) _).setCell (p := ⟨w.heap.size, 1, none⟩) (Nat.le_refl _) _⟩
        have q1 := (own_rd hrow).setK (i := 0) (.int .i64 (l.length : Int)) hrb
        have hr2 : (wr.setCell ⟨w.heap.size, 0, none⟩ (.int .i64 (l.length : Int))).heap[w.heap.size]? = some (.cells #[.int .i64 (l.length : Int), .slice none 0 0] 27 (0, 0)) := by
          rw [heap_set_same _ _ _ _ 27 _ hrb]; simp
        have q2 := q1.setK (i := 1) (.slice Av (pack l).length cv) hr2
        have e : ((wr.setCell ⟨w.heap.size, 0, none⟩ (.int .i64 (l.length : Int))).setCell ⟨w.heap.size, 1, none⟩ (.slice Av (pack l).length cv)).heap.size = wr.heap.size := by simp [World.setCell]
        rw [e]
        exact q2
      have hge : ¬ ((8 * j : Nat) : Int) < (l.length : Int) := by omega
      clear hrow hblk hbel hrb hlow hpt
      generalize 8 * j = q at *
      go_wp2
      exact bodyPost_ret (v := .agg #[.int .i64 (l.length : Int), .slice Av (pack l).length cv]) (by simp [results, Tryz.results34, go_sem, r0, r1]) rfl HF.out
end

section
set_option maxRecDepth 100000
set_option linter.unusedVariables false
open Go.RowKit

theorem last_bits : ∀ x : Fin 256, ∀ r : Fin 8, decide (x.val * 2 ^ r.val % 256 = 0) = decide (∀ j : Fin 8, r.val ≤ j.val → x.val / 2 ^ (7 - j.val) % 2 = 0) := by decide +kernel

/-- Nothing stands behind the last bit. -/
theorem stray_iff (n : Nat) (bs : List Nat) (hb : ∀ b ∈ bs, b < 256) (hl : bs.length = (n + 7) / 8) : stray n bs = false ↔ ∀ i, n ≤ i → i < 8 * bs.length → bitAt bs i = false := by
  unfold stray
  by_cases hr : n % 8 = 0
  · simp only [hr, bne_self_eq_false, Bool.false_and, true_iff]
    intro i h1 h2
    omega
  · have hk : bs.length - 1 = n / 8 := by omega
    have e0 : (n % 8 != 0) = true := by simpa using hr
    rw [hk, e0, Bool.true_and]
    have hx := getD_lt bs hb (n / 8)
    have key := last_bits ⟨bs[n / 8]?.getD 0, hx⟩ ⟨n % 8, Nat.mod_lt _ (by omega)⟩
    simp only at key
    rw [decide_eq_decide] at key
    rw [bne_eq_false_iff_eq, key]
    constructor
    · intro h i h1 h2
      have hq : i / 8 = n / 8 := by omega
      have := h ⟨i % 8, Nat.mod_lt _ (by omega)⟩ (by simp only; omega)
      unfold bitAt
      rw [hq]
      simp only at this
      rw [this]; rfl
    · intro h j hj
      have := h (8 * (n / 8) + j.val) (by omega) (by have := j.isLt; omega)
      unfold bitAt at this
      have hj8 := j.isLt
      rw [show (8 * (n / 8) + j.val) / 8 = n / 8 from by omega, show (8 * (n / 8) + j.val) % 8 = j.val from by omega] at this
      simpa using this

def CKRel (n : Nat) (bs : List Nat) (M : Nat) (p : Value) : Prop := ∃ i : Nat, n ≤ i ∧ i ≤ M ∧ p = .int .i64 (i : Int) ∧ ∀ t, n ≤ t → t < i → bitAt bs t = false

theorem unpack_get (m : Nat) (bs : List Nat) (i : Nat) (h : i < m) : (unpack m bs)[i]?.getD false = bitAt bs i := by
  rw [List.getElem?_eq_getElem (by rw [unpack_length]; exact h)]
  simp [unpack, bitAt]

set_option maxHeartbeats 400000 in
theorem rcheck_out (len : Int) (A : Option Addr) (n c : Nat) (w : World) (h : ¬ (0 ≤ len ∧ len ≤ 8192)) :
    Calls Tryz.prog 85 #[.agg #[.int .i64 len, .slice A n c]] w fun e w' => e = .returned (.int .i64 3) ∧ Below w.heap.size w w' := by
  have HC := Lib.hid (between_no len 0 8192 h)
  clear h
  go_enter Tryz.func85, Tryz.ntmps85
  go_wp2_with (go_at_call 48; refine (HC.out _).mono ?_; rintro e w1 ⟨rfl, rfl⟩)
  go_ret
  exact ⟨rfl, one_below w _⟩
set_option maxHeartbeats 400000 in
theorem rcheck_len (m : Nat) (hm : m ≤ 8192) (A : Option Addr) (n c : Nat) (w : World) (hn : n ≠ (m + 7) / 8) :
    Calls Tryz.prog 85 #[.agg #[.int .i64 (m : Int), .slice A n c]] w fun e w' => e = .returned (.int .i64 1) ∧ Below w.heap.size w w' := by
  have HC := Lib.hid (between_yes (m : Int) 0 8192 ⟨by omega, by omega⟩)
  by_cases hr : m % 8 = 0
  · have t1 : ¬ (0 : Int) < (m : Int) % 8 := by omega
    have t2 : ((n : Int) != (m : Int) / 8) = true := by simp; omega
    clear hn hr
    go_enter Tryz.func85, Tryz.ntmps85
    go_wp2_with (go_at_call 48; refine (HC.out _).mono ?_; rintro e w1 ⟨rfl, rfl⟩)
    go_ret
    exact ⟨rfl, one_below w _⟩
  · have t1 : (0 : Int) < (m : Int) % 8 := by omega
    have t2 : ((n : Int) != (m : Int) / 8 + 1) = true := by simp; omega
    clear hn hr
    go_enter Tryz.func85, Tryz.ntmps85
    go_wp2_with (go_at_call 48; refine (HC.out _).mono ?_; rintro e w1 ⟨rfl, rfl⟩)
    go_ret
    exact ⟨rfl, one_below w _⟩

/-- BitList, called from BitsCheck. -/
theorem bl_of (m N : Nat) (hN : N ≤ 1024) (A : Option Addr) (c : Nat) (bs : List Nat) (hn : bs.length = N) (hb : ∀ b ∈ bs, b < 256) (w : World) (h : Rd w w.heap.size A bs) :
    Calls Tryz.prog 53 #[.agg #[.int .i64 ((8 * N : Nat) : Int), .slice A N c]] (w.alloc (.cells #[.int .i64 (m : Int), .slice A N c] 27)) fun e w' => ∃ B d, e = .returned (.slice B (8 * N) d) ∧ RdV w' w'.heap.size B (ic (unpack (8 * N) bs)) ∧ Below (w.heap.size + 1) (w.alloc (.cells #[.int .i64 (m : Int), .slice A N c] 27)) w' := by
  refine (bitList_any (8 * N) (by omega) A N c bs hn (Nat.le_refl _) hb _ (h.on (one_below w _)) _ rfl).mono ?_
  rintro e w' ⟨B, d, rfl, ho, hbl⟩
  rw [unpack_length] at ho ⊢
  rw [World.size_alloc] at hbl
  exact ⟨B, d, rfl, own_rdv ho, hbl⟩

set_option maxRecDepth 100000 in
set_option maxHeartbeats 2000000 in
theorem rcheck_in (m : Nat) (hm : m ≤ 8192) (A : Option Addr) (N c : Nat) (bs : List Nat) (hn : bs.length = N) (hb : ∀ b ∈ bs, b < 256) (w : World) (h : Rd w w.heap.size A bs) (hN : N = (m + 7) / 8) (cv : Int) (hcv : cv = if stray m bs = true then 1 else 0) :
    Calls Tryz.prog 85 #[.agg #[.int .i64 (m : Int), .slice A N c]] w fun e w' => e = .returned (.int .i64 cv) ∧ Below w.heap.size w w' := by
  have HC := Lib.hid (between_yes (m : Int) 0 8192 ⟨by omega, by omega⟩)
  have HB := Lib.hid (bl_of m N (by omega) A c bs hn hb w h)
  have hsi := stray_iff m bs hb (by rw [hn]; exact hN)
  rw [hn] at hsi
  have HSI := Lib.hid hsi; clear hsi h hb
  have HN := Lib.hid hn; clear hn
  have HCV := Lib.hid hcv; clear hcv
  have hMm : m ≤ 8 * N := by omega
  have hN2 : N ≤ 1024 := by omega
  have h8 : (8 : Int) * (N : Int) = ((8 * N : Nat) : Int) := by omega
  have H8 := Lib.hid h8; clear h8
  by_cases hr : m % 8 = 0
  all_goals
    first
      | (have t1 : ¬ (0 : Int) < (m : Int) % 8 := by omega
         have hq : (m : Int) / 8 = (N : Int) := by omega
         have t2 : ((N : Int) != (m : Int) / 8) = false := by simp; omega)
      | (have t1 : (0 : Int) < (m : Int) % 8 := by omega
         have hq : (m : Int) / 8 + 1 = (N : Int) := by omega
         have t2 : ((N : Int) != (m : Int) / 8 + 1) = false := by simp; omega)
    have HQ := Lib.hid hq; clear hq hr hN
    go_enter Tryz.func85, Tryz.ntmps85
    go_wp2_with (go_at_call 48; refine (HC.out _).mono ?_; rintro e w1 ⟨rfl, rfl⟩)
    rw [HQ.out, H8.out]
    refine HB.out.mono ?_
    rintro e w2 ⟨B, d, rfl, R2, B2⟩
    obtain ⟨p1, q1⟩ := box_at B2
    have HB2 : Hid (Below w.heap.size w w2) := (one_below w _).trans (B2.mono (by omega))
    have HR2 := Lib.hid R2; clear R2 B2 HB H8 HQ
    generalize hM : 8 * N = M at *
    have HM := Lib.hid hM; clear hM
    have hM2 : M ≤ 8192 := by have := HM.out; omega
    go_wp2
    go_loop [5] (fun p => CKRel m bs M p) (fun p => M - (intOf p).toNat)
    case atStart => exact ⟨m, Nat.le_refl _, hMm, rfl, fun t h1 h2 => by omega⟩
    case round =>
      obtain ⟨i, hi1, hi2, rfl, hz⟩ := hrel
      by_cases hlt : i < M
      · obtain ⟨b, off, rfl, hb, hc⟩ := HR2.out.at_ (ic_get (unpack M bs) i (by rw [unpack_length]; exact hlt))
        rw [unpack_get M bs i hlt] at hc
        cases hbit : bitAt bs i
        · rw [hbit] at hc
          have HZ : Hid (∀ t, m ≤ t → t < i + 1 → bitAt bs t = false) := fun t h1 h2 => by
            rcases Nat.lt_or_ge t i with h | h
            · exact hz t h1 h
            · have e : t = i := by omega
              rw [e]; exact hbit
          clear hz hbit
          go_wp2
          go_round
          case rel => exact ⟨i + 1, by omega, by omega, by go_num, HZ.out⟩
          case measure => simp [intOf]; omega
        · rw [hbit] at hc
          have HCV1 : Hid (cv = 1) := by
            have hs : stray m bs = true := by
              cases hs : stray m bs
              · have := (HSI.out.1 hs) i hi1 hlt
                rw [hbit] at this; cases this
              · rfl
            show cv = 1
            rw [HCV.out, hs, if_pos rfl]
          clear hz hbit
          go_wp2
          go_ret
          exact ⟨by rw [HCV1.out]; rfl, HB2.out⟩
      · have HCV0 : Hid (cv = 0) := by
          have hs : stray m bs = false := HSI.out.2 (fun t h1 h2 => hz t h1 (by omega))
          show cv = 0
          rw [HCV.out, hs, if_neg (by decide)]
        clear hz
        go_wp2
        go_ret
        exact ⟨by rw [HCV0.out]; rfl, HB2.out⟩

theorem rcheck_any (len : Int) (A : Option Addr) (c : Nat) (bs : List Nat) (hb : ∀ b ∈ bs, b < 256) (w : World) (h : Rd w w.heap.size A bs) :
    Calls Tryz.prog 85 #[.agg #[.int .i64 len, .slice A bs.length c]] w fun e w' => e = .returned (.int .i64 (chk len bs)) ∧ Below w.heap.size w w' := by
  unfold chk
  by_cases h0 : 0 ≤ len ∧ len ≤ 8192
  · rw [if_neg (by omega)]
    obtain ⟨m, rfl⟩ := Int.eq_ofNat_of_zero_le h0.1
    rw [Int.toNat_natCast]
    by_cases hn : bs.length = (m + 7) / 8
    · rw [if_neg (by omega)]
      exact rcheck_in m (by omega) A bs.length c bs rfl hb w h hn _ rfl
    · rw [if_pos hn]
      exact rcheck_len m (by omega) A bs.length c w hn
  · rw [if_pos (by omega)]
    exact rcheck_out len A bs.length c w h0
end

section
set_option maxRecDepth 100000
set_option linter.unusedVariables false
open Go.RowKit

theorem app3 {w : World} {ops : Array Oper} {rest : List Oper} {o : Oper} {a : Act} {Q : Exit → Act → World → Prop} (hgd : o.guard = none) (s x : Operand)
    (ho : o.op = .call { callee := .builtin .append, args := #[s, x], argTypes := #[22, 22] }) (base : Nat)
    (v : Value) (n : Nat) (xs : List Value) (hs : a.eval s = v) (hown : w.ownsRow base 3 1 v n xs)
    (A : Option Addr) (m c : Nat) (news : List Value) (hx : a.eval x = .slice A m c) (hr : RdV w w.heap.size A news) (hlen : news.length = m) (h1 : ∀ u ∈ news, u.oneCell' = true) (hc : A = none → c = 0)
    (hb : (n + m) * 8 ≤ 140737488355328) (hbase : base ≤ w.heap.size)
    (h : ∀ v' w', w'.ownsRow base 3 1 v' (n + m) (xs ++ news) → w.grownBy w' v.ownBlock → wpList Tryz.prog ops Q rest (a.put o.dst v') w') : wpList Tryz.prog ops Q (o :: rest) a w := by
  obtain ⟨i0, hi, hz0, hz1, hz2⟩ := info_parts info3
  rcases A with _ | ad
  · obtain rfl : news = [] := by
      rcases hr with h | ⟨b, off, h, _⟩
      · exact h
      · cases h
    obtain rfl : m = 0 := by simpa using hlen.symm
    obtain rfl := hc rfl
    refine wpList_append_own_none hgd s x 22 ho base 3 i0 1 Tryz.underlying22 hi v n xs hs hown hx ?_
    refine h v w ?_ (World.grownBy.refl w _)
    simpa using hown
  · refine wpList_append_own w hgd s x 22 ho base 3 i0 (.int .i64 0) 1 8 Tryz.underlying22 hi hz0 hz1 hz2 rfl (by decide) v n xs hs hown ad m c news hx (by omega) ?_ h1 (by unfold maxLen; omega) hb hbase (fun v' w' h2 h3 _ => h v' w' h2 h3)
    rcases hr with rfl | ⟨b, off, e, _, hcell⟩
    · intro j u hu; simp at hu
    · cases e
      intro j u hu
      have ha : (⟨b, off, none⟩ : Addr).add j = ⟨b, off + j, none⟩ := by unfold Addr.add; split <;> simp_all
      rw [ha]
      exact hcell j u hu
theorem own_below {w w' : World} {base : Nat} {e : TypeId} {size n : Nat} {v : Value} {xs : List Value} (h : w.ownsRow base e size v n xs) (hb : Below w.heap.size w w') : w'.ownsRow base e size v n xs :=
  h.kept (grown_of_below hb none) (by cases v.ownBlock <;> simp)
theorem own_none {w : World} {base : Nat} {e : TypeId} {A : Option Addr} {n c : Nat} {xs : List Value} (h : w.ownsRow base e 1 (.slice A n c) n xs) : A = none → c = 0 := by
  rintro rfl
  rcases h.2 with ⟨h, _⟩ | ⟨g, cap, cur, h, _⟩
  · simp at h; exact h.2
  · cases h

/-- Bits are stored where the result lies. -/
theorem gv_store {w w1 : World} {L : List Bool} {A : Option Addr} {c r : Nat} (R1 : Rd w1 w1.heap.size A (pack L)) (hr : w.heap.size ≤ r) (hrb : w1.heap[r]? = some (.cells #[.int .i64 0, .slice none 0 0] 27 (0, 0))) (hlow : Below w.heap.size w w1) :
    (w1.cell? ⟨r, 0, none⟩ = some (.int .i64 0) ∧ w1.cell? ⟨r, 1, none⟩ = some (.slice none 0 0) ∧ w1.frozen? ⟨r, 0, none⟩ = false ∧ w1.frozen? ⟨r, 1, none⟩ = false) ∧
    Hid (Gave w L 0 (.returned (.tuple #[.agg #[.int .i64 (L.length : Int), .slice A (pack L).length c], .int .i64 0])) ((w1.setCell ⟨r, 0, none⟩ (.int .i64 (L.length : Int))).setCell ⟨r, 1, none⟩ (.slice A (pack L).length c))) := by
  refine ⟨blk_cells hrb, A, c, rfl, ?_, (hlow.setCell (p := ⟨r, 0, none⟩) hr _).setCell (p := ⟨r, 1, none⟩) hr _⟩
  have r1 := R1.setK (i := 0) (.int .i64 (L.length : Int)) hrb
  have hr2 : (w1.setCell ⟨r, 0, none⟩ (.int .i64 (L.length : Int))).heap[r]? = some (.cells #[.int .i64 (L.length : Int), .slice none 0 0] 27 (0, 0)) := by
    rw [heap_set_same _ _ _ _ 27 _ hrb]; simp
  have r2 := r1.setK (i := 1) (.slice A (pack L).length c) hr2
  have e : ((w1.setCell ⟨r, 0, none⟩ (.int .i64 (L.length : Int))).setCell ⟨r, 1, none⟩ (.slice A (pack L).length c)).heap.size = w1.heap.size := by simp [World.setCell]
  show Rd _ _ A (pack L)
  rw [e]
  exact r2

/-- BitsCheck, called at the beginning. -/
theorem rcheck_begun (len : Int) (A : Option Addr) (c : Nat) (bs : List Nat) (w : World) (hb : ∀ b ∈ bs, b < 256) (h : Rd w w.heap.size A bs) (e0 : Int) (he : chk len bs = e0) :
    Calls Tryz.prog 85 #[.agg #[.int .i64 len, .slice A bs.length c]] ((w.alloc (.cells #[.int .i64 len, .slice A bs.length c] 27)).alloc (.cells #[.int .i64 0, .slice none 0 0] 27)) fun e w' => e = .returned (.int .i64 e0) ∧ Below (w.heap.size + 2) ((w.alloc (.cells #[.int .i64 len, .slice A bs.length c] 27)).alloc (.cells #[.int .i64 0, .slice none 0 0] 27)) w' := by
  have := rcheck_any len A c bs hb (begun w len A bs.length c) (h.below (begun_below w len A bs.length c) (by rw [begun_size]; omega))
  rw [begun_size, he] at this
  exact this

theorem rcheck_one (len : Int) (A : Option Addr) (c : Nat) (bs : List Nat) (w : World) (hb : ∀ b ∈ bs, b < 256) (h : Rd w w.heap.size A bs) (e0 : Int) (he : chk len bs = e0) :
    Calls Tryz.prog 85 #[.agg #[.int .i64 len, .slice A bs.length c]] (w.alloc (.cells #[.int .i64 len, .slice A bs.length c] 27)) fun e w' => e = .returned (.int .i64 e0) ∧ Below (w.heap.size + 1) (w.alloc (.cells #[.int .i64 len, .slice A bs.length c] 27)) w' := by
  have := rcheck_any len A c bs hb (w.alloc (.cells #[.int .i64 len, .slice A bs.length c] 27)) (h.on (one_below w _))
  rw [World.size_alloc, he] at this
  exact this

theorem RdV.cut {w : World} {B : Nat} {A : Option Addr} {vs : List Value} (h : RdV w B A vs) (p k : Nat) : RdV w B (A.map (·.add p)) ((vs.drop p).take k) := by
  rcases h with rfl | ⟨b, off, rfl, hb, hc⟩
  · left; simp
  · have ha : (⟨b, off, none⟩ : Addr).add p = ⟨b, off + p, none⟩ := by unfold Addr.add; split <;> simp_all
    refine .inr ⟨b, off + p, by rw [Option.map_some, ha], hb, fun i v hi => ?_⟩
    rw [List.getElem?_take] at hi
    split at hi
    · rw [List.getElem?_drop] at hi
      rw [Nat.add_assoc]
      exact hc (p + i) v hi
    · cases hi
theorem ic_cut (l : List Bool) (p k : Nat) : ic ((l.drop p).take k) = ((ic l).drop p).take k := by simp [ic, List.map_take, List.map_drop]

theorem own_cap {w : World} {base : Nat} {e : TypeId} {A : Option Addr} {n c : Nat} {xs : List Value} (h : w.ownsRow base e 1 (.slice A n c) n xs) : n ≤ c := by
  rcases h.2 with ⟨h, h2⟩ | ⟨g, cap, cur, h, _, _, h2, _⟩
  · omega
  · simp only [Value.slice.injEq] at h; omega

/-- app3, at a step of a region that draws its order. -/
theorem app3s {w : World} {ops : Array Oper} {o : Oper} {a : Act} {K : Act → World → Prop} {Q : Exit → Act → World → Prop} {E : Prop} (hgd : o.guard = none) (s x : Operand)
    (ho : o.op = .call { callee := .builtin .append, args := #[s, x], argTypes := #[22, 22] }) (base : Nat)
    (v : Value) (n : Nat) (xs : List Value) (hs : a.eval s = v) (hown : w.ownsRow base 3 1 v n xs)
    (A : Option Addr) (m c : Nat) (news : List Value) (hx : a.eval x = .slice A m c) (hr : RdV w w.heap.size A news) (hlen : news.length = m) (h1 : ∀ u ∈ news, u.oneCell' = true) (hc : A = none → c = 0)
    (hb : (n + m) * 8 ≤ 140737488355328) (hbase : base ≤ w.heap.size)
    (h : ∀ v' w', w'.ownsRow base 3 1 v' (n + m) (xs ++ news) → w.grownBy w' v.ownBlock → K (a.put o.dst v') w') : if Region.wanted o (yielded ops a.tmps) = true then Oper.wp Tryz.prog o a w K Q else E := by
  have hw : Region.wanted o (yielded ops a.tmps) = true := by simp [Region.wanted, hgd]
  rw [if_pos hw]
  obtain ⟨i0, hi, hz0, hz1, hz2⟩ := info_parts info3
  have key : ∃ v' w', (Builtin.append_ #[22, 22] o.type #[v, .slice A m c]).run Tryz.prog w = .ok v' w' ∧ w'.ownsRow base 3 1 v' (n + m) (xs ++ news) ∧ w.grownBy w' v.ownBlock := by
    rcases A with _ | ad
    · obtain rfl : news = [] := by
        rcases hr with h | ⟨b, off, h, _⟩
        · exact h
        · cases h
      obtain rfl : m = 0 := by simpa using hlen.symm
      obtain rfl := hc rfl
      exact ⟨v, w, run_append_owned_none (P := Tryz.prog) (w := w) base 22 o.type 3 i0 1 Tryz.underlying22 hi v n xs hown, by simpa using hown, World.grownBy.refl w _⟩
    · have hcells : ∀ j u, news[j]? = some u → w.cell? (ad.add j) = some u := by
        rcases hr with rfl | ⟨b, off, e, _, hcell⟩
        · intro j u hu; simp at hu
        · cases e
          intro j u hu
          have ha : (⟨b, off, none⟩ : Addr).add j = ⟨b, off + j, none⟩ := by unfold Addr.add; split <;> simp_all
          rw [ha]
          exact hcell j u hu
      obtain ⟨v', w', hrun, h2, h3, _⟩ := run_append_own (P := Tryz.prog) w base 22 o.type 3 i0 (.int .i64 0) 1 8 Tryz.underlying22 hi hz0 hz1 hz2 rfl (by decide) v n xs hown ad m c news (by omega) hcells h1 (by unfold maxLen; omega) hb hbase
      exact ⟨v', w', hrun, h2, h3⟩
  obtain ⟨v', w', hrun, h2, h3⟩ := key
  unfold Oper.wp execOp
  simp only [ho, resolve, invoke, builtin, Sem.run_bind, Sem.run_pure, Result.andThen_ok, List.map_toArray, List.map_cons, List.map_nil, hs, hx, hrun]
  exact h v' w' h2 h3

theorem own_drew {w : World} {base : Nat} {e : TypeId} {size n : Nat} {v : Value} {xs : List Value} (h : w.ownsRow base e size v n xs) : w.drew.ownsRow base e size v n xs := h
theorem rdv_drew {w : World} {A : Option Addr} {xs : List Value} (h : RdV w w.heap.size A xs) : RdV w.drew w.drew.heap.size A xs := h
theorem listed_drew {w : World} {l : List Bool} {e : Ending} {w' : World} (h : Listed w.drew l e w') : ∃ A c, e = .returned (.slice A l.length c) ∧ w'.ownsRow w.heap.size 3 1 (.slice A l.length c) l.length (ic l) ∧ Below w.heap.size w w' := by
  obtain ⟨A, c, h1, h2, h3⟩ := h
  exact ⟨A, c, h1, h2, ((Below.refl _ w).drew).trans h3⟩
theorem join_grown {B : Nat} {w2 w4 w5 : World} {base : Nat} {A : Option Addr} {n c : Nat} {xs : List Value} (hk4 : Below B w2 w4) (hB : B ≤ base) (hB4 : B ≤ w4.heap.size) (ho : w4.ownsRow base 3 1 (.slice A n c) n xs) (hg : w4.grownBy w5 (Value.slice A n c).ownBlock) : Below B w2 w5 :=
  hk4.grown hg hB4 (fun j hj => Nat.le_trans hB (ho.lt j hj).1)
end
end Go.Proofs.YticdnodlapafoaaGreat
