/- The document's own ways with numbers and bits: between, fitsIn, NumBits, BitNum; each with its conditions. -/
import Derived.Test.YtcacbekdghlncaaRefNumA
namespace Go.Proofs.Ytcacbekdghlncaa
set_option maxRecDepth 100000
set_option linter.unusedVariables false
open Go.RowKit

/-- At each round's head: i bits have been read as a number. -/
def BNRel (l : List Bool) (v p : Value) : Prop := ∃ i : Nat, i ≤ l.length ∧ p = .int .i64 (i : Int) ∧ v = .int .u64 (num (l.take i) : Int)

set_option maxHeartbeats 1000000 in
theorem bitNum_any (l : List Bool) (n : Nat) (hn : l.length = n) (hl : n ≤ 64) (A : Option Addr) (c : Nat) (w : World) (h : RdV w w.heap.size A (ic l)) :
    Calls Try.prog 84 #[.slice A n c] w fun e w' => e = .returned (.int .u64 (num l : Int)) ∧ w = w' := by
  have HR := Lib.hid h; clear h
  have HN := Lib.hid hn; clear hn
  go_enter Try.func84, Try.ntmps84
  go_wp2
  go_loop [3, 4] (fun v p => BNRel l v p) (fun _ p => n - (intOf p).toNat)
  case atStart => exact ⟨0, Nat.zero_le _, rfl, rfl⟩
  case round =>
    obtain ⟨i, hi, rfl, rfl⟩ := hrel
    rw [HN.out] at hi
    by_cases hlt : i < n
    · have hil : i < l.length := by rw [HN.out]; exact hlt
      obtain ⟨b, off, rfl, hb, hc⟩ := HR.out.at_ (ic_get l i hil)
      have HS : Hid (num (l.take (i + 1)) = 2 * num (l.take i) + (l[i]?.getD false).toNat) := by
        show _ = _
        rw [List.take_succ_eq_append_getElem hil, num_snoc, List.getElem?_eq_getElem hil]; rfl
      have hnl : num (l.take i) < 2 ^ 63 := Nat.lt_of_lt_of_le (num_lt _) (Nat.pow_le_pow_right (by omega) (by rw [List.length_take]; omega))
      have hbl := Bool.toNat_le (l[i]?.getD false)
      generalize l[i]?.getD false = bt at *
      generalize num (l.take i) = y at *
      have hy2 : (2 : Int) * (y : Int) < 18446744073709551615 := by omega
      go_wp2
      go_round
      case rel => exact ⟨i + 1, by rw [HN.out]; omega, by go_num, by rw [HS.out]; go_num⟩
      case measure => simp [intOf]; omega
    · have HE : Hid (num (l.take i) = num l) := by show _ = _; rw [List.take_of_length_le (by rw [HN.out]; omega)]
      go_wp2
      go_ret
      exact ⟨by rw [← HE.out]; rfl, rfl⟩

/-- At each round's head: q places are still to be filled. -/
def NBRel (w : World) (n k : Nat) (v p : Value) (wr : World) : Prop :=
  ∃ q : Nat, q ≤ k ∧ p = .int .i64 ((q : Int) - 1) ∧ v = .int .u64 ((n / 2 ^ (k - q) : Nat) : Int) ∧ wr.ownsRow w.heap.size 3 1 (.slice (some ⟨w.heap.size, 0, none⟩) k k) k (ic (List.replicate q false ++ (nb n k).drop q)) ∧ Below w.heap.size w wr

theorem nb_fill (n k q : Nat) (h : q < k) : (ic (List.replicate (q + 1) false ++ (nb n k).drop (q + 1))).set q (.int .i64 ((n / 2 ^ (k - (q + 1)) % 2 : Nat) : Int)) = ic (List.replicate q false ++ (nb n k).drop q) := by
  have e1 : (nb n k).drop q = (n / 2 ^ (k - (q + 1)) % 2 == 1) :: (nb n k).drop (q + 1) := by
    rw [List.drop_eq_getElem_cons (by rw [nb_length]; exact h)]
    congr 1
    simp only [nb, List.getElem_map, List.getElem_range]
    rw [show k - 1 - q = k - (q + 1) from by omega]
  have e2 : (((n / 2 ^ (k - (q + 1)) % 2 == 1).toNat : Nat) : Int) = ((n / 2 ^ (k - (q + 1)) % 2 : Nat) : Int) := by
    generalize n / 2 ^ (k - (q + 1)) = y
    rcases (show y % 2 = 0 ∨ y % 2 = 1 by omega) with h | h <;> rw [h] <;> rfl
  rw [e1, List.replicate_succ', List.append_assoc]
  simp only [ic, List.map_append, List.map_cons, List.singleton_append]
  rw [List.set_append_right _ _ (by simp)]
  simp only [List.length_map, List.length_replicate, Nat.sub_self, List.set_cons_zero, e2]

set_option maxHeartbeats 1000000 in
theorem numBits_any (n k : Nat) (hk : k ≤ 64) (hn : n < 18446744073709551616) (L : List Bool) (hL : L = nb n k) (w : World) :
    Calls Try.prog 78 #[.int .u64 (n : Int), .int .i64 (k : Int)] w (Listed w L) := by
  obtain ⟨i0, hi, hz0, hz1, hz2⟩ := info_parts info3
  have HL := Lib.hid hL; clear hL
  go_enter Try.func78, Try.ntmps78
  go_wp2_with (first | (at_make; refine wpList_make_full _ rfl _ _ 34 rfl w.heap.size 3 i0 (.int .i64 0) 1 Try.underlying34 hi hz0 hz1 _ _ _ _ k rfl rfl rfl rfl (by rw [hz2]; omega) (by unfold maxLen; omega) (by omega) ?_; intro w1 hown1 hgrow1; rw [made_zero] at hown1; have HO := Lib.hid hown1; have HG : Hid (Below w.heap.size w w1) := (Below.refl _ w).grown hgrow1 (Nat.le_refl _) (fun k hk => by cases hk); clear hown1 hgrow1))
  go_loopw [0, 6] (fun v p wr => NBRel w n k v p wr) (fun _ p _ => (intOf p + 1).toNat)
  case atStart => exact ⟨k, Nat.le_refl _, rfl, by rw [Nat.sub_self, Nat.pow_zero, Nat.div_one], by rw [List.drop_of_length_le (by rw [nb_length]; omega), List.append_nil]; exact HO.out, HG.out⟩
  case round =>
    obtain ⟨q, hqk, hp, rfl, hrow, hbel⟩ := hrel
    have hyn : n / 2 ^ (k - q) ≤ n := Nat.div_le_self _ _
    rcases q with _ | q
    · have hp' := hp.trans (show Value.int .i64 (((0 : Nat) : Int) - 1) = Value.int .i64 (-1) from rfl)
      clear hp
      subst hp'
      have HF : Hid (Listed w L (.returned (.slice (some ⟨w.heap.size, 0, none⟩) k k)) wr) := by
        have hLl : L.length = k := by rw [HL.out, nb_length]
        refine ⟨_, k, by rw [hLl], ?_, hbel⟩
        rw [hLl, HL.out]
        simpa using hrow
      clear hrow hbel
      generalize n / 2 ^ (k - 0) = y at *
      go_wp2
      go_ret
      exact HF.out
    · have hp' := hp.trans (show Value.int .i64 (((q + 1 : Nat) : Int) - 1) = Value.int .i64 (q : Int) from by congr 1; omega)
      clear hp
      subst hp'
      have HS := Lib.hid (own_set (i := q) hrow (.int .i64 ((n / 2 ^ (k - (q + 1)) % 2 : Nat) : Int)))
      rw [nb_fill n k q (by omega)] at HS
      obtain ⟨cq, fq⟩ := own_cell hrow (i := q) (ic_get _ q (by rw [List.length_append, List.length_replicate]; omega))
      have HBel := Lib.hid hbel; clear hbel hrow
      have HH : Hid (n / 2 ^ (k - q) = n / 2 ^ (k - (q + 1)) / 2) := by
        show _ = _
        rw [show k - q = k - (q + 1) + 1 from by omega, Nat.pow_succ, Nat.div_div_eq_div_mul]
      generalize ((List.replicate (q + 1) false ++ (nb n k).drop (q + 1))[q]?.getD false).toNat = oldv at *
      generalize n / 2 ^ (k - (q + 1)) = y at *
      have iq0 : (0 : Int) ≤ (q : Int) := by omega
      have iq1 : (q : Int) < (k : Int) := by omega
      go_wp2
      refine ⟨⟨q, by omega, rfl, by rw [HH.out]; go_num, ?_, HBel.out.setCell (p := ⟨w.heap.size, q, none⟩) (Nat.le_refl _) _⟩, by simp [intOf]⟩
      have e : ((y : Int) % 2) = ((y % 2 : Nat) : Int) := by omega
      rw [e]
      exact HS.out
end Go.Proofs.Ytcacbekdghlncaa
