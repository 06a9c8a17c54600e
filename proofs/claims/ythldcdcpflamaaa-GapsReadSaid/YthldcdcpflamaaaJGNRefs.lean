/- The document's own lists and readers of quotients, remainders and zeta codes; each with its conditions. -/
import Derived.Test.YthldcdcpflamaaaJG3
import Derived.Test.YthldcdcpflamaaaJGNMem
import Derived.Test.YthldcdcpflamaaaJG2
import Derived.Deep.RegionHeld3
import Derived.Test.YthldcdcpflamaaaJGNWrite
namespace Go.Proofs.Ythldcdcpflamaaa
section
set_option maxRecDepth 100000
set_option linter.unusedVariables false
open Go.RowKit

/-- At each round's head: i noughts. -/
def ULRel (w : World) (n : Nat) (v p : Value) (wr : World) : Prop :=
  ∃ i : Nat, i ≤ n ∧ p = .int .u64 (i : Int) ∧ wr.ownsRow w.heap.size 3 1 v i (ic (List.replicate i false)) ∧ Below w.heap.size w wr

set_option maxRecDepth 100000 in
set_option maxHeartbeats 1000000 in
theorem uList_any (n : Nat) (hn : n ≤ 8191) (L : List Bool) (hL : L = uc n) (w : World) :
    Calls Try.prog 94 #[.int .u64 (n : Int)] w (Listed w L) := by
  obtain ⟨i0, hi, hz0, hz1, hz2⟩ := info_parts info3
  have HL := Lib.hid hL; clear hL
  go_enter Try.func94, Try.ntmps94
  go_wp2
  go_loopw [3, 4] (fun v p wr => ULRel w n v p wr) (fun _ p _ => n - (intOf p).toNat)
  case atStart => exact ⟨0, Nat.zero_le _, rfl, ⟨rfl, .inl ⟨rfl, rfl⟩⟩, Below.refl _ _⟩
  case round =>
    obtain ⟨i, him, rfl, hrow, hbel⟩ := hrel
    obtain ⟨Av, cv, rfl⟩ := own_slice3 hrow
    have HBel := Lib.hid hbel; clear hbel
    by_cases hlt : i < n
    · go_wp2_with (at_builtin; refine wpList_append_own _ rfl _ _ 22 rfl w.heap.size 3 i0 (.int .i64 0) 1 8 Try.underlying22 hi hz0 hz1 hz2 rfl (by decide) _ _ _ rfl (hrow.alloc _) ⟨wr.heap.size, 0, none⟩ 1 1 [.int .i64 0] rfl rfl (cell_one_new _ _ _) (by simp [Value.oneCell']) (by unfold maxLen; omega) (by omega) (by have := HBel.out.size; simp; omega) ?_; intro v' w3 hown' hgrow _; obtain ⟨g', cap', rfl⟩ := ownsRow_succ hown')
      have HGr := Lib.hid hgrow; clear hgrow
      have HOw := Lib.hid hown'; clear hown'
      go_roundw
      case rel =>
        refine ⟨i + 1, by omega, by go_num, ?_, (HBel.out.alloc HBel.out.size _).grown HGr.out (by have := HBel.out.size; simp; omega) (fun k hk => (hrow.lt k hk).1)⟩
        rw [List.replicate_succ', ic_append]
        exact HOw.out
      case measure => simp [intOf]; omega
    · have e : i = n := by omega
      subst e
      go_wp2_with (at_builtin; refine wpList_append_own _ rfl _ _ 22 rfl w.heap.size 3 i0 (.int .i64 0) 1 8 Try.underlying22 hi hz0 hz1 hz2 rfl (by decide) _ _ _ rfl (hrow.alloc _) ⟨wr.heap.size, 0, none⟩ 1 1 [.int .i64 1] rfl rfl (cell_one_new _ _ _) (by simp [Value.oneCell']) (by unfold maxLen; omega) (by omega) (by have := HBel.out.size; simp; omega) ?_; intro v' w3 hown' hgrow _; obtain ⟨g', cap', rfl⟩ := ownsRow_succ hown')
      have hb : Below w.heap.size w w3 := (HBel.out.alloc HBel.out.size _).grown hgrow (by have := HBel.out.size; simp; omega) (fun k hk => (hrow.lt k hk).1)
      have HF : Hid (Listed w L (.returned (.slice (some ⟨g', 0, none⟩) (i + 1) cap')) w3) := by
        have hl : L.length = i + 1 := by rw [HL.out, uc_length]
        refine ⟨_, cap', by rw [hl], ?_, hb⟩
        rw [hl, HL.out]
        unfold uc
        rw [ic_append]
        exact hown'
      clear hb hown' hgrow
      go_ret
      exact HF.out

/-- What is wrong with bits, and a place. -/
def rdE0 (len : Int) (bs : List Nat) (p : Int) : Int := if chk len bs ≠ 0 then chk len bs else if p < 0 ∨ len < p then 3 else 0

set_option maxRecDepth 100000 in
set_option maxHeartbeats 1000000 in
theorem readErr_any (len : Int) (A : Option Addr) (c : Nat) (bs : List Nat) (p : Int) (w : World) (hb : ∀ b ∈ bs, b < 256) (h : Rd w w.heap.size A bs) (e0 : Int) (he0 : rdE0 len bs p = e0) :
    Calls Try.prog 54 #[.agg #[.int .i64 len, .slice A bs.length c], .int .i64 p] w fun e w' => e = .returned (.int .i64 e0) ∧ Below w.heap.size w w' := by
  have hC := rcheck_any len A c bs hb (w.alloc (.cells #[.int .i64 len, .slice A bs.length c] 31)) (h.on (one_below w _))
  rw [World.size_alloc] at hC
  have HC := Lib.hid hC; clear hC
  have HB := Lib.hid (one_below w (.cells #[.int .i64 len, .slice A bs.length c] 31))
  unfold rdE0 at he0
  clear h
  generalize chk len bs = k at *
  generalize bs.length = nn at *
  by_cases hc : k = 0
  · subst hc
    rw [if_neg (by simp)] at he0
    by_cases hp : p < 0 ∨ len < p
    · rw [if_pos hp] at he0
      subst he0
      have HP := Lib.hid (between_no p 0 len (by omega))
      clear hp
      go_enter Try.func54, Try.ntmps54
      go_wp2_with fail
      refine HC.out.mono ?_
      rintro e w1 ⟨rfl, hq⟩
      obtain ⟨hc1, hf1⟩ := old_cells hq
      go_wp2_with fail
      refine (HP.out _).mono ?_
      rintro e w2 ⟨rfl, rfl⟩
      go_wp2
      go_ret
      exact ⟨rfl, HB.out.trans (hq.mono (by omega))⟩
    · rw [if_neg hp] at he0
      subst he0
      have HP := Lib.hid (between_yes p 0 len (by omega))
      clear hp
      go_enter Try.func54, Try.ntmps54
      go_wp2_with fail
      refine HC.out.mono ?_
      rintro e w1 ⟨rfl, hq⟩
      obtain ⟨hc1, hf1⟩ := old_cells hq
      go_wp2_with fail
      refine (HP.out _).mono ?_
      rintro e w2 ⟨rfl, rfl⟩
      go_wp2
      go_ret
      exact ⟨rfl, HB.out.trans (hq.mono (by omega))⟩
  · rw [if_pos hc] at he0
    subst he0
    have t1 : (k == 0) = false := by simpa using hc
    clear hc
    go_enter Try.func54, Try.ntmps54
    go_wp2_with fail
    refine HC.out.mono ?_
    rintro e w1 ⟨rfl, hq⟩
    obtain ⟨hc1, hf1⟩ := old_cells hq
    go_wp2
    go_ret
    exact ⟨rfl, HB.out.trans (hq.mono (by omega))⟩

/-- At each round's head: no 1 bit has come. -/
def URRel (l : List Bool) (s : Nat) (v p : Value) : Prop :=
  ∃ i : Nat, s ≤ i ∧ i ≤ l.length ∧ p = .int .i64 (i : Int) ∧ v = .int .u64 ((i - s : Nat) : Int) ∧ pos s (l.drop s) = pos i (l.drop i)
theorem dropB_at (l : List Bool) (i : Nat) (h : i < l.length) : l.drop i = l[i]?.getD false :: l.drop (i + 1) := by
  rw [List.drop_eq_getElem_cons h, List.getElem?_eq_getElem h]; rfl

set_option maxRecDepth 100000 in
set_option maxHeartbeats 1000000 in
theorem uRead_any (l : List Bool) (n : Nat) (hn : l.length = n) (hl : n ≤ 8192) (A : Option Addr) (c s : Nat) (hs : s ≤ n) (rn : Nat) (rt : Int)
    (hr : (pos s (l.drop s) = [] → rn = 0 ∧ rt = -1) ∧ ∀ x xs, pos s (l.drop s) = x :: xs → rn = x - s ∧ rt = (x : Int) + 1) (w : World) (h : RdV w w.heap.size A (ic l)) :
    Calls Try.prog 100 #[.slice A n c, .int .i64 (s : Int)] w fun e w' => e = .returned (.tuple #[.int .u64 (rn : Int), .int .i64 rt]) ∧ w = w' := by
  have HR := Lib.hid h; clear h
  have HN := Lib.hid hn; clear hn
  have HA := Lib.hid hr; clear hr
  go_enter Try.func100, Try.ntmps100
  go_wp2
  go_loop [6, 7] (fun v p => URRel l s v p) (fun _ p => n - (intOf p).toNat)
  case atStart => exact ⟨s, Nat.le_refl _, by rw [HN.out]; exact hs, rfl, by rw [Nat.sub_self]; rfl, rfl⟩
  case round =>
    obtain ⟨i, hsi, hi, rfl, rfl, hpos⟩ := hrel
    rw [HN.out] at hi
    by_cases hlt : i < n
    · have hil : i < l.length := by rw [HN.out]; exact hlt
      obtain ⟨b, off, rfl, hb, hc⟩ := HR.out.at_ (ic_get l i hil)
      have HD := Lib.hid (dropB_at l i hil)
      have HP := Lib.hid hpos; clear hpos
      generalize l[i]?.getD false = bt at *
      cases bt
      · have HQ : Hid (pos s (l.drop s) = pos (i + 1) (l.drop (i + 1))) := by show _ = _; rw [HP.out, HD.out]; rfl
        simp only [Bool.toNat_false] at hc
        go_wp2
        go_round
        case rel => exact ⟨i + 1, by omega, by rw [HN.out]; omega, by go_num, by rw [show i + 1 - s = i - s + 1 by omega]; go_num, HQ.out⟩
        case measure => simp [intOf]; omega
      · have HQ : Hid (rn = i - s ∧ rt = (i : Int) + 1) := HA.out.2 i _ (by rw [HP.out, HD.out]; rfl)
        simp only [Bool.toNat_true] at hc
        go_wp2
        go_ret2
        obtain ⟨q1, q2⟩ := HQ.out
        exact ⟨by rw [q1, q2]; rfl, rfl⟩
    · have e : i = n := by omega
      have HQ : Hid (rn = 0 ∧ rt = -1) := HA.out.1 (by rw [hpos, List.drop_of_length_le (by rw [HN.out]; omega)]; rfl)
      clear hpos
      go_wp2
      go_ret2
      obtain ⟨q1, q2⟩ := HQ.out
      exact ⟨by rw [q1, q2]; rfl, rfl⟩
end

section
set_option maxRecDepth 100000
set_option linter.unusedVariables false
open Go.RowKit

/-- At each round's head: i bits have been read as a number. -/
def BNRel (l : List Bool) (v p : Value) : Prop := ∃ i : Nat, i ≤ l.length ∧ p = .int .i64 (i : Int) ∧ v = .int .u64 (num (l.take i) : Int)

/-- At each round's head: q places are still to be filled. -/
def NBRel (w : World) (n k : Nat) (v p : Value) (wr : World) : Prop :=
  ∃ q : Nat, q ≤ k ∧ p = .int .i64 ((q : Int) - 1) ∧ v = .int .u64 ((n / 2 ^ (k - q) : Nat) : Int) ∧ wr.ownsRow w.heap.size 3 1 (.slice (some ⟨w.heap.size, 0, none⟩) k k) k (ic (List.replicate q false ++ (nb n k).drop q)) ∧ Below w.heap.size w wr

theorem nb_fill (n k q : Nat) (h : q < k) : (ic (List.replicate (q + 1) false ++ (nb n k).drop (q + 1))).set q (.int .i64 ((n / 2 ^ (k - (q + 1)) % 2 : Nat) : Int)) = ic (List.replicate q false ++ (nb n k).drop q) := by
  have e1 : (nb n k).drop q = (n / 2 ^ (k - (q + 1)) % 2 == 1) :: (nb n k).drop (q + 1) := by
    rw [List.drop_eq_getElem_cons (by rw [nb_length]; exact h)]
    congr 1
    simp only [nb, List.getElem_map, List.getElem_range]
    rw [show k - 1 - q = k - (q + 1) from by omega]
  have e2 : (((n / 2 ^ (k - (q + 1)) % 2 == 1).toNat : Nat) : Int) = ((n / 2 ^ (k - (q + 1)) % 2 : Nat) : Int) := by
    generalize n / 2 ^ (k - (q + 1)) = y
    rcases (show y % 2 = 0 ∨ y % 2 = 1 by omega) with h | h <;> rw [h] <;> rfl
  rw [e1, List.replicate_succ', List.append_assoc]
  simp only [ic, List.map_append, List.map_cons, List.singleton_append]
  rw [List.set_append_right _ _ (by simp)]
  simp only [List.length_map, List.length_replicate, Nat.sub_self, List.set_cons_zero, e2]

set_option maxHeartbeats 1000000 in
theorem numBits_any (n k : Nat) (hk : k ≤ 64) (hn : n < 18446744073709551616) (L : List Bool) (hL : L = nb n k) (w : World) :
    Calls Try.prog 107 #[.int .u64 (n : Int), .int .i64 (k : Int)] w (Listed w L) := by
  obtain ⟨i0, hi, hz0, hz1, hz2⟩ := info_parts info3
  have HL := Lib.hid hL; clear hL
  go_enter Try.func107, Try.ntmps107
  go_wp2_with (first | (at_make; refine wpList_make_full _ rfl _ _ 22 rfl w.heap.size 3 i0 (.int .i64 0) 1 Try.underlying22 hi hz0 hz1 _ _ _ _ k rfl rfl rfl rfl (by rw [hz2]; omega) (by unfold maxLen; omega) (by omega) ?_; intro w1 hown1 hgrow1; rw [made_zero] at hown1; have HO := Lib.hid hown1; have HG : Hid (Below w.heap.size w w1) := (Below.refl _ w).grown hgrow1 (Nat.le_refl _) (fun k hk => by cases hk); clear hown1 hgrow1))
  go_loopw [0, 6] (fun v p wr => NBRel w n k v p wr) (fun _ p _ => (intOf p + 1).toNat)
  case atStart => exact ⟨k, Nat.le_refl _, rfl, by rw [Nat.sub_self, Nat.pow_zero, Nat.div_one], by rw [List.drop_of_length_le (by rw [nb_length]; omega), List.append_nil]; exact HO.out, HG.out⟩
  case round =>
    obtain ⟨q, hqk, hp, rfl, hrow, hbel⟩ := hrel
    have hyn : n / 2 ^ (k - q) ≤ n := Nat.div_le_self _ _
    rcases q with _ | q
    · have hp' := hp.trans (show Value.int .i64 (((0 : Nat) : Int) - 1) = Value.int .i64 (-1) from rfl)
      clear hp
      subst hp'
      have HF : Hid (Listed w L (.returned (.slice (some ⟨w.heap.size, 0, none⟩) k k)) wr) := by
        have hLl : L.length = k := by rw [HL.out, nb_length]
        refine ⟨_, k, by rw [hLl], ?_, hbel⟩
        rw [hLl, HL.out]
        simpa using hrow
      clear hrow hbel
      generalize n / 2 ^ (k - 0) = y at *
      go_wp2
      go_ret
      exact HF.out
    · have hp' := hp.trans (show Value.int .i64 (((q + 1 : Nat) : Int) - 1) = Value.int .i64 (q : Int) from by congr 1; omega)
      clear hp
      subst hp'
      have HS := Lib.hid (own_set (i := q) hrow (.int .i64 ((n / 2 ^ (k - (q + 1)) % 2 : Nat) : Int)))
      rw [nb_fill n k q (by omega)] at HS
      obtain ⟨cq, fq⟩ := own_cell hrow (i := q) (ic_get _ q (by rw [List.length_append, List.length_replicate]; omega))
      have HBel := Lib.hid hbel; clear hbel hrow
      have HH : Hid (n / 2 ^ (k - q) = n / 2 ^ (k - (q + 1)) / 2) := by
        show _ = _
        rw [show k - q = k - (q + 1) + 1 from by omega, Nat.pow_succ, Nat.div_div_eq_div_mul]
      generalize ((List.replicate (q + 1) false ++ (nb n k).drop (q + 1))[q]?.getD false).toNat = oldv at *
      generalize n / 2 ^ (k - (q + 1)) = y at *
      have iq0 : (0 : Int) ≤ (q : Int) := by omega
      have iq1 : (q : Int) < (k : Int) := by omega
      go_wp2
      refine ⟨⟨q, by omega, rfl, by rw [HH.out]; go_num, ?_, HBel.out.setCell (p := ⟨w.heap.size, q, none⟩) (Nat.le_refl _) _⟩, by simp [intOf]⟩
      have e : ((y : Int) % 2) = ((y % 2 : Nat) : Int) := by omega
      rw [e]
      exact HS.out
end

section
set_option maxRecDepth 100000
set_option linter.unusedVariables false
open Go.RowKit

theorem u64_i64 (k : Nat) (h : k < 9223372036854775808) : IntKind.u64.wrap (IntKind.i64.wrap (k : Int)) = (k : Int) := by
  simp [IntKind.wrap, IntKind.bits, IntKind.signed]; omega

/-- What is behind the first. -/
theorem rdv_rest {w : World} {A : Option Addr} {c k : Nat} {B : List Bool} (h : RdV w w.heap.size A (ic B)) (hl : B.length = k + 1) (hc : k + 1 ≤ c) :
    RdV w w.heap.size (if c = 1 then A else Option.map (fun x => { block := x.block, off := x.off + 1 }) A) (ic (B.drop 1)) := by
  by_cases h1 : c = 1
  · left
    rw [List.drop_of_length_le (by omega)]; rfl
  · rw [if_neg h1]
    rcases h with h | ⟨b, off, rfl, hb, hcell⟩
    · have := congrArg List.length h
      rw [ic_length, hl] at this
      simp at this
    · refine .inr ⟨b, off + 1, rfl, hb, fun i v hi => ?_⟩
      have e : ic (B.drop 1) = (ic B).drop 1 := by simp [ic]
      rw [e, List.getElem?_drop] at hi
      rw [Nat.add_assoc]
      exact hcell (1 + i) v hi

/-- A slice of one number, newly laid. -/
theorem own_lit1 (w : World) (base : Nat) (hb : base ≤ w.heap.size) (u : Value) : (w.alloc (.cells #[u] 3)).ownsRow base 3 1 (.slice (some ⟨w.heap.size, 0, none⟩) 1 1) 1 [u] :=
  ⟨rfl, .inr ⟨w.heap.size, 1, #[u], rfl, hb, World.alloc_heap_new w _, Nat.le_refl _, by decide, rfl, rfl⟩⟩


/-- The document's readers. -/
theorem ur_l (l : List Bool) (n : Nat) (hl : l.length = n) (hn : n ≤ 8192) (A : Option Addr) (c s : Nat) (hs : s ≤ n) (w : World) (h : RdV w w.heap.size A (ic l)) :
    Calls Try.prog 100 #[.slice A n c, .int .i64 (s : Int)] w fun e w' => e = .returned (.tuple #[.int .u64 ((uR l s).1 : Int), .int .i64 (if (uR l s).2.2 = 0 then ((uR l s).2.1 : Int) else -1)]) ∧ w = w' := by
  refine uRead_any l n hl hn A c s hs _ _ ⟨fun e => ?_, fun x xs e => ?_⟩ w h
  · unfold uR; rw [e]; exact ⟨rfl, rfl⟩
  · unfold uR; rw [e]; exact ⟨rfl, rfl⟩

/-- At each round's head: j bits are too few, or just enough. -/
def SzRel (m : Nat) (p : Value) : Prop := ∃ j : Nat, j ≤ sz m ∧ p = .int .i64 (j : Int)
theorem pow_lt_sz (m j : Nat) (h1 : 1 ≤ m) : (j < sz m → 2 ^ j < m) := by
  intro h
  rcases sh_lt m h1 with ⟨a, b, d⟩ | ⟨a, b, d, d2⟩
  · omega
  · have hs := sh_add m
    have := Nat.pow_le_pow_right (n := 2) (by omega) (show j ≤ sz m - 1 by omega)
    omega
theorem pow_w57 (z : Nat) (h : z ≤ 57) : IntKind.u64.wrap ((2 : Int) ^ z) = ((2 ^ z : Nat) : Int) := by
  have := Nat.pow_le_pow_right (n := 2) (by omega) h
  have e : ((2 : Int) ^ z) = ((2 ^ z : Nat) : Int) := by simp
  rw [e]
  generalize 2 ^ z = q at *
  exact u64w _ (by omega) (by omega)

set_option maxHeartbeats 1000000 in
theorem leastList_any (n m : Nat) (h1 : 1 ≤ m) (h2 : m ≤ 72057594037927936) (hn : n < m) (L : List Bool) (hL : L = lst n m) (w : World) :
    Calls Try.prog 95 #[.int .u64 (n : Int), .int .u64 (m : Int)] w (Listed w L) := by
  have hz := sz_le m 56 (by omega)
  have hs := sh_add m
  have h56 := Nat.pow_le_pow_right (n := 2) (by omega) hz
  go_enter Try.func95, Try.ntmps95
  go_wp2
  go_loop [5] (fun p => SzRel m p) (fun p => sz m - (intOf p).toNat)
  case atStart => exact ⟨0, Nat.zero_le _, rfl⟩
  case round =>
    obtain ⟨j, hj, rfl⟩ := hrel
    have hw := pow_w57 j (by omega)
    have j57 : j ≤ 57 := by omega
    have j0 : (0 : Int) ≤ (j : Int) := by omega
    by_cases hlt : j < sz m
    · have hq := pow_lt_sz m j h1 hlt
      have HH : Hid (j + 1 ≤ sz m) := hlt
      have HM : Hid (sz m - (j + 1) < sz m - j) := by show _ < _; omega
      have t1 : decide (((2 ^ j : Nat) : Int) < (m : Int)) = true := by simp only [decide_eq_true_eq]; omega
      clear hs h56 hL
      generalize 2 ^ j = q at *
      go_wp2
      go_round
      case rel => exact ⟨j + 1, HH.out, by go_num⟩
      case measure => have := HM.out; simp [intOf]; omega
    · obtain rfl : j = sz m := by omega
      have t1 : decide (((2 ^ sz m : Nat) : Int) < (m : Int)) = false := by simp only [decide_eq_false_iff_not]; omega
      have hc := sh_lt m h1
      unfold lst at hL
      have HSh : Hid (IntKind.u64.wrap (((2 ^ sz m : Nat) : Int) - (m : Int)) = (sh m : Int)) := by show _ = _; rw [u64w _ (by omega) (by omega)]; omega
      by_cases hs1 : n < sh m
      · rw [if_pos hs1] at hL
        have z1 : 1 ≤ sz m := by omega
        have HN := Lib.hid (numBits_any n (sz m - 1) (by omega) (by omega) L hL)
        have e1 : ((sz m - 1 : Nat) : Int) = (sz m : Int) - 1 := by omega
        rw [e1] at HN
        have hqm : m ≤ 2 ^ sz m := by omega
        have hnq : n + m < 2 ^ sz m := by omega
        clear hL e1 hs hc HSh hs1 hw
        have hw := pow_w57 (sz m) (by omega)
        generalize 2 ^ sz m = q at *
        generalize sz m = z at *
        go_wp2_with fail
        refine (HN.out _).mono ?_
        rintro e w1 ⟨A1, c1, rfl, ho, hb⟩
        have HO := Lib.hid ho; have HB := Lib.hid hb; clear ho hb
        go_wp2
        go_ret
        exact ⟨A1, c1, rfl, HO.out, HB.out⟩
      · rw [if_neg hs1] at hL
        have HN := Lib.hid (numBits_any (n + sh m) (sz m) (by omega) (by omega) L hL)
        have e1 : ((n + sh m : Nat) : Int) = (n : Int) + (((2 ^ sz m : Nat) : Int) - (m : Int)) := by omega
        rw [e1] at HN
        have hqm : m ≤ 2 ^ sz m := by omega
        have hnq : 2 ^ sz m ≤ n + m := by omega
        clear hL e1 hs hc HSh hs1 hw
        have hw := pow_w57 (sz m) (by omega)
        generalize 2 ^ sz m = q at *
        generalize sz m = z at *
        go_wp2_with fail
        refine (HN.out _).mono ?_
        rintro e w1 ⟨A1, c1, rfl, ho, hb⟩
        have HO := Lib.hid ho; have HB := Lib.hid hb; clear ho hb
        go_wp2
        go_ret
        exact ⟨A1, c1, rfl, HO.out, HB.out⟩

/-- LeastRead: j bits have been read. -/
def LRRel (l : List Bool) (s z d : Nat) (v p : Value) : Prop :=
  ∃ j : Nat, j ≤ z ∧ s + j ≤ l.length ∧ p = .int .i64 (j : Int) ∧ v = .int .u64 (num ((l.drop s).take j) : Int) ∧ (j = z → 1 ≤ z → d ≤ num ((l.drop s).take (z - 1)))
theorem num_next (l : List Bool) (s j : Nat) (h : s + j < l.length) : num ((l.drop s).take (j + 1)) = 2 * num ((l.drop s).take j) + (l[s + j]?.getD false).toNat := by
  have hd : j < (l.drop s).length := by rw [List.length_drop]; omega
  rw [List.take_succ_eq_append_getElem hd, num_snoc, List.getElem_drop, List.getElem?_eq_getElem h]; rfl
/-- What lstR says, at a round's head. -/
theorem lstR_hit (l : List Bool) (s m j : Nat) (hz : j + 1 = sz m) (hj : s + j ≤ l.length) (h : num ((l.drop s).take j) < sh m) : lstR l s m = (num ((l.drop s).take j), s + j, 0) := by
  unfold lstR
  have e : sz m - 1 = j := by omega
  rw [e, if_pos ⟨by omega, hj, h⟩]
theorem lstR_all (l : List Bool) (s m : Nat) (hj : s + sz m ≤ l.length) (h : 1 ≤ sz m → sh m ≤ num ((l.drop s).take (sz m - 1))) : lstR l s m = (num ((l.drop s).take (sz m)) - sh m, s + sz m, 0) := by
  unfold lstR
  rw [if_neg (fun h' => by have := h h'.1; omega), if_pos hj]
theorem lstR_end (l : List Bool) (s m j : Nat) (hj : s + j = l.length) (hz : j < sz m) (h : ¬ (j + 1 = sz m ∧ num ((l.drop s).take j) < sh m)) : lstR l s m = (0, 0, 7) := by
  unfold lstR
  rw [if_neg, if_neg (by omega)]
  rintro ⟨h1, h2, h3⟩
  have e : sz m - 1 = j := by omega
  rw [e] at h3
  exact h ⟨by omega, h3⟩
set_option maxHeartbeats 1000000 in
theorem leastRead_any (l : List Bool) (N : Nat) (hl : l.length = N) (hN : N ≤ 8192) (A : Option Addr) (c s m : Nat) (hs : s ≤ N) (h1 : 1 ≤ m) (h2 : m ≤ 72057594037927936) (r : Nat × Nat × Int) (hr : r = lstR l s m) (rn : Nat) (rt : Int) (hrt : rn = r.1 ∧ rt = if r.2.2 = 0 then (r.2.1 : Int) else -1) (w : World) (h : RdV w w.heap.size A (ic l)) :
    Calls Try.prog 101 #[.slice A N c, .int .i64 (s : Int), .int .u64 (m : Int)] w fun e w' => e = .returned (.tuple #[.int .u64 (rn : Int), .int .i64 rt]) ∧ w = w' := by
  have HRT := Lib.hid hrt; clear hrt
  have hz := sz_le m 56 (by omega)
  have hsh := sh_add m
  have h56 := Nat.pow_le_pow_right (n := 2) (by omega) hz
  have HR := Lib.hid h; clear h
  go_enter Try.func101, Try.ntmps101
  go_wp2
  go_loop [8] (fun p => SzRel m p) (fun p => sz m - (intOf p).toNat)
  case atStart => exact ⟨0, Nat.zero_le _, rfl⟩
  case round =>
    obtain ⟨j, hj, rfl⟩ := hrel
    have hw := pow_w57 j (by omega)
    have j57 : j ≤ 57 := by omega
    have j0 : (0 : Int) ≤ (j : Int) := by omega
    by_cases hlt : j < sz m
    · have hq := pow_lt_sz m j h1 hlt
      have HH : Hid (j + 1 ≤ sz m) := hlt
      have HM : Hid (sz m - (j + 1) < sz m - j) := by show _ < _; omega
      clear hsh h56 hr
      generalize 2 ^ j = q at *
      go_wp2
      go_round
      case rel => exact ⟨j + 1, HH.out, by go_num⟩
      case measure => have := HM.out; simp [intOf]; omega
    · obtain rfl : j = sz m := by omega
      have hqm : m ≤ 2 ^ sz m := by omega
      have HA1 := Lib.hid (lstR_hit l s m)
      have HA2 := Lib.hid (lstR_all l s m)
      have HA3 := Lib.hid (lstR_end l s m)
      have hlast : num ((l.drop s).take (sz m)) < 2 ^ sz m := num_take_lt l s (sz m)
      have hsz : sh m = 0 ∨ 1 ≤ sz m := by
        rcases sh_lt m h1 with ⟨_, b, _⟩ | ⟨a, _⟩
        · exact .inl b
        · exact .inr a
      have HSum : Hid (sh m + m = 2 ^ sz m) := hsh
      clear hsh
      generalize 2 ^ sz m = q at *
      generalize sh m = d at *
      generalize sz m = z at *
      rw [← hr] at HA1 HA2 HA3
      clear hr
      have hdq : (d : Int) = (q : Int) - (m : Int) := by have := HSum.out; omega
      have HDQ := Lib.hid hdq; clear hdq
      go_wp2
      go_loop [10, 11] (fun v p => LRRel l s z d v p) (fun _ p => z + 1 - (intOf p).toNat)
      case atStart => exact ⟨0, Nat.zero_le _, by rw [hl]; omega, rfl, rfl, fun h0 h1 => by omega⟩
      case round =>
        obtain ⟨j, hj, hsj, rfl, rfl, hpas⟩ := hrel
        rw [hl] at hsj
        have hy := num_take_lt l s j
        have hp := Nat.pow_le_pow_right (n := 2) (by omega) (show j ≤ 56 by omega)
        have hy2 : num ((l.drop s).take j) ≤ 72057594037927936 := by omega
        clear hy hp
        have hsum := HSum.out
        by_cases ha : j + 1 = z ∧ num ((l.drop s).take j) < d
        · obtain ⟨rfl, hlt2⟩ := ha
          have HX : Hid (rn = num ((l.drop s).take j) ∧ rt = ((s + j : Nat) : Int)) := by have h8 := HRT.out; rw [HA1.out j rfl (by omega) hlt2] at h8; exact h8
          have hyq : num ((l.drop s).take j) + m < q := by omega
          generalize num ((l.drop s).take j) = y at *
          clear HRT HA1 HA2 HA3 hsum hlast hpas hsz hlt2
          go_wp2
          go_ret2
          exact ⟨by rw [HX.out.1, HX.out.2]; go_num, rfl⟩
        · by_cases hb : j = z
          · subst hb
            have hge : d ≤ num ((l.drop s).take j) := by
              rcases hsz with h0 | h0
              · omega
              · have a1 := hpas rfl h0
                have a2 := num_take_le (l.drop s) (j - 1) 1 (by rw [List.length_drop, hl]; omega)
                rw [show j - 1 + 1 = j by omega] at a2
                omega
            have HX : Hid (rn = num ((l.drop s).take j) - d ∧ rt = ((s + j : Nat) : Int)) := by have h8 := HRT.out; rw [HA2.out (by omega) (fun h0 => hpas rfl h0)] at h8; exact h8
            have HY : Hid (((num ((l.drop s).take j) - d : Nat) : Int) = (num ((l.drop s).take j) : Int) - ((q : Int) - (m : Int))) := by show _ = _; omega
            have hyq : q ≤ num ((l.drop s).take j) + m := by omega
            generalize num ((l.drop s).take j) = y at *
            clear HRT HA1 HA2 HA3 hsum hlast hpas hsz ha
            go_wp2
            go_ret2
            exact ⟨by rw [HX.out.1, HX.out.2, HY.out]; go_num, rfl⟩
          · have hjz : j < z := by omega
            have hno : ¬ (j + 1 = z) ∨ (z = j + 1 ∧ q ≤ num ((l.drop s).take j) + m) := by
              by_cases h9 : j + 1 = z
              · right; have := Nat.not_lt.1 (fun h => ha ⟨h9, h⟩); exact ⟨h9.symm, by omega⟩
              · exact .inl h9
            by_cases he : s + j = N
            · have HX : Hid (rn = 0 ∧ rt = -1) := by have h8 := HRT.out; rw [HA3.out j (by omega) hjz ha] at h8; exact h8
              generalize num ((l.drop s).take j) = y at *
              clear HRT HA1 HA2 HA3 hsum hlast hpas hsz ha hb
              rcases hno with hno | ⟨rfl, hno⟩
              · go_wp2
                go_ret2
                exact ⟨by rw [HX.out.1, HX.out.2]; rfl, rfl⟩
              · go_wp2
                all_goals go_ret2
                all_goals exact ⟨by rw [HX.out.1, HX.out.2]; rfl, rfl⟩
            · have hil : s + j < l.length := by omega
              obtain ⟨b, off, rfl, hbk, hc⟩ := HR.out.at_ (ic_get l (s + j) hil)
              have HS := Lib.hid (num_next l s j hil)
              have hbl := Bool.toNat_le (l[s + j]?.getD false)
              have HPs : Hid (j + 1 = z → 1 ≤ z → d ≤ num ((l.drop s).take (z - 1))) := by
                intro h9 _
                have : z - 1 = j := by omega
                rw [this]
                exact Nat.not_lt.1 (fun h => ha ⟨h9, h⟩)
              generalize l[s + j]?.getD false = bt at *
              generalize num ((l.drop s).take j) = y at *
              clear HRT HA1 HA2 HA3 hsum hlast hpas hsz ha hb
              have sj0 : (0 : Int) ≤ (s : Int) + (j : Int) := by omega
              have sj1 : (s : Int) + (j : Int) < (N : Int) := by omega
              rcases hno with hno | ⟨rfl, hno⟩
              · go_wp2
                go_round
                case rel => exact ⟨j + 1, by omega, by omega, by go_num, by rw [HS.out]; go_num, HPs.out⟩
                case measure => simp [intOf]; omega
              · go_wp2
                go_round
                case rel => exact ⟨j + 1, by omega, by omega, by go_num, by rw [HS.out]; go_num, HPs.out⟩
                case measure => simp [intOf]; omega
end

section
set_option maxRecDepth 100000
set_option linter.unusedVariables false
open Go.RowKit

theorem mulQ (h k s : Nat) (hs : h * k = s) : ((h : Int) * (k : Int)) = (s : Int) := by rw [← hs]; simp
theorem shl_fg (f g k : Nat) (hg : f * 2 ^ k = g) (hb : g ≤ 144115188075855872) : IntKind.u64.wrap ((f : Int) * 2 ^ k) = (g : Int) := by
  have e : ((f : Int) * 2 ^ k) = (g : Int) := by rw [← hg]; simp
  rw [e]
  exact u64w _ (by omega) (by omega)
def ZSRel (k h : Nat) (v p : Value) : Prop := ∃ j : Nat, j ≤ h ∧ v = .int .u64 (j : Int) ∧ p = .int .u64 ((2 ^ (j * k) : Nat) : Int)
theorem span_iff (n k j : Nat) (hk : 1 ≤ k) : (j < lg n / k → 2 ^ (j * k + k) ≤ n + 1) ∧ (j = lg n / k → n + 1 < 2 ^ (j * k + k)) := by
  have a := lg_le n
  have b := lg_lt n
  constructor
  · intro h
    have h1 : (j + 1) * k ≤ lg n := Nat.le_trans (Nat.mul_le_mul_right k (show j + 1 ≤ lg n / k by omega)) (Nat.div_mul_le_self _ _)
    have := Nat.pow_le_pow_right (n := 2) (by omega) h1
    rw [Nat.add_mul, Nat.one_mul] at this
    omega
  · rintro rfl
    obtain ⟨z1, z2⟩ := zet_in n k hk
    unfold zq at z2
    omega
set_option maxHeartbeats 1000000 in
theorem zetaSpan_any (n k f g : Nat) (hk : 1 ≤ k) (hk2 : k ≤ 16) (hn : n ≤ 1099511627776) (h : Nat) (hh : h = lg n / k) (hf : f = 2 ^ (h * k)) (hg : g = 2 ^ (h * k + k)) (w : World) :
    Calls Try.prog 93 #[.int .u64 (n : Int), .int .i64 (k : Int)] w fun e w' => e = .returned (.tuple #[.int .u64 (h : Int), .int .u64 (f : Int), .int .u64 (g : Int)]) ∧ Below w.heap.size w w' := by
  have h40 := zet_40 n k hn
  rw [← hh] at h40
  have hle : ∀ j, j ≤ h → j * k ≤ 40 := fun j hj => Nat.le_trans (Nat.mul_le_mul_right k hj) h40
  have hh40 : h ≤ 40 := Nat.le_trans (Nat.le_mul_of_pos_right h (by omega)) h40
  have HSp : Hid (∀ j, (j < h → 2 ^ (j * k + k) ≤ n + 1) ∧ (j = h → n + 1 < 2 ^ (j * k + k))) := by
    intro j; have := span_iff n k j hk; rwa [← hh] at this
  have k0 : (0 : Int) ≤ (k : Int) := by omega
  go_enter Try.func93, Try.ntmps93
  go_wp2
  go_loop [7, 8] (fun v p => ZSRel k h v p) (fun v _ => h - (intOf v).toNat)
  case atStart => exact ⟨0, Nat.zero_le _, rfl, by simp⟩
  case round =>
    obtain ⟨j, hj, rfl, rfl⟩ := hrel
    have hjk := hle j hj
    have hb := Nat.pow_le_pow_right (n := 2) (by omega) (show j * k + k ≤ 56 by omega)
    have hb1 := Nat.pow_le_pow_right (n := 2) (by omega) hjk
    have hw := shl_fg (2 ^ (j * k)) (2 ^ (j * k + k)) k (Nat.pow_add _ _ _).symm (by omega)
    have sp := HSp.out j
    have HN : Hid (2 ^ ((j + 1) * k) = 2 ^ (j * k + k)) := by show _ = _; rw [Nat.add_mul, Nat.one_mul]
    by_cases hlt : j < h
    · have hq := sp.1 hlt
      clear sp hf hg
      generalize 2 ^ (j * k + k) = G at *
      generalize 2 ^ (j * k) = F at *
      have HR : Hid (ZSRel k h (.int .u64 ((j : Int) + 1)) (.int .u64 (G : Int))) := ⟨j + 1, hlt, by go_num, by rw [HN.out]⟩
      clear hle hh
      go_wp2
      go_round
      case rel => exact HR.out
      case measure => simp [intOf]; omega
    · obtain rfl : j = h := by omega
      have hq := sp.2 rfl
      have HE : Hid (f = 2 ^ (j * k) ∧ g = 2 ^ (j * k + k)) := ⟨hf, hg⟩
      clear sp HN hle hh HSp hf hg
      generalize 2 ^ (j * k + k) = G at *
      generalize 2 ^ (j * k) = F at *
      have HW := Lib.hid hw
      go_wp2_with fail
      go_region_held3 (fun _ => True) (trivial) (fail)
      go_wp2
      go_ret3
      exact ⟨by rw [HE.out.1, HE.out.2]; rfl, (Below.refl _ _).drew⟩

set_option maxHeartbeats 1000000 in
theorem zetaList_any (n k : Nat) (hk : 1 ≤ k) (hk2 : k ≤ 16) (hn : n ≤ 1099511627776) (L : List Bool) (hL : L = zet n k) (w : World) :
    Calls Try.prog 73 #[.int .u64 (n : Int), .int .i64 (k : Int)] w (Listed w L) := by
  have k40 := lg_lt_of n 41 (by omega)
  have h40 := zet_40 n k hn
  obtain ⟨z1, z2⟩ := zet_in n k hk
  have zp := zq_pos (lg n / k) k hk
  have zl := zq_le (lg n / k) k h40 hk2
  have hd := Nat.div_le_self (lg n) k
  have hb1 := Nat.pow_le_pow_right (n := 2) (by omega) h40
  have hb2 := Nat.pow_le_pow_right (n := 2) (by omega) (show lg n / k * k + k ≤ 56 by omega)
  have hb3 := Nat.pow_le_pow_right (n := 2) (by omega) (show lg n / k * k ≤ lg n / k * k + k by omega)
  have hsl := sz_le (zq (lg n / k) k) 56 (by omega)
  have hll := lst_length_le (n + 1 - 2 ^ (lg n / k * k)) (zq (lg n / k) k)
  have HZ := Lib.hid (zetaSpan_any n k _ _ hk hk2 hn _ rfl rfl rfl)
  have HU := Lib.hid (uList_any (lg n / k) (by omega) _ rfl)
  have HLl := Lib.hid (leastList_any (n + 1 - 2 ^ (lg n / k * k)) (zq (lg n / k) k) zp zl z2 _ rfl)
  have e1 : ((n + 1 - 2 ^ (lg n / k * k) : Nat) : Int) = (n : Int) + 1 - ((2 ^ (lg n / k * k) : Nat) : Int) := by omega
  have e2 : ((zq (lg n / k) k : Nat) : Int) = ((2 ^ (lg n / k * k + k) : Nat) : Int) - ((2 ^ (lg n / k * k) : Nat) : Int) := by unfold zq; omega
  rw [e1, e2] at HLl
  have HL : Hid (L = uc (lg n / k) ++ lst (n + 1 - 2 ^ (lg n / k * k)) (zq (lg n / k) k)) := hL
  have hul := uc_length (lg n / k)
  clear hL e1 e2 z2
  generalize lst (n + 1 - 2 ^ (lg n / k * k)) (zq (lg n / k) k) = B at *
  generalize 2 ^ (lg n / k * k + k) = g at *
  generalize 2 ^ (lg n / k * k) = f at *
  generalize uc (lg n / k) = U at *
  generalize lg n / k = h at *
  have hB57 : B.length ≤ 57 := by omega
  have hU41 : U.length ≤ 41 := by omega
  clear hsl hll zl zp hul hd k40 h40
  go_enter Try.func73, Try.ntmps73
  go_wp2_with fail
  refine (HZ.out _).mono ?_
  rintro e w1 ⟨rfl, b1⟩
  have HB1 := Lib.hid b1; clear b1
  go_wp2_with fail
  refine (HU.out _).mono ?_
  rintro e w2 ⟨A1, c1, rfl, ho1, hb1⟩
  have HO1 := Lib.hid ho1; have HB2 := Lib.hid hb1; clear ho1 hb1
  go_wp2_with fail
  refine (HLl.out _).mono ?_
  rintro e w3 ⟨A2, c2, rfl, ho2, hb2⟩
  have HO1' := Lib.hid (own_below HO1.out hb2)
  have HO2 := Lib.hid ho2
  have HB3 : Hid (Below w1.heap.size w1 w3) := HB2.out.trans (hb2.mono HB2.out.size)
  clear ho2 hb2
  go_wp2_with (at_builtin; refine app3 rfl _ _ rfl w1.heap.size _ U.length (ic U) rfl HO1'.out A2 B.length c2 (ic B) rfl (own_rdv HO2.out) (ic_length _) (ic_one _) (own_none HO2.out) (by omega) HB3.out.size ?_; intro v' w4 hown' hgrow; obtain ⟨A3, c3, rfl⟩ := own_slice3 hown'; have HO3 := Lib.hid hown'; have HB4 : Hid (Below w1.heap.size w1 w4) := join_grown HB3.out (Nat.le_refl _) HB3.out.size HO1'.out hgrow; clear hown' hgrow)
  go_ret
  have hl : L.length = U.length + B.length := by rw [HL.out, List.length_append]
  refine ⟨A3, c3, by rw [hl]; rfl, ?_, HB1.out.trans (HB4.out.mono HB1.out.size)⟩
  rw [hl, HL.out, ic_append]
  exact own_base HO3.out HB1.out.size
end

section
set_option maxRecDepth 100000
set_option linter.unusedVariables false
open Go.RowKit

def ZRRel (k q : Nat) (v p : Value) : Prop := ∃ j : Nat, j ≤ q ∧ v = .int .u64 ((2 ^ (j * k) : Nat) : Int) ∧ p = .int .u64 (j : Int)
set_option maxHeartbeats 1000000 in
/-- The rest of it, where a quotient was read that is not too great. -/
theorem zetaRead_in (l : List Bool) (N : Nat) (hl : l.length = N) (hN : N ≤ 8192) (A : Option Addr) (c s k q fr : Nat) (hs : s ≤ N) (hk : 1 ≤ k) (hk2 : k ≤ 16) (hq : q * k ≤ 40) (f g x : Nat) (hf : f = 2 ^ (q * k)) (hg : g + f = 2 ^ (q * k + k)) (hx : x ≤ 72057594037927936) (rt : Int) (r1 r2 : Nat) (r3 : Int)
    (hres : (rt < 0 ∧ r1 = 0 ∧ r2 = 0 ∧ r3 = 7) ∨ (0 ≤ rt ∧ 1099511627776 < f + x - 1 ∧ r1 = 0 ∧ r2 = 0 ∧ r3 = 3) ∨ (0 ≤ rt ∧ f + x - 1 ≤ 1099511627776 ∧ r1 = f + x - 1 ∧ (r2 : Int) = rt ∧ r3 = 0)) (w : World)
    (HU : Hid (Calls Try.prog 100 #[.slice A N c, .int .i64 (s : Int)] w fun e w' => e = .returned (.tuple #[.int .u64 (q : Int), .int .i64 (fr : Int)]) ∧ w = w'))
    (HX : Hid (Calls Try.prog 101 #[.slice A N c, .int .i64 (fr : Int), .int .u64 (g : Int)] w fun e w' => e = .returned (.tuple #[.int .u64 (x : Int), .int .i64 rt]) ∧ w = w')) :
    Calls Try.prog 79 #[.slice A N c, .int .i64 (s : Int), .int .i64 (k : Int)] w (ReadP w r1 r2 r3) := by
  have hq40 : q ≤ 40 := Nat.le_trans (Nat.le_mul_of_pos_right q (by omega)) hq
  have t0 : decide ((fr : Int) < 0) = false := by simp
  have t1 : decide ((41 : Int) ≤ (q : Int)) = false := by simp; omega
  have HM := Lib.hid (mulQ q k _ rfl)
  have k0 : (0 : Int) ≤ (k : Int) := by omega
  have hqk : (q : Int) * (k : Int) ≤ 40 := by rw [HM.out]; omega
  have hqk0 : 0 ≤ (q : Int) * (k : Int) := by rw [HM.out]; omega
  go_enter Try.func79, Try.ntmps79
  go_wp2_with fail
  refine HU.out.mono ?_
  rintro e _ ⟨rfl, rfl⟩
  go_wp2
  go_loop [11, 12] (fun v p => ZRRel k q v p) (fun _ p => q - (intOf p).toNat)
  case atStart => exact ⟨0, Nat.zero_le _, by simp, rfl⟩
  case round =>
    obtain ⟨j, hj, rfl, rfl⟩ := hrel
    have hjk : j * k ≤ 40 := Nat.le_trans (Nat.mul_le_mul_right k hj) hq
    have hb := Nat.pow_le_pow_right (n := 2) (by omega) (show j * k + k ≤ 56 by omega)
    have hb1 := Nat.pow_le_pow_right (n := 2) (by omega) hjk
    have hp0 := Nat.two_pow_pos (j * k)
    have hw := shl_fg (2 ^ (j * k)) (2 ^ (j * k + k)) k (Nat.pow_add _ _ _).symm (by omega)
    have HN : Hid (2 ^ ((j + 1) * k) = 2 ^ (j * k + k)) := by show _ = _; rw [Nat.add_mul, Nat.one_mul]
    by_cases hlt : j < q
    · clear hf hg
      have HR : Hid (ZRRel k q (.int .u64 ((2 ^ (j * k + k) : Nat) : Int)) (.int .u64 ((j : Int) + 1))) := ⟨j + 1, hlt, by rw [HN.out], by go_num⟩
      generalize 2 ^ (j * k + k) = G at *
      generalize 2 ^ (j * k) = F at *
      clear hres HX HU HN
      go_wp2
      go_round
      case rel => exact HR.out
      case measure => simp [intOf]; omega
    · obtain rfl : j = q := by omega
      have hgf : g + f = 2 ^ (j * k + k) := hg
      rw [← hf] at hw hb1 hp0 ⊢
      generalize 2 ^ (j * k + k) = G at *
      clear hf hg HN hq hjk
      have HG : Hid ((G : Int) - (f : Int) = (g : Int)) := by show _ = _; omega
      have hfG : f ≤ G := by omega
      rcases hres with ⟨a, rfl, rfl, rfl⟩ | ⟨a, a2, rfl, rfl, rfl⟩ | ⟨a, a2, rfl, rfl, rfl⟩
      · go_wp2_with fail
        rw [HG.out]
        refine HX.out.mono ?_
        rintro e _ ⟨rfl, rfl⟩
        go_wp2
        go_ret3
        exact ⟨rfl, Below.refl _ _⟩
      · go_wp2_with fail
        rw [HG.out]
        refine HX.out.mono ?_
        rintro e _ ⟨rfl, rfl⟩
        go_wp2
        go_ret3
        exact ⟨rfl, Below.refl _ _⟩
      · go_wp2_with fail
        rw [HG.out]
        refine HX.out.mono ?_
        rintro e _ ⟨rfl, rfl⟩
        have HV : Hid (((f + x - 1 : Nat) : Int) = (f : Int) + (x : Int) - 1) := by show _ = _; omega
        go_wp2
        go_ret3
        exact ⟨by rw [HV.out]; rfl, Below.refl _ _⟩

set_option maxHeartbeats 1000000 in
theorem zetaRead_far (N : Nat) (A : Option Addr) (c s k q fr : Nat) (hk : 1 ≤ k) (hk2 : k ≤ 16) (hq2 : q ≤ 8192) (hq : 40 < q * k) (w : World)
    (HU : Hid (Calls Try.prog 100 #[.slice A N c, .int .i64 (s : Int)] w fun e w' => e = .returned (.tuple #[.int .u64 (q : Int), .int .i64 (fr : Int)]) ∧ w = w')) :
    Calls Try.prog 79 #[.slice A N c, .int .i64 (s : Int), .int .i64 (k : Int)] w (ReadP w 0 0 3) := by
  have t0 : decide ((fr : Int) < 0) = false := by simp
  have HM := Lib.hid (mulQ q k _ rfl)
  have hle : q * k ≤ 8192 * 16 := Nat.mul_le_mul hq2 hk2
  have hqk : 41 ≤ (q : Int) * (k : Int) := by rw [HM.out]; omega
  have hqk0 : (q : Int) * (k : Int) ≤ 200000 := by rw [HM.out]; omega
  by_cases h41 : 41 ≤ q
  · have t1 : decide ((41 : Int) ≤ (q : Int)) = true := by simp; omega
    go_enter Try.func79, Try.ntmps79
    go_wp2_with fail
    refine HU.out.mono ?_
    rintro e _ ⟨rfl, rfl⟩
    go_wp2
    go_ret3
    exact ⟨rfl, Below.refl _ _⟩
  · have t1 : decide ((41 : Int) ≤ (q : Int)) = false := by simp; omega
    go_enter Try.func79, Try.ntmps79
    go_wp2_with fail
    refine HU.out.mono ?_
    rintro e _ ⟨rfl, rfl⟩
    go_wp2
    go_ret3
    exact ⟨rfl, Below.refl _ _⟩
set_option maxHeartbeats 1000000 in
theorem zetaRead_none (N : Nat) (A : Option Addr) (c s : Nat) (k q : Int) (w : World)
    (HU : Hid (Calls Try.prog 100 #[.slice A N c, .int .i64 (s : Int)] w fun e w' => e = .returned (.tuple #[.int .u64 q, .int .i64 (-1)]) ∧ w = w')) :
    Calls Try.prog 79 #[.slice A N c, .int .i64 (s : Int), .int .i64 k] w (ReadP w 0 0 7) := by
  go_enter Try.func79, Try.ntmps79
  go_wp2_with fail
  refine HU.out.mono ?_
  rintro e _ ⟨rfl, rfl⟩
  go_wp2
  go_ret3
  exact ⟨rfl, Below.refl _ _⟩
theorem zetaRead_any (l : List Bool) (N : Nat) (hl : l.length = N) (hN : N ≤ 8192) (A : Option Addr) (c s k : Nat) (hs : s ≤ N) (hk : 1 ≤ k) (hk2 : k ≤ 16) (r : Nat × Nat × Int) (hr : r = zetR l s k) (w : World) (h : RdV w w.heap.size A (ic l)) :
    Calls Try.prog 79 #[.slice A N c, .int .i64 (s : Int), .int .i64 (k : Int)] w (ReadP w r.1 r.2.1 r.2.2) := by
  have HU := ur_l l N hl hN A c s hs w h
  have hb := uR_bound l s (by omega)
  unfold zetR at hr
  generalize uR l s = u at *
  obtain ⟨q, fr, e0⟩ := u
  simp only at hb hr HU
  by_cases h0 : e0 = 0
  · subst h0
    rw [if_pos rfl] at HU
    rw [if_neg (by simp)] at hr
    by_cases hq : 40 < q * k
    · rw [if_pos hq] at hr
      subst hr
      exact zetaRead_far N A c s k q fr hk hk2 (by omega) hq w HU
    · rw [if_neg hq] at hr
      have zp := zq_pos q k hk
      have zl := zq_le q k (by omega) hk2
      have hlb := lstR_bound l fr (zq q k) zp (by omega)
      have hb3 := Nat.pow_le_pow_right (n := 2) (by omega) (show q * k ≤ q * k + k by omega)
      have HL := fun (rn : Nat) (rt : Int) hh => leastRead_any l N hl hN A c fr (zq q k) (by omega) zp zl _ rfl rn rt hh w h
      unfold remR at hr
      simp only at hr
      generalize lstR l fr (zq q k) = v at *
      obtain ⟨x, to, er⟩ := v
      simp only at hlb hr HL
      have hres : (((if er = 0 then (to : Int) else -1) < 0 ∧ r.1 = 0 ∧ r.2.1 = 0 ∧ r.2.2 = 7) ∨ (0 ≤ (if er = 0 then (to : Int) else -1) ∧ 1099511627776 < 2 ^ (q * k) + x - 1 ∧ r.1 = 0 ∧ r.2.1 = 0 ∧ r.2.2 = 3) ∨ (0 ≤ (if er = 0 then (to : Int) else -1) ∧ 2 ^ (q * k) + x - 1 ≤ 1099511627776 ∧ r.1 = 2 ^ (q * k) + x - 1 ∧ (r.2.1 : Int) = (if er = 0 then (to : Int) else -1) ∧ r.2.2 = 0)) := by
        by_cases he : er = 0
        · subst he
          rw [if_neg (by simp)] at hr
          rw [if_pos rfl]
          right
          by_cases h3 : 1099511627776 < 2 ^ (q * k) + x - 1
          · left; rw [if_pos h3] at hr; subst hr; exact ⟨by omega, h3, rfl, rfl, rfl⟩
          · right; rw [if_neg h3] at hr; subst hr; exact ⟨by omega, Nat.not_lt.1 h3, rfl, rfl, rfl⟩
        · rw [if_pos he] at hr
          rw [if_neg he]
          left
          subst hr
          exact ⟨by omega, rfl, rfl, by simp only; omega⟩
      exact zetaRead_in l N hl hN A c s k q fr hs hk hk2 (by omega) (2 ^ (q * k)) (zq q k) x rfl (by unfold zq; omega) (by omega) _ _ _ _ hres w HU (HL x _ ⟨rfl, rfl⟩)
  · rw [if_neg h0] at HU
    rw [if_pos h0] at hr
    obtain rfl : e0 = 7 := by omega
    subst hr
    exact zetaRead_none N A c s _ _ w HU
end
end Go.Proofs.Ythldcdcpflamaaa
