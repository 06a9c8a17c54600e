/- The document's own lists and readers of quotients, remainders and zeta codes; each with its conditions. -/
import Derived.Test.YtcacbekdghlncaaRefE
import Derived.Test.YtcacbekdghlncaaGLib
import Derived.Test.YtcacbekdghlncaaERead
namespace Go.Proofs.Ytcacbekdghlncaa
set_option maxRecDepth 100000
set_option linter.unusedVariables false
open Go.RowKit

/-- At each round's head: j bits are too few, or just enough. -/
def SzRel (m : Nat) (p : Value) : Prop := ∃ j : Nat, j ≤ sz m ∧ p = .int .i64 (j : Int)
theorem pow_lt_sz (m j : Nat) (h1 : 1 ≤ m) : (j < sz m → 2 ^ j < m) := by
  intro h
  rcases sh_lt m h1 with ⟨a, b, d⟩ | ⟨a, b, d, d2⟩
  · omega
  · have hs := sh_add m
    have := Nat.pow_le_pow_right (n := 2) (by omega) (show j ≤ sz m - 1 by omega)
    omega
theorem pow_w57 (z : Nat) (h : z ≤ 57) : IntKind.u64.wrap ((2 : Int) ^ z) = ((2 ^ z : Nat) : Int) := by
  have := Nat.pow_le_pow_right (n := 2) (by omega) h
  have e : ((2 : Int) ^ z) = ((2 ^ z : Nat) : Int) := by simp
  rw [e]
  generalize 2 ^ z = q at *
  exact u64w _ (by omega) (by omega)

set_option maxHeartbeats 1000000 in
theorem leastList_any (n m : Nat) (h1 : 1 ≤ m) (h2 : m ≤ 72057594037927936) (hn : n < m) (L : List Bool) (hL : L = lst n m) (w : World) :
    Calls Try.prog 39 #[.int .u64 (n : Int), .int .u64 (m : Int)] w (Listed w L) := by
  have hz := sz_le m 56 (by omega)
  have hs := sh_add m
  have h56 := Nat.pow_le_pow_right (n := 2) (by omega) hz
  go_enter Try.func39, Try.ntmps39
  go_wp2
  go_loop [5] (fun p => SzRel m p) (fun p => sz m - (intOf p).toNat)
  case atStart => exact ⟨0, Nat.zero_le _, rfl⟩
  case round =>
    obtain ⟨j, hj, rfl⟩ := hrel
    have hw := pow_w57 j (by omega)
    have j57 : j ≤ 57 := by omega
    have j0 : (0 : Int) ≤ (j : Int) := by omega
    by_cases hlt : j < sz m
    · have hq := pow_lt_sz m j h1 hlt
      have HH : Hid (j + 1 ≤ sz m) := hlt
      have HM : Hid (sz m - (j + 1) < sz m - j) := by show _ < _; omega
      have t1 : decide (((2 ^ j : Nat) : Int) < (m : Int)) = true := by simp only [decide_eq_true_eq]; omega
      clear hs h56 hL
      generalize 2 ^ j = q at *
      go_wp2
      go_round
      case rel => exact ⟨j + 1, HH.out, by go_num⟩
      case measure => have := HM.out; simp [intOf]; omega
    · obtain rfl : j = sz m := by omega
      have t1 : decide (((2 ^ sz m : Nat) : Int) < (m : Int)) = false := by simp only [decide_eq_false_iff_not]; omega
      have hc := sh_lt m h1
      unfold lst at hL
      have HSh : Hid (IntKind.u64.wrap (((2 ^ sz m : Nat) : Int) - (m : Int)) = (sh m : Int)) := by show _ = _; rw [u64w _ (by omega) (by omega)]; omega
      by_cases hs1 : n < sh m
      · rw [if_pos hs1] at hL
        have z1 : 1 ≤ sz m := by omega
        have HN := Lib.hid (numBits_any n (sz m - 1) (by omega) (by omega) L hL)
        have e1 : ((sz m - 1 : Nat) : Int) = (sz m : Int) - 1 := by omega
        rw [e1] at HN
        have hqm : m ≤ 2 ^ sz m := by omega
        have hnq : n + m < 2 ^ sz m := by omega
        clear hL e1 hs hc HSh hs1 hw
        have hw := pow_w57 (sz m) (by omega)
        generalize 2 ^ sz m = q at *
        generalize sz m = z at *
        go_wp2_with fail
        refine (HN.out _).mono ?_
        rintro e w1 ⟨A1, c1, rfl, ho, hb⟩
        have HO := Lib.hid ho; have HB := Lib.hid hb; clear ho hb
        go_wp2
        go_ret
        exact ⟨A1, c1, rfl, HO.out, HB.out⟩
      · rw [if_neg hs1] at hL
        have HN := Lib.hid (numBits_any (n + sh m) (sz m) (by omega) (by omega) L hL)
        have e1 : ((n + sh m : Nat) : Int) = (n : Int) + (((2 ^ sz m : Nat) : Int) - (m : Int)) := by omega
        rw [e1] at HN
        have hqm : m ≤ 2 ^ sz m := by omega
        have hnq : 2 ^ sz m ≤ n + m := by omega
        clear hL e1 hs hc HSh hs1 hw
        have hw := pow_w57 (sz m) (by omega)
        generalize 2 ^ sz m = q at *
        generalize sz m = z at *
        go_wp2_with fail
        refine (HN.out _).mono ?_
        rintro e w1 ⟨A1, c1, rfl, ho, hb⟩
        have HO := Lib.hid ho; have HB := Lib.hid hb; clear ho hb
        go_wp2
        go_ret
        exact ⟨A1, c1, rfl, HO.out, HB.out⟩

/-- LeastRead: j bits have been read. -/
def LRRel (l : List Bool) (s z d : Nat) (v p : Value) : Prop :=
  ∃ j : Nat, j ≤ z ∧ s + j ≤ l.length ∧ p = .int .i64 (j : Int) ∧ v = .int .u64 (num ((l.drop s).take j) : Int) ∧ (j = z → 1 ≤ z → d ≤ num ((l.drop s).take (z - 1)))
theorem num_next (l : List Bool) (s j : Nat) (h : s + j < l.length) : num ((l.drop s).take (j + 1)) = 2 * num ((l.drop s).take j) + (l[s + j]?.getD false).toNat := by
  have hd : j < (l.drop s).length := by rw [List.length_drop]; omega
  rw [List.take_succ_eq_append_getElem hd, num_snoc, List.getElem_drop, List.getElem?_eq_getElem h]; rfl
/-- What lstR says, at a round's head. -/
theorem lstR_hit (l : List Bool) (s m j : Nat) (hz : j + 1 = sz m) (hj : s + j ≤ l.length) (h : num ((l.drop s).take j) < sh m) : lstR l s m = (num ((l.drop s).take j), s + j, 0) := by
  unfold lstR
  have e : sz m - 1 = j := by omega
  rw [e, if_pos ⟨by omega, hj, h⟩]
theorem lstR_all (l : List Bool) (s m : Nat) (hj : s + sz m ≤ l.length) (h : 1 ≤ sz m → sh m ≤ num ((l.drop s).take (sz m - 1))) : lstR l s m = (num ((l.drop s).take (sz m)) - sh m, s + sz m, 0) := by
  unfold lstR
  rw [if_neg (fun h' => by have := h h'.1; omega), if_pos hj]
theorem lstR_end (l : List Bool) (s m j : Nat) (hj : s + j = l.length) (hz : j < sz m) (h : ¬ (j + 1 = sz m ∧ num ((l.drop s).take j) < sh m)) : lstR l s m = (0, 0, 7) := by
  unfold lstR
  rw [if_neg, if_neg (by omega)]
  rintro ⟨h1, h2, h3⟩
  have e : sz m - 1 = j := by omega
  rw [e] at h3
  exact h ⟨by omega, h3⟩
set_option maxHeartbeats 1000000 in
theorem leastRead_any (l : List Bool) (N : Nat) (hl : l.length = N) (hN : N ≤ 8192) (A : Option Addr) (c s m : Nat) (hs : s ≤ N) (h1 : 1 ≤ m) (h2 : m ≤ 72057594037927936) (r : Nat × Nat × Int) (hr : r = lstR l s m) (rn : Nat) (rt : Int) (hrt : rn = r.1 ∧ rt = if r.2.2 = 0 then (r.2.1 : Int) else -1) (w : World) (h : RdV w w.heap.size A (ic l)) :
    Calls Try.prog 41 #[.slice A N c, .int .i64 (s : Int), .int .u64 (m : Int)] w fun e w' => e = .returned (.tuple #[.int .u64 (rn : Int), .int .i64 rt]) ∧ w = w' := by
  have HRT := Lib.hid hrt; clear hrt
  have hz := sz_le m 56 (by omega)
  have hsh := sh_add m
  have h56 := Nat.pow_le_pow_right (n := 2) (by omega) hz
  have HR := Lib.hid h; clear h
  go_enter Try.func41, Try.ntmps41
  go_wp2
  go_loop [8] (fun p => SzRel m p) (fun p => sz m - (intOf p).toNat)
  case atStart => exact ⟨0, Nat.zero_le _, rfl⟩
  case round =>
    obtain ⟨j, hj, rfl⟩ := hrel
    have hw := pow_w57 j (by omega)
    have j57 : j ≤ 57 := by omega
    have j0 : (0 : Int) ≤ (j : Int) := by omega
    by_cases hlt : j < sz m
    · have hq := pow_lt_sz m j h1 hlt
      have HH : Hid (j + 1 ≤ sz m) := hlt
      have HM : Hid (sz m - (j + 1) < sz m - j) := by show _ < _; omega
      clear hsh h56 hr
      generalize 2 ^ j = q at *
      go_wp2
      go_round
      case rel => exact ⟨j + 1, HH.out, by go_num⟩
      case measure => have := HM.out; simp [intOf]; omega
    · obtain rfl : j = sz m := by omega
      have hqm : m ≤ 2 ^ sz m := by omega
      have HA1 := Lib.hid (lstR_hit l s m)
      have HA2 := Lib.hid (lstR_all l s m)
      have HA3 := Lib.hid (lstR_end l s m)
      have hlast : num ((l.drop s).take (sz m)) < 2 ^ sz m := num_take_lt l s (sz m)
      have hsz : sh m = 0 ∨ 1 ≤ sz m := by
        rcases sh_lt m h1 with ⟨_, b, _⟩ | ⟨a, _⟩
        · exact .inl b
        · exact .inr a
      have HSum : Hid (sh m + m = 2 ^ sz m) := hsh
      clear hsh
      generalize 2 ^ sz m = q at *
      generalize sh m = d at *
      generalize sz m = z at *
      rw [← hr] at HA1 HA2 HA3
      clear hr
      have hdq : (d : Int) = (q : Int) - (m : Int) := by have := HSum.out; omega
      have HDQ := Lib.hid hdq; clear hdq
      go_wp2
      go_loop [10, 11] (fun v p => LRRel l s z d v p) (fun _ p => z + 1 - (intOf p).toNat)
      case atStart => exact ⟨0, Nat.zero_le _, by rw [hl]; omega, rfl, rfl, fun h0 h1 => by omega⟩
      case round =>
        obtain ⟨j, hj, hsj, rfl, rfl, hpas⟩ := hrel
        rw [hl] at hsj
        have hy := num_take_lt l s j
        have hp := Nat.pow_le_pow_right (n := 2) (by omega) (show j ≤ 56 by omega)
        have hy2 : num ((l.drop s).take j) ≤ 72057594037927936 := by omega
        clear hy hp
        have hsum := HSum.out
        by_cases ha : j + 1 = z ∧ num ((l.drop s).take j) < d
        · obtain ⟨rfl, hlt2⟩ := ha
          have HX : Hid (rn = num ((l.drop s).take j) ∧ rt = ((s + j : Nat) : Int)) := by have h8 := HRT.out; rw [HA1.out j rfl (by omega) hlt2] at h8; exact h8
          have hyq : num ((l.drop s).take j) + m < q := by omega
          generalize num ((l.drop s).take j) = y at *
          clear HRT HA1 HA2 HA3 hsum hlast hpas hsz hlt2
          go_wp2
          go_ret2
          exact ⟨by rw [HX.out.1, HX.out.2]; go_num, rfl⟩
        · by_cases hb : j = z
          · subst hb
            have hge : d ≤ num ((l.drop s).take j) := by
              rcases hsz with h0 | h0
              · omega
              · have a1 := hpas rfl h0
                have a2 := num_take_le (l.drop s) (j - 1) 1 (by rw [List.length_drop, hl]; omega)
                rw [show j - 1 + 1 = j by omega] at a2
                omega
            have HX : Hid (rn = num ((l.drop s).take j) - d ∧ rt = ((s + j : Nat) : Int)) := by have h8 := HRT.out; rw [HA2.out (by omega) (fun h0 => hpas rfl h0)] at h8; exact h8
            have HY : Hid (((num ((l.drop s).take j) - d : Nat) : Int) = (num ((l.drop s).take j) : Int) - ((q : Int) - (m : Int))) := by show _ = _; omega
            have hyq : q ≤ num ((l.drop s).take j) + m := by omega
            generalize num ((l.drop s).take j) = y at *
            clear HRT HA1 HA2 HA3 hsum hlast hpas hsz ha
            go_wp2
            go_ret2
            exact ⟨by rw [HX.out.1, HX.out.2, HY.out]; go_num, rfl⟩
          · have hjz : j < z := by omega
            have hno : ¬ (j + 1 = z) ∨ (z = j + 1 ∧ q ≤ num ((l.drop s).take j) + m) := by
              by_cases h9 : j + 1 = z
              · right; have := Nat.not_lt.1 (fun h => ha ⟨h9, h⟩); exact ⟨h9.symm, by omega⟩
              · exact .inl h9
            by_cases he : s + j = N
            · have HX : Hid (rn = 0 ∧ rt = -1) := by have h8 := HRT.out; rw [HA3.out j (by omega) hjz ha] at h8; exact h8
              generalize num ((l.drop s).take j) = y at *
              clear HRT HA1 HA2 HA3 hsum hlast hpas hsz ha hb
              rcases hno with hno | ⟨rfl, hno⟩
              · go_wp2
                go_ret2
                exact ⟨by rw [HX.out.1, HX.out.2]; rfl, rfl⟩
              · go_wp2
                all_goals go_ret2
                all_goals exact ⟨by rw [HX.out.1, HX.out.2]; rfl, rfl⟩
            · have hil : s + j < l.length := by omega
              obtain ⟨b, off, rfl, hbk, hc⟩ := HR.out.at_ (ic_get l (s + j) hil)
              have HS := Lib.hid (num_next l s j hil)
              have hbl := Bool.toNat_le (l[s + j]?.getD false)
              have HPs : Hid (j + 1 = z → 1 ≤ z → d ≤ num ((l.drop s).take (z - 1))) := by
                intro h9 _
                have : z - 1 = j := by omega
                rw [this]
                exact Nat.not_lt.1 (fun h => ha ⟨h9, h⟩)
              generalize l[s + j]?.getD false = bt at *
              generalize num ((l.drop s).take j) = y at *
              clear HRT HA1 HA2 HA3 hsum hlast hpas hsz ha hb
              have sj0 : (0 : Int) ≤ (s : Int) + (j : Int) := by omega
              have sj1 : (s : Int) + (j : Int) < (N : Int) := by omega
              rcases hno with hno | ⟨rfl, hno⟩
              · go_wp2
                go_round
                case rel => exact ⟨j + 1, by omega, by omega, by go_num, by rw [HS.out]; go_num, HPs.out⟩
                case measure => simp [intOf]; omega
              · go_wp2
                go_round
                case rel => exact ⟨j + 1, by omega, by omega, by go_num, by rw [HS.out]; go_num, HPs.out⟩
                case measure => simp [intOf]; omega
end Go.Proofs.Ytcacbekdghlncaa
