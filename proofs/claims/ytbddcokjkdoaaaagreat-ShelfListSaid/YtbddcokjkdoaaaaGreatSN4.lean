/- Texts of this proof, one behind the other; each fact names its conditions. -/
import Derived.Test.YtbddcokjkdoaaaaGreatSN2
import Derived.Test.YtbddcokjkdoaaaaGreatSN3
namespace Go.Proofs.YtbddcokjkdoaaaaGreat
section
set_option maxRecDepth 100000
set_option linter.unusedVariables false
open Go.RowKit
theorem bitLen_succ (n : Nat) (h : n + 1 < 18446744073709551616) : Lib.bitLen (n + 1) = lg n + 1 := by
  have a := lg_le n
  have b := lg_lt n
  rw [Lib.bitLen_shift (lg n) (n + 1) a h, Nat.div_eq_of_lt_le (k := 1) (by omega) (by rw [Nat.pow_succ] at b; omega)]
  rfl
def cc (bs : List Bool) : List Value := bs.map Value.bool
theorem cc_get (bs : List Bool) (i : Nat) (h : i < bs.length) : (cc bs)[i]? = some (.bool (bs[i]?.getD false)) := by
  simp [cc, List.getElem?_map, List.getElem?_eq_getElem h]
def IxRel (bs : List Bool) (p : Value) : Prop := ∃ i : Nat, i ≤ bs.length ∧ p = .int .i64 (i : Int) ∧ ∀ j, j < i → bs[j]?.getD false = true
set_option maxHeartbeats 1000000 in
theorem index_b (bs : List Bool) (r : Bool) (hr : bs.contains false = r) (n : Nat) (hn : bs.length = n) (hl : n ≤ 100) (A : Option Addr) (c : Nat) (w : World) (h : RdV w w.heap.size A (cc bs)) :
    Calls Tryz.prog 139 #[.slice A n c, .bool false] w fun e w' => ∃ k : Int, e = .returned (.int .i64 k) ∧ w = w' ∧ Hid (decide (0 ≤ k) = r) := by
  have HQ := Lib.hid hr; clear hr
  have HR := Lib.hid h; clear h
  have HN := Lib.hid hn; clear hn
  go_enter Tryz.func139, Tryz.ntmps139
  go_wp2
  go_loop [5, 8] (fun _ p => IxRel bs p) (fun _ p => n - (intOf p).toNat)
  case atStart => exact ⟨0, Nat.zero_le _, rfl, fun j hj => absurd hj (Nat.not_lt_zero _)⟩
  case round =>
    obtain ⟨i, hi, rfl, hall⟩ := hrel
    rw [HN.out] at hi
    have HAl := Lib.hid hall; clear hall
    by_cases hlt : i < n
    · have hil : i < bs.length := by rw [HN.out]; exact hlt
      obtain ⟨b, off, rfl, hb, hc⟩ := HR.out.at_ (cc_get bs i hil)
      have HM : Hid (bs[i]?.getD false = false → r = true) := by
        intro e
        rw [← HQ.out]
        rw [List.getElem?_eq_getElem hil] at e
        simp only [Option.getD_some] at e
        rw [List.contains_iff_mem, ← e]
        exact List.getElem_mem hil
      have HE : Hid (bs[i]?.getD false = true → ∀ j, j < i + 1 → bs[j]?.getD false = true) := by
        intro e j hj
        by_cases h : j = i
        · subst h; exact e
        · exact HAl.out j (by omega)
      generalize bs[i]?.getD false = bt at *
      cases bt
      · have HM2 : Hid (r = true) := HM.out rfl
        clear HM HE
        go_wp2
        go_ret
        exact ⟨_, rfl, rfl, show decide _ = r by rw [HM2.out]; simp⟩
      · have HE2 : Hid (∀ j, j < i + 1 → bs[j]?.getD false = true) := HE.out rfl
        clear HM HE
        go_wp2
        go_round
        case rel => exact ⟨i + 1, by rw [HN.out]; omega, by go_num, HE2.out⟩
        case measure => simp [intOf]; omega
    · have HF : Hid (r = false) := by
        show _ = _
        rw [← HQ.out]
        rw [Bool.eq_false_iff]
        intro e
        rw [List.contains_iff_mem] at e
        obtain ⟨j, hj, e⟩ := List.mem_iff_getElem.1 e
        have := HAl.out j (by rw [HN.out] at hj; omega)
        rw [List.getElem?_eq_getElem hj, e] at this
        simp at this
      go_wp2
      go_ret
      exact ⟨_, rfl, rfl, show decide _ = r by rw [HF.out]; decide⟩
set_option maxHeartbeats 1000000 in
theorem contains_b (bs : List Bool) (n : Nat) (hn : bs.length = n) (hl : n ≤ 100) (A : Option Addr) (c : Nat) (w : World) (h : RdV w w.heap.size A (cc bs)) :
    Calls Tryz.prog 96 #[.slice A n c, .bool false] w fun e w' => e = .returned (.bool (bs.contains false)) ∧ w = w' := by
  have HI := Lib.hid (index_b bs _ rfl n hn hl A c w h); clear h hn
  generalize bs.contains false = r at *
  go_enter Tryz.func96, Tryz.ntmps96
  go_wp2_with fail
  refine HI.out.mono ?_
  rintro e w1 ⟨k, rfl, rfl, hk⟩
  go_wp2
  go_ret
  exact ⟨by rw [← hk.out]; rfl, rfl⟩
def rgE (e : Int) (bs : List Bool) : Int := if e = 0 ∧ bs.contains false = true then 3 else e
set_option maxHeartbeats 1000000 in
theorem range_any (e : Int) (bs : List Bool) (n : Nat) (hn : bs.length = n) (hl : n ≤ 100) (A : Option Addr) (c : Nat) (w : World) (h : RdV w w.heap.size A (cc bs)) :
    Calls Tryz.prog 48 #[.int .i64 e, .slice A n c] w fun x w' => x = .returned (.int .i64 (rgE e bs)) ∧ w = w' := by
  have HI := Lib.hid (contains_b bs n hn hl A c w h); clear h hn
  unfold rgE
  generalize bs.contains false = r at *
  by_cases he : e = 0
  · subst he
    cases r
    · rw [if_neg (by simp)]
      go_enter Tryz.func48, Tryz.ntmps48
      go_wp2_with fail
      refine HI.out.mono ?_
      rintro e w1 ⟨rfl, rfl⟩
      go_wp2
      go_ret
      exact ⟨rfl, rfl⟩
    · rw [if_pos (by simp)]
      go_enter Tryz.func48, Tryz.ntmps48
      go_wp2_with fail
      refine HI.out.mono ?_
      rintro e w1 ⟨rfl, rfl⟩
      go_wp2
      go_ret
      exact ⟨rfl, rfl⟩
  · rw [if_neg (fun h => he h.1)]
    have t1 : (e == 0) = false := by simpa using he
    clear he HI
    go_enter Tryz.func48, Tryz.ntmps48
    go_wp2
    go_ret
    exact ⟨rfl, rfl⟩
theorem rdv_cc (w : World) (bs : List Bool) : RdV (w.alloc (.cells (cc bs).toArray 4)) (w.alloc (.cells (cc bs).toArray 4)).heap.size (some ⟨w.heap.size, 0, none⟩) (cc bs) := by
  refine .inr ⟨w.heap.size, 0, rfl, by simp, fun i v hi => ?_⟩
  rw [cell_of_row _ _ _ _ _ _ (World.alloc_heap_new w (.cells (cc bs).toArray 4))]
  simpa using hi
theorem range_new (e : Int) (bs : List Bool) (n : Nat) (hn : bs.length = n) (hl : n ≤ 100) (r : Int) (hr : rgE e bs = r) (w : World) :
    Calls Tryz.prog 48 #[.int .i64 e, .slice (some ⟨w.heap.size, 0, none⟩) n n] (w.alloc (.cells (cc bs).toArray 4)) fun x w' => x = .returned (.int .i64 r) ∧ w.alloc (.cells (cc bs).toArray 4) = w' := by
  subst hr
  exact range_any e bs n hn hl _ _ _ (rdv_cc w bs)
theorem range_on (e : Int) (bs : List Bool) (n : Nat) (hn : bs.length = n) (hl : n ≤ 100) (r : Int) (hr : rgE e bs = r) (w : World) :
    Calls Tryz.prog 48 #[.int .i64 e, .slice (some ⟨w.heap.size, 0, none⟩) n n] (w.alloc (.cells (cc bs).toArray 4)) fun x w' => x = .returned (.int .i64 r) ∧ Below w.heap.size w w' :=
  (range_new e bs n hn hl r hr w).mono fun _ _ ⟨h1, h2⟩ => ⟨h1, by rw [← h2]; exact one_below _ _⟩
theorem range1 (e : Int) (a : Bool) (r : Int) (hr : rgE e [a] = r) (w : World) (B : Nat) (hB : w.heap.size = B) :
    Calls Tryz.prog 48 #[.int .i64 e, .slice (some ⟨B, 0, none⟩) 1 1] (w.alloc (.cells #[.bool a] 4)) fun x w' => x = .returned (.int .i64 r) ∧ Below w.heap.size w w' :=
  hB ▸ range_on e [a] 1 rfl (by decide) r hr w
theorem range2 (e : Int) (a b : Bool) (r : Int) (hr : rgE e [a, b] = r) (w : World) (B : Nat) (hB : w.heap.size = B) :
    Calls Tryz.prog 48 #[.int .i64 e, .slice (some ⟨B, 0, none⟩) 2 2] (w.alloc (.cells #[.bool a, .bool b] 4)) fun x w' => x = .returned (.int .i64 r) ∧ Below w.heap.size w w' :=
  hB ▸ range_on e [a, b] 2 rfl (by decide) r hr w
theorem range3 (e : Int) (a b c : Bool) (r : Int) (hr : rgE e [a, b, c] = r) (w : World) (B : Nat) (hB : w.heap.size = B) :
    Calls Tryz.prog 48 #[.int .i64 e, .slice (some ⟨B, 0, none⟩) 3 3] (w.alloc (.cells #[.bool a, .bool b, .bool c] 4)) fun x w' => x = .returned (.int .i64 r) ∧ Below w.heap.size w w' :=
  hB ▸ range_on e [a, b, c] 3 rfl (by decide) r hr w
set_option maxHeartbeats 1000000 in
theorem tail_any (n : Nat) (h : n + 1 < 18446744073709551616) (w : World) :
    Calls Tryz.prog 244 #[.int .u64 (n : Int)] w fun e w' => e = .returned (.int .i64 (lg n : Int)) ∧ w = w' := by
  have HL := Lib.hid (len64_any (n + 1) h)
  rw [bitLen_succ n h] at HL
  have hs := lg_lt_of n 64 h
  generalize lg n = k at *
  go_enter Tryz.func244, Tryz.ntmps244
  go_wp2_with fail
  refine (HL.out _).mono ?_
  rintro e w1 ⟨rfl, rfl⟩
  go_wp2
  go_ret
  exact ⟨by go_num, rfl⟩
end
end Go.Proofs.YtbddcokjkdoaaaaGreat
