/- A number is read from its bytes: what checkByte and Read answer, for whatever they are handed. -/
import Derived.Test.YtjogccpnhcnedaaVLib
import Derived.Test.YtjogccpnhcnedaaVPure
import Derived.Laws.Bits64b
namespace Go.Proofs.Ytjogccpnhcnedaa
set_option maxRecDepth 100000
set_option linter.unusedVariables false
open Go.RowKit Go.Shelf

/-- What is wrong with a byte at a place. -/
def cbE (x i : Nat) : Int := if i = 9 ∧ 1 < x then 3 else if 0 < i ∧ x = 0 then 1 else 0
set_option maxHeartbeats 400000 in
theorem checkByte_any (x i : Nat) (hx : x < 256) (hi : i ≤ 9) (w : World) :
    Calls Try.prog 62 #[.int .u8 (x : Int), .int .i64 (i : Int)] w fun e w' => e = .returned (.int .i64 (cbE x i)) ∧ w = w' := by
  unfold cbE
  by_cases h1 : i = 9
  · subst h1
    by_cases h2 : 1 < x
    · rw [if_pos ⟨rfl, h2⟩]
      go_enter Try.func62, Try.ntmps62
      go_wp2
      go_ret
      exact ⟨rfl, rfl⟩
    · rw [if_neg (by omega)]
      have t1 : decide ((1 : Int) < (x : Int)) = false := by simp; omega
      by_cases h3 : x = 0
      · subst h3
        rw [if_pos (by omega)]
        go_enter Try.func62, Try.ntmps62
        go_wp2
        go_ret
        exact ⟨rfl, rfl⟩
      · rw [if_neg (by omega)]
        have t2 : ((x : Int) == 0) = false := by simp; omega
        go_enter Try.func62, Try.ntmps62
        go_wp2
        go_ret
        exact ⟨rfl, rfl⟩
  · rw [if_neg (by omega)]
    have t0 : ((i : Int) == 9) = false := by simp; omega
    by_cases h2 : i = 0
    · subst h2
      rw [if_neg (by omega)]
      go_enter Try.func62, Try.ntmps62
      go_wp2
      go_ret
      exact ⟨rfl, rfl⟩
    · have t1 : decide ((0 : Int) < (i : Int)) = true := by simp; omega
      by_cases h3 : x = 0
      · subst h3
        rw [if_pos (by omega)]
        go_enter Try.func62, Try.ntmps62
        go_wp2
        go_ret
        exact ⟨rfl, rfl⟩
      · rw [if_neg (by omega)]
        have t2 : ((x : Int) == 0) = false := by simp; omega
        go_enter Try.func62, Try.ntmps62
        go_wp2
        go_ret
        exact ⟨rfl, rfl⟩

/-- A number, a place and an error come back. -/
def ReadP (w : World) (n to : Nat) (err : Int) (e : Ending) (w' : World) : Prop := e = .returned (.tuple #[.int .u64 (n : Int), .int .i64 (to : Int), .int .i64 err]) ∧ Below w.heap.size w w'
/-- What Read answers. -/
def rdR (bs : List Nat) (p : Int) : Nat × Nat × Int :=
  if 4096 < bs.length then (0, 0, 2) else if p < 0 ∨ (bs.length : Int) < p then (0, 0, 3) else
    if (vr 0 0 (bs.drop p.toNat)).2.2 = 0 then ((vr 0 0 (bs.drop p.toNat)).1, p.toNat + (vr 0 0 (bs.drop p.toNat)).2.1, 0) else (0, 0, (vr 0 0 (bs.drop p.toNat)).2.2)

set_option maxHeartbeats 400000 in
theorem read_many (A : Option Addr) (n c : Nat) (p : Int) (w : World) (h : 4096 < n) :
    Calls Try.prog 28 #[.slice A n c, .int .i64 p] w (ReadP w 0 0 2) := by
  go_enter Try.func28, Try.ntmps28
  go_wp2
  go_ret3
  exact ⟨rfl, Below.refl _ _⟩
set_option maxHeartbeats 400000 in
theorem read_range (A : Option Addr) (n c : Nat) (p : Int) (w : World) (h : n ≤ 4096) (hp : p < 0 ∨ (n : Int) < p) :
    Calls Try.prog 28 #[.slice A n c, .int .i64 p] w (ReadP w 0 0 3) := by
  have hr : rgE 0 [decide (0 ≤ p), decide (p ≤ (n : Int))] = 3 := by
    unfold rgE
    rw [if_pos]
    refine ⟨rfl, ?_⟩
    rcases hp with hp | hp
    · have : decide (0 ≤ p) = false := by simp; omega
      rw [this]; rfl
    · have : decide (p ≤ (n : Int)) = false := by simp; omega
      rw [this]; cases decide (0 ≤ p) <;> rfl
  have HR := Lib.hid (range2 0 (decide (0 ≤ p)) (decide (p ≤ (n : Int))) 3 hr)
  clear hr hp
  go_enter Try.func28, Try.ntmps28
  go_wp2_with fail
  refine (HR.out _ _ rfl).mono ?_
  rintro e w1 ⟨rfl, B1⟩
  go_wp2
  go_ret3
  exact ⟨rfl, B1⟩

/-- At each round's head. -/
def VRel (rest : List Nat) (v p : Value) : Prop :=
  ∃ i acc : Nat, v = .int .u64 (acc : Int) ∧ p = .int .i64 (i : Int) ∧ i ≤ rest.length ∧ i ≤ 9 ∧ acc < 128 ^ i ∧ vr i acc (rest.drop i) = vr 0 0 rest

theorem rd_tail {w : World} {B : Nat} {A : Option Addr} {bs : List Nat} (h : Rd w B A bs) (p : Nat) : Rd w B (A.map (·.add p)) (bs.drop p) := by
  rcases h with rfl | ⟨b, off, rfl, hb, hc⟩
  · exact .inl (by simp)
  · refine .inr ⟨b, off + p, by simp only [Option.map_some]; congr 1; unfold Addr.add; split <;> simp_all, hb, fun i hi => ?_⟩
    rw [List.length_drop] at hi
    rw [List.getElem?_drop, Nat.add_assoc]
    exact hc (p + i) (by omega)
theorem or_place (acc y i : Nat) (hi : i ≤ 9) (ha : acc < 128 ^ i) (hy : y < 128) (h9 : i = 9 → y ≤ 1) :
    bits .or .u64 (acc : Int) (IntKind.u64.wrap ((y : Int) * 2 ^ (i * 7))) = ((acc + y * 128 ^ i : Nat) : Int) := by
  have e : (128 : Nat) ^ i = 2 ^ (7 * i) := by rw [Nat.pow_mul]
  rw [e] at ha ⊢
  have hb : y * 2 ^ (7 * i) < 18446744073709551616 := by
    by_cases h : i = 9
    · subst h
      have := h9 rfl
      have : y * 2 ^ (7 * 9) ≤ 1 * 2 ^ (7 * 9) := Nat.mul_le_mul_right _ this
      omega
    · have h1 : 2 ^ (7 * i) ≤ 2 ^ 56 := Nat.pow_le_pow_right (by omega) (by omega)
      have h2 : y * 2 ^ (7 * i) ≤ 127 * 2 ^ 56 := Nat.mul_le_mul (by omega) h1
      omega
  have ha2 : acc < 18446744073709551616 := by
    have h1 : 2 ^ (7 * i) ≤ 2 ^ 63 := Nat.pow_le_pow_right (by omega) (by omega)
    omega
  have e2 : ((y : Int) * 2 ^ (i * 7)) = ((y * 2 ^ (7 * i) : Nat) : Int) := by
    rw [Nat.mul_comm i 7]; simp
  rw [e2, IntKind.wrap_u64, Int.emod_eq_of_lt (by omega) (by omega), bits_or_u64_nat _ _ ha2 hb]
  congr 1
  have := Nat.shiftLeft_add_eq_or_of_lt ha y
  rw [Nat.shiftLeft_eq] at this
  rw [Nat.or_comm, ← this, Nat.add_comm]

set_option maxHeartbeats 1000000 in
theorem read_end (n : Nat) (hn2 : n ≤ 4096) (A : Option Addr) (c : Nat) (w : World) :
    Calls Try.prog 28 #[.slice A n c, .int .i64 (n : Int)] w (ReadP w 0 0 7) := by
  go_enter Try.func28, Try.ntmps28
  go_wp2_with fail
  refine (range2 0 true true 0 rfl _ _ rfl).mono ?_
  rintro e w1 ⟨rfl, B1⟩
  have HB := Lib.hid B1; clear B1
  go_wp2
  all_goals (go_loop [8, 30] (fun v p => VRel [] v p) (fun _ p => 0))
  case atStart => exact ⟨0, 0, rfl, rfl, by simp, by omega, by simp, rfl⟩
  case round =>
    obtain ⟨i, acc, rfl, rfl, hi, hi9, hacc, hvr⟩ := hrel
    obtain rfl : i = 0 := by simpa using hi
    clear hvr
    go_wp2
    go_ret3
    exact ⟨rfl, HB.out⟩
  case atStart => exact ⟨0, 0, rfl, rfl, by simp, by omega, by simp, rfl⟩
  case round =>
    obtain ⟨i, acc, rfl, rfl, hi, hi9, hacc, hvr⟩ := hrel
    obtain rfl : i = 0 := by simpa using hi
    clear hvr
    go_wp2
    go_ret3
    exact ⟨rfl, HB.out⟩

theorem vr_go (rest : List Nat) (i acc : Nat) (h : i < rest.length) : vr i acc (rest.drop i) = if i = 9 ∧ 1 < rest[i]?.getD 0 then (0, 0, 3) else if 0 < i ∧ rest[i]?.getD 0 = 0 then (0, 0, 1) else
      if rest[i]?.getD 0 < 128 then (acc + rest[i]?.getD 0 % 128 * 128 ^ i, i + 1, 0) else vr (i + 1) (acc + rest[i]?.getD 0 % 128 * 128 ^ i) (rest.drop (i + 1)) := by
  rw [List.drop_eq_getElem_cons h, List.getElem?_eq_getElem h, vr]
  rfl

theorem res_ok {r : Nat × Nat × Int} {p v to a k : Nat} {e0 : Int} (hr : (if r.2.2 = 0 then (r.1, p + r.2.1, 0) else (0, 0, r.2.2)) = (v, to, e0)) (h : (a, k, (0 : Int)) = r) : v = a ∧ to = p + k ∧ e0 = 0 := by
  subst h
  simp at hr
  exact ⟨hr.1.symm, hr.2.1.symm, hr.2.2.symm⟩
theorem res_bad {r : Nat × Nat × Int} {p v to : Nat} {e0 e : Int} (hr : (if r.2.2 = 0 then (r.1, p + r.2.1, 0) else (0, 0, r.2.2)) = (v, to, e0)) (h : (0, 0, e) = r) (he : e ≠ 0) : v = 0 ∧ to = 0 ∧ e0 = e := by
  subst h
  rw [if_neg he] at hr
  simp at hr
  exact ⟨hr.1.symm, hr.2.1.symm, hr.2.2.symm⟩
theorem cbE_ok {x i : Nat} (h : cbE x i = 0) : ¬ (i = 9 ∧ 1 < x) ∧ ¬ (0 < i ∧ x = 0) := by
  unfold cbE at h
  by_cases n1 : i = 9 ∧ 1 < x
  · rw [if_pos n1] at h; cases h
  · rw [if_neg n1] at h
    by_cases n2 : 0 < i ∧ x = 0
    · rw [if_pos n2] at h; cases h
    · exact ⟨n1, n2⟩
theorem cbE_bad {x i : Nat} {r : Nat × Nat × Int} (h : cbE x i ≠ 0) : (if i = 9 ∧ 1 < x then ((0, 0, 3) : Nat × Nat × Int) else if 0 < i ∧ x = 0 then (0, 0, 1) else r) = (0, 0, cbE x i) := by
  unfold cbE at h ⊢
  by_cases n1 : i = 9 ∧ 1 < x
  · rw [if_pos n1, if_pos n1]
  · rw [if_neg n1] at h ⊢
    rw [if_neg n1]
    by_cases n2 : 0 < i ∧ x = 0
    · rw [if_pos n2, if_pos n2]
    · rw [if_neg n2] at h; exact absurd rfl h

set_option maxHeartbeats 2000000 in
theorem read_in (rest : List Nat) (n p : Nat) (hn : rest.length = n - p) (hb : ∀ b ∈ rest, b < 256) (hn2 : n ≤ 4096) (hp : p < n) (b off : Nat) (c : Nat) (hc : n ≤ c) (w : World) (hw : b < w.heap.size)
    (h : ∀ i, i < rest.length → w.cell? ⟨b, off + p + i, none⟩ = some (.int .u8 ((rest[i]?.getD 0 : Nat) : Int))) (v to : Nat) (e0 : Int)
    (hr : (if (vr 0 0 rest).2.2 = 0 then ((vr 0 0 rest).1, p + (vr 0 0 rest).2.1, 0) else (0, 0, (vr 0 0 rest).2.2)) = (v, to, e0)) :
    Calls Try.prog 28 #[.slice (some ⟨b, off, none⟩) n c, .int .i64 (p : Int)] w (ReadP w v to e0) := by
  have HT := Lib.hid h; clear h
  have HLn := Lib.hid hn; clear hn
  have HBy := Lib.hid hb; clear hb
  have HR := Lib.hid hr; clear hr
  have hcp : ¬ c = p := by omega
  have hpc : (p : Int) ≤ (n : Int) := by omega
  go_enter Try.func28, Try.ntmps28
  go_wp2_with fail
  refine (range2 0 true true 0 rfl _ _ rfl).mono ?_
  rintro e w1 ⟨rfl, B1⟩
  have HB := Lib.hid B1; clear B1
  go_wp2
  go_loop [8, 30] (fun v p => VRel rest v p) (fun _ p => n - (intOf p).toNat)
  case atStart => exact ⟨0, 0, rfl, rfl, by simp, by omega, by simp, rfl⟩
  case round =>
    obtain ⟨i, acc, rfl, rfl, hi, hi9, hacc, hvr⟩ := hrel
    rw [HLn.out] at hi
    have HAc := Lib.hid hacc
    by_cases hlt : i < n - p
    · have hil : i < rest.length := by rw [HLn.out]; exact hlt
      have e1 := (HB.out.cell (p := ⟨b, off + p + i, none⟩) hw).trans (HT.out i hil)
      have hx : rest[i]?.getD 0 < 256 := by
        rw [List.getElem?_eq_getElem hil]; exact HBy.out _ (List.getElem_mem hil)
      rw [vr_go rest i acc hil] at hvr
      generalize rest[i]?.getD 0 = x at *
      have HV := Lib.hid hvr
      clear hvr
      by_cases hbad : cbE x i = 0
      · obtain ⟨n1, n2⟩ := cbE_ok hbad
        have HO : Hid (bits .or .u64 (acc : Int) (IntKind.u64.wrap ((x : Int) % 128 * 2 ^ (i * 7))) = ((acc + x % 128 * 128 ^ i : Nat) : Int)) := by
          show _ = _
          rw [show (x : Int) % 128 = ((x % 128 : Nat) : Int) from by omega]
          exact or_place acc (x % 128) i hi9 HAc.out (Nat.mod_lt _ (by omega)) (by omega)
        have HC := Lib.hid (checkByte_any x i hx hi9 w1)
        rw [hbad] at HC
        clear hbad hacc
        by_cases hx2 : x < 128
        · have HV2 : (acc + x % 128 * 128 ^ i, i + 1, (0 : Int)) = vr 0 0 rest := by
            have := HV.out
            rw [if_neg n1, if_neg n2, if_pos hx2] at this
            exact this
          obtain ⟨rfl, rfl, rfl⟩ := res_ok HR.out HV2
          clear HV n1 n2 HV2 HR
          go_wp2_with fail
          refine HC.out.mono ?_
          rintro e w2 ⟨rfl, rfl⟩
          go_wp2
          go_ret3
          rw [HO.out]
          exact ⟨by congr, HB.out⟩
        · have hi8 : i ≤ 8 := by omega
          have HV2 : Hid (vr (i + 1) (acc + x % 128 * 128 ^ i) (rest.drop (i + 1)) = vr 0 0 rest) := by
            have := HV.out
            rw [if_neg n1, if_neg n2, if_neg hx2] at this
            exact this
          have HA2 : Hid (acc + x % 128 * 128 ^ i < 128 ^ (i + 1)) := by
            show _ < _
            have h1 := HAc.out
            have h2 : x % 128 * 128 ^ i ≤ 127 * 128 ^ i := Nat.mul_le_mul_right _ (by omega)
            rw [Nat.pow_succ]
            omega
          clear HV n1 n2
          go_wp2_with fail
          refine HC.out.mono ?_
          rintro e w2 ⟨rfl, rfl⟩
          go_wp2
          go_round
          case rel => exact ⟨i + 1, _, by rw [HO.out], by go_num, by rw [HLn.out]; omega, by omega, HA2.out, HV2.out⟩
          case measure => simp [intOf]; omega
      · have HV2 : (0, 0, cbE x i) = vr 0 0 rest := by
          rw [← HV.out, cbE_bad hbad]
        obtain ⟨rfl, rfl, rfl⟩ := res_bad HR.out HV2 hbad
        have HC := Lib.hid (checkByte_any x i hx hi9 w1)
        have t1 : (cbE x i != 0) = true := by simpa using hbad
        clear HV HV2 HR hbad hacc
        generalize cbE x i = e0 at *
        go_wp2_with fail
        refine HC.out.mono ?_
        rintro e w2 ⟨rfl, rfl⟩
        go_wp2
        go_ret3
        exact ⟨rfl, HB.out⟩
    · have hie : i = n - p := by omega
      have HV2 : (0, 0, (7 : Int)) = vr 0 0 rest := by
        rw [← hvr, hie, ← HLn.out, List.drop_length]; rfl
      obtain ⟨rfl, rfl, rfl⟩ := res_bad HR.out HV2 (by decide)
      clear hie HV2 hvr hacc HR
      go_wp2
      go_ret3
      exact ⟨rfl, HB.out⟩

theorem read_any (bs : List Nat) (n : Nat) (hn : bs.length = n) (hb : ∀ b ∈ bs, b < 256) (p : Int) (A : Option Addr) (c : Nat) (hc : n ≤ c) (w : World) (h : Rd w w.heap.size A bs) (v to : Nat) (e0 : Int) (hr : rdR bs p = (v, to, e0)) :
    Calls Try.prog 28 #[.slice A n c, .int .i64 p] w (ReadP w v to e0) := by
  unfold rdR at hr
  by_cases h1 : 4096 < bs.length
  · rw [if_pos h1] at hr
    cases hr
    exact read_many A n c p w (by omega)
  · rw [if_neg h1] at hr
    by_cases h2 : p < 0 ∨ (bs.length : Int) < p
    · rw [if_pos h2] at hr
      cases hr
      exact read_range A n c p w (by omega) (by omega)
    · rw [if_neg h2] at hr
      obtain ⟨k, rfl⟩ : ∃ k : Nat, p = (k : Int) := ⟨p.toNat, by omega⟩
      rw [Int.toNat_natCast] at hr
      by_cases h3 : k < n
      · rcases h with h | ⟨b, off, rfl, hw, hcell⟩
        · rw [h] at hn; simp at hn; omega
        · refine read_in (bs.drop k) n k (by rw [List.length_drop, hn]) (fun b hb' => hb b (List.mem_of_mem_drop hb')) (by omega) h3 b off c hc w hw ?_ v to e0 hr
          intro i hi
          rw [List.length_drop] at hi
          rw [List.getElem?_drop, Nat.add_assoc]
          exact hcell (k + i) (by omega)
      · obtain rfl : k = n := by omega
        rw [List.drop_of_length_le (by omega), vr_nil, if_neg (by decide)] at hr
        cases hr
        exact read_end _ (by omega) A c w
end Go.Proofs.Ytjogccpnhcnedaa
