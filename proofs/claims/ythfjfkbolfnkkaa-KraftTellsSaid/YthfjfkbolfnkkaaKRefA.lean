/- The document's own answers on lengths: KraftCheck, KraftRoom; for whatever lengths they are handed. -/
import Derived.Test.YthfjfkbolfnkkaaKChk
import Derived.Test.YthfjfkbolfnkkaaRefNumA
namespace Go.Proofs.Ythfjfkbolfnkkaa
set_option maxRecDepth 100000
set_option linter.unusedVariables false
open Go.RowKit Go.Shelf

set_option maxHeartbeats 1000000 in
theorem refchk_any (xs : List Int) (n : Nat) (hn : xs.length = n) (hn2 : n ≤ 9223372036854775807) (A : Option Addr) (c : Nat) (w : World) (h : RdV w w.heap.size A (zc xs)) :
    Calls Try.prog 16 #[.slice A n c] w fun e w' => e = .returned (.int .i64 (kchk xs)) ∧ Below w.heap.size w w' := by
  unfold kchk
  rw [hn]
  by_cases h64 : 64 < n
  · rw [if_pos h64]
    have t0 : decide ((64 : Int) < (n : Int)) = true := by simp; omega
    have t1 : decide (64 < n) = true := by simpa using h64
    go_enter Try.func16, Try.ntmps16
    go_wp2
    go_ret
    exact ⟨rfl, Below.refl _ _⟩
  · rw [if_neg h64]
    have HX := Lib.hid h; have HN := Lib.hid hn
    have t0 : decide ((64 : Int) < (n : Int)) = false := by simp; omega
    have t1 : decide (64 < n) = false := by simpa using h64
    have hn3 : n ≤ 64 := by omega
    clear h hn
    go_enter Try.func16, Try.ntmps16
    go_wp2
    clear t0 t1
    go_loopw [3] (fun p wr => EchRel (rg 24) xs w p wr) (fun p _ => n - (intOf p).toNat)
    case atStart => exact ⟨0, Nat.zero_le _, rfl, fun j hj => absurd hj (Nat.not_lt_zero _), Below.refl _ _⟩
    case round =>
      obtain ⟨i, hi, rfl, ht, hbel⟩ := hrel
      rw [HN.out] at hi
      by_cases hlt : i < n
      · have hin : i < xs.length := by rw [HN.out]; exact hlt
        obtain ⟨b, off, rfl, hb, hc1⟩ := (HX.out.on hbel).at_ (zc_get xs i hin)
        have hat := eachE_at (rg 24) xs i hin ht
        have HT := Lib.hid ht
        have HB := Lib.hid hbel
        have t1 : decide ((i : Int) < (n : Int)) = true := by simp; omega
        have t2 : decide (i < n) = true := by simpa using hlt
        have t3 : (0 : Int) ≤ (i : Int) := by omega
        have t4 : (i : Int) < (n : Int) := by omega
        obtain ⟨x, HED⟩ : ∃ x, Hid (xs[i]?.getD default = x) := ⟨_, rfl⟩
        rw [show xs[i]?.getD 0 = x from HED.out] at hc1
        rw [HED.out] at hat
        by_cases hr1 : 0 ≤ x ∧ x ≤ 24
        · have HF : Hid (rg 24 x = 0) := (rg_zero 24 x).2 hr1
          have HBt := Lib.hid (between_yes x 0 24 hr1)
          clear hat ht hbel hr1
          go_wp2_with fail
          refine (HBt.out _).mono ?_
          rintro e _ ⟨rfl, rfl⟩
          go_wp2
          go_roundw
          case rel => exact ⟨i + 1, by rw [HN.out]; omega, by go_num, fun j hj => by
            rcases Nat.lt_or_ge j i with h | h
            · exact HT.out j h
            · obtain rfl : j = i := by omega
              rw [HED.out]; exact HF.out, HB.out⟩
          case measure => simp [intOf]; omega
        · have hf : rg 24 x = 3 := by rcases rg_or 24 x with q | q; (exact absurd ((rg_zero 24 x).1 q) hr1); exact q
          have HE := Lib.hid (hat (by rw [hf]; decide))
          rw [hf] at HE
          have HBt := Lib.hid (between_no x 0 24 hr1)
          clear hat ht hbel hr1 hf
          go_wp2_with fail
          refine (HBt.out _).mono ?_
          rintro e _ ⟨rfl, rfl⟩
          go_wp2
          go_ret
          exact ⟨ret_i64 HE.out.symm, HB.out⟩
      · have HT : Hid (eachE (rg 24) xs = 0) := eachE_all (rg 24) xs (fun j hj => ht j (by rw [HN.out] at hj; omega))
        have HB := Lib.hid hbel
        have t1 : decide ((i : Int) < (n : Int)) = false := by simp; omega
        have t2 : decide (i < n) = false := by simpa using hlt
        clear ht hbel
        go_wp2
        go_ret
        exact ⟨ret_i64 HT.out.symm, HB.out⟩

/-- What lengths up to n take of the room at n. -/
def tkU (n : Nat) : List Nat → Nat
  | [] => 0
  | x :: t => (if x = 0 ∨ n < x then 0 else 2 ^ (n - x)) + tkU n t
theorem tkU_succ (n : Nat) : ∀ l : List Nat, tkU (n + 1) l = 2 * tkU n l + l.count (n + 1)
  | [] => by simp [tkU]
  | x :: t => by
    have ih := tkU_succ n t
    unfold tkU
    rw [ih, List.count_cons]
    by_cases h0 : x = 0
    · subst h0; simp <;> omega
    · by_cases h1 : x ≤ n
      · rw [if_neg (by omega), if_neg (by omega), if_neg (by simp; omega), show n + 1 - x = (n - x) + 1 by omega, Nat.pow_succ]; omega
      · by_cases h2 : x = n + 1
        · subst h2
          rw [if_neg (by omega), if_pos (by omega), if_pos (by simp)]
          simp <;> omega
        · rw [if_pos (by omega), if_pos (by omega), if_neg (by simp; omega)]; omega
theorem tkU_zero : ∀ l : List Nat, tkU 0 l = 0
  | [] => rfl
  | x :: t => by unfold tkU; rw [if_pos (by omega), tkU_zero t]
theorem tkU_24 : ∀ l : List Nat, (∀ x ∈ l, x ≤ 24) → tkU 24 l = tkn l
  | [], _ => rfl
  | x :: t, h => by
    have h1 := h x (by simp)
    unfold tkU tkn tk
    rw [tkU_24 t (fun y hy => h y (by simp [hy]))]
    by_cases h0 : x = 0
    · subst h0; simp
    · rw [if_neg (by omega), if_neg h0]
theorem tkU_bd (n : Nat) (hn : n ≤ 24) : ∀ l : List Nat, tkU n l ≤ l.length * 8388608
  | [] => by simp [tkU]
  | x :: t => by
    have ih := tkU_bd n hn t
    unfold tkU
    have : (if x = 0 ∨ n < x then 0 else 2 ^ (n - x)) ≤ 8388608 := by
      by_cases h : x = 0 ∨ n < x
      · rw [if_pos h]; omega
      · rw [if_neg h]; exact Nat.le_trans (Nat.pow_le_pow_right (by omega) (show n - x ≤ 23 by omega)) (by decide)
    simp only [List.length_cons]; omega
/-- The room that is left at n. -/
def lfU (n : Nat) (l : List Nat) : Int := ((2 ^ n : Nat) : Int) - (tkU n l : Int)
theorem lfU_succ (n : Nat) (l : List Nat) : 2 * lfU n l - (l.count (n + 1) : Int) = lfU (n + 1) l := by
  unfold lfU; rw [tkU_succ, Nat.pow_succ]; omega
theorem lfU_bd (n : Nat) (hn : n ≤ 24) (l : List Nat) (hl : l.length ≤ 64) : -1000000000 ≤ lfU n l ∧ lfU n l ≤ 1000000000 := by
  have h1 := tkU_bd n hn l
  have h2 : (2 : Nat) ^ n ≤ 16777216 := Nat.le_trans (Nat.pow_le_pow_right (by omega) hn) (by decide)
  unfold lfU
  generalize (2 : Nat) ^ n = q at *
  omega
def KrO (l : List Nat) (w : World) (v p : Value) (wr : World) : Prop :=
  ∃ n : Nat, 1 ≤ n ∧ n ≤ 25 ∧ p = .int .i64 (n : Int) ∧ v = .int .i64 (lfU (n - 1) l) ∧ Below w.heap.size w wr
def KrI (l : List Nat) (n : Nat) (L : Int) (w : World) (v p : Value) (wr : World) : Prop :=
  ∃ s : Nat, s ≤ l.length ∧ p = .int .i64 (s : Int) ∧ v = .int .i64 (2 * L - ((l.take s).count n : Int)) ∧ Below w.heap.size w wr
set_option maxHeartbeats 1000000 in
theorem refroom_ok (l : List Nat) (n : Nat) (hn : l.length = n) (h64 : n ≤ 64) (h24 : ∀ x ∈ l, x ≤ 24) (A : Option Addr) (c : Nat) (w : World) (h : RdV w w.heap.size A (zc (ns l))) :
    Calls Try.prog 17 #[.slice A n c] w fun e w' => e = .returned (.int .i64 (16777216 - (tkn l : Int))) ∧ Below w.heap.size w w' := by
  have HX := Lib.hid h; have HN := Lib.hid hn
  have HE : Hid (lfU 24 l = 16777216 - (tkn l : Int)) := by show _ = _; unfold lfU; rw [tkU_24 l h24]; rfl
  have HL0 : Hid (lfU 0 l = 1) := by show _ = _; unfold lfU; rw [tkU_zero]; rfl
  have HBd : Hid (∀ n, n ≤ 24 → -1000000000 ≤ lfU n l ∧ lfU n l ≤ 1000000000) := fun n h => lfU_bd n h l (by omega)
  have HSu : Hid (∀ n, 1 ≤ n → 2 * lfU (n - 1) l - (l.count n : Int) = lfU n l) := fun n h => by
    have := lfU_succ (n - 1) l
    rwa [Nat.sub_add_cancel h] at this
  clear h hn h24
  go_enter Try.func17, Try.ntmps17
  go_wp2
  go_loopw [3, 4] (fun v p wr => KrO l w v p wr) (fun _ p _ => 25 - (intOf p).toNat)
  case atStart => exact ⟨1, Nat.le_refl _, by decide, rfl, by rw [show 1 - 1 = 0 from rfl, HL0.out], Below.refl _ _⟩
  case round =>
    obtain ⟨k, hk1, hk2, rfl, rfl, hbel⟩ := hrel
    have HB := Lib.hid hbel
    by_cases hk : k ≤ 24
    · have hbd := HBd.out (k - 1) (by omega)
      have HS := Lib.hid (HSu.out k hk1)
      obtain ⟨L, hL⟩ : ∃ L, lfU (k - 1) l = L := ⟨_, rfl⟩
      rw [hL] at hbd HS ⊢
      clear hL hbel
      have t1 : decide ((k : Int) ≤ 24) = true := by simp; omega
      have t2 : decide (k ≤ 24) = true := by simpa using hk
      have tw : IntKind.i64.wrap (2 * L) = 2 * L := IntWalk.i64_in _ (by omega)
      go_wp2
      go_loopw [3, 5] (fun v p w' => KrI l k L w v p w') (fun _ p _ => n - (intOf p).toNat)
      case atStart => exact ⟨0, Nat.zero_le _, rfl, by simp, HB.out⟩
      case round =>
        obtain ⟨s, hs, rfl, rfl, hbel⟩ := hrel
        rw [HN.out] at hs
        have hct : (l.take s).count k ≤ 64 := Nat.le_trans List.count_le_length (by rw [List.length_take]; omega)
        have HB2 := Lib.hid hbel
        by_cases hlt : s < n
        · have hin : s < l.length := by rw [HN.out]; exact hlt
          obtain ⟨b, off, rfl, hb, hc1⟩ := (HX.out.on hbel).at_ (ns_get l s hin)
          have hcs : (l.take (s + 1)).count k = (l.take s).count k + if l[s]?.getD 0 = k then 1 else 0 := by
            rw [take_snoc l s hin, List.count_append, List.count_singleton]; simp
          generalize l[s]?.getD 0 = x at *
          generalize (l.take s).count k = C at *
          have t3 : decide ((s : Int) < (n : Int)) = true := by simp; omega
          have t4 : decide (s < n) = true := by simpa using hlt
          have t5 : (0 : Int) ≤ (s : Int) := by omega
          have t6 : (s : Int) < (n : Int) := by omega
          by_cases hx : x = k
          · rw [if_pos hx] at hcs
            have HC := Lib.hid hcs
            have t7 : ((x : Int) == (k : Int)) = true := by rw [hx]; simp
            have tw2 : IntKind.i64.wrap (2 * L - (C : Int) - 1) = 2 * L - (C : Int) - 1 := IntWalk.i64_in _ (by omega)
            clear hcs hbel hx
            go_wp2
            go_roundw
            case rel => exact ⟨s + 1, by rw [HN.out]; omega, by go_num, by rw [HC.out, show ((C + 1 : Nat) : Int) = (C : Int) + 1 by omega, show 2 * L - (C : Int) - 1 = 2 * L - ((C : Int) + 1) by omega], HB2.out⟩
            case measure => simp [intOf]; omega
          · rw [if_neg hx] at hcs
            have HC := Lib.hid hcs
            have t7 : ((x : Int) == (k : Int)) = false := by simp; omega
            clear hcs hbel hx
            go_wp2
            go_roundw
            case rel => exact ⟨s + 1, by rw [HN.out]; omega, by go_num, by rw [HC.out]; rfl, HB2.out⟩
            case measure => simp [intOf]; omega
        · have HT : Hid (l.take s = l) := List.take_of_length_le (by rw [HN.out]; omega)
          have t3 : decide ((s : Int) < (n : Int)) = false := by simp; omega
          have t4 : decide (s < n) = false := by simpa using hlt
          clear hbel hct
          go_wp2
          go_roundw
          case rel => exact ⟨k + 1, by omega, by omega, by go_num, by rw [HT.out, HS.out, Nat.add_sub_cancel], HB2.out⟩
          case measure => simp [intOf]; omega
    · obtain rfl : k = 25 := by omega
      clear hbel
      go_wp2
      go_ret
      exact ⟨by rw [← HE.out]; rfl, HB.out⟩
end Go.Proofs.Ythfjfkbolfnkkaa
