/- The document's own BitsCheck answers what Check answers, for whatever bits it is handed. -/
import Derived.Test.YtgibbokhdfblmaaRefPack
namespace Go.Proofs.Ytgibbokhdfblmaa
set_option maxRecDepth 100000
set_option linter.unusedVariables false
open Go.RowKit

theorem last_bits : ∀ x : Fin 256, ∀ r : Fin 8, decide (x.val * 2 ^ r.val % 256 = 0) = decide (∀ j : Fin 8, r.val ≤ j.val → x.val / 2 ^ (7 - j.val) % 2 = 0) := by decide +kernel

/-- Nothing stands behind the last bit. -/
theorem stray_iff (n : Nat) (bs : List Nat) (hb : ∀ b ∈ bs, b < 256) (hl : bs.length = (n + 7) / 8) : stray n bs = false ↔ ∀ i, n ≤ i → i < 8 * bs.length → bitAt bs i = false := by
  unfold stray
  by_cases hr : n % 8 = 0
  · simp only [hr, bne_self_eq_false, Bool.false_and, true_iff]
    intro i h1 h2
    omega
  · have hk : bs.length - 1 = n / 8 := by omega
    have e0 : (n % 8 != 0) = true := by simpa using hr
    rw [hk, e0, Bool.true_and]
    have hx := getD_lt bs hb (n / 8)
    have key := last_bits ⟨bs[n / 8]?.getD 0, hx⟩ ⟨n % 8, Nat.mod_lt _ (by omega)⟩
    simp only at key
    rw [decide_eq_decide] at key
    rw [bne_eq_false_iff_eq, key]
    constructor
    · intro h i h1 h2
      have hq : i / 8 = n / 8 := by omega
      have := h ⟨i % 8, Nat.mod_lt _ (by omega)⟩ (by simp only; omega)
      unfold bitAt
      rw [hq]
      simp only at this
      rw [this]; rfl
    · intro h j hj
      have := h (8 * (n / 8) + j.val) (by omega) (by have := j.isLt; omega)
      unfold bitAt at this
      have hj8 := j.isLt
      rw [show (8 * (n / 8) + j.val) / 8 = n / 8 from by omega, show (8 * (n / 8) + j.val) % 8 = j.val from by omega] at this
      simpa using this

def CKRel (n : Nat) (bs : List Nat) (M : Nat) (p : Value) : Prop := ∃ i : Nat, n ≤ i ∧ i ≤ M ∧ p = .int .i64 (i : Int) ∧ ∀ t, n ≤ t → t < i → bitAt bs t = false

theorem unpack_get (m : Nat) (bs : List Nat) (i : Nat) (h : i < m) : (unpack m bs)[i]?.getD false = bitAt bs i := by
  rw [List.getElem?_eq_getElem (by rw [unpack_length]; exact h)]
  simp [unpack, bitAt]

set_option maxHeartbeats 400000 in
theorem rcheck_out (len : Int) (A : Option Addr) (n c : Nat) (w : World) (h : ¬ (0 ≤ len ∧ len ≤ 8192)) :
    Calls Try.prog 32 #[.agg #[.int .i64 len, .slice A n c]] w fun e w' => e = .returned (.int .i64 3) ∧ Below w.heap.size w w' := by
  have HC := Lib.hid (between_no len 0 8192 h)
  clear h
  go_enter Try.func32, Try.ntmps32
  go_wp2_with (go_at_call 59; refine (HC.out _).mono ?_; rintro e w1 ⟨rfl, rfl⟩)
  go_ret
  exact ⟨rfl, one_below w _⟩
set_option maxHeartbeats 400000 in
theorem rcheck_len (m : Nat) (hm : m ≤ 8192) (A : Option Addr) (n c : Nat) (w : World) (hn : n ≠ (m + 7) / 8) :
    Calls Try.prog 32 #[.agg #[.int .i64 (m : Int), .slice A n c]] w fun e w' => e = .returned (.int .i64 1) ∧ Below w.heap.size w w' := by
  have HC := Lib.hid (between_yes (m : Int) 0 8192 ⟨by omega, by omega⟩)
  by_cases hr : m % 8 = 0
  · have t1 : ¬ (0 : Int) < (m : Int) % 8 := by omega
    have t2 : ((n : Int) != (m : Int) / 8) = true := by simp; omega
    clear hn hr
    go_enter Try.func32, Try.ntmps32
    go_wp2_with (go_at_call 59; refine (HC.out _).mono ?_; rintro e w1 ⟨rfl, rfl⟩)
    go_ret
    exact ⟨rfl, one_below w _⟩
  · have t1 : (0 : Int) < (m : Int) % 8 := by omega
    have t2 : ((n : Int) != (m : Int) / 8 + 1) = true := by simp; omega
    clear hn hr
    go_enter Try.func32, Try.ntmps32
    go_wp2_with (go_at_call 59; refine (HC.out _).mono ?_; rintro e w1 ⟨rfl, rfl⟩)
    go_ret
    exact ⟨rfl, one_below w _⟩

/-- BitList, called from BitsCheck. -/
theorem bl_of (m N : Nat) (hN : N ≤ 1024) (A : Option Addr) (c : Nat) (bs : List Nat) (hn : bs.length = N) (hb : ∀ b ∈ bs, b < 256) (w : World) (h : Rd w w.heap.size A bs) :
    Calls Try.prog 22 #[.agg #[.int .i64 ((8 * N : Nat) : Int), .slice A N c]] (w.alloc (.cells #[.int .i64 (m : Int), .slice A N c] 25)) fun e w' => ∃ B d, e = .returned (.slice B (8 * N) d) ∧ RdV w' w'.heap.size B (ic (unpack (8 * N) bs)) ∧ Below (w.heap.size + 1) (w.alloc (.cells #[.int .i64 (m : Int), .slice A N c] 25)) w' := by
  refine (bitList_any (8 * N) (by omega) A N c bs hn (Nat.le_refl _) hb _ (h.on (one_below w _)) _ rfl).mono ?_
  rintro e w' ⟨B, d, rfl, ho, hbl⟩
  rw [unpack_length] at ho ⊢
  rw [World.size_alloc] at hbl
  exact ⟨B, d, rfl, own_rdv ho, hbl⟩

set_option maxRecDepth 100000 in
set_option maxHeartbeats 2000000 in
theorem rcheck_in (m : Nat) (hm : m ≤ 8192) (A : Option Addr) (N c : Nat) (bs : List Nat) (hn : bs.length = N) (hb : ∀ b ∈ bs, b < 256) (w : World) (h : Rd w w.heap.size A bs) (hN : N = (m + 7) / 8) (cv : Int) (hcv : cv = if stray m bs = true then 1 else 0) :
    Calls Try.prog 32 #[.agg #[.int .i64 (m : Int), .slice A N c]] w fun e w' => e = .returned (.int .i64 cv) ∧ Below w.heap.size w w' := by
  have HC := Lib.hid (between_yes (m : Int) 0 8192 ⟨by omega, by omega⟩)
  have HB := Lib.hid (bl_of m N (by omega) A c bs hn hb w h)
  have hsi := stray_iff m bs hb (by rw [hn]; exact hN)
  rw [hn] at hsi
  have HSI := Lib.hid hsi; clear hsi h hb
  have HN := Lib.hid hn; clear hn
  have HCV := Lib.hid hcv; clear hcv
  have hMm : m ≤ 8 * N := by omega
  have hN2 : N ≤ 1024 := by omega
  have h8 : (8 : Int) * (N : Int) = ((8 * N : Nat) : Int) := by omega
  have H8 := Lib.hid h8; clear h8
  by_cases hr : m % 8 = 0
  all_goals
    first
      | (have t1 : ¬ (0 : Int) < (m : Int) % 8 := by omega
         have hq : (m : Int) / 8 = (N : Int) := by omega
         have t2 : ((N : Int) != (m : Int) / 8) = false := by simp; omega)
      | (have t1 : (0 : Int) < (m : Int) % 8 := by omega
         have hq : (m : Int) / 8 + 1 = (N : Int) := by omega
         have t2 : ((N : Int) != (m : Int) / 8 + 1) = false := by simp; omega)
    have HQ := Lib.hid hq; clear hq hr hN
    go_enter Try.func32, Try.ntmps32
    go_wp2_with (go_at_call 59; refine (HC.out _).mono ?_; rintro e w1 ⟨rfl, rfl⟩)
    rw [HQ.out, H8.out]
    refine HB.out.mono ?_
    rintro e w2 ⟨B, d, rfl, R2, B2⟩
    obtain ⟨p1, q1⟩ := box_at B2
    have HB2 : Hid (Below w.heap.size w w2) := (one_below w _).trans (B2.mono (by omega))
    have HR2 := Lib.hid R2; clear R2 B2 HB H8 HQ
    generalize hM : 8 * N = M at *
    have HM := Lib.hid hM; clear hM
    have hM2 : M ≤ 8192 := by have := HM.out; omega
    go_wp2
    go_loop [5] (fun p => CKRel m bs M p) (fun p => M - (intOf p).toNat)
    case atStart => exact ⟨m, Nat.le_refl _, hMm, rfl, fun t h1 h2 => by omega⟩
    case round =>
      obtain ⟨i, hi1, hi2, rfl, hz⟩ := hrel
      by_cases hlt : i < M
      · obtain ⟨b, off, rfl, hb, hc⟩ := HR2.out.at_ (ic_get (unpack M bs) i (by rw [unpack_length]; exact hlt))
        rw [unpack_get M bs i hlt] at hc
        cases hbit : bitAt bs i
        · rw [hbit] at hc
          have HZ : Hid (∀ t, m ≤ t → t < i + 1 → bitAt bs t = false) := fun t h1 h2 => by
            rcases Nat.lt_or_ge t i with h | h
            · exact hz t h1 h
            · have e : t = i := by omega
              rw [e]; exact hbit
          clear hz hbit
          go_wp2
          go_round
          case rel => exact ⟨i + 1, by omega, by omega, by go_num, HZ.out⟩
          case measure => simp [intOf]; omega
        · rw [hbit] at hc
          have HCV1 : Hid (cv = 1) := by
            have hs : stray m bs = true := by
              cases hs : stray m bs
              · have := (HSI.out.1 hs) i hi1 hlt
                rw [hbit] at this; cases this
              · rfl
            show cv = 1
            rw [HCV.out, hs, if_pos rfl]
          clear hz hbit
          go_wp2
          go_ret
          exact ⟨by rw [HCV1.out]; rfl, HB2.out⟩
      · have HCV0 : Hid (cv = 0) := by
          have hs : stray m bs = false := HSI.out.2 (fun t h1 h2 => hz t h1 (by omega))
          show cv = 0
          rw [HCV.out, hs, if_neg (by decide)]
        clear hz
        go_wp2
        go_ret
        exact ⟨by rw [HCV0.out]; rfl, HB2.out⟩

theorem rcheck_any (len : Int) (A : Option Addr) (c : Nat) (bs : List Nat) (hb : ∀ b ∈ bs, b < 256) (w : World) (h : Rd w w.heap.size A bs) :
    Calls Try.prog 32 #[.agg #[.int .i64 len, .slice A bs.length c]] w fun e w' => e = .returned (.int .i64 (chk len bs)) ∧ Below w.heap.size w w' := by
  unfold chk
  by_cases h0 : 0 ≤ len ∧ len ≤ 8192
  · rw [if_neg (by omega)]
    obtain ⟨m, rfl⟩ := Int.eq_ofNat_of_zero_le h0.1
    rw [Int.toNat_natCast]
    by_cases hn : bs.length = (m + 7) / 8
    · rw [if_neg (by omega)]
      exact rcheck_in m (by omega) A bs.length c bs rfl hb w h hn _ rfl
    · rw [if_pos hn]
      exact rcheck_len m (by omega) A bs.length c w hn
  · rw [if_pos (by omega)]
    exact rcheck_out len A bs.length c w h0
end Go.Proofs.Ytgibbokhdfblmaa
