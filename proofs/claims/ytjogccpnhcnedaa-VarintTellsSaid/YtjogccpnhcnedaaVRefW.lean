/- What the document's own writing of numbers answers. -/
import Derived.Test.YtjogccpnhcnedaaVAll
namespace Go.Proofs.Ytjogccpnhcnedaa
set_option maxRecDepth 100000
set_option linter.unusedVariables false
open Go.RowKit Go.Shelf

/-- Bytes come back, newly laid. -/
def OutB (w : World) (bs : List Nat) (e : Ending) (w' : World) : Prop := ∃ v, e = .returned v ∧ w'.ownsRow w.heap.size 5 1 v bs.length (bc bs) ∧ Below w.heap.size w w'

theorem own_lit1b (w : World) (base : Nat) (hb : base ≤ w.heap.size) (u : Value) : (w.alloc (.cells #[u] 5)).ownsRow base 5 1 (.slice (some ⟨w.heap.size, 0, none⟩) 1 1) 1 [u] :=
  ⟨rfl, .inr ⟨w.heap.size, 1, #[u], rfl, hb, World.alloc_heap_new w _, Nat.le_refl _, by decide, rfl, rfl⟩⟩
theorem app5 {w : World} {ops : Array Oper} {rest : List Oper} {o : Oper} {a : Act} {Q : Exit → Act → World → Prop} (hgd : o.guard = none) (s x : Operand)
    (ho : o.op = .call { callee := .builtin .append, args := #[s, x], argTypes := #[23, 23] }) (base : Nat)
    (v : Value) (n : Nat) (xs : List Value) (hs : a.eval s = v) (hown : w.ownsRow base 5 1 v n xs)
    (A : Option Addr) (m c : Nat) (bs : List Nat) (hx : a.eval x = .slice A m c) (hr : Rd w w.heap.size A bs) (hlen : bs.length = m) (hc : A = none → c = 0)
    (hb : n + m ≤ 140737488355328) (hbase : base ≤ w.heap.size)
    (h : ∀ v' w', w'.ownsRow base 5 1 v' (n + m) (xs ++ bc bs) → w.grownBy w' v.ownBlock → wpList Try.prog ops Q rest (a.put o.dst v') w') : wpList Try.prog ops Q (o :: rest) a w := by
  obtain ⟨i0, hi, hz0, hz1, hz2⟩ := info_parts info5
  rcases A with _ | ad
  · obtain rfl : bs = [] := by
      rcases hr with h | ⟨b, off, h, _⟩
      · exact h
      · cases h
    obtain rfl : m = 0 := by simpa using hlen.symm
    obtain rfl := hc rfl
    refine wpList_append_own_none hgd s x 23 ho base 5 i0 1 Try.underlying23 hi v n xs hs hown hx ?_
    refine h v w ?_ (World.grownBy.refl w _)
    simpa [bc] using hown
  · refine wpList_append_own w hgd s x 23 ho base 5 i0 (.int .u8 0) 1 1 Try.underlying23 hi hz0 hz1 hz2 rfl (by decide) v n xs hs hown ad m c (bc bs) hx (by rw [bc_length, hlen]; omega) ?_ (bc_one bs) (by unfold maxLen; omega) (by omega) hbase (fun v' w' h2 h3 _ => h v' w' h2 h3)
    rcases hr with rfl | ⟨b, off, e, hbk, hcell⟩
    · intro j u hu; simp [bc] at hu
    · cases e
      exact news_of (w := w) hbk (fun k _ => rfl) hcell
set_option maxHeartbeats 1000000 in
theorem vbytes_any (n : Nat) : ∀ (w : World), n < 18446744073709551616 →
    Calls Try.prog 30 #[.int .u64 (n : Int)] w (OutB w (vb n)) := by
  induction n using Nat.strongRecOn with
  | _ n ih =>
    intro w hn
    by_cases h : n < 128
    · rw [vb_lt n h]
      go_enter Try.func30, Try.ntmps30
      go_wp2
      go_ret
      exact ⟨_, rfl, own_lit1b w _ (Nat.le_refl _) _, one_below _ _⟩
    · have HI : Hid (∀ w, Calls Try.prog 30 #[.int .u64 ((n : Int) / 128)] w (OutB w (vb (n / 128)))) := fun w => by
        have := ih (n / 128) (by omega) w (by omega)
        rwa [show ((n / 128 : Nat) : Int) = (n : Int) / 128 from by omega] at this
      have HL : Hid ((vb (n / 128)).length ≤ 10) := vb_ten _ (by omega)
      have HE : Hid (vb n = [n % 128 + 128] ++ vb (n / 128)) := vb_ge n (by omega)
      clear ih
      go_enter Try.func30, Try.ntmps30
      go_wp2_with fail
      refine (HI.out _).mono ?_
      rintro e w1 ⟨v, rfl, hown, hbel⟩
      obtain ⟨A, c, rfl⟩ := own_slice hown
      have hnil := own_none hown
      have HRd := Lib.hid (own_rd hown)
      have HNil := Lib.hid hnil
      have HW := Lib.hid ((one_below w (.cells #[.int .u8 ((n : Int) % 128 + 128)] 5)).trans (hbel.mono (by simp)))
      have HO := Lib.hid ((own_lit1b w w.heap.size (Nat.le_refl _) (.int .u8 ((n : Int) % 128 + 128))).kept (grown_of_below hbel none) (.inr (by simp [Value.ownBlock])))
      clear hown hnil hbel
      have hll := HL.out
      generalize hq : vb (n / 128) = L at *
      have HQ := Lib.hid hq; clear hq
      generalize hk : L.length = k at *
      have HK := Lib.hid hk; clear hk
      go_wp2_with (at_builtin; refine app5 rfl _ _ rfl w.heap.size _ 1 _ rfl HO.out A k c L rfl HRd.out HK.out HNil.out (by omega) HW.out.size ?_; intro v' w3 hown' hgrow)
      go_ret
      refine ⟨v', rfl, ?_, HW.out.trans (grown_below hgrow HO.out HW.out.size)⟩
      have e : (vb n).length = 1 + k := by rw [HE.out, List.length_append, HK.out]; rfl
      rw [e, HE.out, bc_append]
      exact hown'

theorem place_lt (acc y i : Nat) (hi : i ≤ 9) (ha : acc < 128 ^ i) (hy : y < 128) (h9 : i = 9 → y ≤ 1) : acc + y * 128 ^ i < 18446744073709551616 := by
  by_cases h : i = 9
  · subst h
    have := h9 rfl
    rw [pow9] at ha ⊢
    omega
  · have h1 : (128 : Nat) ^ i ≤ 128 ^ 8 := Nat.pow_le_pow_right (by omega) (by omega)
    have h2 : y * 128 ^ i ≤ 127 * 128 ^ 8 := Nat.mul_le_mul (by omega) h1
    omega

theorem ref_sum (acc x i : Nat) (h : acc + x % 128 * 128 ^ i < 18446744073709551616) : IntKind.u64.wrap ((acc : Int) + IntKind.u64.wrap ((x : Int) % 128 * 128 ^ i)) = ((acc + x % 128 * 128 ^ i : Nat) : Int) := by
  have e : ((x : Int) % 128 * 128 ^ i) = ((x % 128 * 128 ^ i : Nat) : Int) := by simp
  rw [e, IntKind.wrap_u64, IntKind.wrap_u64]
  omega
theorem ref_pow (i : Nat) (h : i ≤ 8) : IntKind.u64.wrap ((128 : Int) ^ i * 128) = ((128 ^ (i + 1) : Nat) : Int) := by
  have h1 := pow_le9 (i + 1) (by omega)
  have e : ((128 : Int) ^ i * 128) = ((128 ^ (i + 1) : Nat) : Int) := by rw [Nat.pow_succ]; simp
  rw [e, IntKind.wrap_u64]
  generalize 128 ^ (i + 1) = y at *
  omega

/-- At each round's head. -/
def RRel (rest : List Nat) (p : Nat) (v u q : Value) : Prop :=
  ∃ i acc : Nat, v = .int .u64 (acc : Int) ∧ u = .int .u64 ((128 ^ i : Nat) : Int) ∧ q = .int .i64 ((p + i : Nat) : Int) ∧ i ≤ rest.length ∧ i ≤ 9 ∧ acc < 128 ^ i ∧ vr i acc (rest.drop i) = vr 0 0 rest

set_option maxHeartbeats 2000000 in
theorem rread_in (rest : List Nat) (n p : Nat) (hn : rest.length = n - p) (hb : ∀ b ∈ rest, b < 256) (hn2 : n ≤ 4096) (hp : p ≤ n) (A : Option Addr) (c : Nat) (w : World)
    (h : ∀ i, i < rest.length → ∃ b off, A = some ⟨b, off, none⟩ ∧ w.cell? ⟨b, off + (p + i), none⟩ = some (.int .u8 ((rest[i]?.getD 0 : Nat) : Int))) (v to : Nat) (e0 : Int)
    (hr : (if (vr 0 0 rest).2.2 = 0 then ((vr 0 0 rest).1, p + (vr 0 0 rest).2.1, 0) else (0, 0, (vr 0 0 rest).2.2)) = (v, to, e0)) :
    Calls Try.prog 31 #[.slice A n c, .int .i64 (p : Int)] w (ReadP w v to e0) := by
  have HT := Lib.hid h; clear h
  have HLn := Lib.hid hn; clear hn
  have HBy := Lib.hid hb; clear hb
  have HR := Lib.hid hr; clear hr
  have hpc : (p : Int) ≤ (n : Int) := by omega
  go_enter Try.func31, Try.ntmps31
  go_wp2
  go_loop [7, 8, 9] (fun v u q => RRel rest p v u q) (fun _ _ q => n - (intOf q).toNat)
  case atStart => exact ⟨0, 0, rfl, rfl, rfl, by simp, by omega, by simp, rfl⟩
  case round =>
    obtain ⟨i, acc, rfl, rfl, rfl, hi, hi9, hacc, hvr⟩ := hrel
    rw [HLn.out] at hi
    have HAc := Lib.hid hacc
    have hpw : 128 ^ i ≤ 9223372036854775808 := pow_le9 i hi9
    generalize hpi : p + i = q at *
    have HQ := Lib.hid hpi
    by_cases hlt : q < n
    · have hil : i < rest.length := by rw [HLn.out]; omega
      obtain ⟨b, off, rfl, e1⟩ := HT.out i hil
      rw [HQ.out] at e1
      have hx : rest[i]?.getD 0 < 256 := by
        rw [List.getElem?_eq_getElem hil]; exact HBy.out _ (List.getElem_mem hil)
      rw [vr_go rest i acc hil] at hvr
      generalize rest[i]?.getD 0 = x at *
      have HV := Lib.hid hvr
      clear hvr
      have s1 : (q : Int) - (p : Int) = (i : Int) := by omega
      have HS := Lib.hid s1
      rcases (show i = 0 ∨ (0 < i ∧ i < 9) ∨ i = 9 by omega) with i1 | ⟨i1, i2⟩ | i1
      · have tq : p = q := by omega
        have t9 : ((q : Int) - (p : Int) == 9) = false := by simp; omega
        have tp : decide (p < q) = false := by simp; omega
        rcases (show x < 128 ∨ 128 ≤ x by omega) with x2 | x2
        · clear tq
          have hsum := place_lt acc (x % 128) i hi9 HAc.out (Nat.mod_lt _ (by omega)) (by omega)
          have HM : Hid (IntKind.u64.wrap ((acc : Int) + IntKind.u64.wrap ((x : Int) % 128 * 128 ^ i)) = ((acc + x % 128 * 128 ^ i : Nat) : Int)) := ref_sum acc x i hsum
          clear hsum
          have HV2 : (acc + x % 128 * 128 ^ i, i + 1, (0 : Int)) = vr 0 0 rest := by
            have := HV.out
            rw [if_neg (by omega), if_neg (by omega), if_pos (by omega)] at this
            exact this
          obtain ⟨rfl, rfl, rfl⟩ := res_ok HR.out HV2
          have hi8 : i ≤ 9 := by omega
          clear HR HV HV2 hacc hpi s1 hpw i1
          go_wp2
          go_ret3
          rw [HM.out]
          exact ⟨by rw [show ((p + (i + 1) : Nat) : Int) = (q : Int) + 1 from by have := HQ.out; omega]; rfl, Below.refl _ _⟩
        · clear tq
          have hsum := place_lt acc (x % 128) i hi9 HAc.out (Nat.mod_lt _ (by omega)) (by omega)
          have HM : Hid (IntKind.u64.wrap ((acc : Int) + IntKind.u64.wrap ((x : Int) % 128 * 128 ^ i)) = ((acc + x % 128 * 128 ^ i : Nat) : Int)) := ref_sum acc x i hsum
          clear hsum
          have HV2 : Hid (vr (i + 1) (acc + x % 128 * 128 ^ i) (rest.drop (i + 1)) = vr 0 0 rest) := by
            have := HV.out
            rw [if_neg (by omega), if_neg (by omega), if_neg (by omega)] at this
            exact this
          have HA2 : Hid (acc + x % 128 * 128 ^ i < 128 ^ (i + 1)) := by
            show _ < _
            have h1 := HAc.out
            have h2 : x % 128 * 128 ^ i ≤ 127 * 128 ^ i := Nat.mul_le_mul_right _ (by omega)
            rw [Nat.pow_succ]
            omega
          have HP2 : Hid (IntKind.u64.wrap ((128 : Int) ^ i * 128) = ((128 ^ (i + 1) : Nat) : Int)) := ref_pow i (by omega)
          have hi8 : i ≤ 8 := by omega
          clear HV hacc hpi s1 hpw i1
          go_wp2
          go_round
          case rel => exact ⟨i + 1, _, by rw [HM.out], by rw [HP2.out], by rw [show ((p + (i + 1) : Nat) : Int) = (q : Int) + 1 from by have := HQ.out; omega], by rw [HLn.out]; have := HQ.out; omega, by omega, HA2.out, HV2.out⟩
          case measure => simp [intOf]; omega
      · have t9 : ((q : Int) - (p : Int) == 9) = false := by simp; omega
        have tp : decide (p < q) = true := by simp; omega
        rcases (show x = 0 ∨ (0 < x ∧ x < 128) ∨ 128 ≤ x by omega) with rfl | ⟨x1, x2⟩ | x2
        · have HV2 : (0, 0, (1 : Int)) = vr 0 0 rest := by
            rw [← HV.out]
            rw [if_neg (by omega), if_pos (by omega)]
          obtain ⟨rfl, rfl, rfl⟩ := res_bad HR.out HV2 (by decide)
          have hi8 : i ≤ 9 := by omega
          clear HR HV HV2 hacc hpi s1 hpw
          go_wp2
          go_ret3
          exact ⟨rfl, Below.refl _ _⟩
        · have t0 : ((x : Int) == 0) = false := by simp; omega
          have hsum := place_lt acc (x % 128) i hi9 HAc.out (Nat.mod_lt _ (by omega)) (by omega)
          have HM : Hid (IntKind.u64.wrap ((acc : Int) + IntKind.u64.wrap ((x : Int) % 128 * 128 ^ i)) = ((acc + x % 128 * 128 ^ i : Nat) : Int)) := ref_sum acc x i hsum
          clear hsum
          have HV2 : (acc + x % 128 * 128 ^ i, i + 1, (0 : Int)) = vr 0 0 rest := by
            have := HV.out
            rw [if_neg (by omega), if_neg (by omega), if_pos (by omega)] at this
            exact this
          obtain ⟨rfl, rfl, rfl⟩ := res_ok HR.out HV2
          have hi8 : i ≤ 9 := by omega
          clear HR HV HV2 hacc hpi s1 hpw
          go_wp2
          go_ret3
          rw [HM.out]
          exact ⟨by rw [show ((p + (i + 1) : Nat) : Int) = (q : Int) + 1 from by have := HQ.out; omega]; rfl, Below.refl _ _⟩
        · have t0 : ((x : Int) == 0) = false := by simp; omega
          have hsum := place_lt acc (x % 128) i hi9 HAc.out (Nat.mod_lt _ (by omega)) (by omega)
          have HM : Hid (IntKind.u64.wrap ((acc : Int) + IntKind.u64.wrap ((x : Int) % 128 * 128 ^ i)) = ((acc + x % 128 * 128 ^ i : Nat) : Int)) := ref_sum acc x i hsum
          clear hsum
          have HV2 : Hid (vr (i + 1) (acc + x % 128 * 128 ^ i) (rest.drop (i + 1)) = vr 0 0 rest) := by
            have := HV.out
            rw [if_neg (by omega), if_neg (by omega), if_neg (by omega)] at this
            exact this
          have HA2 : Hid (acc + x % 128 * 128 ^ i < 128 ^ (i + 1)) := by
            show _ < _
            have h1 := HAc.out
            have h2 : x % 128 * 128 ^ i ≤ 127 * 128 ^ i := Nat.mul_le_mul_right _ (by omega)
            rw [Nat.pow_succ]
            omega
          have HP2 : Hid (IntKind.u64.wrap ((128 : Int) ^ i * 128) = ((128 ^ (i + 1) : Nat) : Int)) := ref_pow i (by omega)
          have hi8 : i ≤ 8 := by omega
          clear HV hacc hpi s1 hpw
          go_wp2
          go_round
          case rel => exact ⟨i + 1, _, by rw [HM.out], by rw [HP2.out], by rw [show ((p + (i + 1) : Nat) : Int) = (q : Int) + 1 from by have := HQ.out; omega], by rw [HLn.out]; have := HQ.out; omega, by omega, HA2.out, HV2.out⟩
          case measure => simp [intOf]; omega
      · have t9 : ((q : Int) - (p : Int) == 9) = true := by simp; omega
        have tp : decide (p < q) = true := by simp; omega
        rcases (show x = 0 ∨ (0 < x ∧ x < 2) ∨ 1 < x by omega) with rfl | ⟨x1, x2⟩ | x2
        · have HV2 : (0, 0, (1 : Int)) = vr 0 0 rest := by
            rw [← HV.out]
            rw [if_neg (by omega), if_pos (by omega)]
          obtain ⟨rfl, rfl, rfl⟩ := res_bad HR.out HV2 (by decide)
          have hi8 : i ≤ 9 := by omega
          clear HR HV HV2 hacc hpi s1 hpw i1
          go_wp2
          go_ret3
          exact ⟨rfl, Below.refl _ _⟩
        · have t0 : ((x : Int) == 0) = false := by simp; omega
          have hsum := place_lt acc (x % 128) i hi9 HAc.out (Nat.mod_lt _ (by omega)) (by omega)
          have HM : Hid (IntKind.u64.wrap ((acc : Int) + IntKind.u64.wrap ((x : Int) % 128 * 128 ^ i)) = ((acc + x % 128 * 128 ^ i : Nat) : Int)) := ref_sum acc x i hsum
          clear hsum
          have HV2 : (acc + x % 128 * 128 ^ i, i + 1, (0 : Int)) = vr 0 0 rest := by
            have := HV.out
            rw [if_neg (by omega), if_neg (by omega), if_pos (by omega)] at this
            exact this
          obtain ⟨rfl, rfl, rfl⟩ := res_ok HR.out HV2
          have hi8 : i ≤ 9 := by omega
          clear HR HV HV2 hacc hpi s1 hpw i1
          go_wp2
          go_ret3
          rw [HM.out]
          exact ⟨by rw [show ((p + (i + 1) : Nat) : Int) = (q : Int) + 1 from by have := HQ.out; omega]; rfl, Below.refl _ _⟩
        · have HV2 : (0, 0, (3 : Int)) = vr 0 0 rest := by
            rw [← HV.out]
            rw [if_pos (by omega)]
          obtain ⟨rfl, rfl, rfl⟩ := res_bad HR.out HV2 (by decide)
          have hi8 : i ≤ 9 := by omega
          clear HR HV HV2 hacc hpi s1 hpw i1
          go_wp2
          go_ret3
          exact ⟨rfl, Below.refl _ _⟩
    · have hie : i = n - p := by omega
      have HV2 : (0, 0, (7 : Int)) = vr 0 0 rest := by
        rw [← hvr, hie, ← HLn.out, List.drop_length]; rfl
      obtain ⟨rfl, rfl, rfl⟩ := res_bad HR.out HV2 (by decide)
      clear hie HV2 hvr hacc HR hpi
      go_wp2
      go_ret3
      exact ⟨rfl, Below.refl _ _⟩

theorem rread_any (bs : List Nat) (n : Nat) (hn : bs.length = n) (hb : ∀ b ∈ bs, b < 256) (hn2 : n ≤ 4096) (p : Nat) (hp : p ≤ n) (A : Option Addr) (c : Nat) (w : World) (h : Rd w w.heap.size A bs) (v to : Nat) (e0 : Int) (hr : rdR bs p = (v, to, e0)) :
    Calls Try.prog 31 #[.slice A n c, .int .i64 (p : Int)] w (ReadP w v to e0) := by
  rw [rdR_in bs p (by omega) (by omega)] at hr
  refine rread_in (bs.drop p) n p (by rw [List.length_drop, hn]) (fun b hb' => hb b (List.mem_of_mem_drop hb')) hn2 hp A c w ?_ v to e0 hr
  intro i hi
  rw [List.length_drop] at hi
  rcases h with h | ⟨b, off, rfl, hw, hcell⟩
  · rw [h] at hi; simp at hi
  · exact ⟨b, off, rfl, by rw [List.getElem?_drop]; exact hcell (p + i) (by omega)⟩
end Go.Proofs.Ytjogccpnhcnedaa
