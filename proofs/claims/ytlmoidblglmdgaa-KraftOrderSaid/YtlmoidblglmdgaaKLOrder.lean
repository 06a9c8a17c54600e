/- The law KraftOrder, way by way and together. -/
import Derived.Test.YtlmoidblglmdgaaKLCodes
import Derived.Deep.QuietTactic
import Derived.BigQuiet
namespace Go.Proofs.Ytlmoidblglmdgaa
set_option maxRecDepth 100000
set_option linter.unusedVariables false
open Go.RowKit Go.Shelf Go.Sort

theorem one_drew (w : World) : Below w.heap.size w w.drew := (Below.refl _ w).drew
/-- A longer code is greater than a shorter one; of as long ones that of the later sign. -/
theorem order_one {l : List Nat} {W : List Wn} (h : Words l W) (hr : tkn l ≤ 2 ^ 24) {x y : Wn} (hx : x ∈ W) (hy : y ∈ W) (hxy : en x ≤ st y) (hw : x.2.1 ≤ y.2.1) :
    num ((code x).take (min x.2.1 y.2.1)) < num ((code y).take (min x.2.1 y.2.1)) := by
  have nx := words_num h hr hx
  have ny := words_num h hr hy
  have bx := (h.mem x hx).2
  have by' := (h.mem y hy).2
  rw [Nat.min_eq_left hw, num_take _ _ (by rw [code_length]; exact Nat.le_refl _), num_take _ _ (by rw [code_length]; exact hw), nx, ny, code_length, code_length, Nat.sub_self, Nat.pow_zero, Nat.div_one]
  unfold en st at hxy
  rw [show 24 - x.2.1 = (y.2.1 - x.2.1) + (24 - y.2.1) by omega, Nat.pow_add, ← Nat.mul_assoc] at hxy
  have h1 := Nat.le_of_mul_le_mul_right hxy (Nat.two_pow_pos _)
  exact (Nat.le_div_iff_mul_le (Nat.two_pow_pos _)).2 h1
theorem order_two (l : List Nat) (h24 : ∀ x ∈ l, x ≤ 24) (hr : tkn l ≤ 16777216) (s t : Nat) (hs : s < l.length) (ht : t < l.length) (hst : s ≠ t) (h0 : l[s]?.getD 0 ≠ 0) (h1 : l[t]?.getD 0 ≠ 0) (n : Nat) (hn : n = min (l[s]?.getD 0) (l[t]?.getD 0)) :
    num ((codOf (words l) s).take n) ≠ num ((codOf (words l) t).take n) ∧ (num ((codOf (words l) s).take n) < num ((codOf (words l) t).take n) ↔ l[s]?.getD 0 < l[t]?.getD 0 ∨ (l[s]?.getD 0 = l[t]?.getD 0 ∧ s < t)) := by
  have h := words_ok l h24
  have es : l[s]? = some (l[s]?.getD 0) := by rw [List.getElem?_eq_getElem hs]; rfl
  have et : l[t]? = some (l[t]?.getD 0) := by rw [List.getElem?_eq_getElem ht]; rfl
  obtain ⟨a, ha⟩ := h.has s _ es h0
  obtain ⟨b, hb⟩ := h.has t _ et h1
  rw [codOf_mem h ha, codOf_mem h hb]
  generalize l[s]?.getD 0 = ws at *
  generalize l[t]?.getD 0 = wt at *
  have hne : ((s, ws, a) : Wn) ≠ (t, wt, b) := fun e => hst (congrArg Prod.fst e)
  rcases pair_or h.row ha hb hne with ⟨k1, k2, _⟩ | ⟨k1, k2, _⟩
  · have hw : ws ≤ wt := by unfold wle at k2; simp at k2; omega
    have := order_one h hr ha hb k1 hw
    simp only at this
    rw [hn]
    have k3 : ws < wt ∨ (ws = wt ∧ s ≤ t) := by unfold wle at k2; exact k2
    refine ⟨by omega, ⟨fun _ => by omega, fun _ => this⟩⟩
  · have hw : wt ≤ ws := by unfold wle at k2; simp at k2; omega
    have hlt := order_one h hr hb ha k1 hw
    simp only at hlt
    rw [hn, Nat.min_comm ws wt]
    have k3 : wt < ws ∨ (wt = ws ∧ t ≤ s) := by unfold wle at k2; exact k2
    refine ⟨by omega, ⟨fun h' => by omega, fun h' => by omega⟩⟩
set_option maxHeartbeats 2000000 in
theorem lorder_e (A : Option Addr) (n c : Nat) (w : World) (s t : Int) (k : Int) (hk : k ≠ 0) (hC : Calls Try.prog 18 #[.slice A n c] w (CoP w k)) :
    Calls Try.prog 8 #[.slice A n c, .int .i64 s, .int .i64 t] w fun e w' => e = .returned (.bool true) ∧ Below w.heap.size w w' := by
  have HC := Lib.hid hC; clear hC
  have t0 : (k == 0) = false := by simpa using hk
  go_enter Try.func8, Try.ntmps8
  go_wp2_with fail
  refine HC.out.mono ?_
  rintro e w1 ⟨rfl, b1⟩
  have HB1 := Lib.hid b1; clear b1
  go_wp2_with fail
  refine (kbegun w1).mono ?_
  rintro e w2 ⟨rfl, b2⟩
  have HB2 : Hid (Below w.heap.size w w2) := HB1.out.trans (b2.mono HB1.out.size)
  have hk2 : Below w1.heap.size w1 w2 := b2
  clear b2
  go_wp2_with fail
  refine (begun_true w2).mono ?_
  rintro e w3 ⟨rfl, b3⟩
  have HB3 : Hid (Below w.heap.size w w3) := HB2.out.trans (b3.mono HB2.out.size)
  have HK3 : Hid (Below w1.heap.size w1 w3) := hk2.trans (b3.mono hk2.size)
  clear b3 hk2
  go_wp2
  go_ret
  exact ⟨rfl, HB3.out⟩
set_option maxHeartbeats 2000000 in
theorem lorder_s0 (A : Option Addr) (n c : Nat) (w : World) (s t : Int) (hC : Calls Try.prog 18 #[.slice A n c] w fun e w' => ∃ (Ac : Option Addr) (cc : Nat), e = .returned (.tuple #[.slice Ac n cc, .int .i64 0]) ∧ Below w.heap.size w w') (hs : s < 0) :
    Calls Try.prog 8 #[.slice A n c, .int .i64 s, .int .i64 t] w fun e w' => e = .returned (.bool true) ∧ Below w.heap.size w w' := by
  have HC := Lib.hid hC; clear hC
  have t0 : decide (s < 0) = true := by simpa using hs
  go_enter Try.func8, Try.ntmps8
  go_wp2_with fail
  refine HC.out.mono ?_
  rintro e w1 ⟨Ac, cc, rfl, b1⟩
  have HB1 := Lib.hid b1; clear b1
  go_wp2_with fail
  refine (kbegun w1).mono ?_
  rintro e w2 ⟨rfl, b2⟩
  have HB2 : Hid (Below w.heap.size w w2) := HB1.out.trans (b2.mono HB1.out.size)
  have hk2 : Below w1.heap.size w1 w2 := b2
  clear b2
  go_wp2_with fail
  refine (begun_true w2).mono ?_
  rintro e w3 ⟨rfl, b3⟩
  have HB3 : Hid (Below w.heap.size w w3) := HB2.out.trans (b3.mono HB2.out.size)
  have HK3 : Hid (Below w1.heap.size w1 w3) := hk2.trans (b3.mono hk2.size)
  clear b3 hk2
  go_wp2
  go_ret
  exact ⟨rfl, HB3.out⟩
set_option maxHeartbeats 2000000 in
theorem lorder_s1 (A : Option Addr) (n c : Nat) (w : World) (s t : Int) (hC : Calls Try.prog 18 #[.slice A n c] w fun e w' => ∃ (Ac : Option Addr) (cc : Nat), e = .returned (.tuple #[.slice Ac n cc, .int .i64 0]) ∧ Below w.heap.size w w') (h0 : 0 ≤ s) (hs : (n : Int) ≤ s) :
    Calls Try.prog 8 #[.slice A n c, .int .i64 s, .int .i64 t] w fun e w' => e = .returned (.bool true) ∧ Below w.heap.size w w' := by
  have HC := Lib.hid hC; clear hC
  have t0 : decide (s < 0) = false := by simp; omega
  have t1 : decide ((n : Int) ≤ s) = true := by simpa using hs
  go_enter Try.func8, Try.ntmps8
  go_wp2_with fail
  refine HC.out.mono ?_
  rintro e w1 ⟨Ac, cc, rfl, b1⟩
  have HB1 := Lib.hid b1; clear b1
  go_wp2_with fail
  refine (kbegun w1).mono ?_
  rintro e w2 ⟨rfl, b2⟩
  have HB2 : Hid (Below w.heap.size w w2) := HB1.out.trans (b2.mono HB1.out.size)
  have hk2 : Below w1.heap.size w1 w2 := b2
  clear b2
  go_wp2_with fail
  refine (begun_true w2).mono ?_
  rintro e w3 ⟨rfl, b3⟩
  have HB3 : Hid (Below w.heap.size w w3) := HB2.out.trans (b3.mono HB2.out.size)
  have HK3 : Hid (Below w1.heap.size w1 w3) := hk2.trans (b3.mono hk2.size)
  clear b3 hk2
  go_wp2
  go_ret
  exact ⟨rfl, HB3.out⟩
set_option maxHeartbeats 2000000 in
theorem lorder_t0 (A : Option Addr) (n c : Nat) (w : World) (s t : Int) (hC : Calls Try.prog 18 #[.slice A n c] w fun e w' => ∃ (Ac : Option Addr) (cc : Nat), e = .returned (.tuple #[.slice Ac n cc, .int .i64 0]) ∧ Below w.heap.size w w') (h0 : 0 ≤ s) (hs : s < (n : Int)) (ht : t < 0) :
    Calls Try.prog 8 #[.slice A n c, .int .i64 s, .int .i64 t] w fun e w' => e = .returned (.bool true) ∧ Below w.heap.size w w' := by
  have HC := Lib.hid hC; clear hC
  have t0 : decide (s < 0) = false := by simp; omega
  have t1 : decide ((n : Int) ≤ s) = false := by simp; omega
  have t2 : decide (t < 0) = true := by simpa using ht
  go_enter Try.func8, Try.ntmps8
  go_wp2_with fail
  refine HC.out.mono ?_
  rintro e w1 ⟨Ac, cc, rfl, b1⟩
  have HB1 := Lib.hid b1; clear b1
  go_wp2_with fail
  refine (kbegun w1).mono ?_
  rintro e w2 ⟨rfl, b2⟩
  have HB2 : Hid (Below w.heap.size w w2) := HB1.out.trans (b2.mono HB1.out.size)
  have hk2 : Below w1.heap.size w1 w2 := b2
  clear b2
  go_wp2_with fail
  refine (begun_true w2).mono ?_
  rintro e w3 ⟨rfl, b3⟩
  have HB3 : Hid (Below w.heap.size w w3) := HB2.out.trans (b3.mono HB2.out.size)
  have HK3 : Hid (Below w1.heap.size w1 w3) := hk2.trans (b3.mono hk2.size)
  clear b3 hk2
  go_wp2
  go_ret
  exact ⟨rfl, HB3.out⟩
set_option maxHeartbeats 2000000 in
theorem lorder_t1 (A : Option Addr) (n c : Nat) (w : World) (s t : Int) (hC : Calls Try.prog 18 #[.slice A n c] w fun e w' => ∃ (Ac : Option Addr) (cc : Nat), e = .returned (.tuple #[.slice Ac n cc, .int .i64 0]) ∧ Below w.heap.size w w') (h0 : 0 ≤ s) (hs : s < (n : Int)) (h1 : 0 ≤ t) (ht : (n : Int) ≤ t) :
    Calls Try.prog 8 #[.slice A n c, .int .i64 s, .int .i64 t] w fun e w' => e = .returned (.bool true) ∧ Below w.heap.size w w' := by
  have HC := Lib.hid hC; clear hC
  have t0 : decide (s < 0) = false := by simp; omega
  have t1 : decide ((n : Int) ≤ s) = false := by simp; omega
  have t2 : decide (t < 0) = false := by simp; omega
  have t3 : decide ((n : Int) ≤ t) = true := by simpa using ht
  go_enter Try.func8, Try.ntmps8
  go_wp2_with fail
  refine HC.out.mono ?_
  rintro e w1 ⟨Ac, cc, rfl, b1⟩
  have HB1 := Lib.hid b1; clear b1
  go_wp2_with fail
  refine (kbegun w1).mono ?_
  rintro e w2 ⟨rfl, b2⟩
  have HB2 : Hid (Below w.heap.size w w2) := HB1.out.trans (b2.mono HB1.out.size)
  have hk2 : Below w1.heap.size w1 w2 := b2
  clear b2
  go_wp2_with fail
  refine (begun_true w2).mono ?_
  rintro e w3 ⟨rfl, b3⟩
  have HB3 : Hid (Below w.heap.size w w3) := HB2.out.trans (b3.mono HB2.out.size)
  have HK3 : Hid (Below w1.heap.size w1 w3) := hk2.trans (b3.mono hk2.size)
  clear b3 hk2
  go_wp2
  go_ret
  exact ⟨rfl, HB3.out⟩
set_option maxHeartbeats 2000000 in
theorem lorder_st (A : Option Addr) (n c : Nat) (w : World) (s t : Int) (hC : Calls Try.prog 18 #[.slice A n c] w fun e w' => ∃ (Ac : Option Addr) (cc : Nat), e = .returned (.tuple #[.slice Ac n cc, .int .i64 0]) ∧ Below w.heap.size w w') (h0 : 0 ≤ s) (hs : s < (n : Int)) (h1 : 0 ≤ t) (ht : t < (n : Int)) (he : s = t) :
    Calls Try.prog 8 #[.slice A n c, .int .i64 s, .int .i64 t] w fun e w' => e = .returned (.bool true) ∧ Below w.heap.size w w' := by
  have HC := Lib.hid hC; clear hC
  subst he
  have t0 : decide (s < 0) = false := by simp; omega
  have t1 : decide ((n : Int) ≤ s) = false := by simp; omega
  go_enter Try.func8, Try.ntmps8
  go_wp2_with fail
  refine HC.out.mono ?_
  rintro e w1 ⟨Ac, cc, rfl, b1⟩
  have HB1 := Lib.hid b1; clear b1
  go_wp2_with fail
  refine (kbegun w1).mono ?_
  rintro e w2 ⟨rfl, b2⟩
  have HB2 : Hid (Below w.heap.size w w2) := HB1.out.trans (b2.mono HB1.out.size)
  have hk2 : Below w1.heap.size w1 w2 := b2
  clear b2
  go_wp2_with fail
  refine (begun_true w2).mono ?_
  rintro e w3 ⟨rfl, b3⟩
  have HB3 : Hid (Below w.heap.size w w3) := HB2.out.trans (b3.mono HB2.out.size)
  have HK3 : Hid (Below w1.heap.size w1 w3) := hk2.trans (b3.mono hk2.size)
  clear b3 hk2
  go_wp2
  go_ret
  exact ⟨rfl, HB3.out⟩
set_option maxHeartbeats 4000000 in
theorem lorder_ls (A : Option Addr) (n c : Nat) (w : World) (s t : Nat) (hs : s < n) (ht : t < n) (hst : s ≠ t) (hn64 : n ≤ 64) (bLs bLt : List Nat) (ls lt Ns Nt : Nat) (hC : Calls Try.prog 18 #[.slice A n c] w fun e w' => ∃ (b off cc cs ct : Nat) (As At : Option Addr), e = .returned (.tuple #[.slice (some ⟨b, off, none⟩) n cc, .int .i64 0]) ∧ Below w.heap.size w w' ∧ (∀ V, Below w'.heap.size w' V → V.cell? ⟨b, off + s * 2, none⟩ = some (.int .i64 (ls : Int)) ∧ V.cell? ⟨b, off + s * 2 + 1, none⟩ = some (.slice As Ns cs) ∧ Rd V V.heap.size As bLs ∧ V.cell? ⟨b, off + t * 2, none⟩ = some (.int .i64 (lt : Int)) ∧ V.cell? ⟨b, off + t * 2 + 1, none⟩ = some (.slice At Nt ct) ∧ Rd V V.heap.size At bLt)) (h0 : ls = 0) :
    Calls Try.prog 8 #[.slice A n c, .int .i64 (s : Int), .int .i64 (t : Int)] w fun e w' => e = .returned (.bool true) ∧ Below w.heap.size w w' := by
  have HC := Lib.hid hC; clear hC
  have t0 : decide ((s : Int) < 0) = false := by simp
  have t1 : decide ((n : Int) ≤ (s : Int)) = false := by simp; omega
  have t2 : decide ((t : Int) < 0) = false := by simp
  have t3 : decide ((n : Int) ≤ (t : Int)) = false := by simp; omega
  have t4 : ((s : Int) == (t : Int)) = false := by simp; omega
  subst h0
  go_enter Try.func8, Try.ntmps8
  go_wp2_with fail
  refine HC.out.mono ?_
  rintro e w1 ⟨b, off, cc, cs, ct, As, At, rfl, b1, hcell⟩
  have HB1 := Lib.hid b1; have HCell := Lib.hid hcell; clear b1 hcell
  go_wp2_with fail
  refine (kbegun w1).mono ?_
  rintro e w2 ⟨rfl, b2⟩
  have HB2 : Hid (Below w.heap.size w w2) := HB1.out.trans (b2.mono HB1.out.size)
  have hk2 : Below w1.heap.size w1 w2 := b2
  clear b2
  go_wp2_with fail
  refine (begun_true w2).mono ?_
  rintro e w3 ⟨rfl, b3⟩
  have HB3 : Hid (Below w.heap.size w w3) := HB2.out.trans (b3.mono HB2.out.size)
  have HK3 : Hid (Below w1.heap.size w1 w3) := hk2.trans (b3.mono hk2.size)
  clear b3 hk2
  obtain ⟨c0, c1, r0, c2, c3, r1⟩ := HCell.out w3 HK3.out
  have HR0 := Lib.hid r0; have HR1 := Lib.hid r1; clear r0 r1
  go_wp2
  go_ret
  exact ⟨rfl, HB3.out⟩
set_option maxHeartbeats 4000000 in
theorem lorder_lt (A : Option Addr) (n c : Nat) (w : World) (s t : Nat) (hs : s < n) (ht : t < n) (hst : s ≠ t) (hn64 : n ≤ 64) (bLs bLt : List Nat) (ls lt Ns Nt : Nat) (hC : Calls Try.prog 18 #[.slice A n c] w fun e w' => ∃ (b off cc cs ct : Nat) (As At : Option Addr), e = .returned (.tuple #[.slice (some ⟨b, off, none⟩) n cc, .int .i64 0]) ∧ Below w.heap.size w w' ∧ (∀ V, Below w'.heap.size w' V → V.cell? ⟨b, off + s * 2, none⟩ = some (.int .i64 (ls : Int)) ∧ V.cell? ⟨b, off + s * 2 + 1, none⟩ = some (.slice As Ns cs) ∧ Rd V V.heap.size As bLs ∧ V.cell? ⟨b, off + t * 2, none⟩ = some (.int .i64 (lt : Int)) ∧ V.cell? ⟨b, off + t * 2 + 1, none⟩ = some (.slice At Nt ct) ∧ Rd V V.heap.size At bLt)) (h0 : ls ≠ 0) (h1 : lt = 0) :
    Calls Try.prog 8 #[.slice A n c, .int .i64 (s : Int), .int .i64 (t : Int)] w fun e w' => e = .returned (.bool true) ∧ Below w.heap.size w w' := by
  have HC := Lib.hid hC; clear hC
  have t0 : decide ((s : Int) < 0) = false := by simp
  have t1 : decide ((n : Int) ≤ (s : Int)) = false := by simp; omega
  have t2 : decide ((t : Int) < 0) = false := by simp
  have t3 : decide ((n : Int) ≤ (t : Int)) = false := by simp; omega
  have t4 : ((s : Int) == (t : Int)) = false := by simp; omega
  subst h1
  have t5 : ((ls : Int) == 0) = false := by simp; omega
  go_enter Try.func8, Try.ntmps8
  go_wp2_with fail
  refine HC.out.mono ?_
  rintro e w1 ⟨b, off, cc, cs, ct, As, At, rfl, b1, hcell⟩
  have HB1 := Lib.hid b1; have HCell := Lib.hid hcell; clear b1 hcell
  go_wp2_with fail
  refine (kbegun w1).mono ?_
  rintro e w2 ⟨rfl, b2⟩
  have HB2 : Hid (Below w.heap.size w w2) := HB1.out.trans (b2.mono HB1.out.size)
  have hk2 : Below w1.heap.size w1 w2 := b2
  clear b2
  go_wp2_with fail
  refine (begun_true w2).mono ?_
  rintro e w3 ⟨rfl, b3⟩
  have HB3 : Hid (Below w.heap.size w w3) := HB2.out.trans (b3.mono HB2.out.size)
  have HK3 : Hid (Below w1.heap.size w1 w3) := hk2.trans (b3.mono hk2.size)
  clear b3 hk2
  obtain ⟨c0, c1, r0, c2, c3, r1⟩ := HCell.out w3 HK3.out
  have HR0 := Lib.hid r0; have HR1 := Lib.hid r1; clear r0 r1
  go_wp2
  go_ret
  exact ⟨rfl, HB3.out⟩
set_option maxHeartbeats 4000000 in
theorem lorder_ok (A : Option Addr) (n c : Nat) (w : World) (s t : Nat) (hs : s < n) (ht : t < n) (hst : s ≠ t) (hn64 : n ≤ 64) (bLs bLt : List Nat) (ls lt Ns Nt : Nat) (hC : Calls Try.prog 18 #[.slice A n c] w fun e w' => ∃ (b off cc cs ct : Nat) (As At : Option Addr), e = .returned (.tuple #[.slice (some ⟨b, off, none⟩) n cc, .int .i64 0]) ∧ Below w.heap.size w w' ∧ (∀ V, Below w'.heap.size w' V → V.cell? ⟨b, off + s * 2, none⟩ = some (.int .i64 (ls : Int)) ∧ V.cell? ⟨b, off + s * 2 + 1, none⟩ = some (.slice As Ns cs) ∧ Rd V V.heap.size As bLs ∧ V.cell? ⟨b, off + t * 2, none⟩ = some (.int .i64 (lt : Int)) ∧ V.cell? ⟨b, off + t * 2 + 1, none⟩ = some (.slice At Nt ct) ∧ Rd V V.heap.size At bLt)) (h0 : ls ≠ 0) (h1 : lt ≠ 0) (mn x y : Nat) (hmn : mn = min ls lt) (hxy : x ≠ y) (hord : x < y ↔ ls < lt ∨ (ls = lt ∧ s < t)) (hl : ∀ V, Below w.heap.size w V → ∃ b0 o0, A = some ⟨b0, o0, none⟩ ∧ V.cell? ⟨b0, o0 + s, none⟩ = some (.int .i64 (ls : Int)) ∧ V.cell? ⟨b0, o0 + t, none⟩ = some (.int .i64 (lt : Int))) (hGs : ∀ (V : World) (B : Option Addr) (c5 : Nat), Rd V V.heap.size B bLs → Calls Try.prog 31 #[.agg #[.int .i64 (ls : Int), .slice B Ns c5], .int .i64 0, .int .i64 (mn : Int)] V fun e w' => e = .returned (.tuple #[.int .u64 (x : Int), .int .i64 0]) ∧ Below V.heap.size V w') (hGt : ∀ (V : World) (B : Option Addr) (c5 : Nat), Rd V V.heap.size B bLt → Calls Try.prog 31 #[.agg #[.int .i64 (lt : Int), .slice B Nt c5], .int .i64 0, .int .i64 (mn : Int)] V fun e w' => e = .returned (.tuple #[.int .u64 (y : Int), .int .i64 0]) ∧ Below V.heap.size V w') :
    Calls Try.prog 8 #[.slice A n c, .int .i64 (s : Int), .int .i64 (t : Int)] w fun e w' => e = .returned (.bool true) ∧ Below w.heap.size w w' := by
  have HC := Lib.hid hC; clear hC
  have t0 : decide ((s : Int) < 0) = false := by simp
  have t1 : decide ((n : Int) ≤ (s : Int)) = false := by simp; omega
  have t2 : decide ((t : Int) < 0) = false := by simp
  have t3 : decide ((n : Int) ≤ (t : Int)) = false := by simp; omega
  have t4 : ((s : Int) == (t : Int)) = false := by simp; omega
  subst hmn
  have t5 : ((ls : Int) == 0) = false := by simp; omega
  have t6 : ((lt : Int) == 0) = false := by simp; omega
  have HGs := Lib.hid hGs; have HGt := Lib.hid hGt; have HLc := Lib.hid hl; have HOrd := Lib.hid hord
  have hm : min (ls : Int) (lt : Int) = ((min ls lt : Nat) : Int) := by omega
  have t7 : ((x : Int) == (y : Int)) = false := by simp; omega
  clear hGs hGt hl hord
  go_enter Try.func8, Try.ntmps8
  go_wp2_with fail
  refine HC.out.mono ?_
  rintro e w1 ⟨b, off, cc, cs, ct, As, At, rfl, b1, hcell⟩
  have HB1 := Lib.hid b1; have HCell := Lib.hid hcell; clear b1 hcell
  go_wp2_with fail
  refine (kbegun w1).mono ?_
  rintro e w2 ⟨rfl, b2⟩
  have HB2 : Hid (Below w.heap.size w w2) := HB1.out.trans (b2.mono HB1.out.size)
  have hk2 : Below w1.heap.size w1 w2 := b2
  clear b2
  go_wp2_with fail
  refine (begun_true w2).mono ?_
  rintro e w3 ⟨rfl, b3⟩
  have HB3 : Hid (Below w.heap.size w w3) := HB2.out.trans (b3.mono HB2.out.size)
  have HK3 : Hid (Below w1.heap.size w1 w3) := hk2.trans (b3.mono hk2.size)
  clear b3 hk2
  obtain ⟨c0, c1, r0, c2, c3, r1⟩ := HCell.out w3 HK3.out
  have HR0 := Lib.hid r0; have HR1 := Lib.hid r1; clear r0 r1
  go_wp2
  go_region_held3 (fun w' => w'.cell? ⟨b, off + s * 2, none⟩ = some (.int .i64 (ls : Int)) ∧ w'.cell? ⟨b, off + t * 2, none⟩ = some (.int .i64 (lt : Int)))
    ((first | exact ⟨(HCell.out _ HK3.out.drew).1, (HCell.out _ HK3.out.drew).2.2.2.1⟩ | exact ⟨(HCell.out _ HK3.out).1, (HCell.out _ HK3.out).2.2.2.1⟩))
    (fail)
  all_goals (
    go_wp2_with fail
    refine (HGs.out _ _ _ (HR0.out.on (one_drew w3))).mono ?_
    rintro e w4 ⟨rfl, b4⟩
    have HB4 : Hid (Below w3.heap.size w3 w4) := (one_drew w3).trans b4
    have hb3 : b < w3.heap.size := by
      rcases Nat.lt_or_ge b w3.heap.size with h | h
      · exact h
      · rw [World.cell?, Array.getElem?_eq_none h] at c0; cases c0
    obtain ⟨d0, d1, _, d2, d3, r2⟩ := HCell.out w4 (HK3.out.trans (HB4.out.mono HK3.out.size))
    have HR2 := Lib.hid r2
    clear b4 r2
    go_wp2_with fail
    refine (HGt.out _ _ _ HR2.out).mono ?_
    rintro e w5 ⟨rfl, b5⟩
    have HB5 : Hid (Below w.heap.size w w5) := HB3.out.trans ((HB4.out.trans (b5.mono HB4.out.size)).mono HB3.out.size)
    clear b5
    obtain ⟨b0, o0, rfl, l0, l1⟩ := HLc.out w5 HB5.out
    by_cases hlt : ls < lt
    · have u0 : decide ((ls : Int) < (lt : Int)) = true := by simp; omega
      have HX : Hid (x < y) := HOrd.out.2 (.inl hlt)
      go_wp2
      go_quiet (fail)
      go_wp2
      go_ret
      exact ⟨ret_bool (by simpa using HX.out), ⟨HB5.out.os, HB5.out.tape, HB5.out.output, HB5.out.size, HB5.out.block⟩⟩
    · have u0 : decide ((ls : Int) < (lt : Int)) = false := by simp; omega
      by_cases heq : ls = lt
      · have u2 : ((ls : Int) == (lt : Int)) = true := by simp; omega
        by_cases hstt : s < t
        · have u3 : decide ((s : Int) < (t : Int)) = true := by simp; omega
          have HX : Hid (x < y) := HOrd.out.2 (.inr ⟨heq, hstt⟩)
          clear heq
          go_wp2
          go_quiet (fail)
          go_wp2
          go_ret
          exact ⟨ret_bool (by simpa using HX.out), ⟨HB5.out.os, HB5.out.tape, HB5.out.output, HB5.out.size, HB5.out.block⟩⟩
        · have u3 : decide ((s : Int) < (t : Int)) = false := by simp; omega
          have HX : Hid (¬ x < y) := fun h => hstt ((HOrd.out.1 h).elim (fun h' => absurd h' hlt) (fun h' => h'.2))
          clear heq
          go_wp2
          go_quiet (fail)
          go_wp2
          go_ret
          exact ⟨ret_bool (by simpa using HX.out), ⟨HB5.out.os, HB5.out.tape, HB5.out.output, HB5.out.size, HB5.out.block⟩⟩
      · have u2 : ((ls : Int) == (lt : Int)) = false := by simp; omega
        have HX : Hid (¬ x < y) := fun h => (HOrd.out.1 h).elim (fun h' => hlt h') (fun h' => heq h'.1)
        go_wp2
        go_quiet (fail)
        go_wp2
        go_ret
        exact ⟨ret_bool (by simpa using HX.out), ⟨HB5.out.os, HB5.out.tape, HB5.out.output, HB5.out.size, HB5.out.block⟩⟩)

theorem kraftOrder_law (A : Option Addr) (c : Nat) (xs : List Int) (s t : Int) (w : World) (hb : ∀ x ∈ xs, -9223372036854775808 ≤ x ∧ x ≤ 9223372036854775807) (h : RdV w w.heap.size A (zc xs)) (hs : xs.length ≤ 9223372036854775807) (_ : -9223372036854775808 ≤ s ∧ s ≤ 9223372036854775807) (_ : -9223372036854775808 ≤ t ∧ t ≤ 9223372036854775807) :
    Calls Try.prog 8 #[.slice A xs.length c, .int .i64 s, .int .i64 t] w fun e w' => e = .returned (.bool true) ∧ Below w.heap.size w w' := by
  by_cases he : woE xs = 0
  · obtain ⟨l, rfl, h64, h24, hr⟩ := woE_zero xs he
    have hl : (ns l).length = l.length := ns_length l
    rw [hl]
    have hC := codes_ok l l.length rfl h64 h24 hr A c w h
    have hC1 : Calls Try.prog 18 #[.slice A l.length c] w fun e w' => ∃ (Ac : Option Addr) (cc : Nat), e = .returned (.tuple #[.slice Ac l.length cc, .int .i64 0]) ∧ Below w.heap.size w w' := hC.mono fun e w' ⟨Ac, cc, bs, h1, _, _, h4⟩ => ⟨Ac, cc, by rw [← codes_length l]; exact h1, h4⟩
    by_cases s0 : s < 0
    · exact lorder_s0 _ _ _ _ _ _ hC1 s0
    by_cases s1 : (l.length : Int) ≤ s
    · exact lorder_s1 _ _ _ _ _ _ hC1 (by omega) s1
    by_cases t0 : t < 0
    · exact lorder_t0 _ _ _ _ _ _ hC1 (by omega) (by omega) t0
    by_cases t1 : (l.length : Int) ≤ t
    · exact lorder_t1 _ _ _ _ _ _ hC1 (by omega) (by omega) (by omega) t1
    by_cases hst : s = t
    · exact lorder_st _ _ _ _ _ _ hC1 (by omega) (by omega) (by omega) (by omega) hst
    obtain ⟨s, rfl⟩ := Int.eq_ofNat_of_zero_le (show 0 ≤ s by omega)
    obtain ⟨t, rfl⟩ := Int.eq_ofNat_of_zero_le (show 0 ≤ t by omega)
    have hs' : s < l.length := by omega
    have ht' : t < l.length := by omega
    have hWk := words_ok l h24
    have lenS := codOf_len hWk hs'
    have lenT := codOf_len hWk ht'
    have b24s := h24 _ (at_mem l s hs')
    have b24t := h24 _ (at_mem l t ht')
    have hC2 : Calls Try.prog 18 #[.slice A l.length c] w fun e w' => ∃ (b off cc cs ct : Nat) (As At : Option Addr), e = .returned (.tuple #[.slice (some ⟨b, off, none⟩) l.length cc, .int .i64 0]) ∧ Below w.heap.size w w' ∧ (∀ V, Below w'.heap.size w' V → V.cell? ⟨b, off + s * 2, none⟩ = some (.int .i64 ((l[s]?.getD 0 : Nat) : Int)) ∧ V.cell? ⟨b, off + s * 2 + 1, none⟩ = some (.slice As (pack (codOf (words l) s)).length cs) ∧ Rd V V.heap.size As (pack (codOf (words l) s)) ∧ V.cell? ⟨b, off + t * 2, none⟩ = some (.int .i64 ((l[t]?.getD 0 : Nat) : Int)) ∧ V.cell? ⟨b, off + t * 2 + 1, none⟩ = some (.slice At (pack (codOf (words l) t)).length ct) ∧ Rd V V.heap.size At (pack (codOf (words l) t))) := by
      refine hC.mono ?_
      rintro e w' ⟨Ac, cc, bs, h1, h2, h3, h4⟩
      have hx : ∀ i, i < l.length → ∃ y : Bx, (bs.map rx)[i]? = some (rx y) ∧ y.1 = codOf (words l) i := by
        intro i hi
        have e1 : (bs.map (fun x : Bx => x.1))[i]? = some (codOf (words l) i) := by
          rw [h2]
          have := codes_get l hi
          rw [List.getElem?_eq_getElem (by rw [codes_length]; exact hi)] at this ⊢
          exact congrArg some this
        rw [List.getElem?_map] at e1
        obtain ⟨y, hy, hy2⟩ := Option.map_eq_some_iff.1 e1
        exact ⟨y, by rw [List.getElem?_map, hy]; rfl, hy2⟩
      obtain ⟨ys, hys, eys⟩ := hx s hs'
      obtain ⟨yt, hyt, eyt⟩ := hx t ht'
      obtain ⟨b, off, rfl, _⟩ := h3.at_ hys
      refine ⟨b, off, cc, ys.2.2, yt.2.2, ys.2.1, yt.2.1, by rw [← codes_length l]; exact h1, h4, fun V hV => ?_⟩
      obtain ⟨b1, o1, e1, _, p1, p2, p3⟩ := (h3.on hV).at_ hys
      obtain ⟨b2, o2, e2, _, q1, q2, q3⟩ := (h3.on hV).at_ hyt
      simp only [Option.some.injEq, Addr.mk.injEq, and_true] at e1 e2
      obtain ⟨rfl, rfl⟩ := e1
      obtain ⟨rfl, rfl⟩ := e2
      simp only [rx, eys, eyt] at p1 p2 p3 q1 q2 q3
      rw [lenS] at p1
      rw [lenT] at q1
      exact ⟨p1, p2, p3, q1, q2, q3⟩
    have hst' : s ≠ t := fun e => hst (by rw [e])
    by_cases z0 : l[s]?.getD 0 = 0
    · exact lorder_ls _ _ _ _ _ _ hs' ht' hst' h64 _ _ _ _ _ _ hC2 z0
    by_cases z1 : l[t]?.getD 0 = 0
    · exact lorder_lt _ _ _ _ _ _ hs' ht' hst' h64 _ _ _ _ _ _ hC2 z0 z1
    obtain ⟨o1, o2⟩ := order_two l h24 hr s t hs' ht' hst' z0 z1 _ rfl
    refine lorder_ok _ _ _ _ _ _ hs' ht' hst' h64 _ _ _ _ _ _ hC2 z0 z1 _ _ _ rfl o1 o2 (fun V hV => ?_) (fun V B c5 hV => ?_) (fun V B c5 hV => ?_)
    · obtain ⟨b0, o0, rfl, _, k0⟩ := (h.on hV).at_ (ns_get l s hs')
      obtain ⟨b1, o1', e1, _, k1⟩ := (h.on hV).at_ (ns_get l t ht')
      simp only [Option.some.injEq, Addr.mk.injEq, and_true] at e1
      obtain ⟨rfl, rfl⟩ := e1
      exact ⟨_, _, rfl, k0, k1⟩
    · have := get_l (codOf (words l) s) (by omega) B c5 0 (min (l[s]?.getD 0) (l[t]?.getD 0)) _ (by omega) (by omega) rfl V hV
      rw [lenS, List.drop_zero] at this
      exact this
    · have := get_l (codOf (words l) t) (by omega) B c5 0 (min (l[s]?.getD 0) (l[t]?.getD 0)) _ (by omega) (by omega) rfl V hV
      rw [lenT, List.drop_zero] at this
      exact this
  · exact lorder_e _ _ _ _ _ _ _ he (codes_w A _ c w _ he (wordsOf_no xs _ rfl hs _ rfl he A c w h))
end Go.Proofs.Ytlmoidblglmdgaa
