/- The law FanoRoom: for whatever list and top it returns true. -/
import Derived.Test.YtkbelhclcpepaaaJYYSix
namespace Go.Proofs.Ytkbelhclcpepaaa
set_option maxRecDepth 100000
set_option linter.unusedVariables false
open Go.RowKit Go.Shelf

theorem sfano_zero (A1 A2 : Option Addr) (c1 c2 : Nat) (w : World) (h1 : Rd w w.heap.size A1 []) (h2 : Rd w w.heap.size A2 []) :
    Calls Try.prog 56 #[.agg #[.int .i64 0, .int .i64 0, .int .i64 0, .int .i64 0, .slice A1 0 c1, .int .i64 0, .slice A2 0 c2], .agg #[.int .i64 0, .int .i64 0, .int .i64 0, .int .i64 0, .slice none 0 0, .int .i64 0, .slice none 0 0]] w fun e w' => e = .returned (.bool true) ∧ Below w.heap.size w w' :=
  sfano_true 0 0 0 0 0 0 0 c1 c2 0 0 A1 A2 none none w (fun V hV => same_0 A1 none c1 0 V (h1.on hV)) (fun V hV => same_0 A2 none c2 0 V (h2.on hV))
set_option maxHeartbeats 4000000 in
theorem room_e (A : Option Addr) (n c : Nat) (top e0 : Int) (w : World)
    (HW : Hid (∀ V, Below w.heap.size w V → Calls Try.prog 49 #[.slice A n c, .int .i64 top] V (WrP V 0 0 0 0 0 0 0 [] [] e0)))
    (t0 : (e0 != 0) = true) :
    Calls Try.prog 15 #[.slice A n c, .int .i64 top] w fun e w' => e = .returned (.bool true) ∧ Below w.heap.size w w' := by
  go_enter Try.func15, Try.ntmps15
  go_wp2_with fail
  refine (HW.out _ (Below.refl _ _)).mono ?_
  rintro e w1_ ⟨A1, c1, A2, c2, rfl, Rq, Rq_HH, Bq⟩
  have Sq : Below w.heap.size w w1_ := Bq
  have HB : Hid (Below w.heap.size w w1_) := Sq
  clear Bq Sq
  have HL := Lib.hid Rq; clear Rq
  have HH := Lib.hid Rq_HH; clear Rq_HH
  go_wp2_with fail
  refine (ybegun_true _).mono ?_
  rintro e w2_ ⟨rfl, Bq⟩
  rw [World.size_alloc] at Bq
  have Sq : Below w1_.heap.size w1_ w2_ := (one_below w1_ _).trans (Bq.mono (by omega))
  replace HL : Hid (Rd w2_ w2_.heap.size A1 []) := HL.out.on Sq
  replace HH : Hid (Rd w2_ w2_.heap.size A2 []) := HH.out.on Sq
  replace HB : Hid (Below w.heap.size w w2_) := HB.out.trans (Sq.mono HB.out.size)
  have zf : w1_.heap.size < w2_.heap.size := by have := Bq.size; rw [World.size_alloc] at this; omega
  obtain ⟨pf0, pf1, pf2, pf3, pf4, pf5, pf6⟩ := box7_at Bq
  clear Bq Sq
  go_wp2_with fail
  refine (sfano_zero A1 A2 c1 c2 _ HL.out HH.out).mono ?_
  rintro e w3_ ⟨rfl, Bq⟩
  have Sq : Below w2_.heap.size w2_ w3_ := Bq
  replace HL : Hid (Rd w3_ w3_.heap.size A1 []) := HL.out.on Sq
  replace HH : Hid (Rd w3_ w3_.heap.size A2 []) := HH.out.on Sq
  replace HB : Hid (Below w.heap.size w w3_) := HB.out.trans (Sq.mono HB.out.size)
  replace pf0 := (Sq.cell (p := ⟨w1_.heap.size, 0, none⟩) zf).trans pf0
  replace pf1 := (Sq.cell (p := ⟨w1_.heap.size, 1, none⟩) zf).trans pf1
  replace pf2 := (Sq.cell (p := ⟨w1_.heap.size, 2, none⟩) zf).trans pf2
  replace pf3 := (Sq.cell (p := ⟨w1_.heap.size, 3, none⟩) zf).trans pf3
  replace pf4 := (Sq.cell (p := ⟨w1_.heap.size, 4, none⟩) zf).trans pf4
  replace pf5 := (Sq.cell (p := ⟨w1_.heap.size, 5, none⟩) zf).trans pf5
  replace pf6 := (Sq.cell (p := ⟨w1_.heap.size, 6, none⟩) zf).trans pf6
  replace zf : w1_.heap.size < w3_.heap.size := Nat.lt_of_lt_of_le zf Sq.size
  clear Bq Sq
  go_wp2
  go_ret
  exact ⟨rfl, HB.out⟩
set_option maxHeartbeats 4000000 in
theorem room_0 (A : Option Addr) (c n1 n2 : Nat) (b1 b2 : List Nat) (top : Int) (w : World)
    (HW : Hid (∀ V, Below w.heap.size w V → Calls Try.prog 49 #[.slice A 0 c, .int .i64 top] V (WrP V 0 top 0 0 (top + 1) n1 n2 b1 b2 0)))
    (hw : IntKind.i64.wrap (top + 1) = top + 1) (hw2 : wrap64 (top + 1) = top + 1) :
    Calls Try.prog 15 #[.slice A 0 c, .int .i64 top] w fun e w' => e = .returned (.bool true) ∧ Below w.heap.size w w' := by
  go_enter Try.func15, Try.ntmps15
  go_wp2_with fail
  refine (HW.out _ (Below.refl _ _)).mono ?_
  rintro e w1_ ⟨A1, c1, A2, c2, rfl, Rq, Rq_HH, Bq⟩
  have Sq : Below w.heap.size w w1_ := Bq
  have HB : Hid (Below w.heap.size w w1_) := Sq
  clear Bq Sq
  have HL := Lib.hid Rq; clear Rq
  have HH := Lib.hid Rq_HH; clear Rq_HH
  go_wp2_with fail
  refine (ybegun_true _).mono ?_
  rintro e w2_ ⟨rfl, Bq⟩
  rw [World.size_alloc] at Bq
  have Sq : Below w1_.heap.size w1_ w2_ := (one_below w1_ _).trans (Bq.mono (by omega))
  replace HL : Hid (Rd w2_ w2_.heap.size A1 b1) := HL.out.on Sq
  replace HH : Hid (Rd w2_ w2_.heap.size A2 b2) := HH.out.on Sq
  replace HB : Hid (Below w.heap.size w w2_) := HB.out.trans (Sq.mono HB.out.size)
  have zf : w1_.heap.size < w2_.heap.size := by have := Bq.size; rw [World.size_alloc] at this; omega
  obtain ⟨pf0, pf1, pf2, pf3, pf4, pf5, pf6⟩ := box7_at Bq
  clear Bq Sq
  go_wp2
  go_ret
  exact ⟨rfl, HB.out⟩
set_option maxHeartbeats 4000000 in
theorem room_k (A : Option Addr) (n t k c n1 n2 ll lh : Nat) (b1 b2 : List Nat) (w : World)
    (HW : Hid (∀ V, Below w.heap.size w V → Calls Try.prog 49 #[.slice A n c, .int .i64 (t : Int)] V (WrP V (n : Int) (t : Int) (k : Int) (ll : Int) (lh : Int) n1 n2 b1 b2 0)))
    (fl : (n : Int) * (k : Int) = (ll : Int)) (hll : ll ≤ 8192) (hn : 1 ≤ n ∧ n ≤ 300) (ht : t ≤ 1048576) (hk : k ≤ 20) (f2 : lh ≤ 3 * n + 1) (q0 q1 : Nat) (hq0 : (n : Int) * 2 ^ k = (q0 : Int)) (hq1 : (n : Int) * 2 ^ (k + 1) = (q1 : Int)) (hb0 : q0 ≤ t + 1) (hb1 : t + 1 < q1) (hb2 : q1 ≤ 9223372036854775807) (t0 : ((k : Int) == 0) = false) (tb1 : decide ((t : Int) + 1 < (q1 : Int)) = true) (tn : ((n : Int) == 0) = false) :
    Calls Try.prog 15 #[.slice A n c, .int .i64 (t : Int)] w fun e w' => e = .returned (.bool true) ∧ Below w.heap.size w w' := by
  go_enter Try.func15, Try.ntmps15
  go_wp2_with fail
  refine (HW.out _ (Below.refl _ _)).mono ?_
  rintro e w1_ ⟨A1, c1, A2, c2, rfl, Rq, Rq_HH, Bq⟩
  have Sq : Below w.heap.size w w1_ := Bq
  have HB : Hid (Below w.heap.size w w1_) := Sq
  clear Bq Sq
  have HL := Lib.hid Rq; clear Rq
  have HH := Lib.hid Rq_HH; clear Rq_HH
  go_wp2_with fail
  refine (ybegun_true _).mono ?_
  rintro e w2_ ⟨rfl, Bq⟩
  rw [World.size_alloc] at Bq
  have Sq : Below w1_.heap.size w1_ w2_ := (one_below w1_ _).trans (Bq.mono (by omega))
  replace HL : Hid (Rd w2_ w2_.heap.size A1 b1) := HL.out.on Sq
  replace HH : Hid (Rd w2_ w2_.heap.size A2 b2) := HH.out.on Sq
  replace HB : Hid (Below w.heap.size w w2_) := HB.out.trans (Sq.mono HB.out.size)
  have zf : w1_.heap.size < w2_.heap.size := by have := Bq.size; rw [World.size_alloc] at this; omega
  obtain ⟨pf0, pf1, pf2, pf3, pf4, pf5, pf6⟩ := box7_at Bq
  clear Bq Sq
  go_wp2
  go_ret
  exact ⟨rfl, HB.out⟩
set_option maxHeartbeats 4000000 in
theorem room_k0 (A : Option Addr) (n t c n1 n2 lh : Nat) (b1 b2 : List Nat) (w : World)
    (HW : Hid (∀ V, Below w.heap.size w V → Calls Try.prog 49 #[.slice A n c, .int .i64 (t : Int)] V (WrP V (n : Int) (t : Int) 0 0 (lh : Int) n1 n2 b1 b2 0)))
    (hn : 1 ≤ n ∧ n ≤ 300) (ht : t ≤ 1048576) (f2 : lh ≤ 3 * n + 1) (tb1 : decide ((t : Int) + 1 < (n : Int) * 2) = true) (tn : ((n : Int) == 0) = false) :
    Calls Try.prog 15 #[.slice A n c, .int .i64 (t : Int)] w fun e w' => e = .returned (.bool true) ∧ Below w.heap.size w w' := by
  go_enter Try.func15, Try.ntmps15
  go_wp2_with fail
  refine (HW.out _ (Below.refl _ _)).mono ?_
  rintro e w1_ ⟨A1, c1, A2, c2, rfl, Rq, Rq_HH, Bq⟩
  have Sq : Below w.heap.size w w1_ := Bq
  have HB : Hid (Below w.heap.size w w1_) := Sq
  clear Bq Sq
  have HL := Lib.hid Rq; clear Rq
  have HH := Lib.hid Rq_HH; clear Rq_HH
  go_wp2_with fail
  refine (ybegun_true _).mono ?_
  rintro e w2_ ⟨rfl, Bq⟩
  rw [World.size_alloc] at Bq
  have Sq : Below w1_.heap.size w1_ w2_ := (one_below w1_ _).trans (Bq.mono (by omega))
  replace HL : Hid (Rd w2_ w2_.heap.size A1 b1) := HL.out.on Sq
  replace HH : Hid (Rd w2_ w2_.heap.size A2 b2) := HH.out.on Sq
  replace HB : Hid (Below w.heap.size w w2_) := HB.out.trans (Sq.mono HB.out.size)
  have zf : w1_.heap.size < w2_.heap.size := by have := Bq.size; rw [World.size_alloc] at this; omega
  obtain ⟨pf0, pf1, pf2, pf3, pf4, pf5, pf6⟩ := box7_at Bq
  clear Bq Sq
  go_wp2
  go_ret
  exact ⟨rfl, HB.out⟩
theorem fanoRoom_law (A : Option Addr) (c : Nat) (xs : List Int) (top : Int) (w : World) (hcp : xs.length ≤ c) (hnl : A = none → c = 0) (hb : ∀ x ∈ xs, -9223372036854775808 ≤ x ∧ x ≤ 9223372036854775807) (h : RdV w w.heap.size A (zc xs)) (hs : xs.length ≤ 9223372036854775807) (hp : -9223372036854775808 ≤ top ∧ top ≤ 9223372036854775807) :
    Calls Try.prog 15 #[.slice A xs.length c, .int .i64 top] w fun e w' => e = .returned (.bool true) ∧ Below w.heap.size w w' := by
  rcases writeP xs _ rfl hs top A c w h with ⟨e0, t0, _, HW⟩ | ⟨l, t, k, rfl, rfl, hn, hn3, ht, hle, hu, hk, hz, HW⟩
  · exact room_e A _ c top e0 w HW t0
  · obtain ⟨n, hnn⟩ : ∃ n, (ns l).length = n := ⟨_, rfl⟩
    rw [hnn] at HW hn hn3 hk hz ⊢
    have hLl := loP_len k l
    have hHl := fhi_len k l t hu hle
    rw [hn] at hLl hHl
    have hk20 : k ≤ 20 := by rw [← hk]; exact fw_bound n t ht
    rcases Nat.eq_zero_or_pos n with rfl | hpos
    · obtain rfl : k = 0 := by rw [← hk]; exact fw_zero t
      rw [hLl, hHl] at HW
      simp only [Nat.zero_mul, Nat.pow_zero, Nat.div_one, Nat.zero_add, Int.natCast_add, Int.natCast_one, Int.natCast_zero] at HW
      exact room_0 A c _ _ _ _ (t : Int) w HW (by rw [IntKind.wrap_i64]; omega) (by unfold wrap64; omega)
    · have hh := fw_high n t hpos
      have he := fw_end n t hpos
      rw [hk] at hh he
      have hp20 : 2 ^ k ≤ 2 ^ 20 := Nat.pow_le_pow_right (by omega) hk20
      have hq1 : n * 2 ^ (k + 1) ≤ 300 * 2 ^ 21 := Nat.mul_le_mul hn3 (Nat.pow_le_pow_right (by omega) (by omega))
      have hll : n * k ≤ 300 * 20 := Nat.mul_le_mul hn3 hk20
      rw [hLl, hHl] at HW
      have hp := Nat.pow_succ 2 k
      rcases Nat.eq_zero_or_pos k with rfl | h0
      · simp only [Nat.mul_zero, Int.natCast_zero] at HW
        exact room_k0 A n t c _ _ _ _ _ w HW ⟨hpos, hn3⟩ ht (by omega) (by simp at he ⊢; omega) (by simp; omega)
      · have hb := fw_of n t k h0 (by omega)
        exact room_k A n t k c _ _ _ _ _ _ w HW (by simp) (by omega) ⟨hpos, hn3⟩ ht hk20 (by omega) (n * 2 ^ k) (n * 2 ^ (k + 1)) (by simp) (by simp) hb he (by omega) (by simp; omega) (by rw [decide_eq_true_eq]; omega) (by simp; omega)
end Go.Proofs.Ytkbelhclcpepaaa
