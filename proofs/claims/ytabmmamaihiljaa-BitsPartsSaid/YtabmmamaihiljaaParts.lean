/- The law BitsParts: for whatever bits, position and widths it returns true and leaves what it was handed as it was. -/
import Derived.Test.YtabmmamaihiljaaLists
namespace Go.Proofs.Ytabmmamaihiljaa
open Go.RowKit

set_option maxRecDepth 100000 in
set_option maxHeartbeats 1000000 in
theorem parts_out (len : Int) (A : Option Addr) (c : Nat) (bs : List Nat) (p hi lo : Int) (w : World) (h : Rd w w.heap.size A bs) (ho : hi < 0 ∨ 32 < hi ∨ lo < 0 ∨ 32 < lo) :
    Calls Try.prog 6 #[.agg #[.int .i64 len, .slice A bs.length c], .int .i64 p, .int .i64 hi, .int .i64 lo] w fun e w' => e = .returned (.bool true) ∧ Below w.heap.size w w' := by
  have HA := Lib.hid h; clear h
  have h4 : hi < 0 ∨ (0 ≤ hi ∧ 32 < hi) ∨ ((0 ≤ hi ∧ hi ≤ 32) ∧ lo < 0) ∨ ((0 ≤ hi ∧ hi ≤ 32) ∧ 0 ≤ lo ∧ 32 < lo) := by omega
  clear ho
  rcases h4 with h | ⟨h, h'⟩ | ⟨⟨h1, h2⟩, h⟩ | ⟨⟨h1, h2⟩, h, h'⟩
  · have t1 : decide (hi < 0) = true := by simp; omega
    go_enter Try.func6, Try.ntmps6
    go_wp2_with fail
    refine (begun_true _).mono ?_
    rintro e w1_ ⟨rfl, Bq⟩
    rw [World.size_alloc] at Bq
    have Sq : Below w.heap.size w w1_ := (one_below w _).trans (Bq.mono (by omega))
    have zb : w.heap.size < w1_.heap.size := by have := Bq.size; rw [World.size_alloc] at this; omega
    obtain ⟨pb, qb⟩ := box_at Bq
    replace HA : Hid (Rd w1_ w1_.heap.size A bs) := HA.out.on Sq
    have HB : Hid (Below w.heap.size w w1_) := Sq
    clear Bq Sq
    go_wp2
    go_ret
    exact ⟨rfl, HB.out⟩
  · have t1 : decide (hi < 0) = false := by simp; omega
    have t2 : decide (32 < hi) = true := by simp; omega
    go_enter Try.func6, Try.ntmps6
    go_wp2_with fail
    refine (begun_true _).mono ?_
    rintro e w1_ ⟨rfl, Bq⟩
    rw [World.size_alloc] at Bq
    have Sq : Below w.heap.size w w1_ := (one_below w _).trans (Bq.mono (by omega))
    have zb : w.heap.size < w1_.heap.size := by have := Bq.size; rw [World.size_alloc] at this; omega
    obtain ⟨pb, qb⟩ := box_at Bq
    replace HA : Hid (Rd w1_ w1_.heap.size A bs) := HA.out.on Sq
    have HB : Hid (Below w.heap.size w w1_) := Sq
    clear Bq Sq
    go_wp2
    go_ret
    exact ⟨rfl, HB.out⟩
  · have t1 : decide (hi < 0) = false := by simp; omega
    have t2 : decide (32 < hi) = false := by simp; omega
    have t3 : decide (lo < 0) = true := by simp; omega
    go_enter Try.func6, Try.ntmps6
    go_wp2_with fail
    refine (begun_true _).mono ?_
    rintro e w1_ ⟨rfl, Bq⟩
    rw [World.size_alloc] at Bq
    have Sq : Below w.heap.size w w1_ := (one_below w _).trans (Bq.mono (by omega))
    have zb : w.heap.size < w1_.heap.size := by have := Bq.size; rw [World.size_alloc] at this; omega
    obtain ⟨pb, qb⟩ := box_at Bq
    replace HA : Hid (Rd w1_ w1_.heap.size A bs) := HA.out.on Sq
    have HB : Hid (Below w.heap.size w w1_) := Sq
    clear Bq Sq
    go_wp2
    go_ret
    exact ⟨rfl, HB.out⟩
  · have t1 : decide (hi < 0) = false := by simp; omega
    have t2 : decide (32 < hi) = false := by simp; omega
    have t3 : decide (lo < 0) = false := by simp; omega
    have t4 : decide (32 < lo) = true := by simp; omega
    go_enter Try.func6, Try.ntmps6
    go_wp2_with fail
    refine (begun_true _).mono ?_
    rintro e w1_ ⟨rfl, Bq⟩
    rw [World.size_alloc] at Bq
    have Sq : Below w.heap.size w w1_ := (one_below w _).trans (Bq.mono (by omega))
    have zb : w.heap.size < w1_.heap.size := by have := Bq.size; rw [World.size_alloc] at this; omega
    obtain ⟨pb, qb⟩ := box_at Bq
    replace HA : Hid (Rd w1_ w1_.heap.size A bs) := HA.out.on Sq
    have HB : Hid (Below w.heap.size w w1_) := Sq
    clear Bq Sq
    go_wp2
    go_ret
    exact ⟨rfl, HB.out⟩

set_option maxRecDepth 100000 in
set_option maxHeartbeats 1000000 in
theorem parts_err (len : Int) (A : Option Addr) (c : Nat) (bs : List Nat) (p hi lo : Int) (w : World) (hb : ∀ b ∈ bs, b < 256) (h : Rd w w.heap.size A bs) (h1 : 0 ≤ hi) (h2 : hi ≤ 32) (h3 : 0 ≤ lo) (h4 : lo ≤ 32) (e0 : Int) (he : getE len bs p (hi + lo) = e0) (h0 : e0 ≠ 0) :
    Calls Try.prog 6 #[.agg #[.int .i64 len, .slice A bs.length c], .int .i64 p, .int .i64 hi, .int .i64 lo] w fun e w' => e = .returned (.bool true) ∧ Below w.heap.size w w' := by
  have HA := Lib.hid h; clear h
  have HE := Lib.hid he; clear he
  have t0 : (e0 != 0) = true := by simpa using h0
  have HE0 := Lib.hid h0; clear h0
  have t1 : decide (hi < 0) = false := by simp; omega
  have t2 : decide (32 < hi) = false := by simp; omega
  have t3 : decide (lo < 0) = false := by simp; omega
  have t4 : decide (32 < lo) = false := by simp; omega
  go_enter Try.func6, Try.ntmps6
  go_wp2_with fail
  refine (begun_true _).mono ?_
  rintro e w1_ ⟨rfl, Bq⟩
  rw [World.size_alloc] at Bq
  have Sq : Below w.heap.size w w1_ := (one_below w _).trans (Bq.mono (by omega))
  have zb : w.heap.size < w1_.heap.size := by have := Bq.size; rw [World.size_alloc] at this; omega
  obtain ⟨pb, qb⟩ := box_at Bq
  replace HA : Hid (Rd w1_ w1_.heap.size A bs) := HA.out.on Sq
  have HB : Hid (Below w.heap.size w w1_) := Sq
  clear Bq Sq
  go_wp2_with fail
  refine (get_e len A c bs p (hi + lo) e0 hb HE.out HE0.out _ HA.out).mono ?_
  rintro e w2_ ⟨rfl, Bq⟩
  have Sq : Below w1_.heap.size w1_ w2_ := Bq
  replace pb := (Sq.cell (p := ⟨w.heap.size, 0, none⟩) zb).trans pb
  replace qb := (Sq.cell (p := ⟨w.heap.size, 1, none⟩) zb).trans qb
  replace zb : w.heap.size < w2_.heap.size := Nat.lt_of_lt_of_le zb Sq.size
  replace HA : Hid (Rd w2_ w2_.heap.size A bs) := HA.out.on Sq
  replace HB : Hid (Below w.heap.size w w2_) := HB.out.trans (Sq.mono HB.out.size)
  clear Bq Sq
  go_wp2
  go_ret
  exact ⟨rfl, HB.out⟩

theorem two_parts (l : List Bool) (p hi lo : Nat) (h : p + (hi + lo) ≤ l.length) : num ((l.drop p).take (hi + lo)) = num ((l.drop p).take hi) * 2 ^ lo + num ((l.drop (p + hi)).take lo) := by
  rw [List.take_add, List.drop_drop]
  have hl : ((l.drop (p + hi)).take lo).length = lo := by rw [List.length_take, List.length_drop]; omega
  generalize (l.drop p).take hi = a at *
  generalize (l.drop (p + hi)).take lo = b at *
  have key : ∀ (b : List Bool) (a : List Bool), num (a ++ b) = num a * 2 ^ b.length + num b := by
    intro b
    induction b with
    | nil => intro a; simp [num]
    | cons x b ih =>
      intro a
      have e1 : a ++ x :: b = (a ++ [x]) ++ b := by simp
      have e2 : x :: b = [x] ++ b := rfl
      rw [e1, ih, e2, ih [x], num_snoc, show num [x] = x.toNat from by simp [num], List.length_append, List.length_singleton]
      rw [Nat.add_comm 1 b.length, Nat.pow_succ]
      have : (2 * num a + x.toNat) * 2 ^ b.length = num a * (2 ^ b.length * 2) + x.toNat * 2 ^ b.length := by
        rw [Nat.add_mul, Nat.mul_comm (2 ^ b.length) 2, ← Nat.mul_assoc, Nat.mul_comm 2 (num a)]
      omega
  rw [key b a, hl]

theorem or_parts (x y lo m : Nat) (hx : x < 2 ^ 32) (hy : y < 2 ^ lo) (hlo : lo ≤ 32) (hm : m = x * 2 ^ lo + y) :
    ((m : Int) == bits .or .u64 (IntKind.u64.wrap ((x : Int) * 2 ^ lo)) (y : Int)) = true := by
  have h2 : 2 ^ lo ≤ 2 ^ 32 := Nat.pow_le_pow_right (by omega) hlo
  have h3 : x * 2 ^ lo + y < 2 ^ 64 := by
    have h4 : (x + 1) * 2 ^ lo ≤ 2 ^ 32 * 2 ^ 32 := Nat.mul_le_mul (by omega) h2
    rw [Nat.add_mul, Nat.one_mul] at h4
    have e : (2 : Nat) ^ 32 * 2 ^ 32 = 2 ^ 64 := by decide
    omega
  have e1 : (x : Int) * 2 ^ lo = ((x * 2 ^ lo : Nat) : Int) := by simp
  have e2 : IntKind.u64.wrap ((x * 2 ^ lo : Nat) : Int) = ((x * 2 ^ lo : Nat) : Int) := by
    rw [IntKind.wrap_u64]
    omega
  have e3 : x * 2 ^ lo ||| y = x * 2 ^ lo + y := by
    rw [Nat.mul_comm]
    exact (Nat.two_pow_add_eq_or_of_lt hy x).symm
  rw [e1, e2, u64_or_nat _ _ (by omega) (by omega), e3, hm]
  simp

set_option maxRecDepth 100000 in
set_option maxHeartbeats 1000000 in
theorem parts_ok (l : List Bool) (hl : l.length ≤ 8192) (A : Option Addr) (c : Nat) (p hi lo : Nat) (w : World) (h : Rd w w.heap.size A (pack l)) (h1 : hi ≤ 32) (h3 : lo ≤ 32) (h2 : p + (hi + lo) ≤ l.length) (m x y : Nat) (hm : m = num ((l.drop p).take (hi + lo))) (hx : x = num ((l.drop p).take hi)) (hy : y = num ((l.drop (p + hi)).take lo)) :
    Calls Try.prog 6 #[.agg #[.int .i64 (l.length : Int), .slice A (pack l).length c], .int .i64 (p : Int), .int .i64 (hi : Int), .int .i64 (lo : Int)] w fun e w' => e = .returned (.bool true) ∧ Below w.heap.size w w' := by
  have HA := Lib.hid h; clear h
  have HT : Hid (m = x * 2 ^ lo + y) := by
    show m = _
    rw [hm, hx, hy, two_parts l p hi lo h2]
  have hxl : x < 2 ^ 32 := by
    rw [hx]
    refine Nat.lt_of_lt_of_le (num_lt _) (Nat.pow_le_pow_right (by omega) ?_)
    rw [List.length_take]; omega
  have HYL : Hid (y < 2 ^ lo) := by
    show y < _
    rw [hy]
    refine Nat.lt_of_lt_of_le (num_lt _) (Nat.pow_le_pow_right (by omega) ?_)
    rw [List.length_take]; omega
  have HM := Lib.hid hm; clear hm
  have HX := Lib.hid hx; clear hx
  have HY := Lib.hid hy; clear hy
  have HS1 : Hid ((hi : Int) + (lo : Int) = ((hi + lo : Nat) : Int)) := by show _ = _; omega
  have HS2 : Hid ((p : Int) + (hi : Int) = ((p + hi : Nat) : Int)) := by show _ = _; omega
  have t1 : decide ((hi : Int) < 0) = false := by simp
  have t2 : decide (32 < (hi : Int)) = false := by simp; omega
  have t3 : decide ((lo : Int) < 0) = false := by simp
  have t4 : decide (32 < (lo : Int)) = false := by simp; omega
  go_enter Try.func6, Try.ntmps6
  go_wp2_with fail
  refine (begun_true _).mono ?_
  rintro e w1_ ⟨rfl, Bq⟩
  rw [World.size_alloc] at Bq
  have Sq : Below w.heap.size w w1_ := (one_below w _).trans (Bq.mono (by omega))
  have zb : w.heap.size < w1_.heap.size := by have := Bq.size; rw [World.size_alloc] at this; omega
  obtain ⟨pb, qb⟩ := box_at Bq
  replace HA : Hid (Rd w1_ w1_.heap.size A (pack l)) := HA.out.on Sq
  have HB : Hid (Below w.heap.size w w1_) := Sq
  clear Bq Sq
  go_wp2_with fail
  rw [HS1.out]
  refine (get_l l hl A c p (hi + lo) m (by omega) h2 HM.out _ HA.out).mono ?_
  rintro e w2_ ⟨rfl, Bq⟩
  have Sq : Below w1_.heap.size w1_ w2_ := Bq
  replace pb := (Sq.cell (p := ⟨w.heap.size, 0, none⟩) zb).trans pb
  replace qb := (Sq.cell (p := ⟨w.heap.size, 1, none⟩) zb).trans qb
  replace zb : w.heap.size < w2_.heap.size := Nat.lt_of_lt_of_le zb Sq.size
  replace HA : Hid (Rd w2_ w2_.heap.size A (pack l)) := HA.out.on Sq
  replace HB : Hid (Below w.heap.size w w2_) := HB.out.trans (Sq.mono HB.out.size)
  clear Bq Sq
  go_wp2_with fail
  refine (get_l l hl A c p hi x (by omega) (by omega) HX.out _ HA.out).mono ?_
  rintro e w3_ ⟨rfl, Bq⟩
  have Sq : Below w2_.heap.size w2_ w3_ := Bq
  replace pb := (Sq.cell (p := ⟨w.heap.size, 0, none⟩) zb).trans pb
  replace qb := (Sq.cell (p := ⟨w.heap.size, 1, none⟩) zb).trans qb
  replace zb : w.heap.size < w3_.heap.size := Nat.lt_of_lt_of_le zb Sq.size
  replace HA : Hid (Rd w3_ w3_.heap.size A (pack l)) := HA.out.on Sq
  replace HB : Hid (Below w.heap.size w w3_) := HB.out.trans (Sq.mono HB.out.size)
  clear Bq Sq
  go_wp2_with fail
  rw [HS2.out]
  refine (get_l l hl A c (p + hi) lo y (by omega) (by omega) HY.out _ HA.out).mono ?_
  rintro e w4_ ⟨rfl, Bq⟩
  have Sq : Below w3_.heap.size w3_ w4_ := Bq
  replace pb := (Sq.cell (p := ⟨w.heap.size, 0, none⟩) zb).trans pb
  replace qb := (Sq.cell (p := ⟨w.heap.size, 1, none⟩) zb).trans qb
  replace zb : w.heap.size < w4_.heap.size := Nat.lt_of_lt_of_le zb Sq.size
  replace HA : Hid (Rd w4_ w4_.heap.size A (pack l)) := HA.out.on Sq
  replace HB : Hid (Below w.heap.size w w4_) := HB.out.trans (Sq.mono HB.out.size)
  clear Bq Sq
  go_wp2
  go_ret
  refine ⟨?_, HB.out⟩
  have hv := or_parts x y lo m hxl HYL.out h3 HT.out
  exact congrArg (fun b => Ending.returned (.bool b)) hv


theorem parts_law (len : Int) (A : Option Addr) (c : Nat) (bs : List Nat) (p hi lo : Int) (w : World) (hb : ∀ b ∈ bs, b < 256) (h : Rd w w.heap.size A bs) (_ : -9223372036854775808 ≤ p ∧ p ≤ 9223372036854775807) (_ : -9223372036854775808 ≤ hi ∧ hi ≤ 9223372036854775807) (_ : -9223372036854775808 ≤ lo ∧ lo ≤ 9223372036854775807) :
    Calls Try.prog 6 #[.agg #[.int .i64 len, .slice A bs.length c], .int .i64 p, .int .i64 hi, .int .i64 lo] w fun e w' => e = .returned (.bool true) ∧ Below w.heap.size w w' := by
  by_cases ho : hi < 0 ∨ 32 < hi ∨ lo < 0 ∨ 32 < lo
  · exact parts_out len A c bs p hi lo w h ho
  · by_cases he : getE len bs p (hi + lo) = 0
    · obtain ⟨l, q, k, rfl, rfl, rfl, hk, hk2, hq, hl⟩ := getE_zero len bs p (hi + lo) hb he
      obtain ⟨a, rfl⟩ := Int.eq_ofNat_of_zero_le (show 0 ≤ hi by omega)
      obtain ⟨b, rfl⟩ := Int.eq_ofNat_of_zero_le (show 0 ≤ lo by omega)
      have e : k = a + b := by omega
      subst e
      exact parts_ok l hl A c q a b w h (by omega) (by omega) hq _ _ _ rfl rfl rfl
    · exact parts_err len A c bs p hi lo w hb h (by omega) (by omega) (by omega) (by omega) _ rfl he
end Go.Proofs.Ytabmmamaihiljaa
