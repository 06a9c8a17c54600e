/- The program's ReadGamma, ReadDelta and Long, whatever they are handed; each with its conditions. -/
import Derived.Test.YtcacbekdghlncaaElias
import Derived.Test.YtcacbekdghlncaaURead
namespace Go.Proofs.Ytcacbekdghlncaa
set_option maxRecDepth 100000
set_option linter.unusedVariables false
open Go.RowKit

theorem shl_w (k m : Nat) (hk : k ≤ 63) (hm : m < 2 ^ k) : IntKind.u64.wrap (IntKind.u64.wrap (IntKind.u64.wrap (2 ^ k) + (m : Int)) - 1) = ((2 ^ k + m - 1 : Nat) : Int) := by
  have h := Nat.pow_le_pow_right (n := 2) (by omega) hk
  have e : ((2 : Int) ^ k) = ((2 ^ k : Nat) : Int) := by simp
  have h1 := Nat.two_pow_pos k
  rw [e]
  generalize 2 ^ k = q at *
  rw [u64w (q : Int) (by omega) (by omega), u64w ((q : Int) + (m : Int)) (by omega) (by omega), u64w _ (by omega) (by omega)]
  omega

set_option maxHeartbeats 2000000 in
theorem read_u_e (w : World) (len : Int) (A : Option Addr) (c N : Nat) (bs : List Nat) (p : Int) (hR : Rd w w.heap.size A bs) (k fr : Nat) (e0 : Int) (h0 : e0 ≠ 0)
    (HF : Hid (∀ V, Rd V V.heap.size A bs → Calls Try.prog 34 #[.agg #[.int .i64 len, .slice A N c], .int .i64 p] V (ReadP V k fr e0))) :
    Calls Try.prog 55 #[.agg #[.int .i64 len, .slice A N c], .int .i64 p, .func (.func 34) #[] #[]] w (ReadP w 0 0 e0) := by
  have HA := Lib.hid hR; clear hR
  have t0 : (e0 != 0) = true := by simpa using h0
  go_enter Try.func55, Try.ntmps55
  go_wp2_with fail
  refine (HF.out _ (HA.out.on (one_below _ _))).mono ?_
  rintro e w1 ⟨rfl, B1⟩
  have HB : Hid (Below w.heap.size w w1) := (one_below w _).trans (B1.mono (by rw [World.size_alloc]; omega))
  rw [World.size_alloc] at B1
  have HBx := Lib.hid B1
  obtain ⟨p1, q1⟩ := box_at B1
  clear B1
  go_wp2_with fail
  refine (range1 e0 _ e0 (by unfold rgE; rw [if_neg (fun h => h0 h.1)]) _ _ rfl).mono ?_
  rintro e w2 ⟨rfl, B2⟩
  have HB2 : Hid (Below w.heap.size w w2) := HB.out.trans (B2.mono HB.out.size)
  clear B2 h0
  go_wp2
  go_ret3
  exact ⟨rfl, HB2.out⟩
set_option maxHeartbeats 2000000 in
theorem read_u_big (w : World) (len : Int) (A : Option Addr) (c N : Nat) (bs : List Nat) (p : Int) (hR : Rd w w.heap.size A bs) (k fr : Nat) (hk : 63 < k)
    (HF : Hid (∀ V, Rd V V.heap.size A bs → Calls Try.prog 34 #[.agg #[.int .i64 len, .slice A N c], .int .i64 p] V (ReadP V k fr 0))) :
    Calls Try.prog 55 #[.agg #[.int .i64 len, .slice A N c], .int .i64 p, .func (.func 34) #[] #[]] w (ReadP w 0 0 3) := by
  have HA := Lib.hid hR; clear hR
  have t1 : decide ((k : Int) ≤ 63) = false := by simp; omega
  go_enter Try.func55, Try.ntmps55
  go_wp2_with fail
  refine (HF.out _ (HA.out.on (one_below _ _))).mono ?_
  rintro e w1 ⟨rfl, B1⟩
  have HB : Hid (Below w.heap.size w w1) := (one_below w _).trans (B1.mono (by rw [World.size_alloc]; omega))
  rw [World.size_alloc] at B1
  have HBx := Lib.hid B1
  obtain ⟨p1, q1⟩ := box_at B1
  clear B1
  go_wp2_with fail
  refine (range1 0 false 3 rfl _ _ rfl).mono ?_
  rintro e w2 ⟨rfl, B2⟩
  have HB2 : Hid (Below w.heap.size w w2) := HB.out.trans (B2.mono HB.out.size)
  clear B2
  go_wp2
  go_ret3
  exact ⟨rfl, HB2.out⟩
set_option maxHeartbeats 2000000 in
theorem read_u_short (w : World) (len : Int) (A : Option Addr) (c N : Nat) (bs : List Nat) (p : Int) (hR : Rd w w.heap.size A bs) (k fr : Nat) (hk : k ≤ 63) (e1 : Int) (h1 : e1 ≠ 0)
    (HF : Hid (∀ V, Rd V V.heap.size A bs → Calls Try.prog 34 #[.agg #[.int .i64 len, .slice A N c], .int .i64 p] V (ReadP V k fr 0)))
    (HG : Hid (∀ V, Rd V V.heap.size A bs → Calls Try.prog 32 #[.agg #[.int .i64 len, .slice A N c], .int .i64 (fr : Int), .int .i64 (k : Int)] V (Got V 0 e1))) :
    Calls Try.prog 55 #[.agg #[.int .i64 len, .slice A N c], .int .i64 p, .func (.func 34) #[] #[]] w (ReadP w 0 0 e1) := by
  have HA := Lib.hid hR; clear hR
  have t1 : decide ((k : Int) ≤ 63) = true := by simp; omega
  have t2 : (e1 != 0) = true := by simpa using h1
  go_enter Try.func55, Try.ntmps55
  go_wp2_with fail
  refine (HF.out _ (HA.out.on (one_below _ _))).mono ?_
  rintro e w1 ⟨rfl, B1⟩
  have HB : Hid (Below w.heap.size w w1) := (one_below w _).trans (B1.mono (by rw [World.size_alloc]; omega))
  rw [World.size_alloc] at B1
  have HBx := Lib.hid B1
  obtain ⟨p1, q1⟩ := box_at B1
  clear B1
  go_wp2_with fail
  refine (range1 0 true 0 rfl _ _ rfl).mono ?_
  rintro e w2 ⟨rfl, B2⟩
  have HB2 : Hid (Below w.heap.size w w2) := HB.out.trans (B2.mono HB.out.size)
  have HBy : Hid (Below (w.heap.size + 1) (w.alloc (.cells #[.int .i64 len, .slice A N c] 25)) w2) := HBx.out.trans (B2.mono (by have := HBx.out.size; rw [World.size_alloc] at this; omega))
  clear B2 p1 q1 HBx
  obtain ⟨p1, q1⟩ := box_at HBy.out
  go_wp2_with fail
  refine (HG.out _ (HA.out.on HB2.out)).mono ?_
  rintro e w3 ⟨rfl, B3⟩
  have HB3 : Hid (Below w.heap.size w w3) := HB2.out.trans (B3.mono HB2.out.size)
  clear B3
  go_wp2_with fail
  refine (range1 e1 _ e1 (by unfold rgE; rw [if_neg (fun h => h1 h.1)]) _ _ rfl).mono ?_
  rintro e w4 ⟨rfl, B4⟩
  have HB4 : Hid (Below w.heap.size w w4) := HB3.out.trans (B4.mono HB3.out.size)
  clear B4 h1
  go_wp2
  go_ret3
  exact ⟨rfl, HB4.out⟩
set_option maxHeartbeats 2000000 in
theorem read_u_over (w : World) (len : Int) (A : Option Addr) (c N : Nat) (bs : List Nat) (p : Int) (hR : Rd w w.heap.size A bs) (k fr m : Nat) (hk : k ≤ 63) (hm : m < 2 ^ k) (hq : 1099511627776 < 2 ^ k + m - 1)
    (HF : Hid (∀ V, Rd V V.heap.size A bs → Calls Try.prog 34 #[.agg #[.int .i64 len, .slice A N c], .int .i64 p] V (ReadP V k fr 0)))
    (HG : Hid (∀ V, Rd V V.heap.size A bs → Calls Try.prog 32 #[.agg #[.int .i64 len, .slice A N c], .int .i64 (fr : Int), .int .i64 (k : Int)] V (Got V m 0))) :
    Calls Try.prog 55 #[.agg #[.int .i64 len, .slice A N c], .int .i64 p, .func (.func 34) #[] #[]] w (ReadP w 0 0 3) := by
  have HA := Lib.hid hR; clear hR
  have t1 : decide ((k : Int) ≤ 63) = true := by simp; omega
  go_enter Try.func55, Try.ntmps55
  go_wp2_with fail
  refine (HF.out _ (HA.out.on (one_below _ _))).mono ?_
  rintro e w1 ⟨rfl, B1⟩
  have HB : Hid (Below w.heap.size w w1) := (one_below w _).trans (B1.mono (by rw [World.size_alloc]; omega))
  rw [World.size_alloc] at B1
  have HBx := Lib.hid B1
  obtain ⟨p1, q1⟩ := box_at B1
  clear B1
  go_wp2_with fail
  refine (range1 0 true 0 rfl _ _ rfl).mono ?_
  rintro e w2 ⟨rfl, B2⟩
  have HB2 : Hid (Below w.heap.size w w2) := HB.out.trans (B2.mono HB.out.size)
  have HBy : Hid (Below (w.heap.size + 1) (w.alloc (.cells #[.int .i64 len, .slice A N c] 25)) w2) := HBx.out.trans (B2.mono (by have := HBx.out.size; rw [World.size_alloc] at this; omega))
  clear B2 p1 q1 HBx
  obtain ⟨p1, q1⟩ := box_at HBy.out
  go_wp2_with fail
  refine (HG.out _ (HA.out.on HB2.out)).mono ?_
  rintro e w3 ⟨rfl, B3⟩
  have HB3 : Hid (Below w.heap.size w w3) := HB2.out.trans (B3.mono HB2.out.size)
  clear B3
  have HW := Lib.hid (shl_w k m hk hm)
  have t3 : decide (((2 ^ k + m - 1 : Nat) : Int) ≤ 1099511627776) = false := by simp only [decide_eq_false_iff_not]; omega
  clear hq hm
  generalize 2 ^ k + m - 1 = r at *
  go_wp2_with fail
  rw [HW.out, t3]
  refine (range1 0 false 3 rfl _ _ rfl).mono ?_
  rintro e w4 ⟨rfl, B4⟩
  have HB4 : Hid (Below w.heap.size w w4) := HB3.out.trans (B4.mono HB3.out.size)
  clear B4
  go_wp2
  go_ret3
  exact ⟨rfl, HB4.out⟩
set_option maxHeartbeats 2000000 in
theorem read_u_ok (w : World) (len : Int) (A : Option Addr) (c N : Nat) (bs : List Nat) (p : Int) (hR : Rd w w.heap.size A bs) (k fr m : Nat) (hk : k ≤ 63) (hm : m < 2 ^ k) (hf : fr ≤ 8192) (r to : Nat) (hr : 2 ^ k + m - 1 = r) (hto : fr + k = to) (hq : r ≤ 1099511627776)
    (HF : Hid (∀ V, Rd V V.heap.size A bs → Calls Try.prog 34 #[.agg #[.int .i64 len, .slice A N c], .int .i64 p] V (ReadP V k fr 0)))
    (HG : Hid (∀ V, Rd V V.heap.size A bs → Calls Try.prog 32 #[.agg #[.int .i64 len, .slice A N c], .int .i64 (fr : Int), .int .i64 (k : Int)] V (Got V m 0))) :
    Calls Try.prog 55 #[.agg #[.int .i64 len, .slice A N c], .int .i64 p, .func (.func 34) #[] #[]] w (ReadP w r to 0) := by
  have HA := Lib.hid hR; clear hR
  have t1 : decide ((k : Int) ≤ 63) = true := by simp; omega
  go_enter Try.func55, Try.ntmps55
  go_wp2_with fail
  refine (HF.out _ (HA.out.on (one_below _ _))).mono ?_
  rintro e w1 ⟨rfl, B1⟩
  have HB : Hid (Below w.heap.size w w1) := (one_below w _).trans (B1.mono (by rw [World.size_alloc]; omega))
  rw [World.size_alloc] at B1
  have HBx := Lib.hid B1
  obtain ⟨p1, q1⟩ := box_at B1
  clear B1
  go_wp2_with fail
  refine (range1 0 true 0 rfl _ _ rfl).mono ?_
  rintro e w2 ⟨rfl, B2⟩
  have HB2 : Hid (Below w.heap.size w w2) := HB.out.trans (B2.mono HB.out.size)
  have HBy : Hid (Below (w.heap.size + 1) (w.alloc (.cells #[.int .i64 len, .slice A N c] 25)) w2) := HBx.out.trans (B2.mono (by have := HBx.out.size; rw [World.size_alloc] at this; omega))
  clear B2 p1 q1 HBx
  obtain ⟨p1, q1⟩ := box_at HBy.out
  go_wp2_with fail
  refine (HG.out _ (HA.out.on HB2.out)).mono ?_
  rintro e w3 ⟨rfl, B3⟩
  have HB3 : Hid (Below w.heap.size w w3) := HB2.out.trans (B3.mono HB2.out.size)
  clear B3
  have HW := Lib.hid (shl_w k m hk hm)
  rw [hr] at HW
  have t3 : decide ((r : Int) ≤ 1099511627776) = true := by simp only [decide_eq_true_eq]; omega
  clear hr hm
  go_wp2_with fail
  rw [HW.out, t3]
  refine (range1 0 true 0 rfl _ _ rfl).mono ?_
  rintro e w4 ⟨rfl, B4⟩
  have HB4 : Hid (Below w.heap.size w w4) := HB3.out.trans (B4.mono HB3.out.size)
  clear B4
  go_wp2
  go_ret3
  exact ⟨by rw [← hto]; rfl, HB4.out⟩
set_option maxHeartbeats 2000000 in
theorem read_g_e (w : World) (len : Int) (A : Option Addr) (c N : Nat) (bs : List Nat) (p : Int) (hR : Rd w w.heap.size A bs) (k fr : Nat) (e0 : Int) (h0 : e0 ≠ 0)
    (HF : Hid (∀ V, Rd V V.heap.size A bs → Calls Try.prog 17 #[.agg #[.int .i64 len, .slice A N c], .int .i64 p] V (ReadP V k fr e0))) :
    Calls Try.prog 55 #[.agg #[.int .i64 len, .slice A N c], .int .i64 p, .func (.func 17) #[] #[]] w (ReadP w 0 0 e0) := by
  have HA := Lib.hid hR; clear hR
  have t0 : (e0 != 0) = true := by simpa using h0
  go_enter Try.func55, Try.ntmps55
  go_wp2_with fail
  refine (HF.out _ (HA.out.on (one_below _ _))).mono ?_
  rintro e w1 ⟨rfl, B1⟩
  have HB : Hid (Below w.heap.size w w1) := (one_below w _).trans (B1.mono (by rw [World.size_alloc]; omega))
  rw [World.size_alloc] at B1
  have HBx := Lib.hid B1
  obtain ⟨p1, q1⟩ := box_at B1
  clear B1
  go_wp2_with fail
  refine (range1 e0 _ e0 (by unfold rgE; rw [if_neg (fun h => h0 h.1)]) _ _ rfl).mono ?_
  rintro e w2 ⟨rfl, B2⟩
  have HB2 : Hid (Below w.heap.size w w2) := HB.out.trans (B2.mono HB.out.size)
  clear B2 h0
  go_wp2
  go_ret3
  exact ⟨rfl, HB2.out⟩
set_option maxHeartbeats 2000000 in
theorem read_g_big (w : World) (len : Int) (A : Option Addr) (c N : Nat) (bs : List Nat) (p : Int) (hR : Rd w w.heap.size A bs) (k fr : Nat) (hk : 63 < k)
    (HF : Hid (∀ V, Rd V V.heap.size A bs → Calls Try.prog 17 #[.agg #[.int .i64 len, .slice A N c], .int .i64 p] V (ReadP V k fr 0))) :
    Calls Try.prog 55 #[.agg #[.int .i64 len, .slice A N c], .int .i64 p, .func (.func 17) #[] #[]] w (ReadP w 0 0 3) := by
  have HA := Lib.hid hR; clear hR
  have t1 : decide ((k : Int) ≤ 63) = false := by simp; omega
  go_enter Try.func55, Try.ntmps55
  go_wp2_with fail
  refine (HF.out _ (HA.out.on (one_below _ _))).mono ?_
  rintro e w1 ⟨rfl, B1⟩
  have HB : Hid (Below w.heap.size w w1) := (one_below w _).trans (B1.mono (by rw [World.size_alloc]; omega))
  rw [World.size_alloc] at B1
  have HBx := Lib.hid B1
  obtain ⟨p1, q1⟩ := box_at B1
  clear B1
  go_wp2_with fail
  refine (range1 0 false 3 rfl _ _ rfl).mono ?_
  rintro e w2 ⟨rfl, B2⟩
  have HB2 : Hid (Below w.heap.size w w2) := HB.out.trans (B2.mono HB.out.size)
  clear B2
  go_wp2
  go_ret3
  exact ⟨rfl, HB2.out⟩
set_option maxHeartbeats 2000000 in
theorem read_g_short (w : World) (len : Int) (A : Option Addr) (c N : Nat) (bs : List Nat) (p : Int) (hR : Rd w w.heap.size A bs) (k fr : Nat) (hk : k ≤ 63) (e1 : Int) (h1 : e1 ≠ 0)
    (HF : Hid (∀ V, Rd V V.heap.size A bs → Calls Try.prog 17 #[.agg #[.int .i64 len, .slice A N c], .int .i64 p] V (ReadP V k fr 0)))
    (HG : Hid (∀ V, Rd V V.heap.size A bs → Calls Try.prog 32 #[.agg #[.int .i64 len, .slice A N c], .int .i64 (fr : Int), .int .i64 (k : Int)] V (Got V 0 e1))) :
    Calls Try.prog 55 #[.agg #[.int .i64 len, .slice A N c], .int .i64 p, .func (.func 17) #[] #[]] w (ReadP w 0 0 e1) := by
  have HA := Lib.hid hR; clear hR
  have t1 : decide ((k : Int) ≤ 63) = true := by simp; omega
  have t2 : (e1 != 0) = true := by simpa using h1
  go_enter Try.func55, Try.ntmps55
  go_wp2_with fail
  refine (HF.out _ (HA.out.on (one_below _ _))).mono ?_
  rintro e w1 ⟨rfl, B1⟩
  have HB : Hid (Below w.heap.size w w1) := (one_below w _).trans (B1.mono (by rw [World.size_alloc]; omega))
  rw [World.size_alloc] at B1
  have HBx := Lib.hid B1
  obtain ⟨p1, q1⟩ := box_at B1
  clear B1
  go_wp2_with fail
  refine (range1 0 true 0 rfl _ _ rfl).mono ?_
  rintro e w2 ⟨rfl, B2⟩
  have HB2 : Hid (Below w.heap.size w w2) := HB.out.trans (B2.mono HB.out.size)
  have HBy : Hid (Below (w.heap.size + 1) (w.alloc (.cells #[.int .i64 len, .slice A N c] 25)) w2) := HBx.out.trans (B2.mono (by have := HBx.out.size; rw [World.size_alloc] at this; omega))
  clear B2 p1 q1 HBx
  obtain ⟨p1, q1⟩ := box_at HBy.out
  go_wp2_with fail
  refine (HG.out _ (HA.out.on HB2.out)).mono ?_
  rintro e w3 ⟨rfl, B3⟩
  have HB3 : Hid (Below w.heap.size w w3) := HB2.out.trans (B3.mono HB2.out.size)
  clear B3
  go_wp2_with fail
  refine (range1 e1 _ e1 (by unfold rgE; rw [if_neg (fun h => h1 h.1)]) _ _ rfl).mono ?_
  rintro e w4 ⟨rfl, B4⟩
  have HB4 : Hid (Below w.heap.size w w4) := HB3.out.trans (B4.mono HB3.out.size)
  clear B4 h1
  go_wp2
  go_ret3
  exact ⟨rfl, HB4.out⟩
set_option maxHeartbeats 2000000 in
theorem read_g_over (w : World) (len : Int) (A : Option Addr) (c N : Nat) (bs : List Nat) (p : Int) (hR : Rd w w.heap.size A bs) (k fr m : Nat) (hk : k ≤ 63) (hm : m < 2 ^ k) (hq : 1099511627776 < 2 ^ k + m - 1)
    (HF : Hid (∀ V, Rd V V.heap.size A bs → Calls Try.prog 17 #[.agg #[.int .i64 len, .slice A N c], .int .i64 p] V (ReadP V k fr 0)))
    (HG : Hid (∀ V, Rd V V.heap.size A bs → Calls Try.prog 32 #[.agg #[.int .i64 len, .slice A N c], .int .i64 (fr : Int), .int .i64 (k : Int)] V (Got V m 0))) :
    Calls Try.prog 55 #[.agg #[.int .i64 len, .slice A N c], .int .i64 p, .func (.func 17) #[] #[]] w (ReadP w 0 0 3) := by
  have HA := Lib.hid hR; clear hR
  have t1 : decide ((k : Int) ≤ 63) = true := by simp; omega
  go_enter Try.func55, Try.ntmps55
  go_wp2_with fail
  refine (HF.out _ (HA.out.on (one_below _ _))).mono ?_
  rintro e w1 ⟨rfl, B1⟩
  have HB : Hid (Below w.heap.size w w1) := (one_below w _).trans (B1.mono (by rw [World.size_alloc]; omega))
  rw [World.size_alloc] at B1
  have HBx := Lib.hid B1
  obtain ⟨p1, q1⟩ := box_at B1
  clear B1
  go_wp2_with fail
  refine (range1 0 true 0 rfl _ _ rfl).mono ?_
  rintro e w2 ⟨rfl, B2⟩
  have HB2 : Hid (Below w.heap.size w w2) := HB.out.trans (B2.mono HB.out.size)
  have HBy : Hid (Below (w.heap.size + 1) (w.alloc (.cells #[.int .i64 len, .slice A N c] 25)) w2) := HBx.out.trans (B2.mono (by have := HBx.out.size; rw [World.size_alloc] at this; omega))
  clear B2 p1 q1 HBx
  obtain ⟨p1, q1⟩ := box_at HBy.out
  go_wp2_with fail
  refine (HG.out _ (HA.out.on HB2.out)).mono ?_
  rintro e w3 ⟨rfl, B3⟩
  have HB3 : Hid (Below w.heap.size w w3) := HB2.out.trans (B3.mono HB2.out.size)
  clear B3
  have HW := Lib.hid (shl_w k m hk hm)
  have t3 : decide (((2 ^ k + m - 1 : Nat) : Int) ≤ 1099511627776) = false := by simp only [decide_eq_false_iff_not]; omega
  clear hq hm
  generalize 2 ^ k + m - 1 = r at *
  go_wp2_with fail
  rw [HW.out, t3]
  refine (range1 0 false 3 rfl _ _ rfl).mono ?_
  rintro e w4 ⟨rfl, B4⟩
  have HB4 : Hid (Below w.heap.size w w4) := HB3.out.trans (B4.mono HB3.out.size)
  clear B4
  go_wp2
  go_ret3
  exact ⟨rfl, HB4.out⟩
set_option maxHeartbeats 2000000 in
theorem read_g_ok (w : World) (len : Int) (A : Option Addr) (c N : Nat) (bs : List Nat) (p : Int) (hR : Rd w w.heap.size A bs) (k fr m : Nat) (hk : k ≤ 63) (hm : m < 2 ^ k) (hf : fr ≤ 8192) (r to : Nat) (hr : 2 ^ k + m - 1 = r) (hto : fr + k = to) (hq : r ≤ 1099511627776)
    (HF : Hid (∀ V, Rd V V.heap.size A bs → Calls Try.prog 17 #[.agg #[.int .i64 len, .slice A N c], .int .i64 p] V (ReadP V k fr 0)))
    (HG : Hid (∀ V, Rd V V.heap.size A bs → Calls Try.prog 32 #[.agg #[.int .i64 len, .slice A N c], .int .i64 (fr : Int), .int .i64 (k : Int)] V (Got V m 0))) :
    Calls Try.prog 55 #[.agg #[.int .i64 len, .slice A N c], .int .i64 p, .func (.func 17) #[] #[]] w (ReadP w r to 0) := by
  have HA := Lib.hid hR; clear hR
  have t1 : decide ((k : Int) ≤ 63) = true := by simp; omega
  go_enter Try.func55, Try.ntmps55
  go_wp2_with fail
  refine (HF.out _ (HA.out.on (one_below _ _))).mono ?_
  rintro e w1 ⟨rfl, B1⟩
  have HB : Hid (Below w.heap.size w w1) := (one_below w _).trans (B1.mono (by rw [World.size_alloc]; omega))
  rw [World.size_alloc] at B1
  have HBx := Lib.hid B1
  obtain ⟨p1, q1⟩ := box_at B1
  clear B1
  go_wp2_with fail
  refine (range1 0 true 0 rfl _ _ rfl).mono ?_
  rintro e w2 ⟨rfl, B2⟩
  have HB2 : Hid (Below w.heap.size w w2) := HB.out.trans (B2.mono HB.out.size)
  have HBy : Hid (Below (w.heap.size + 1) (w.alloc (.cells #[.int .i64 len, .slice A N c] 25)) w2) := HBx.out.trans (B2.mono (by have := HBx.out.size; rw [World.size_alloc] at this; omega))
  clear B2 p1 q1 HBx
  obtain ⟨p1, q1⟩ := box_at HBy.out
  go_wp2_with fail
  refine (HG.out _ (HA.out.on HB2.out)).mono ?_
  rintro e w3 ⟨rfl, B3⟩
  have HB3 : Hid (Below w.heap.size w w3) := HB2.out.trans (B3.mono HB2.out.size)
  clear B3
  have HW := Lib.hid (shl_w k m hk hm)
  rw [hr] at HW
  have t3 : decide ((r : Int) ≤ 1099511627776) = true := by simp only [decide_eq_true_eq]; omega
  clear hr hm
  go_wp2_with fail
  rw [HW.out, t3]
  refine (range1 0 true 0 rfl _ _ rfl).mono ?_
  rintro e w4 ⟨rfl, B4⟩
  have HB4 : Hid (Below w.heap.size w w4) := HB3.out.trans (B4.mono HB3.out.size)
  clear B4
  go_wp2
  go_ret3
  exact ⟨by rw [← hto]; rfl, HB4.out⟩
set_option maxHeartbeats 2000000 in
theorem rgamma_pass (w : World) (len : Int) (A : Option Addr) (c N : Nat) (bs : List Nat) (p : Int) (hR : Rd w w.heap.size A bs) (k fr : Nat) (e0 : Int)
    (HF : Hid (∀ V, Rd V V.heap.size A bs → Calls Try.prog 55 #[.agg #[.int .i64 len, .slice A N c], .int .i64 p, .func (.func 34) #[] #[]] V (ReadP V k fr e0))) :
    Calls Try.prog 17 #[.agg #[.int .i64 len, .slice A N c], .int .i64 p] w (ReadP w k fr e0) := by
  have HA := Lib.hid hR; clear hR
  go_enter Try.func17, Try.ntmps17
  go_wp2_with fail
  refine (HF.out _ (HA.out.on (one_below _ _))).mono ?_
  rintro e w1 ⟨rfl, B1⟩
  have HB : Hid (Below w.heap.size w w1) := (one_below w _).trans (B1.mono (by rw [World.size_alloc]; omega))
  clear B1
  go_wp2
  go_ret3
  exact ⟨rfl, HB.out⟩
set_option maxHeartbeats 2000000 in
theorem rdelta_pass (w : World) (len : Int) (A : Option Addr) (c N : Nat) (bs : List Nat) (p : Int) (hR : Rd w w.heap.size A bs) (k fr : Nat) (e0 : Int)
    (HF : Hid (∀ V, Rd V V.heap.size A bs → Calls Try.prog 55 #[.agg #[.int .i64 len, .slice A N c], .int .i64 p, .func (.func 17) #[] #[]] V (ReadP V k fr e0))) :
    Calls Try.prog 18 #[.agg #[.int .i64 len, .slice A N c], .int .i64 p] w (ReadP w k fr e0) := by
  have HA := Lib.hid hR; clear hR
  go_enter Try.func18, Try.ntmps18
  go_wp2_with fail
  refine (HF.out _ (HA.out.on (one_below _ _))).mono ?_
  rintro e w1 ⟨rfl, B1⟩
  have HB : Hid (Below w.heap.size w w1) := (one_below w _).trans (B1.mono (by rw [World.size_alloc]; omega))
  clear B1
  go_wp2
  go_ret3
  exact ⟨rfl, HB.out⟩

/-- What read answers where a length is read first. -/
theorem readU_l (l : List Bool) (hl : l.length ≤ 8192) (A : Option Addr) (c p : Nat) (hp : p ≤ l.length) (w : World) (h : Rd w w.heap.size A (pack l)) :
    Calls Try.prog 34 #[.agg #[.int .i64 (l.length : Int), .slice A (pack l).length c], .int .i64 (p : Int)] w (ReadP w (uR l p).1 (uR l p).2.1 (uR l p).2.2) := by
  unfold uR
  cases hx : pos p (l.drop p) with
  | nil => exact read_none l hl A c p hp hx w h
  | cons x xs => exact read_l l hl A c p hp x xs hx (x - p) (x + 1) rfl rfl w h
theorem got_l (l : List Bool) (hl : l.length ≤ 8192) (A : Option Addr) (c p k : Nat) (h1 : k ≤ 64) (h2 : p + k ≤ l.length) (w : World) (h : Rd w w.heap.size A (pack l)) :
    Calls Try.prog 32 #[.agg #[.int .i64 (l.length : Int), .slice A (pack l).length c], .int .i64 (p : Int), .int .i64 (k : Int)] w (Got w (num ((l.drop p).take k)) 0) := get_l l hl A c p k _ h1 h2 rfl w h
theorem num_take_lt (l : List Bool) (p k : Nat) : num ((l.drop p).take k) < 2 ^ k :=
  Nat.lt_of_lt_of_le (num_lt _) (Nat.pow_le_pow_right (by omega) (by rw [List.length_take]; omega))
theorem read_u_l (l : List Bool) (hl : l.length ≤ 8192) (A : Option Addr) (c : Nat) (p : Int) (r : Nat × Nat × Int) (hr : r.2.1 ≤ l.length) (HF : ∀ V, Rd V V.heap.size A (pack l) → Calls Try.prog 34 #[.agg #[.int .i64 (l.length : Int), .slice A (pack l).length c], .int .i64 p] V (ReadP V r.1 r.2.1 r.2.2)) (w : World) (h : Rd w w.heap.size A (pack l)) :
    Calls Try.prog 55 #[.agg #[.int .i64 (l.length : Int), .slice A (pack l).length c], .int .i64 p, .func (.func 34) #[] #[]] w (ReadP w (thenR l r).1 (thenR l r).2.1 (thenR l r).2.2) := by
  obtain ⟨k, fr, e0⟩ := r
  unfold thenR
  by_cases h0 : e0 = 0
  · subst h0
    rw [if_pos rfl]
    unfold restR
    by_cases h1 : 63 < k
    · rw [if_pos h1]
      exact read_u_big w _ A c _ (pack l) p h k fr h1 HF
    · rw [if_neg h1]
      by_cases h2 : l.length < fr + k
      · rw [if_pos h2]
        refine read_u_short w _ A c _ (pack l) p h k fr (by omega) 7 (by decide) HF (fun V hV => ?_)
        have hg := get_short l hl A c (fr : Int) (k : Int) V hV (by omega) (by omega) (by omega) (by simp only at hr; omega) (by omega)
        exact hg
      · rw [if_neg h2]
        by_cases h3 : 1099511627776 < 2 ^ k + num ((l.drop fr).take k) - 1
        · rw [if_pos h3]
          exact read_u_over w _ A c _ (pack l) p h k fr _ (by omega) (num_take_lt l fr k) h3 HF (fun V hV => got_l l hl A c fr k (by omega) (by omega) V hV)
        · rw [if_neg h3]
          exact read_u_ok w _ A c _ (pack l) p h k fr _ (by omega) (num_take_lt l fr k) (by omega) _ _ rfl rfl (Nat.not_lt.1 h3) HF (fun V hV => got_l l hl A c fr k (by omega) (by omega) V hV)
  · rw [if_neg h0]
    exact read_u_e w _ A c _ (pack l) p h k fr e0 h0 HF
theorem read_g_l (l : List Bool) (hl : l.length ≤ 8192) (A : Option Addr) (c : Nat) (p : Int) (r : Nat × Nat × Int) (hr : r.2.1 ≤ l.length) (HF : ∀ V, Rd V V.heap.size A (pack l) → Calls Try.prog 17 #[.agg #[.int .i64 (l.length : Int), .slice A (pack l).length c], .int .i64 p] V (ReadP V r.1 r.2.1 r.2.2)) (w : World) (h : Rd w w.heap.size A (pack l)) :
    Calls Try.prog 55 #[.agg #[.int .i64 (l.length : Int), .slice A (pack l).length c], .int .i64 p, .func (.func 17) #[] #[]] w (ReadP w (thenR l r).1 (thenR l r).2.1 (thenR l r).2.2) := by
  obtain ⟨k, fr, e0⟩ := r
  unfold thenR
  by_cases h0 : e0 = 0
  · subst h0
    rw [if_pos rfl]
    unfold restR
    by_cases h1 : 63 < k
    · rw [if_pos h1]
      exact read_g_big w _ A c _ (pack l) p h k fr h1 HF
    · rw [if_neg h1]
      by_cases h2 : l.length < fr + k
      · rw [if_pos h2]
        refine read_g_short w _ A c _ (pack l) p h k fr (by omega) 7 (by decide) HF (fun V hV => ?_)
        have hg := get_short l hl A c (fr : Int) (k : Int) V hV (by omega) (by omega) (by omega) (by simp only at hr; omega) (by omega)
        exact hg
      · rw [if_neg h2]
        by_cases h3 : 1099511627776 < 2 ^ k + num ((l.drop fr).take k) - 1
        · rw [if_pos h3]
          exact read_g_over w _ A c _ (pack l) p h k fr _ (by omega) (num_take_lt l fr k) h3 HF (fun V hV => got_l l hl A c fr k (by omega) (by omega) V hV)
        · rw [if_neg h3]
          exact read_g_ok w _ A c _ (pack l) p h k fr _ (by omega) (num_take_lt l fr k) (by omega) _ _ rfl rfl (Nat.not_lt.1 h3) HF (fun V hV => got_l l hl A c fr k (by omega) (by omega) V hV)
  · rw [if_neg h0]
    exact read_g_e w _ A c _ (pack l) p h k fr e0 h0 HF

theorem rgamma_l (l : List Bool) (hl : l.length ≤ 8192) (A : Option Addr) (c p : Nat) (hp : p ≤ l.length) (w : World) (h : Rd w w.heap.size A (pack l)) :
    Calls Try.prog 17 #[.agg #[.int .i64 (l.length : Int), .slice A (pack l).length c], .int .i64 (p : Int)] w (ReadP w (gamR l p).1 (gamR l p).2.1 (gamR l p).2.2) :=
  rgamma_pass w _ A c _ (pack l) _ h _ _ _ (fun V hV => read_u_l l hl A c (p : Int) (uR l p) (uR_bound l p hp).2.1 (fun V hV => readU_l l hl A c p hp V hV) V hV)
theorem rdelta_l (l : List Bool) (hl : l.length ≤ 8192) (A : Option Addr) (c p : Nat) (hp : p ≤ l.length) (w : World) (h : Rd w w.heap.size A (pack l)) :
    Calls Try.prog 18 #[.agg #[.int .i64 (l.length : Int), .slice A (pack l).length c], .int .i64 (p : Int)] w (ReadP w (delR l p).1 (delR l p).2.1 (delR l p).2.2) :=
  rdelta_pass w _ A c _ (pack l) _ h _ _ _ (fun V hV => read_g_l l hl A c (p : Int) (gamR l p) (thenR_bound l _).1 (fun V hV => rgamma_l l hl A c p hp V hV) V hV)
/-- Bits that are wrong, or a place that is. -/
theorem rgamma_bad (len : Int) (A : Option Addr) (c : Nat) (bs : List Nat) (p e0 : Int) (h0 : e0 ≠ 0) (HF : ∀ V, Rd V V.heap.size A bs → Calls Try.prog 34 #[.agg #[.int .i64 len, .slice A bs.length c], .int .i64 p] V (ReadP V 0 0 e0)) (w : World) (h : Rd w w.heap.size A bs) :
    Calls Try.prog 17 #[.agg #[.int .i64 len, .slice A bs.length c], .int .i64 p] w (ReadP w 0 0 e0) :=
  rgamma_pass w _ A c _ bs _ h _ _ _ (fun V hV => read_u_e V _ A c _ bs p hV 0 0 e0 h0 HF)
theorem rdelta_bad (len : Int) (A : Option Addr) (c : Nat) (bs : List Nat) (p e0 : Int) (h0 : e0 ≠ 0) (HF : ∀ V, Rd V V.heap.size A bs → Calls Try.prog 34 #[.agg #[.int .i64 len, .slice A bs.length c], .int .i64 p] V (ReadP V 0 0 e0)) (w : World) (h : Rd w w.heap.size A bs) :
    Calls Try.prog 18 #[.agg #[.int .i64 len, .slice A bs.length c], .int .i64 p] w (ReadP w 0 0 e0) :=
  rdelta_pass w _ A c _ bs _ h _ _ _ (fun V hV => read_g_e V _ A c _ bs p hV 0 0 e0 h0 (fun V hV => rgamma_bad len A c bs p e0 h0 HF V hV))

set_option maxHeartbeats 2000000 in
theorem long_e (n : Nat) (hn : 1099511627776 < n) (w : World) :
    Calls Try.prog 19 #[.int .u64 (n : Int)] w fun e w' => e = .returned (.tuple #[.int .i64 0, .int .i64 0, .int .i64 3]) ∧ Below w.heap.size w w' := by
  have t1 : decide ((n : Int) ≤ 1099511627776) = false := by simp; omega
  go_enter Try.func19, Try.ntmps19
  go_wp2_with fail
  refine (range1 0 false 3 rfl _ _ rfl).mono ?_
  rintro e w1 ⟨rfl, B1⟩
  have HB := Lib.hid B1; clear B1
  go_wp2
  go_ret3
  exact ⟨rfl, HB.out⟩
set_option maxHeartbeats 2000000 in
theorem long_ok (n : Nat) (hn : n ≤ 1099511627776) (a b : Nat) (ha : a = (gam n).length) (hb : b = (del n).length) (w : World) :
    Calls Try.prog 19 #[.int .u64 (n : Int)] w fun e w' => e = .returned (.tuple #[.int .i64 (a : Int), .int .i64 (b : Int), .int .i64 0]) ∧ Below w.heap.size w w' := by
  have t1 : decide ((n : Int) ≤ 1099511627776) = true := by simp; omega
  have hk := lg_lt_of n 41 (by omega)
  have hj := lg_lt_of (lg n) 6 (by omega)
  have HT := Lib.hid (tail_any n (by omega))
  have HGn := Lib.hid (glen_any n (by omega))
  have HGk := Lib.hid (glen_any (lg n) (by omega))
  rw [gam_length] at ha
  rw [del_length] at hb
  generalize lg (lg n) = j at *
  generalize lg n = k at *
  rw [← ha] at HGn
  have ha2 : a ≤ 100 := by omega
  clear ha
  go_enter Try.func19, Try.ntmps19
  go_wp2_with fail
  refine (range1 0 true 0 rfl _ _ rfl).mono ?_
  rintro e w1 ⟨rfl, B1⟩
  have HB := Lib.hid B1; clear B1
  go_wp2_with fail
  refine (HT.out _).mono ?_
  rintro e _ ⟨rfl, rfl⟩
  go_wp2_with fail
  refine (HGn.out _).mono ?_
  rintro e _ ⟨rfl, rfl⟩
  go_wp2_with fail
  refine (HGk.out _).mono ?_
  rintro e _ ⟨rfl, rfl⟩
  go_wp2
  go_ret3
  exact ⟨by rw [hb]; go_num, HB.out⟩
end Go.Proofs.Ytcacbekdghlncaa
