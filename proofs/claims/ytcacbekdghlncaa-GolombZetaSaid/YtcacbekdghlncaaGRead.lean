/- The program's readers of package golomb, whatever they are handed; each with its conditions. -/
import Derived.Test.YtcacbekdghlncaaGLib
import Derived.Test.YtcacbekdghlncaaERead
namespace Go.Proofs.Ytcacbekdghlncaa
set_option maxRecDepth 100000
set_option linter.unusedVariables false
open Go.RowKit

set_option maxHeartbeats 600000 in
theorem getLeast_a (m z sh p : Nat) (hz : z ≤ 57) (hp : p ≤ 8192) (x1 to : Nat) (hx : x1 < sh) (hto0 : to + 1 = p + z) (len : Int) (A : Option Addr) (c N : Nat) (bs : List Nat) (w : World) (hA : Rd w w.heap.size A bs)
    (HZ : Hid (∀ V, Calls Try.prog 92 #[.int .u64 (m : Int)] V fun e w' => e = .returned (.tuple #[.int .i64 (z : Int), .int .u64 (sh : Int)]) ∧ Below V.heap.size V w'))
    (H1 : Hid (∀ V, Rd V V.heap.size A bs → Calls Try.prog 32 #[.agg #[.int .i64 len, .slice A N c], .int .i64 (p : Int), .int .i64 ((z : Int) - 1)] V (Got V x1 0))) :
    Calls Try.prog 77 #[.agg #[.int .i64 len, .slice A N c], .int .i64 (p : Int), .int .u64 (m : Int)] w (ReadP w x1 to 0) := by
  have HA := Lib.hid hA; clear hA
  have t1 : decide ((x1 : Int) < (sh : Int)) = true := by simp; omega
  have hto : (to : Int) = (p : Int) + (z : Int) - 1 := by omega
  clear hto0
  go_enter Try.func77, Try.ntmps77
  go_wp2_with fail
  refine (HZ.out _).mono ?_
  rintro e w1 ⟨rfl, B1⟩
  have HB : Hid (Below w.heap.size w w1) := (one_below w _).trans (B1.mono (by rw [World.size_alloc]; omega))
  rw [World.size_alloc] at B1
  have HBx := Lib.hid B1
  obtain ⟨p1, q1⟩ := box_at B1
  clear B1
  go_wp2_with fail
  refine (H1.out _ (HA.out.on HB.out)).mono ?_
  rintro e w2 ⟨rfl, B2⟩
  have HB2 : Hid (Below w.heap.size w w2) := HB.out.trans (B2.mono HB.out.size)
  have HBy : Hid (Below (w.heap.size + 1) (w.alloc (.cells #[.int .i64 len, .slice A N c] 25)) w2) := HBx.out.trans (B2.mono (by have := HBx.out.size; rw [World.size_alloc] at this; omega))
  clear B2 p1 q1 HBx
  obtain ⟨p1, q1⟩ := box_at HBy.out
  go_wp2
  go_ret3
  exact ⟨by rw [hto]; rfl, HB2.out⟩
set_option maxHeartbeats 600000 in
theorem getLeast_b (m z sh p : Nat) (hz : z ≤ 57) (hp : p ≤ 8192) (e1 e2 : Int) (h1 : e1 ≠ 0) (h2 : e2 ≠ 0) (len : Int) (A : Option Addr) (c N : Nat) (bs : List Nat) (w : World) (hA : Rd w w.heap.size A bs)
    (HZ : Hid (∀ V, Calls Try.prog 92 #[.int .u64 (m : Int)] V fun e w' => e = .returned (.tuple #[.int .i64 (z : Int), .int .u64 (sh : Int)]) ∧ Below V.heap.size V w'))
    (H1 : Hid (∀ V, Rd V V.heap.size A bs → Calls Try.prog 32 #[.agg #[.int .i64 len, .slice A N c], .int .i64 (p : Int), .int .i64 ((z : Int) - 1)] V (Got V 0 e1)))
    (H2 : Hid (∀ V, Rd V V.heap.size A bs → Calls Try.prog 32 #[.agg #[.int .i64 len, .slice A N c], .int .i64 (p : Int), .int .i64 (z : Int)] V (Got V 0 e2))) :
    Calls Try.prog 77 #[.agg #[.int .i64 len, .slice A N c], .int .i64 (p : Int), .int .u64 (m : Int)] w (ReadP w 0 0 e2) := by
  have HA := Lib.hid hA; clear hA
  have t0 : (e1 == 0) = false := by simpa using h1
  have t2 : (e2 != 0) = true := by simpa using h2
  go_enter Try.func77, Try.ntmps77
  go_wp2_with fail
  refine (HZ.out _).mono ?_
  rintro e w1 ⟨rfl, B1⟩
  have HB : Hid (Below w.heap.size w w1) := (one_below w _).trans (B1.mono (by rw [World.size_alloc]; omega))
  rw [World.size_alloc] at B1
  have HBx := Lib.hid B1
  obtain ⟨p1, q1⟩ := box_at B1
  clear B1
  go_wp2_with fail
  refine (H1.out _ (HA.out.on HB.out)).mono ?_
  rintro e w2 ⟨rfl, B2⟩
  have HB2 : Hid (Below w.heap.size w w2) := HB.out.trans (B2.mono HB.out.size)
  have HBy : Hid (Below (w.heap.size + 1) (w.alloc (.cells #[.int .i64 len, .slice A N c] 25)) w2) := HBx.out.trans (B2.mono (by have := HBx.out.size; rw [World.size_alloc] at this; omega))
  clear B2 p1 q1 HBx
  obtain ⟨p1, q1⟩ := box_at HBy.out
  go_wp2_with fail
  refine (H2.out _ (HA.out.on HB2.out)).mono ?_
  rintro e w3 ⟨rfl, B3⟩
  have HB3 : Hid (Below w.heap.size w w3) := HB2.out.trans (B3.mono HB2.out.size)
  clear B3
  go_wp2
  go_ret3
  exact ⟨rfl, HB3.out⟩
set_option maxHeartbeats 600000 in
theorem getLeast_c (m z sh p : Nat) (hz : z ≤ 57) (hp : p ≤ 8192) (e1 : Int) (h1 : e1 ≠ 0) (x2 r to : Nat) (hx2 : x2 ≤ 144115188075855872) (hr0 : r + sh = x2) (hto0 : to = p + z) (len : Int) (A : Option Addr) (c N : Nat) (bs : List Nat) (w : World) (hA : Rd w w.heap.size A bs)
    (HZ : Hid (∀ V, Calls Try.prog 92 #[.int .u64 (m : Int)] V fun e w' => e = .returned (.tuple #[.int .i64 (z : Int), .int .u64 (sh : Int)]) ∧ Below V.heap.size V w'))
    (H1 : Hid (∀ V, Rd V V.heap.size A bs → Calls Try.prog 32 #[.agg #[.int .i64 len, .slice A N c], .int .i64 (p : Int), .int .i64 ((z : Int) - 1)] V (Got V 0 e1)))
    (H2 : Hid (∀ V, Rd V V.heap.size A bs → Calls Try.prog 32 #[.agg #[.int .i64 len, .slice A N c], .int .i64 (p : Int), .int .i64 (z : Int)] V (Got V x2 0))) :
    Calls Try.prog 77 #[.agg #[.int .i64 len, .slice A N c], .int .i64 (p : Int), .int .u64 (m : Int)] w (ReadP w r to 0) := by
  have HA := Lib.hid hA; clear hA
  have t0 : (e1 == 0) = false := by simpa using h1
  have hr : (r : Int) = (x2 : Int) - (sh : Int) := by omega
  have hto : (to : Int) = (p : Int) + (z : Int) := by omega
  clear hto0
  go_enter Try.func77, Try.ntmps77
  go_wp2_with fail
  refine (HZ.out _).mono ?_
  rintro e w1 ⟨rfl, B1⟩
  have HB : Hid (Below w.heap.size w w1) := (one_below w _).trans (B1.mono (by rw [World.size_alloc]; omega))
  rw [World.size_alloc] at B1
  have HBx := Lib.hid B1
  obtain ⟨p1, q1⟩ := box_at B1
  clear B1
  go_wp2_with fail
  refine (H1.out _ (HA.out.on HB.out)).mono ?_
  rintro e w2 ⟨rfl, B2⟩
  have HB2 : Hid (Below w.heap.size w w2) := HB.out.trans (B2.mono HB.out.size)
  have HBy : Hid (Below (w.heap.size + 1) (w.alloc (.cells #[.int .i64 len, .slice A N c] 25)) w2) := HBx.out.trans (B2.mono (by have := HBx.out.size; rw [World.size_alloc] at this; omega))
  clear B2 p1 q1 HBx
  obtain ⟨p1, q1⟩ := box_at HBy.out
  go_wp2_with fail
  refine (H2.out _ (HA.out.on HB2.out)).mono ?_
  rintro e w3 ⟨rfl, B3⟩
  have HB3 : Hid (Below w.heap.size w w3) := HB2.out.trans (B3.mono HB2.out.size)
  clear B3
  go_wp2
  go_ret3
  exact ⟨by rw [hr, hto]; rfl, HB3.out⟩
set_option maxHeartbeats 600000 in
theorem getLeast_d (m z sh p : Nat) (hz : z ≤ 57) (hp : p ≤ 8192) (x1 : Nat) (e2 : Int) (hx : sh ≤ x1) (h2 : e2 ≠ 0) (len : Int) (A : Option Addr) (c N : Nat) (bs : List Nat) (w : World) (hA : Rd w w.heap.size A bs)
    (HZ : Hid (∀ V, Calls Try.prog 92 #[.int .u64 (m : Int)] V fun e w' => e = .returned (.tuple #[.int .i64 (z : Int), .int .u64 (sh : Int)]) ∧ Below V.heap.size V w'))
    (H1 : Hid (∀ V, Rd V V.heap.size A bs → Calls Try.prog 32 #[.agg #[.int .i64 len, .slice A N c], .int .i64 (p : Int), .int .i64 ((z : Int) - 1)] V (Got V x1 0)))
    (H2 : Hid (∀ V, Rd V V.heap.size A bs → Calls Try.prog 32 #[.agg #[.int .i64 len, .slice A N c], .int .i64 (p : Int), .int .i64 (z : Int)] V (Got V 0 e2))) :
    Calls Try.prog 77 #[.agg #[.int .i64 len, .slice A N c], .int .i64 (p : Int), .int .u64 (m : Int)] w (ReadP w 0 0 e2) := by
  have HA := Lib.hid hA; clear hA
  have t1 : decide ((x1 : Int) < (sh : Int)) = false := by simp; omega
  have t2 : (e2 != 0) = true := by simpa using h2
  go_enter Try.func77, Try.ntmps77
  go_wp2_with fail
  refine (HZ.out _).mono ?_
  rintro e w1 ⟨rfl, B1⟩
  have HB : Hid (Below w.heap.size w w1) := (one_below w _).trans (B1.mono (by rw [World.size_alloc]; omega))
  rw [World.size_alloc] at B1
  have HBx := Lib.hid B1
  obtain ⟨p1, q1⟩ := box_at B1
  clear B1
  go_wp2_with fail
  refine (H1.out _ (HA.out.on HB.out)).mono ?_
  rintro e w2 ⟨rfl, B2⟩
  have HB2 : Hid (Below w.heap.size w w2) := HB.out.trans (B2.mono HB.out.size)
  have HBy : Hid (Below (w.heap.size + 1) (w.alloc (.cells #[.int .i64 len, .slice A N c] 25)) w2) := HBx.out.trans (B2.mono (by have := HBx.out.size; rw [World.size_alloc] at this; omega))
  clear B2 p1 q1 HBx
  obtain ⟨p1, q1⟩ := box_at HBy.out
  go_wp2_with fail
  refine (H2.out _ (HA.out.on HB2.out)).mono ?_
  rintro e w3 ⟨rfl, B3⟩
  have HB3 : Hid (Below w.heap.size w w3) := HB2.out.trans (B3.mono HB2.out.size)
  clear B3
  go_wp2
  go_ret3
  exact ⟨rfl, HB3.out⟩
set_option maxHeartbeats 600000 in
theorem getLeast_e (m z sh p : Nat) (hz : z ≤ 57) (hp : p ≤ 8192) (x1 : Nat) (hx : sh ≤ x1) (x2 r to : Nat) (hx2 : x2 ≤ 144115188075855872) (hr0 : r + sh = x2) (hto0 : to = p + z) (len : Int) (A : Option Addr) (c N : Nat) (bs : List Nat) (w : World) (hA : Rd w w.heap.size A bs)
    (HZ : Hid (∀ V, Calls Try.prog 92 #[.int .u64 (m : Int)] V fun e w' => e = .returned (.tuple #[.int .i64 (z : Int), .int .u64 (sh : Int)]) ∧ Below V.heap.size V w'))
    (H1 : Hid (∀ V, Rd V V.heap.size A bs → Calls Try.prog 32 #[.agg #[.int .i64 len, .slice A N c], .int .i64 (p : Int), .int .i64 ((z : Int) - 1)] V (Got V x1 0)))
    (H2 : Hid (∀ V, Rd V V.heap.size A bs → Calls Try.prog 32 #[.agg #[.int .i64 len, .slice A N c], .int .i64 (p : Int), .int .i64 (z : Int)] V (Got V x2 0))) :
    Calls Try.prog 77 #[.agg #[.int .i64 len, .slice A N c], .int .i64 (p : Int), .int .u64 (m : Int)] w (ReadP w r to 0) := by
  have HA := Lib.hid hA; clear hA
  have t1 : decide ((x1 : Int) < (sh : Int)) = false := by simp; omega
  have hr : (r : Int) = (x2 : Int) - (sh : Int) := by omega
  have hto : (to : Int) = (p : Int) + (z : Int) := by omega
  clear hto0
  go_enter Try.func77, Try.ntmps77
  go_wp2_with fail
  refine (HZ.out _).mono ?_
  rintro e w1 ⟨rfl, B1⟩
  have HB : Hid (Below w.heap.size w w1) := (one_below w _).trans (B1.mono (by rw [World.size_alloc]; omega))
  rw [World.size_alloc] at B1
  have HBx := Lib.hid B1
  obtain ⟨p1, q1⟩ := box_at B1
  clear B1
  go_wp2_with fail
  refine (H1.out _ (HA.out.on HB.out)).mono ?_
  rintro e w2 ⟨rfl, B2⟩
  have HB2 : Hid (Below w.heap.size w w2) := HB.out.trans (B2.mono HB.out.size)
  have HBy : Hid (Below (w.heap.size + 1) (w.alloc (.cells #[.int .i64 len, .slice A N c] 25)) w2) := HBx.out.trans (B2.mono (by have := HBx.out.size; rw [World.size_alloc] at this; omega))
  clear B2 p1 q1 HBx
  obtain ⟨p1, q1⟩ := box_at HBy.out
  go_wp2_with fail
  refine (H2.out _ (HA.out.on HB2.out)).mono ?_
  rintro e w3 ⟨rfl, B3⟩
  have HB3 : Hid (Below w.heap.size w w3) := HB2.out.trans (B3.mono HB2.out.size)
  clear B3
  go_wp2
  go_ret3
  exact ⟨by rw [hr, hto]; rfl, HB3.out⟩

theorem getLeast_l (l : List Bool) (hl : l.length ≤ 8192) (m : Nat) (hm : 1 ≤ m) (hm2 : m ≤ 72057594037927936) (A : Option Addr) (c p : Nat) (hp : p ≤ l.length) (w : World) (h : Rd w w.heap.size A (pack l)) :
    Calls Try.prog 77 #[.agg #[.int .i64 (l.length : Int), .slice A (pack l).length c], .int .i64 (p : Int), .int .u64 (m : Int)] w (ReadP w (lstR l p m).1 (lstR l p m).2.1 (lstR l p m).2.2) := by
  have hz := sz_le m 56 (by omega)
  have hs := sh_add m
  have h56 := Nat.pow_le_pow_right (n := 2) (by omega) hz
  have HZ : Hid (∀ V, Calls Try.prog 92 #[.int .u64 (m : Int)] V fun e w' => e = .returned (.tuple #[.int .i64 (sz m : Int), .int .u64 (sh m : Int)]) ∧ Below V.heap.size V w') := fun V => sizes_any m hm hm2 V
  have short : ∀ k : Nat, k ≤ 64 → l.length < p + k → Hid (∀ V, Rd V V.heap.size A (pack l) → Calls Try.prog 32 #[.agg #[.int .i64 (l.length : Int), .slice A (pack l).length c], .int .i64 (p : Int), .int .i64 (k : Int)] V (Got V 0 7)) := fun k h1 h2 V hV => get_short l hl A c (p : Int) (k : Int) V hV (by omega) (by omega) (by omega) (by omega) (by omega)
  have good : ∀ k : Nat, k ≤ 64 → p + k ≤ l.length → Hid (∀ V, Rd V V.heap.size A (pack l) → Calls Try.prog 32 #[.agg #[.int .i64 (l.length : Int), .slice A (pack l).length c], .int .i64 (p : Int), .int .i64 (k : Int)] V (Got V (num ((l.drop p).take k)) 0)) := fun k h1 h2 V hV => got_l l hl A c p k h1 h2 V hV
  unfold lstR
  rcases sh_lt m hm with ⟨a, b, d⟩ | ⟨a, b, d, d2⟩
  · rw [if_neg (by omega), if_pos (by omega)]
    have H1 : Hid (∀ V, Rd V V.heap.size A (pack l) → Calls Try.prog 32 #[.agg #[.int .i64 (l.length : Int), .slice A (pack l).length c], .int .i64 (p : Int), .int .i64 ((sz m : Int) - 1)] V (Got V 0 3)) := fun V hV => get_range l hl A c (p : Int) _ V hV (.inl (by omega))
    have hn : num ((l.drop p).take (sz m)) = 0 := by rw [a]; rfl
    exact getLeast_c m (sz m) (sh m) p (by omega) (by omega) 3 (by decide) _ _ _ (by omega) (by rw [hn, b]) rfl _ A c _ _ w h HZ H1 (good (sz m) (by omega) (by omega))
  · have ez : ((sz m : Int) - 1) = ((sz m - 1 : Nat) : Int) := by omega
    by_cases h1 : p + (sz m - 1) ≤ l.length
    · have G1 := good (sz m - 1) (by omega) h1
      rw [← ez] at G1
      by_cases h2 : num ((l.drop p).take (sz m - 1)) < sh m
      · rw [if_pos ⟨a, h1, h2⟩]
        exact getLeast_a m (sz m) (sh m) p (by omega) (by omega) _ _ h2 (by simp only; omega) _ A c _ _ w h HZ G1
      · rw [if_neg (fun h => h2 h.2.2)]
        by_cases h3 : p + sz m ≤ l.length
        · rw [if_pos h3]
          have f := num_take_le (l.drop p) (sz m - 1) 1 (by rw [List.length_drop]; omega)
          rw [show sz m - 1 + 1 = sz m by omega] at f
          have g := num_take_lt l p (sz m)
          exact getLeast_e m (sz m) (sh m) p (by omega) (by omega) _ (by omega) _ _ _ (by omega) (Nat.sub_add_cancel (by omega)) rfl _ A c _ _ w h HZ G1 (good (sz m) (by omega) h3)
        · rw [if_neg h3]
          exact getLeast_d m (sz m) (sh m) p (by omega) (by omega) _ 7 (by omega) (by decide) _ A c _ _ w h HZ G1 (short (sz m) (by omega) (by omega))
    · have G1 := short (sz m - 1) (by omega) (by omega)
      rw [← ez] at G1
      rw [if_neg (fun h => h1 h.2.1), if_neg (by omega)]
      exact getLeast_b m (sz m) (sh m) p (by omega) (by omega) 7 7 (by decide) (by decide) _ A c _ _ w h HZ G1 (short (sz m) (by omega) (by omega))
end Go.Proofs.Ytcacbekdghlncaa
