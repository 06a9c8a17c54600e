/- What golomb reads, and what Read of gaps answers, for whatever bits and numbers it is handed. -/
import Derived.Test.YticdnodlapafoaaGreatJSNWrite
import Derived.Deep.RegionHeld3
namespace Go.Proofs.YticdnodlapafoaaGreat
section
set_option maxRecDepth 100000
set_option linter.unusedVariables false
open Go.RowKit

set_option maxHeartbeats 600000 in
theorem getLeast_a (m z sh p : Nat) (hz : z ≤ 57) (hp : p ≤ 8192) (x1 to : Nat) (hx : x1 < sh) (hto0 : to + 1 = p + z) (len : Int) (A : Option Addr) (c N : Nat) (bs : List Nat) (w : World) (hA : Rd w w.heap.size A bs)
    (HZ : Hid (∀ V, Calls Tryz.prog 191 #[.int .u64 (m : Int)] V fun e w' => e = .returned (.tuple #[.int .i64 (z : Int), .int .u64 (sh : Int)]) ∧ Below V.heap.size V w'))
    (H1 : Hid (∀ V, Rd V V.heap.size A bs → Calls Tryz.prog 29 #[.agg #[.int .i64 len, .slice A N c], .int .i64 (p : Int), .int .i64 ((z : Int) - 1)] V (Got V x1 0))) :
    Calls Tryz.prog 180 #[.agg #[.int .i64 len, .slice A N c], .int .i64 (p : Int), .int .u64 (m : Int)] w (ReadP w x1 to 0) := by
  have HA := Lib.hid hA; clear hA
  have t1 : decide ((x1 : Int) < (sh : Int)) = true := by simp; omega
  have hto : (to : Int) = (p : Int) + (z : Int) - 1 := by omega
  clear hto0
  go_enter Tryz.func180, Tryz.ntmps180
  go_wp2_with fail
  refine (HZ.out _).mono ?_
  rintro e w1 ⟨rfl, B1⟩
  have HB : Hid (Below w.heap.size w w1) := (one_below w _).trans (B1.mono (by rw [World.size_alloc]; omega))
  rw [World.size_alloc] at B1
  have HBx := Lib.hid B1
  obtain ⟨p1, q1⟩ := box_at B1
  clear B1
  go_wp2_with fail
  refine (H1.out _ (HA.out.on HB.out)).mono ?_
  rintro e w2 ⟨rfl, B2⟩
  have HB2 : Hid (Below w.heap.size w w2) := HB.out.trans (B2.mono HB.out.size)
  have HBy : Hid (Below (w.heap.size + 1) (w.alloc (.cells #[.int .i64 len, .slice A N c] 27)) w2) := HBx.out.trans (B2.mono (by have := HBx.out.size; rw [World.size_alloc] at this; omega))
  clear B2 p1 q1 HBx
  obtain ⟨p1, q1⟩ := box_at HBy.out
  go_wp2
  go_ret3
  exact ⟨by rw [hto]; rfl, HB2.out⟩
set_option maxHeartbeats 600000 in
theorem getLeast_b (m z sh p : Nat) (hz : z ≤ 57) (hp : p ≤ 8192) (e1 e2 : Int) (h1 : e1 ≠ 0) (h2 : e2 ≠ 0) (len : Int) (A : Option Addr) (c N : Nat) (bs : List Nat) (w : World) (hA : Rd w w.heap.size A bs)
    (HZ : Hid (∀ V, Calls Tryz.prog 191 #[.int .u64 (m : Int)] V fun e w' => e = .returned (.tuple #[.int .i64 (z : Int), .int .u64 (sh : Int)]) ∧ Below V.heap.size V w'))
    (H1 : Hid (∀ V, Rd V V.heap.size A bs → Calls Tryz.prog 29 #[.agg #[.int .i64 len, .slice A N c], .int .i64 (p : Int), .int .i64 ((z : Int) - 1)] V (Got V 0 e1)))
    (H2 : Hid (∀ V, Rd V V.heap.size A bs → Calls Tryz.prog 29 #[.agg #[.int .i64 len, .slice A N c], .int .i64 (p : Int), .int .i64 (z : Int)] V (Got V 0 e2))) :
    Calls Tryz.prog 180 #[.agg #[.int .i64 len, .slice A N c], .int .i64 (p : Int), .int .u64 (m : Int)] w (ReadP w 0 0 e2) := by
  have HA := Lib.hid hA; clear hA
  have t0 : (e1 == 0) = false := by simpa using h1
  have t2 : (e2 != 0) = true := by simpa using h2
  go_enter Tryz.func180, Tryz.ntmps180
  go_wp2_with fail
  refine (HZ.out _).mono ?_
  rintro e w1 ⟨rfl, B1⟩
  have HB : Hid (Below w.heap.size w w1) := (one_below w _).trans (B1.mono (by rw [World.size_alloc]; omega))
  rw [World.size_alloc] at B1
  have HBx := Lib.hid B1
  obtain ⟨p1, q1⟩ := box_at B1
  clear B1
  go_wp2_with fail
  refine (H1.out _ (HA.out.on HB.out)).mono ?_
  rintro e w2 ⟨rfl, B2⟩
  have HB2 : Hid (Below w.heap.size w w2) := HB.out.trans (B2.mono HB.out.size)
  have HBy : Hid (Below (w.heap.size + 1) (w.alloc (.cells #[.int .i64 len, .slice A N c] 27)) w2) := HBx.out.trans (B2.mono (by have := HBx.out.size; rw [World.size_alloc] at this; omega))
  clear B2 p1 q1 HBx
  obtain ⟨p1, q1⟩ := box_at HBy.out
  go_wp2_with fail
  refine (H2.out _ (HA.out.on HB2.out)).mono ?_
  rintro e w3 ⟨rfl, B3⟩
  have HB3 : Hid (Below w.heap.size w w3) := HB2.out.trans (B3.mono HB2.out.size)
  clear B3
  go_wp2
  go_ret3
  exact ⟨rfl, HB3.out⟩
set_option maxHeartbeats 600000 in
theorem getLeast_c (m z sh p : Nat) (hz : z ≤ 57) (hp : p ≤ 8192) (e1 : Int) (h1 : e1 ≠ 0) (x2 r to : Nat) (hx2 : x2 ≤ 144115188075855872) (hr0 : r + sh = x2) (hto0 : to = p + z) (len : Int) (A : Option Addr) (c N : Nat) (bs : List Nat) (w : World) (hA : Rd w w.heap.size A bs)
    (HZ : Hid (∀ V, Calls Tryz.prog 191 #[.int .u64 (m : Int)] V fun e w' => e = .returned (.tuple #[.int .i64 (z : Int), .int .u64 (sh : Int)]) ∧ Below V.heap.size V w'))
    (H1 : Hid (∀ V, Rd V V.heap.size A bs → Calls Tryz.prog 29 #[.agg #[.int .i64 len, .slice A N c], .int .i64 (p : Int), .int .i64 ((z : Int) - 1)] V (Got V 0 e1)))
    (H2 : Hid (∀ V, Rd V V.heap.size A bs → Calls Tryz.prog 29 #[.agg #[.int .i64 len, .slice A N c], .int .i64 (p : Int), .int .i64 (z : Int)] V (Got V x2 0))) :
    Calls Tryz.prog 180 #[.agg #[.int .i64 len, .slice A N c], .int .i64 (p : Int), .int .u64 (m : Int)] w (ReadP w r to 0) := by
  have HA := Lib.hid hA; clear hA
  have t0 : (e1 == 0) = false := by simpa using h1
  have hr : (r : Int) = (x2 : Int) - (sh : Int) := by omega
  have hto : (to : Int) = (p : Int) + (z : Int) := by omega
  clear hto0
  go_enter Tryz.func180, Tryz.ntmps180
  go_wp2_with fail
  refine (HZ.out _).mono ?_
  rintro e w1 ⟨rfl, B1⟩
  have HB : Hid (Below w.heap.size w w1) := (one_below w _).trans (B1.mono (by rw [World.size_alloc]; omega))
  rw [World.size_alloc] at B1
  have HBx := Lib.hid B1
  obtain ⟨p1, q1⟩ := box_at B1
  clear B1
  go_wp2_with fail
  refine (H1.out _ (HA.out.on HB.out)).mono ?_
  rintro e w2 ⟨rfl, B2⟩
  have HB2 : Hid (Below w.heap.size w w2) := HB.out.trans (B2.mono HB.out.size)
  have HBy : Hid (Below (w.heap.size + 1) (w.alloc (.cells #[.int .i64 len, .slice A N c] 27)) w2) := HBx.out.trans (B2.mono (by have := HBx.out.size; rw [World.size_alloc] at this; omega))
  clear B2 p1 q1 HBx
  obtain ⟨p1, q1⟩ := box_at HBy.out
  go_wp2_with fail
  refine (H2.out _ (HA.out.on HB2.out)).mono ?_
  rintro e w3 ⟨rfl, B3⟩
  have HB3 : Hid (Below w.heap.size w w3) := HB2.out.trans (B3.mono HB2.out.size)
  clear B3
  go_wp2
  go_ret3
  exact ⟨by rw [hr, hto]; rfl, HB3.out⟩
set_option maxHeartbeats 600000 in
theorem getLeast_d (m z sh p : Nat) (hz : z ≤ 57) (hp : p ≤ 8192) (x1 : Nat) (e2 : Int) (hx : sh ≤ x1) (h2 : e2 ≠ 0) (len : Int) (A : Option Addr) (c N : Nat) (bs : List Nat) (w : World) (hA : Rd w w.heap.size A bs)
    (HZ : Hid (∀ V, Calls Tryz.prog 191 #[.int .u64 (m : Int)] V fun e w' => e = .returned (.tuple #[.int .i64 (z : Int), .int .u64 (sh : Int)]) ∧ Below V.heap.size V w'))
    (H1 : Hid (∀ V, Rd V V.heap.size A bs → Calls Tryz.prog 29 #[.agg #[.int .i64 len, .slice A N c], .int .i64 (p : Int), .int .i64 ((z : Int) - 1)] V (Got V x1 0)))
    (H2 : Hid (∀ V, Rd V V.heap.size A bs → Calls Tryz.prog 29 #[.agg #[.int .i64 len, .slice A N c], .int .i64 (p : Int), .int .i64 (z : Int)] V (Got V 0 e2))) :
    Calls Tryz.prog 180 #[.agg #[.int .i64 len, .slice A N c], .int .i64 (p : Int), .int .u64 (m : Int)] w (ReadP w 0 0 e2) := by
  have HA := Lib.hid hA; clear hA
  have t1 : decide ((x1 : Int) < (sh : Int)) = false := by simp; omega
  have t2 : (e2 != 0) = true := by simpa using h2
  go_enter Tryz.func180, Tryz.ntmps180
  go_wp2_with fail
  refine (HZ.out _).mono ?_
  rintro e w1 ⟨rfl, B1⟩
  have HB : Hid (Below w.heap.size w w1) := (one_below w _).trans (B1.mono (by rw [World.size_alloc]; omega))
  rw [World.size_alloc] at B1
  have HBx := Lib.hid B1
  obtain ⟨p1, q1⟩ := box_at B1
  clear B1
  go_wp2_with fail
  refine (H1.out _ (HA.out.on HB.out)).mono ?_
  rintro e w2 ⟨rfl, B2⟩
  have HB2 : Hid (Below w.heap.size w w2) := HB.out.trans (B2.mono HB.out.size)
  have HBy : Hid (Below (w.heap.size + 1) (w.alloc (.cells #[.int .i64 len, .slice A N c] 27)) w2) := HBx.out.trans (B2.mono (by have := HBx.out.size; rw [World.size_alloc] at this; omega))
  clear B2 p1 q1 HBx
  obtain ⟨p1, q1⟩ := box_at HBy.out
  go_wp2_with fail
  refine (H2.out _ (HA.out.on HB2.out)).mono ?_
  rintro e w3 ⟨rfl, B3⟩
  have HB3 : Hid (Below w.heap.size w w3) := HB2.out.trans (B3.mono HB2.out.size)
  clear B3
  go_wp2
  go_ret3
  exact ⟨rfl, HB3.out⟩
set_option maxHeartbeats 600000 in
theorem getLeast_e (m z sh p : Nat) (hz : z ≤ 57) (hp : p ≤ 8192) (x1 : Nat) (hx : sh ≤ x1) (x2 r to : Nat) (hx2 : x2 ≤ 144115188075855872) (hr0 : r + sh = x2) (hto0 : to = p + z) (len : Int) (A : Option Addr) (c N : Nat) (bs : List Nat) (w : World) (hA : Rd w w.heap.size A bs)
    (HZ : Hid (∀ V, Calls Tryz.prog 191 #[.int .u64 (m : Int)] V fun e w' => e = .returned (.tuple #[.int .i64 (z : Int), .int .u64 (sh : Int)]) ∧ Below V.heap.size V w'))
    (H1 : Hid (∀ V, Rd V V.heap.size A bs → Calls Tryz.prog 29 #[.agg #[.int .i64 len, .slice A N c], .int .i64 (p : Int), .int .i64 ((z : Int) - 1)] V (Got V x1 0)))
    (H2 : Hid (∀ V, Rd V V.heap.size A bs → Calls Tryz.prog 29 #[.agg #[.int .i64 len, .slice A N c], .int .i64 (p : Int), .int .i64 (z : Int)] V (Got V x2 0))) :
    Calls Tryz.prog 180 #[.agg #[.int .i64 len, .slice A N c], .int .i64 (p : Int), .int .u64 (m : Int)] w (ReadP w r to 0) := by
  have HA := Lib.hid hA; clear hA
  have t1 : decide ((x1 : Int) < (sh : Int)) = false := by simp; omega
  have hr : (r : Int) = (x2 : Int) - (sh : Int) := by omega
  have hto : (to : Int) = (p : Int) + (z : Int) := by omega
  clear hto0
  go_enter Tryz.func180, Tryz.ntmps180
  go_wp2_with fail
  refine (HZ.out _).mono ?_
  rintro e w1 ⟨rfl, B1⟩
  have HB : Hid (Below w.heap.size w w1) := (one_below w _).trans (B1.mono (by rw [World.size_alloc]; omega))
  rw [World.size_alloc] at B1
  have HBx := Lib.hid B1
  obtain ⟨p1, q1⟩ := box_at B1
  clear B1
  go_wp2_with fail
  refine (H1.out _ (HA.out.on HB.out)).mono ?_
  rintro e w2 ⟨rfl, B2⟩
  have HB2 : Hid (Below w.heap.size w w2) := HB.out.trans (B2.mono HB.out.size)
  have HBy : Hid (Below (w.heap.size + 1) (w.alloc (.cells #[.int .i64 len, .slice A N c] 27)) w2) := HBx.out.trans (B2.mono (by have := HBx.out.size; rw [World.size_alloc] at this; omega))
  clear B2 p1 q1 HBx
  obtain ⟨p1, q1⟩ := box_at HBy.out
  go_wp2_with fail
  refine (H2.out _ (HA.out.on HB2.out)).mono ?_
  rintro e w3 ⟨rfl, B3⟩
  have HB3 : Hid (Below w.heap.size w w3) := HB2.out.trans (B3.mono HB2.out.size)
  clear B3
  go_wp2
  go_ret3
  exact ⟨by rw [hr, hto]; rfl, HB3.out⟩

theorem getLeast_l (l : List Bool) (hl : l.length ≤ 8192) (m : Nat) (hm : 1 ≤ m) (hm2 : m ≤ 72057594037927936) (A : Option Addr) (c p : Nat) (hp : p ≤ l.length) (w : World) (h : Rd w w.heap.size A (pack l)) :
    Calls Tryz.prog 180 #[.agg #[.int .i64 (l.length : Int), .slice A (pack l).length c], .int .i64 (p : Int), .int .u64 (m : Int)] w (ReadP w (lstR l p m).1 (lstR l p m).2.1 (lstR l p m).2.2) := by
  have hz := sz_le m 56 (by omega)
  have hs := sh_add m
  have h56 := Nat.pow_le_pow_right (n := 2) (by omega) hz
  have HZ : Hid (∀ V, Calls Tryz.prog 191 #[.int .u64 (m : Int)] V fun e w' => e = .returned (.tuple #[.int .i64 (sz m : Int), .int .u64 (sh m : Int)]) ∧ Below V.heap.size V w') := fun V => sizes_any m hm hm2 V
  have short : ∀ k : Nat, k ≤ 64 → l.length < p + k → Hid (∀ V, Rd V V.heap.size A (pack l) → Calls Tryz.prog 29 #[.agg #[.int .i64 (l.length : Int), .slice A (pack l).length c], .int .i64 (p : Int), .int .i64 (k : Int)] V (Got V 0 7)) := fun k h1 h2 V hV => get_short l hl A c (p : Int) (k : Int) V hV (by omega) (by omega) (by omega) (by omega) (by omega)
  have good : ∀ k : Nat, k ≤ 64 → p + k ≤ l.length → Hid (∀ V, Rd V V.heap.size A (pack l) → Calls Tryz.prog 29 #[.agg #[.int .i64 (l.length : Int), .slice A (pack l).length c], .int .i64 (p : Int), .int .i64 (k : Int)] V (Got V (num ((l.drop p).take k)) 0)) := fun k h1 h2 V hV => got_l l hl A c p k h1 h2 V hV
  unfold lstR
  rcases sh_lt m hm with ⟨a, b, d⟩ | ⟨a, b, d, d2⟩
  · rw [if_neg (by omega), if_pos (by omega)]
    have H1 : Hid (∀ V, Rd V V.heap.size A (pack l) → Calls Tryz.prog 29 #[.agg #[.int .i64 (l.length : Int), .slice A (pack l).length c], .int .i64 (p : Int), .int .i64 ((sz m : Int) - 1)] V (Got V 0 3)) := fun V hV => get_range l hl A c (p : Int) _ V hV (.inl (by omega))
    have hn : num ((l.drop p).take (sz m)) = 0 := by rw [a]; rfl
    exact getLeast_c m (sz m) (sh m) p (by omega) (by omega) 3 (by decide) _ _ _ (by omega) (by rw [hn, b]) rfl _ A c _ _ w h HZ H1 (good (sz m) (by omega) (by omega))
  · have ez : ((sz m : Int) - 1) = ((sz m - 1 : Nat) : Int) := by omega
    by_cases h1 : p + (sz m - 1) ≤ l.length
    · have G1 := good (sz m - 1) (by omega) h1
      rw [← ez] at G1
      by_cases h2 : num ((l.drop p).take (sz m - 1)) < sh m
      · rw [if_pos ⟨a, h1, h2⟩]
        exact getLeast_a m (sz m) (sh m) p (by omega) (by omega) _ _ h2 (by simp only; omega) _ A c _ _ w h HZ G1
      · rw [if_neg (fun h => h2 h.2.2)]
        by_cases h3 : p + sz m ≤ l.length
        · rw [if_pos h3]
          have f := num_take_le (l.drop p) (sz m - 1) 1 (by rw [List.length_drop]; omega)
          rw [show sz m - 1 + 1 = sz m by omega] at f
          have g := num_take_lt l p (sz m)
          exact getLeast_e m (sz m) (sh m) p (by omega) (by omega) _ (by omega) _ _ _ (by omega) (Nat.sub_add_cancel (by omega)) rfl _ A c _ _ w h HZ G1 (good (sz m) (by omega) h3)
        · rw [if_neg h3]
          exact getLeast_d m (sz m) (sh m) p (by omega) (by omega) _ 7 (by omega) (by decide) _ A c _ _ w h HZ G1 (short (sz m) (by omega) (by omega))
    · have G1 := short (sz m - 1) (by omega) (by omega)
      rw [← ez] at G1
      rw [if_neg (fun h => h1 h.2.1), if_neg (by omega)]
      exact getLeast_b m (sz m) (sh m) p (by omega) (by omega) 7 7 (by decide) (by decide) _ A c _ _ w h HZ G1 (short (sz m) (by omega) (by omega))
end

section
set_option maxRecDepth 100000
set_option linter.unusedVariables false
open Go.RowKit

theorem mulI (h k s : Nat) (hs : h * k = s) : ((h : Int) * (k : Int)) = (s : Int) := by rw [← hs]; simp
theorem range1_hid (e : Int) (he : e ≠ 0) (b : Bool) (w : World) (B : Nat) (hB : w.heap.size = B) :
    Calls Tryz.prog 41 #[.int .i64 e, .slice (some ⟨B, 0, none⟩) 1 1] (w.alloc (.cells #[.bool b] 4)) fun x w' => x = .returned (.int .i64 e) ∧ Below w.heap.size w w' :=
  range1 e b e (by unfold rgE; rw [if_neg (fun h => he h.1)]) w B hB
set_option maxHeartbeats 1000000 in
theorem rzeta_bad (len : Int) (A : Option Addr) (c N : Nat) (bs : List Nat) (p : Int) (w : World) (hA : Rd w w.heap.size A bs) (ec e0 : Int) (ok : Bool) (he : rgE ec [decide (0 ≤ p), decide (p ≤ len), ok] = e0) (k : Int) (h0 : e0 ≠ 0)
    (HC : Hid (∀ V, Rd V V.heap.size A bs → Calls Tryz.prog 46 #[.agg #[.int .i64 len, .slice A N c]] V fun e w' => e = .returned (.int .i64 ec) ∧ Below V.heap.size V w'))
    (HO : Hid (∀ V, Calls Tryz.prog 56 #[.int .i64 k] V fun e w' => e = .returned (.bool ok) ∧ V = w')) :
    Calls Tryz.prog 163 #[.agg #[.int .i64 len, .slice A N c], .int .i64 p, .int .i64 k] w (ReadP w 0 0 e0) := by
  have HA := Lib.hid hA; clear hA
  have HR := Lib.hid (range3 ec (decide (0 ≤ p)) (decide (p ≤ len)) ok e0 he)
  clear he
  go_enter Tryz.func163, Tryz.ntmps163
  go_wp2_with fail
  generalize hV : w.alloc (.cells #[.int .i64 len, .slice A N c] 27) = V0
  have HV : Hid (Below w.heap.size w V0) := hV ▸ one_below _ _
  have HVs : Hid (w.heap.size + 1 = V0.heap.size) := by show _ = _; rw [← hV, World.size_alloc]
  have HK : Hid (∀ w' : World, Below V0.heap.size V0 w' → w'.cell? ⟨w.heap.size, 0, none⟩ = some (.int .i64 len) ∧ w'.cell? ⟨w.heap.size, 1, none⟩ = some (.slice A N c)) := by
    subst hV
    exact fun w' h => box_at (by rwa [World.size_alloc] at h)
  clear hV
  go_region_held3 (fun w' => w'.cell? ⟨w.heap.size, 0, none⟩ = some (.int .i64 len) ∧ w'.cell? ⟨w.heap.size, 1, none⟩ = some (.slice A N c))
    ((refine HK.out _ ?_; first | exact hk2.out | exact hk1.out.trans ((one_below _ _).mono hk1.out.size) | exact hk1.out | exact (Below.refl _ _).drew))
    (first
      | (go_at_call 41; have hx := hk1.out; refine (HR.out w1 _ rfl).mono ?_; rintro e w2 ⟨rfl, B2⟩; have hk2 : Hid (Below V0.heap.size V0 w2) := hx.trans (B2.mono hx.size); clear B2 hx)
      | (go_at_call 56; have hx := hk1.out; refine (HO.out w1).mono ?_; rintro e _ ⟨rfl, rfl⟩; clear hx)
      | (go_at_call 46; refine (HC.out V0.drew (HA.out.on HV.out.drew)).mono ?_; rintro e w1 ⟨rfl, B1⟩; have hk1 : Hid (Below V0.heap.size V0 w1) := ((Below.refl _ V0).drew).trans B1; clear B1))
  obtain ⟨p1, q1⟩ := HK.out w2 hk2.out
  have HB2 : Hid (Below w.heap.size w w2) := HV.out.trans (hk2.out.mono HV.out.size)
  have t0 : (e0 != 0) = true := by simpa using h0
  clear h0 HK hk1 hk2 p1 q1
  go_wp2
  go_ret3
  exact ⟨rfl, HB2.out⟩
set_option maxHeartbeats 1000000 in
theorem rzeta_u (len : Int) (A : Option Addr) (c N : Nat) (bs : List Nat) (p : Int) (w : World) (hA : Rd w w.heap.size A bs) (ec : Int) (ok : Bool) (he : rgE ec [decide (0 ≤ p), decide (p ≤ len), ok] = 0) (k : Int) (h fr : Nat) (hq : h ≤ 8192) (eu : Int) (h0 : eu ≠ 0) (hk : 1 ≤ k ∧ k ≤ 16)
    (HC : Hid (∀ V, Rd V V.heap.size A bs → Calls Tryz.prog 46 #[.agg #[.int .i64 len, .slice A N c]] V fun e w' => e = .returned (.int .i64 ec) ∧ Below V.heap.size V w'))
    (HO : Hid (∀ V, Calls Tryz.prog 56 #[.int .i64 k] V fun e w' => e = .returned (.bool ok) ∧ V = w'))
    (HU : Hid (∀ V, Rd V V.heap.size A bs → Calls Tryz.prog 161 #[.agg #[.int .i64 len, .slice A N c], .int .i64 p] V (ReadP V h fr eu))) :
    Calls Tryz.prog 163 #[.agg #[.int .i64 len, .slice A N c], .int .i64 p, .int .i64 k] w (ReadP w 0 0 eu) := by
  have HA := Lib.hid hA; clear hA
  have HR := Lib.hid (range3 ec (decide (0 ≤ p)) (decide (p ≤ len)) ok 0 he)
  clear he
  go_enter Tryz.func163, Tryz.ntmps163
  go_wp2_with fail
  generalize hV : w.alloc (.cells #[.int .i64 len, .slice A N c] 27) = V0
  have HV : Hid (Below w.heap.size w V0) := hV ▸ one_below _ _
  have HVs : Hid (w.heap.size + 1 = V0.heap.size) := by show _ = _; rw [← hV, World.size_alloc]
  have HK : Hid (∀ w' : World, Below V0.heap.size V0 w' → w'.cell? ⟨w.heap.size, 0, none⟩ = some (.int .i64 len) ∧ w'.cell? ⟨w.heap.size, 1, none⟩ = some (.slice A N c)) := by
    subst hV
    exact fun w' h => box_at (by rwa [World.size_alloc] at h)
  clear hV
  go_region_held3 (fun w' => w'.cell? ⟨w.heap.size, 0, none⟩ = some (.int .i64 len) ∧ w'.cell? ⟨w.heap.size, 1, none⟩ = some (.slice A N c))
    ((refine HK.out _ ?_; first | exact hk2.out | exact hk1.out.trans ((one_below _ _).mono hk1.out.size) | exact hk1.out | exact (Below.refl _ _).drew))
    (first
      | (go_at_call 41; have hx := hk1.out; refine (HR.out w1 _ rfl).mono ?_; rintro e w2 ⟨rfl, B2⟩; have hk2 : Hid (Below V0.heap.size V0 w2) := hx.trans (B2.mono hx.size); clear B2 hx)
      | (go_at_call 56; have hx := hk1.out; refine (HO.out w1).mono ?_; rintro e _ ⟨rfl, rfl⟩; clear hx)
      | (go_at_call 46; refine (HC.out V0.drew (HA.out.on HV.out.drew)).mono ?_; rintro e w1 ⟨rfl, B1⟩; have hk1 : Hid (Below V0.heap.size V0 w1) := ((Below.refl _ V0).drew).trans B1; clear B1))
  obtain ⟨p1, q1⟩ := HK.out w2 hk2.out
  have HB2 : Hid (Below w.heap.size w w2) := HV.out.trans (hk2.out.mono HV.out.size)
  have t0 : (eu != 0) = true := by simpa using h0
  have HKw : Hid (∀ w' : World, Below w2.heap.size w2 w' → w'.cell? ⟨w.heap.size, 0, none⟩ = some (.int .i64 len) ∧ w'.cell? ⟨w.heap.size, 1, none⟩ = some (.slice A N c)) := fun w' h => HK.out w' (hk2.out.trans (h.mono hk2.out.size))
  clear HK hk1 hk2
  go_wp2_with fail
  refine (HU.out _ (HA.out.on HB2.out)).mono ?_
  rintro e w3 ⟨rfl, B3⟩
  have HB3 : Hid (Below w.heap.size w w3) := HB2.out.trans (B3.mono HB2.out.size)
  have H23 := Lib.hid B3
  clear B3 p1 q1
  obtain ⟨p1, q1⟩ := HKw.out w3 H23.out
  go_wp2_with fail
  refine (range1_hid eu h0 _ _ _ rfl).mono ?_
  rintro e w4 ⟨rfl, B4⟩
  have HB4 : Hid (Below w.heap.size w w4) := HB3.out.trans (B4.mono HB3.out.size)
  have H24 : Hid (Below w2.heap.size w2 w4) := H23.out.trans (B4.mono H23.out.size)
  clear B4 p1 q1
  clear HKw H23 H24
  go_wp2
  go_ret3
  exact ⟨rfl, HB4.out⟩
set_option maxHeartbeats 1000000 in
theorem rzeta_q (len : Int) (A : Option Addr) (c N : Nat) (bs : List Nat) (p : Int) (w : World) (hA : Rd w w.heap.size A bs) (ec : Int) (ok : Bool) (he : rgE ec [decide (0 ≤ p), decide (p ≤ len), ok] = 0) (k h fr s : Nat) (hk2 : k ≤ 16) (hh : h ≤ 8192) (hs : h * k = s) (hs2 : s ≤ 200000) (hq : 40 < s)
    (HC : Hid (∀ V, Rd V V.heap.size A bs → Calls Tryz.prog 46 #[.agg #[.int .i64 len, .slice A N c]] V fun e w' => e = .returned (.int .i64 ec) ∧ Below V.heap.size V w'))
    (HO : Hid (∀ V, Calls Tryz.prog 56 #[.int .i64 (k : Int)] V fun e w' => e = .returned (.bool ok) ∧ V = w'))
    (HU : Hid (∀ V, Rd V V.heap.size A bs → Calls Tryz.prog 161 #[.agg #[.int .i64 len, .slice A N c], .int .i64 p] V (ReadP V h fr 0))) :
    Calls Tryz.prog 163 #[.agg #[.int .i64 len, .slice A N c], .int .i64 p, .int .i64 (k : Int)] w (ReadP w 0 0 3) := by
  have HA := Lib.hid hA; clear hA
  have HR := Lib.hid (range3 ec (decide (0 ≤ p)) (decide (p ≤ len)) ok 0 he)
  clear he
  go_enter Tryz.func163, Tryz.ntmps163
  go_wp2_with fail
  generalize hV : w.alloc (.cells #[.int .i64 len, .slice A N c] 27) = V0
  have HV : Hid (Below w.heap.size w V0) := hV ▸ one_below _ _
  have HVs : Hid (w.heap.size + 1 = V0.heap.size) := by show _ = _; rw [← hV, World.size_alloc]
  have HK : Hid (∀ w' : World, Below V0.heap.size V0 w' → w'.cell? ⟨w.heap.size, 0, none⟩ = some (.int .i64 len) ∧ w'.cell? ⟨w.heap.size, 1, none⟩ = some (.slice A N c)) := by
    subst hV
    exact fun w' h => box_at (by rwa [World.size_alloc] at h)
  clear hV
  go_region_held3 (fun w' => w'.cell? ⟨w.heap.size, 0, none⟩ = some (.int .i64 len) ∧ w'.cell? ⟨w.heap.size, 1, none⟩ = some (.slice A N c))
    ((refine HK.out _ ?_; first | exact hk2.out | exact hk1.out.trans ((one_below _ _).mono hk1.out.size) | exact hk1.out | exact (Below.refl _ _).drew))
    (first
      | (go_at_call 41; have hx := hk1.out; refine (HR.out w1 _ rfl).mono ?_; rintro e w2 ⟨rfl, B2⟩; have hk2 : Hid (Below V0.heap.size V0 w2) := hx.trans (B2.mono hx.size); clear B2 hx)
      | (go_at_call 56; have hx := hk1.out; refine (HO.out w1).mono ?_; rintro e _ ⟨rfl, rfl⟩; clear hx)
      | (go_at_call 46; refine (HC.out V0.drew (HA.out.on HV.out.drew)).mono ?_; rintro e w1 ⟨rfl, B1⟩; have hk1 : Hid (Below V0.heap.size V0 w1) := ((Below.refl _ V0).drew).trans B1; clear B1))
  obtain ⟨p1, q1⟩ := HK.out w2 hk2.out
  have HB2 : Hid (Below w.heap.size w w2) := HV.out.trans (hk2.out.mono HV.out.size)
  have t0 : decide ((s : Int) ≤ 40) = false := by simp; omega
  have HKw : Hid (∀ w' : World, Below w2.heap.size w2 w' → w'.cell? ⟨w.heap.size, 0, none⟩ = some (.int .i64 len) ∧ w'.cell? ⟨w.heap.size, 1, none⟩ = some (.slice A N c)) := fun w' h => HK.out w' (hk2.out.trans (h.mono hk2.out.size))
  clear HK hk1 hk2
  go_wp2_with fail
  refine (HU.out _ (HA.out.on HB2.out)).mono ?_
  rintro e w3 ⟨rfl, B3⟩
  have HB3 : Hid (Below w.heap.size w w3) := HB2.out.trans (B3.mono HB2.out.size)
  have H23 := Lib.hid B3
  clear B3 p1 q1
  obtain ⟨p1, q1⟩ := HKw.out w3 H23.out
  go_wp2_with fail
  rw [mulI h k s hs, t0]
  refine (range1 0 false 3 rfl _ _ rfl).mono ?_
  rintro e w4 ⟨rfl, B4⟩
  have HB4 : Hid (Below w.heap.size w w4) := HB3.out.trans (B4.mono HB3.out.size)
  have H24 : Hid (Below w2.heap.size w2 w4) := H23.out.trans (B4.mono H23.out.size)
  clear B4 p1 q1
  clear HKw H23 H24
  go_wp2
  go_ret3
  exact ⟨rfl, HB4.out⟩
set_option maxHeartbeats 1000000 in
theorem rzeta_s (len : Int) (A : Option Addr) (c N : Nat) (bs : List Nat) (p : Int) (w : World) (hA : Rd w w.heap.size A bs) (ec : Int) (ok : Bool) (he : rgE ec [decide (0 ≤ p), decide (p ≤ len), ok] = 0) (k h fr s f y r : Nat) (hk2 : k ≤ 16) (hh : h ≤ 40) (hfr : fr ≤ 8192) (hs : h * k = s) (hs2 : s ≤ 40) (hf : f ≤ 1099511627776) (hf1 : 1 ≤ f) (hr : r ≤ 72057594037927936) (to : Nat) (er : Int) (h1 : er ≠ 0)
    (HC : Hid (∀ V, Rd V V.heap.size A bs → Calls Tryz.prog 46 #[.agg #[.int .i64 len, .slice A N c]] V fun e w' => e = .returned (.int .i64 ec) ∧ Below V.heap.size V w'))
    (HO : Hid (∀ V, Calls Tryz.prog 56 #[.int .i64 (k : Int)] V fun e w' => e = .returned (.bool ok) ∧ V = w'))
    (HU : Hid (∀ V, Rd V V.heap.size A bs → Calls Tryz.prog 161 #[.agg #[.int .i64 len, .slice A N c], .int .i64 p] V (ReadP V h fr 0)))
    (HS : Hid (∀ V, Calls Tryz.prog 158 #[.int .i64 (s : Int), .int .i64 (k : Int)] V fun e w' => e = .returned (.tuple #[.int .u64 (f : Int), .int .u64 (y : Int)]) ∧ Below V.heap.size V w'))
    (HG : Hid (∀ V, Rd V V.heap.size A bs → Calls Tryz.prog 180 #[.agg #[.int .i64 len, .slice A N c], .int .i64 (fr : Int), .int .u64 (y : Int)] V (ReadP V r to er))) :
    Calls Tryz.prog 163 #[.agg #[.int .i64 len, .slice A N c], .int .i64 p, .int .i64 (k : Int)] w (ReadP w 0 0 er) := by
  have HA := Lib.hid hA; clear hA
  have HR := Lib.hid (range3 ec (decide (0 ≤ p)) (decide (p ≤ len)) ok 0 he)
  clear he
  go_enter Tryz.func163, Tryz.ntmps163
  go_wp2_with fail
  generalize hV : w.alloc (.cells #[.int .i64 len, .slice A N c] 27) = V0
  have HV : Hid (Below w.heap.size w V0) := hV ▸ one_below _ _
  have HVs : Hid (w.heap.size + 1 = V0.heap.size) := by show _ = _; rw [← hV, World.size_alloc]
  have HK : Hid (∀ w' : World, Below V0.heap.size V0 w' → w'.cell? ⟨w.heap.size, 0, none⟩ = some (.int .i64 len) ∧ w'.cell? ⟨w.heap.size, 1, none⟩ = some (.slice A N c)) := by
    subst hV
    exact fun w' h => box_at (by rwa [World.size_alloc] at h)
  clear hV
  go_region_held3 (fun w' => w'.cell? ⟨w.heap.size, 0, none⟩ = some (.int .i64 len) ∧ w'.cell? ⟨w.heap.size, 1, none⟩ = some (.slice A N c))
    ((refine HK.out _ ?_; first | exact hk2.out | exact hk1.out.trans ((one_below _ _).mono hk1.out.size) | exact hk1.out | exact (Below.refl _ _).drew))
    (first
      | (go_at_call 41; have hx := hk1.out; refine (HR.out w1 _ rfl).mono ?_; rintro e w2 ⟨rfl, B2⟩; have hk2 : Hid (Below V0.heap.size V0 w2) := hx.trans (B2.mono hx.size); clear B2 hx)
      | (go_at_call 56; have hx := hk1.out; refine (HO.out w1).mono ?_; rintro e _ ⟨rfl, rfl⟩; clear hx)
      | (go_at_call 46; refine (HC.out V0.drew (HA.out.on HV.out.drew)).mono ?_; rintro e w1 ⟨rfl, B1⟩; have hk1 : Hid (Below V0.heap.size V0 w1) := ((Below.refl _ V0).drew).trans B1; clear B1))
  obtain ⟨p1, q1⟩ := HK.out w2 hk2.out
  have HB2 : Hid (Below w.heap.size w w2) := HV.out.trans (hk2.out.mono HV.out.size)
  have t0 : decide ((s : Int) ≤ 40) = true := by simp; omega
  have t1 : (er != 0) = true := by simpa using h1
  have HKw : Hid (∀ w' : World, Below w2.heap.size w2 w' → w'.cell? ⟨w.heap.size, 0, none⟩ = some (.int .i64 len) ∧ w'.cell? ⟨w.heap.size, 1, none⟩ = some (.slice A N c)) := fun w' h => HK.out w' (hk2.out.trans (h.mono hk2.out.size))
  clear HK hk1 hk2
  go_wp2_with fail
  refine (HU.out _ (HA.out.on HB2.out)).mono ?_
  rintro e w3 ⟨rfl, B3⟩
  have HB3 : Hid (Below w.heap.size w w3) := HB2.out.trans (B3.mono HB2.out.size)
  have H23 := Lib.hid B3
  clear B3 p1 q1
  obtain ⟨p1, q1⟩ := HKw.out w3 H23.out
  go_wp2_with fail
  rw [mulI h k s hs, t0]
  refine (range1 0 true 0 rfl _ _ rfl).mono ?_
  rintro e w4 ⟨rfl, B4⟩
  have HB4 : Hid (Below w.heap.size w w4) := HB3.out.trans (B4.mono HB3.out.size)
  have H24 : Hid (Below w2.heap.size w2 w4) := H23.out.trans (B4.mono H23.out.size)
  clear B4 p1 q1
  go_wp2_with fail
  refine (HS.out _).mono ?_
  rintro e w4b ⟨rfl, B4⟩
  replace HB4 : Hid (Below w.heap.size w w4b) := HB4.out.trans (B4.mono HB4.out.size)
  replace H24 : Hid (Below w2.heap.size w2 w4b) := H24.out.trans (B4.mono H24.out.size)
  clear B4
  obtain ⟨p1, q1⟩ := HKw.out w4b H24.out
  go_wp2_with fail
  refine (HG.out _ (HA.out.on HB4.out)).mono ?_
  rintro e w5 ⟨rfl, B5⟩
  have HB5 : Hid (Below w.heap.size w w5) := HB4.out.trans (B5.mono HB4.out.size)
  clear B5 p1 q1 HKw H23 H24
  go_wp2_with fail
  refine (range1_hid er h1 _ _ _ rfl).mono ?_
  rintro e w6 ⟨rfl, B6⟩
  have HB6 : Hid (Below w.heap.size w w6) := HB5.out.trans (B6.mono HB5.out.size)
  clear B6
  go_wp2
  go_ret3
  exact ⟨rfl, HB6.out⟩
set_option maxHeartbeats 1000000 in
theorem rzeta_o (len : Int) (A : Option Addr) (c N : Nat) (bs : List Nat) (p : Int) (w : World) (hA : Rd w w.heap.size A bs) (ec : Int) (ok : Bool) (he : rgE ec [decide (0 ≤ p), decide (p ≤ len), ok] = 0) (k h fr s f y r : Nat) (hk2 : k ≤ 16) (hh : h ≤ 40) (hfr : fr ≤ 8192) (hs : h * k = s) (hs2 : s ≤ 40) (hf : f ≤ 1099511627776) (hf1 : 1 ≤ f) (hr : r ≤ 72057594037927936) (to : Nat) (h1 : 1099511627776 < f + r - 1)
    (HC : Hid (∀ V, Rd V V.heap.size A bs → Calls Tryz.prog 46 #[.agg #[.int .i64 len, .slice A N c]] V fun e w' => e = .returned (.int .i64 ec) ∧ Below V.heap.size V w'))
    (HO : Hid (∀ V, Calls Tryz.prog 56 #[.int .i64 (k : Int)] V fun e w' => e = .returned (.bool ok) ∧ V = w'))
    (HU : Hid (∀ V, Rd V V.heap.size A bs → Calls Tryz.prog 161 #[.agg #[.int .i64 len, .slice A N c], .int .i64 p] V (ReadP V h fr 0)))
    (HS : Hid (∀ V, Calls Tryz.prog 158 #[.int .i64 (s : Int), .int .i64 (k : Int)] V fun e w' => e = .returned (.tuple #[.int .u64 (f : Int), .int .u64 (y : Int)]) ∧ Below V.heap.size V w'))
    (HG : Hid (∀ V, Rd V V.heap.size A bs → Calls Tryz.prog 180 #[.agg #[.int .i64 len, .slice A N c], .int .i64 (fr : Int), .int .u64 (y : Int)] V (ReadP V r to 0))) :
    Calls Tryz.prog 163 #[.agg #[.int .i64 len, .slice A N c], .int .i64 p, .int .i64 (k : Int)] w (ReadP w 0 0 3) := by
  have HA := Lib.hid hA; clear hA
  have HR := Lib.hid (range3 ec (decide (0 ≤ p)) (decide (p ≤ len)) ok 0 he)
  clear he
  go_enter Tryz.func163, Tryz.ntmps163
  go_wp2_with fail
  generalize hV : w.alloc (.cells #[.int .i64 len, .slice A N c] 27) = V0
  have HV : Hid (Below w.heap.size w V0) := hV ▸ one_below _ _
  have HVs : Hid (w.heap.size + 1 = V0.heap.size) := by show _ = _; rw [← hV, World.size_alloc]
  have HK : Hid (∀ w' : World, Below V0.heap.size V0 w' → w'.cell? ⟨w.heap.size, 0, none⟩ = some (.int .i64 len) ∧ w'.cell? ⟨w.heap.size, 1, none⟩ = some (.slice A N c)) := by
    subst hV
    exact fun w' h => box_at (by rwa [World.size_alloc] at h)
  clear hV
  go_region_held3 (fun w' => w'.cell? ⟨w.heap.size, 0, none⟩ = some (.int .i64 len) ∧ w'.cell? ⟨w.heap.size, 1, none⟩ = some (.slice A N c))
    ((refine HK.out _ ?_; first | exact hk2.out | exact hk1.out.trans ((one_below _ _).mono hk1.out.size) | exact hk1.out | exact (Below.refl _ _).drew))
    (first
      | (go_at_call 41; have hx := hk1.out; refine (HR.out w1 _ rfl).mono ?_; rintro e w2 ⟨rfl, B2⟩; have hk2 : Hid (Below V0.heap.size V0 w2) := hx.trans (B2.mono hx.size); clear B2 hx)
      | (go_at_call 56; have hx := hk1.out; refine (HO.out w1).mono ?_; rintro e _ ⟨rfl, rfl⟩; clear hx)
      | (go_at_call 46; refine (HC.out V0.drew (HA.out.on HV.out.drew)).mono ?_; rintro e w1 ⟨rfl, B1⟩; have hk1 : Hid (Below V0.heap.size V0 w1) := ((Below.refl _ V0).drew).trans B1; clear B1))
  obtain ⟨p1, q1⟩ := HK.out w2 hk2.out
  have HB2 : Hid (Below w.heap.size w w2) := HV.out.trans (hk2.out.mono HV.out.size)
  have t0 : decide ((s : Int) ≤ 40) = true := by simp; omega
  have t1 : decide ((f : Int) + (r : Int) - 1 ≤ 1099511627776) = false := by simp; omega
  have HKw : Hid (∀ w' : World, Below w2.heap.size w2 w' → w'.cell? ⟨w.heap.size, 0, none⟩ = some (.int .i64 len) ∧ w'.cell? ⟨w.heap.size, 1, none⟩ = some (.slice A N c)) := fun w' h => HK.out w' (hk2.out.trans (h.mono hk2.out.size))
  clear HK hk1 hk2
  go_wp2_with fail
  refine (HU.out _ (HA.out.on HB2.out)).mono ?_
  rintro e w3 ⟨rfl, B3⟩
  have HB3 : Hid (Below w.heap.size w w3) := HB2.out.trans (B3.mono HB2.out.size)
  have H23 := Lib.hid B3
  clear B3 p1 q1
  obtain ⟨p1, q1⟩ := HKw.out w3 H23.out
  go_wp2_with fail
  rw [mulI h k s hs, t0]
  refine (range1 0 true 0 rfl _ _ rfl).mono ?_
  rintro e w4 ⟨rfl, B4⟩
  have HB4 : Hid (Below w.heap.size w w4) := HB3.out.trans (B4.mono HB3.out.size)
  have H24 : Hid (Below w2.heap.size w2 w4) := H23.out.trans (B4.mono H23.out.size)
  clear B4 p1 q1
  go_wp2_with fail
  refine (HS.out _).mono ?_
  rintro e w4b ⟨rfl, B4⟩
  replace HB4 : Hid (Below w.heap.size w w4b) := HB4.out.trans (B4.mono HB4.out.size)
  replace H24 : Hid (Below w2.heap.size w2 w4b) := H24.out.trans (B4.mono H24.out.size)
  clear B4
  obtain ⟨p1, q1⟩ := HKw.out w4b H24.out
  go_wp2_with fail
  refine (HG.out _ (HA.out.on HB4.out)).mono ?_
  rintro e w5 ⟨rfl, B5⟩
  have HB5 : Hid (Below w.heap.size w w5) := HB4.out.trans (B5.mono HB4.out.size)
  clear B5 p1 q1 HKw H23 H24
  go_wp2_with fail
  refine (range1 0 false 3 rfl _ _ rfl).mono ?_
  rintro e w6 ⟨rfl, B6⟩
  have HB6 : Hid (Below w.heap.size w w6) := HB5.out.trans (B6.mono HB5.out.size)
  clear B6
  go_wp2
  go_ret3
  exact ⟨rfl, HB6.out⟩
set_option maxHeartbeats 1000000 in
theorem rzeta_k (len : Int) (A : Option Addr) (c N : Nat) (bs : List Nat) (p : Int) (w : World) (hA : Rd w w.heap.size A bs) (ec : Int) (ok : Bool) (he : rgE ec [decide (0 ≤ p), decide (p ≤ len), ok] = 0) (k h fr s f y r : Nat) (hk2 : k ≤ 16) (hh : h ≤ 40) (hfr : fr ≤ 8192) (hs : h * k = s) (hs2 : s ≤ 40) (hf : f ≤ 1099511627776) (hf1 : 1 ≤ f) (hr : r ≤ 72057594037927936) (to : Nat) (x : Nat) (hx : x + 1 = f + r) (h1 : f + r - 1 ≤ 1099511627776)
    (HC : Hid (∀ V, Rd V V.heap.size A bs → Calls Tryz.prog 46 #[.agg #[.int .i64 len, .slice A N c]] V fun e w' => e = .returned (.int .i64 ec) ∧ Below V.heap.size V w'))
    (HO : Hid (∀ V, Calls Tryz.prog 56 #[.int .i64 (k : Int)] V fun e w' => e = .returned (.bool ok) ∧ V = w'))
    (HU : Hid (∀ V, Rd V V.heap.size A bs → Calls Tryz.prog 161 #[.agg #[.int .i64 len, .slice A N c], .int .i64 p] V (ReadP V h fr 0)))
    (HS : Hid (∀ V, Calls Tryz.prog 158 #[.int .i64 (s : Int), .int .i64 (k : Int)] V fun e w' => e = .returned (.tuple #[.int .u64 (f : Int), .int .u64 (y : Int)]) ∧ Below V.heap.size V w'))
    (HG : Hid (∀ V, Rd V V.heap.size A bs → Calls Tryz.prog 180 #[.agg #[.int .i64 len, .slice A N c], .int .i64 (fr : Int), .int .u64 (y : Int)] V (ReadP V r to 0))) :
    Calls Tryz.prog 163 #[.agg #[.int .i64 len, .slice A N c], .int .i64 p, .int .i64 (k : Int)] w (ReadP w x to 0) := by
  have HA := Lib.hid hA; clear hA
  have HR := Lib.hid (range3 ec (decide (0 ≤ p)) (decide (p ≤ len)) ok 0 he)
  clear he
  go_enter Tryz.func163, Tryz.ntmps163
  go_wp2_with fail
  generalize hV : w.alloc (.cells #[.int .i64 len, .slice A N c] 27) = V0
  have HV : Hid (Below w.heap.size w V0) := hV ▸ one_below _ _
  have HVs : Hid (w.heap.size + 1 = V0.heap.size) := by show _ = _; rw [← hV, World.size_alloc]
  have HK : Hid (∀ w' : World, Below V0.heap.size V0 w' → w'.cell? ⟨w.heap.size, 0, none⟩ = some (.int .i64 len) ∧ w'.cell? ⟨w.heap.size, 1, none⟩ = some (.slice A N c)) := by
    subst hV
    exact fun w' h => box_at (by rwa [World.size_alloc] at h)
  clear hV
  go_region_held3 (fun w' => w'.cell? ⟨w.heap.size, 0, none⟩ = some (.int .i64 len) ∧ w'.cell? ⟨w.heap.size, 1, none⟩ = some (.slice A N c))
    ((refine HK.out _ ?_; first | exact hk2.out | exact hk1.out.trans ((one_below _ _).mono hk1.out.size) | exact hk1.out | exact (Below.refl _ _).drew))
    (first
      | (go_at_call 41; have hx := hk1.out; refine (HR.out w1 _ rfl).mono ?_; rintro e w2 ⟨rfl, B2⟩; have hk2 : Hid (Below V0.heap.size V0 w2) := hx.trans (B2.mono hx.size); clear B2 hx)
      | (go_at_call 56; have hx := hk1.out; refine (HO.out w1).mono ?_; rintro e _ ⟨rfl, rfl⟩; clear hx)
      | (go_at_call 46; refine (HC.out V0.drew (HA.out.on HV.out.drew)).mono ?_; rintro e w1 ⟨rfl, B1⟩; have hk1 : Hid (Below V0.heap.size V0 w1) := ((Below.refl _ V0).drew).trans B1; clear B1))
  obtain ⟨p1, q1⟩ := HK.out w2 hk2.out
  have HB2 : Hid (Below w.heap.size w w2) := HV.out.trans (hk2.out.mono HV.out.size)
  have t0 : decide ((s : Int) ≤ 40) = true := by simp; omega
  have t1 : decide ((f : Int) + (r : Int) - 1 ≤ 1099511627776) = true := by simp; omega
  have hxi : (x : Int) = (f : Int) + (r : Int) - 1 := by omega
  have HKw : Hid (∀ w' : World, Below w2.heap.size w2 w' → w'.cell? ⟨w.heap.size, 0, none⟩ = some (.int .i64 len) ∧ w'.cell? ⟨w.heap.size, 1, none⟩ = some (.slice A N c)) := fun w' h => HK.out w' (hk2.out.trans (h.mono hk2.out.size))
  clear HK hk1 hk2
  go_wp2_with fail
  refine (HU.out _ (HA.out.on HB2.out)).mono ?_
  rintro e w3 ⟨rfl, B3⟩
  have HB3 : Hid (Below w.heap.size w w3) := HB2.out.trans (B3.mono HB2.out.size)
  have H23 := Lib.hid B3
  clear B3 p1 q1
  obtain ⟨p1, q1⟩ := HKw.out w3 H23.out
  go_wp2_with fail
  rw [mulI h k s hs, t0]
  refine (range1 0 true 0 rfl _ _ rfl).mono ?_
  rintro e w4 ⟨rfl, B4⟩
  have HB4 : Hid (Below w.heap.size w w4) := HB3.out.trans (B4.mono HB3.out.size)
  have H24 : Hid (Below w2.heap.size w2 w4) := H23.out.trans (B4.mono H23.out.size)
  clear B4 p1 q1
  go_wp2_with fail
  refine (HS.out _).mono ?_
  rintro e w4b ⟨rfl, B4⟩
  replace HB4 : Hid (Below w.heap.size w w4b) := HB4.out.trans (B4.mono HB4.out.size)
  replace H24 : Hid (Below w2.heap.size w2 w4b) := H24.out.trans (B4.mono H24.out.size)
  clear B4
  obtain ⟨p1, q1⟩ := HKw.out w4b H24.out
  go_wp2_with fail
  refine (HG.out _ (HA.out.on HB4.out)).mono ?_
  rintro e w5 ⟨rfl, B5⟩
  have HB5 : Hid (Below w.heap.size w w5) := HB4.out.trans (B5.mono HB4.out.size)
  clear B5 p1 q1 HKw H23 H24
  go_wp2_with fail
  refine (range1 0 true 0 rfl _ _ rfl).mono ?_
  rintro e w6 ⟨rfl, B6⟩
  have HB6 : Hid (Below w.heap.size w w6) := HB5.out.trans (B6.mono HB5.out.size)
  clear B6
  go_wp2
  go_ret3
  exact ⟨by rw [hxi]; rfl, HB6.out⟩

/-- Which bits, places and divisors are wrong. -/
def rcE (len : Int) (bs : List Nat) (p : Int) (ok : Bool) : Int := if chk len bs ≠ 0 then chk len bs else if p < 0 ∨ len < p ∨ ok = false then 3 else 0
theorem rcE_eq (len : Int) (bs : List Nat) (p : Int) (ok : Bool) : rgE (chk len bs) [decide (0 ≤ p), decide (p ≤ len), ok] = rcE len bs p ok := by
  by_cases hc : chk len bs = 0
  · have e1 : rcE len bs p ok = if p < 0 ∨ len < p ∨ ok = false then 3 else 0 := by unfold rcE; rw [if_neg (fun h => h hc)]
    rw [e1, hc]
    unfold rgE
    by_cases h : p < 0 ∨ len < p ∨ ok = false
    · rw [if_pos h, if_pos]
      refine ⟨rfl, ?_⟩
      rcases h with h | h | h
      · rw [decide_eq_false (show ¬ 0 ≤ p by omega)]; simp
      · rw [decide_eq_false (show ¬ p ≤ len by omega)]; simp
      · rw [h]; simp
    · rw [if_neg h, if_neg]
      rw [decide_eq_true (show 0 ≤ p by omega), decide_eq_true (show p ≤ len by omega)]
      have : ok = true := by
        cases ok
        · exact absurd (.inr (.inr rfl)) h
        · rfl
      rw [this]; simp
  · have e1 : rcE len bs p ok = chk len bs := by unfold rcE; rw [if_pos hc]
    rw [e1]
    unfold rgE
    rw [if_neg (fun h => hc h.1)]
theorem ck_hid (len : Int) (A : Option Addr) (c : Nat) (bs : List Nat) (hb : ∀ b ∈ bs, b < 256) : Hid (∀ V, Rd V V.heap.size A bs → Calls Tryz.prog 46 #[.agg #[.int .i64 len, .slice A bs.length c]] V fun e w' => e = .returned (.int .i64 (chk len bs)) ∧ Below V.heap.size V w') := fun V h => check_any len A c bs V hb h
theorem rzeta_bad_l (len : Int) (A : Option Addr) (c : Nat) (bs : List Nat) (p k : Int) (hb : ∀ b ∈ bs, b < 256) (h0 : rcE len bs p (okK k) ≠ 0) (w : World) (h : Rd w w.heap.size A bs) :
    Calls Tryz.prog 163 #[.agg #[.int .i64 len, .slice A bs.length c], .int .i64 p, .int .i64 k] w (ReadP w 0 0 (rcE len bs p (okK k))) :=
  rzeta_bad len A c _ bs p w h _ _ _ (rcE_eq len bs p (okK k)) k h0 (ck_hid len A c bs hb) (fun V => isK_any k V)
theorem rcE_ok (l : List Bool) (hl : l.length ≤ 8192) (p : Nat) (hp : p ≤ l.length) (ok : Bool) (hok : ok = true) : rgE (chk (l.length : Int) (pack l)) [decide (0 ≤ (p : Int)), decide ((p : Int) ≤ (l.length : Int)), ok] = 0 := by
  rw [rcE_eq]; unfold rcE; rw [chk_pack l hl, if_neg (by omega), if_neg (by simp [hok]; omega)]
theorem okM_of (m : Nat) (h1 : 1 ≤ m) (h2 : m ≤ 1099511627776) : okM m = true := by unfold okM; simp; omega
theorem rzeta_l (l : List Bool) (hl : l.length ≤ 8192) (k : Nat) (hk : 1 ≤ k) (hk2 : k ≤ 16) (A : Option Addr) (c p : Nat) (hp : p ≤ l.length) (w : World) (h : Rd w w.heap.size A (pack l)) :
    Calls Tryz.prog 163 #[.agg #[.int .i64 (l.length : Int), .slice A (pack l).length c], .int .i64 (p : Int), .int .i64 (k : Int)] w (ReadP w (zetR l p k).1 (zetR l p k).2.1 (zetR l p k).2.2) := by
  have he := rcE_ok l hl p hp (okK (k : Int)) (by unfold okK; simp; omega)
  have hc := ck_hid (l.length : Int) A c (pack l) (pack_lt l)
  have ho : Hid (∀ V, Calls Tryz.prog 56 #[.int .i64 (k : Int)] V fun e w' => e = .returned (.bool (okK (k : Int))) ∧ V = w') := fun V => isK_any (k : Int) V
  have hu : Hid (∀ V, Rd V V.heap.size A (pack l) → Calls Tryz.prog 161 #[.agg #[.int .i64 (l.length : Int), .slice A (pack l).length c], .int .i64 (p : Int)] V (ReadP V (uR l p).1 (uR l p).2.1 (uR l p).2.2)) := fun V hV => readU_l l hl A c p hp V hV
  have hb := uR_bound l p hp
  unfold zetR
  generalize uR l p = u at *
  obtain ⟨q, fr, eu⟩ := u
  simp only at hb hu ⊢
  have hqk : q * k ≤ 8192 * 16 := Nat.mul_le_mul (by omega) hk2
  by_cases h0 : eu = 0
  · subst h0
    rw [if_neg (by simp)]
    by_cases h1 : 40 < q * k
    · rw [if_pos h1]
      exact rzeta_q _ A c _ (pack l) _ w h _ _ he k q fr _ hk2 (by omega) rfl (by omega) h1 hc ho hu
    · rw [if_neg h1]
      have zp := zq_pos q k hk
      have zl := zq_le q k (by omega) hk2
      have hq40 : q ≤ 40 := Nat.le_trans (Nat.le_mul_of_pos_right q (by omega)) (Nat.not_lt.1 h1)
      have hp1 := Nat.pow_le_pow_right (n := 2) (by omega) (show q * k ≤ 40 by omega)
      have hp2 := Nat.two_pow_pos (q * k)
      have hp3 := Nat.pow_le_pow_right (n := 2) (by omega) (show q * k ≤ q * k + k by omega)
      have hst : Hid (∀ V, Calls Tryz.prog 158 #[.int .i64 ((q * k : Nat) : Int), .int .i64 (k : Int)] V fun e w' => e = .returned (.tuple #[.int .u64 ((2 ^ (q * k) : Nat) : Int), .int .u64 ((zq q k : Nat) : Int)]) ∧ Below V.heap.size V w') := fun V => stretch_any _ k _ _ (by omega) hk2 rfl (by unfold zq; omega) V
      have hg : Hid (∀ V, Rd V V.heap.size A (pack l) → Calls Tryz.prog 180 #[.agg #[.int .i64 (l.length : Int), .slice A (pack l).length c], .int .i64 (fr : Int), .int .u64 ((zq q k : Nat) : Int)] V (ReadP V (lstR l fr (zq q k)).1 (lstR l fr (zq q k)).2.1 (lstR l fr (zq q k)).2.2)) := fun V hV => getLeast_l l hl (zq q k) zp zl A c fr (by omega) V hV
      have hlb := lstR_bound l fr (zq q k) zp (by omega)
      unfold remR
      simp only
      generalize lstR l fr (zq q k) = v at *
      obtain ⟨r, to, er⟩ := v
      simp only at hlb hg ⊢
      generalize 2 ^ (q * k) = f at *
      by_cases h2 : er = 0
      · subst h2
        rw [if_neg (by simp)]
        by_cases h3 : 1099511627776 < f + r - 1
        · rw [if_pos h3]
          exact rzeta_o _ A c _ (pack l) _ w h _ _ he k q fr _ f (zq q k) r hk2 hq40 (by omega) rfl (by omega) (by omega) (by omega) (by omega) to h3 hc ho hu hst hg
        · rw [if_neg h3]
          exact rzeta_k _ A c _ (pack l) _ w h _ _ he k q fr _ f (zq q k) r hk2 hq40 (by omega) rfl (by omega) (by omega) (by omega) (by omega) to _ (by omega) (Nat.not_lt.1 h3) hc ho hu hst hg
      · rw [if_pos h2]
        exact rzeta_s _ A c _ (pack l) _ w h _ _ he k q fr _ f (zq q k) r hk2 hq40 (by omega) rfl (by omega) (by omega) (by omega) (by omega) to er h2 hc ho hu hst hg
  · rw [if_pos h0]
    exact rzeta_u _ A c _ (pack l) _ w h _ _ he (k : Int) q fr (by omega) eu h0 (by omega) hc ho hu
end

section
set_option maxRecDepth 100000
set_option linter.unusedVariables false
open Go.RowKit Go.Shelf

/-- A list that is read from a place on, behind what is read already; where it ends; an error. -/
def rdG (L : List Bool) (k a : Nat) : Nat → List Nat → Nat → List Nat × Nat × Int
  | 0, l, s => (l, s, 0)
  | m + 1, l, s => if (zetR L s k).2.2 ≠ 0 then ([], 0, (zetR L s k).2.2) else if elE l (zetR L s k).1 a ≠ 0 then ([], 0, 3) else rdG L k a m (l ++ [(el l (zetR L s k).1 a).toNat]) (zetR L s k).2.1
theorem rdG_succ (L : List Bool) (k a m : Nat) (l : List Nat) (s : Nat) : rdG L k a (m + 1) l s = if (zetR L s k).2.2 ≠ 0 then ([], 0, (zetR L s k).2.2) else if elE l (zetR L s k).1 a ≠ 0 then ([], 0, 3) else rdG L k a m (l ++ [(el l (zetR L s k).1 a).toNat]) (zetR L s k).2.1 := rfl
theorem zetR_bd (l : List Bool) (s k : Nat) (hs : s ≤ l.length) (hk : 1 ≤ k) : (zetR l s k).1 ≤ 1099511627776 ∧ (zetR l s k).2.1 ≤ l.length ∧ ((zetR l s k).2.2 = 0 ∨ (zetR l s k).2.2 = 3 ∨ (zetR l s k).2.2 = 7) := by
  obtain ⟨b1, b2, b3⟩ := uR_bound l s hs
  unfold zetR
  split
  · simp only; omega
  · split
    · simp
    · obtain ⟨c1, c2, c3⟩ := lstR_bound l (uR l s).2.1 (zq (uR l s).1 k) (zq_pos _ _ hk) b2
      unfold remR
      simp only
      split
      · simp only; omega
      · split
        · simp
        · rename_i h1 h2
          simp only at h2 ⊢
          exact ⟨by omega, c1, .inl trivial⟩
/-- Bits that are the codes of the gaps of a list are read. -/
theorem rdG_gaps (k a : Nat) (hk : 1 ≤ k) (t : List Bool) : ∀ (gs : List Nat) (p : List Bool) (m l : List Nat), (∀ g ∈ gs, g ≤ 2097152) → bk a m gs = some l →
    rdG (p ++ (zets k gs ++ t)) k a gs.length m p.length = (l, p.length + (zets k gs).length, 0)
  | [], p, m, l, _, h => by unfold bk at h; cases h; simp [rdG, zets]
  | g :: gs, p, m, l, hg, h => by
    have e := zetR_zet p (zets k gs ++ t) g k hk (by have := hg g (by simp); omega)
    rw [← List.append_assoc (zet g k), ← zets_cons] at e
    unfold bk at h
    split at h
    · rename_i he
      rw [List.length_cons]
      unfold rdG
      rw [e]
      simp only
      rw [if_neg (by simp), if_neg (by simpa using he)]
      have ih := rdG_gaps k a hk t gs (p ++ zet g k) _ l (fun x hx => hg x (by simp [hx])) h
      rw [List.length_append, List.append_assoc, ← List.append_assoc (zet g k), ← zets_cons] at ih
      rw [ih, zets_cons, List.length_append]
      congr 2
      omega
    · cases h

theorem range6 (e : Int) (a b c d f g : Bool) (r : Int) (hr : rgE e [a, b, c, d, f, g] = r) (w : World) (B : Nat) (hB : w.heap.size = B) :
    Calls Tryz.prog 41 #[.int .i64 e, .slice (some ⟨B, 0, none⟩) 6 6] (w.alloc (.cells #[.bool a, .bool b, .bool c, .bool d, .bool f, .bool g] 4)) fun x w' => x = .returned (.int .i64 r) ∧ Below w.heap.size w w' :=
  hB ▸ range_on e [a, b, c, d, f, g] 6 rfl (by decide) r hr w
/-- The error of Read ahead of its numbers. -/
def rdE (len : Int) (bs : List Nat) (p a k m : Int) : Int := rgE (chk len bs) [decide (0 ≤ p), decide (p ≤ len), okN a, okK k, decide (0 ≤ m), decide (m ≤ 300)]
/-- A list, a place and an error come back. -/
def RdP (w : World) (l : List Nat) (to : Nat) (err : Int) (e : Ending) (w' : World) : Prop :=
  ∃ A c, e = .returned (.tuple #[.slice A l.length c, .int .i64 (to : Int), .int .i64 err]) ∧ l.length ≤ c ∧ (A = none → c = 0) ∧ RdV w' w'.heap.size A (zc (ns l)) ∧ Below w.heap.size w w'
set_option maxHeartbeats 1000000 in
theorem gread_bad (len : Int) (A : Option Addr) (c N : Nat) (bs : List Nat) (p a k m : Int) (w : World) (hA : Rd w w.heap.size A bs) (e0 : Int) (he : rdE len bs p a k m = e0) (h0 : e0 ≠ 0)
    (HC : Hid (∀ V, Rd V V.heap.size A bs → Calls Tryz.prog 46 #[.agg #[.int .i64 len, .slice A N c]] V fun e w' => e = .returned (.int .i64 (chk len bs)) ∧ Below V.heap.size V w')) :
    Calls Tryz.prog 134 #[.agg #[.int .i64 len, .slice A N c], .int .i64 p, .int .i64 a, .int .i64 k, .int .i64 m] w (RdP w [] 0 e0) := by
  have HA := Lib.hid hA; clear hA
  have HN := Lib.hid (node_any a)
  have HO := Lib.hid (isK_any k)
  unfold rdE at he
  generalize chk len bs = ec at *
  generalize okN a = on at *
  generalize okK k = ok at *
  have HR := Lib.hid (range6 ec (decide (0 ≤ p)) (decide (p ≤ len)) on ok (decide (0 ≤ m)) (decide (m ≤ 300)) e0 he)
  clear he
  go_enter Tryz.func134, Tryz.ntmps134
  go_wp2_with fail
  generalize hV : w.alloc (.cells #[.int .i64 len, .slice A N c] 27) = V0
  have HV : Hid (Below w.heap.size w V0) := hV ▸ one_below _ _
  have HVs : Hid (w.heap.size + 1 = V0.heap.size) := by show _ = _; rw [← hV, World.size_alloc]
  have HK : Hid (∀ w' : World, Below V0.heap.size V0 w' → w'.cell? ⟨w.heap.size, 0, none⟩ = some (.int .i64 len) ∧ w'.cell? ⟨w.heap.size, 1, none⟩ = some (.slice A N c)) := by
    subst hV
    exact fun w' h => box_at (by rwa [World.size_alloc] at h)
  clear hV
  go_region_held3 (fun w' => w'.cell? ⟨w.heap.size, 0, none⟩ = some (.int .i64 len) ∧ w'.cell? ⟨w.heap.size, 1, none⟩ = some (.slice A N c))
    ((refine HK.out _ ?_; first | exact hk2.out | exact hk1.out.trans ((one_below _ _).mono hk1.out.size) | exact hk1.out | exact (Below.refl _ _).drew))
    (first
      | (go_at_call 41; have hx := hk1.out; refine (HR.out w1 _ rfl).mono ?_; rintro e w2 ⟨rfl, B2⟩; have hk2 : Hid (Below V0.heap.size V0 w2) := hx.trans (B2.mono hx.size); clear B2 hx)
      | (go_at_call 42; have hx := hk1.out; refine (HN.out w1).mono ?_; rintro e _ ⟨rfl, rfl⟩; clear hx)
      | (go_at_call 56; have hx := hk1.out; refine (HO.out w1).mono ?_; rintro e _ ⟨rfl, rfl⟩; clear hx)
      | (go_at_call 46; refine (HC.out V0.drew (HA.out.on HV.out.drew)).mono ?_; rintro e w1 ⟨rfl, B1⟩; have hk1 : Hid (Below V0.heap.size V0 w1) := ((Below.refl _ V0).drew).trans B1; clear B1))
  obtain ⟨p1, q1⟩ := HK.out w2 hk2.out
  have HB2 : Hid (Below w.heap.size w w2) := HV.out.trans (hk2.out.mono HV.out.size)
  have t0 : (e0 != 0) = true := by simpa using h0
  clear h0 HK hk1 hk2 p1 q1
  go_wp2
  go_ret3
  exact ⟨none, 0, rfl, Nat.le_refl _, fun _ => rfl, .inl rfl, HB2.out⟩

/-- At each round's head: what the first i numbers are. -/
def RdRel (L : List Bool) (k a many p0 : Nat) (V0 : World) (fr v p : Value) (wr : World) : Prop :=
  ∃ (i : Nat) (l : List Nat) (s : Nat), i ≤ many ∧ p = .int .i64 (i : Int) ∧ fr = .int .i64 (s : Int) ∧ s ≤ L.length ∧ l.length = i ∧ (∀ x ∈ l, x ≤ 1048576) ∧ rdG L k a many [] p0 = rdG L k a (many - i) l s ∧
    wr.ownsRow V0.heap.size 3 1 v i (zc (ns l)) ∧ Below V0.heap.size V0 wr
/-- The same, in a row of the call's own. -/
def RdO (w : World) (l : List Nat) (to : Nat) (err : Int) (e : Ending) (w' : World) : Prop :=
  ∃ A c, e = .returned (.tuple #[.slice A l.length c, .int .i64 (to : Int), .int .i64 err]) ∧ w'.ownsRow w.heap.size 3 1 (.slice A l.length c) l.length (zc (ns l)) ∧ Below w.heap.size w w'
set_option maxHeartbeats 4000000 in
theorem gread_own (L : List Bool) (hL : L.length ≤ 8192) (p0 : Nat) (hp : p0 ≤ L.length) (a : Nat) (ha : a ≤ 1048576) (k : Nat) (hk : 1 ≤ k) (hk2 : k ≤ 16) (many : Nat) (hm : many ≤ 300) (R : List Nat) (to : Nat) (e0 : Int)
    (hR : rdG L k a many [] p0 = (R, to, e0)) (A : Option Addr) (c : Nat) (w : World) (hA : Rd w w.heap.size A (pack L)) :
    Calls Tryz.prog 134 #[.agg #[.int .i64 (L.length : Int), .slice A (pack L).length c], .int .i64 (p0 : Int), .int .i64 (a : Int), .int .i64 (k : Int), .int .i64 (many : Int)] w (RdO w R to e0) := by
  have HC : Hid (∀ V, Rd V V.heap.size A (pack L) → Calls Tryz.prog 46 #[.agg #[.int .i64 (L.length : Int), .slice A (pack L).length c]] V fun e w' => e = .returned (.int .i64 0) ∧ Below V.heap.size V w') := fun V hV => check_l L hL A c V hV
  have HZ : Hid (∀ s V, s ≤ L.length → Rd V V.heap.size A (pack L) → Calls Tryz.prog 163 #[.agg #[.int .i64 (L.length : Int), .slice A (pack L).length c], .int .i64 (s : Int), .int .i64 (k : Int)] V (ReadP V (zetR L s k).1 (zetR L s k).2.1 (zetR L s k).2.2)) := fun s V hs hV => rzeta_l L hL k hk hk2 A c s hs V hV
  have hn0 := node_any (a : Int)
  rw [okN_nat a ha] at hn0
  have HN := Lib.hid hn0; clear hn0
  have hk0 := isK_any (k : Int)
  rw [okK_nat k hk hk2] at hk0
  have HO := Lib.hid hk0; clear hk0
  have HR := Lib.hid (range6 0 true true true true true true 0 rfl)
  obtain ⟨i0, hi, hz0, hz1, hz2⟩ := info_parts info3
  have HA := Lib.hid hA; clear hA
  have HRes := Lib.hid hR; clear hR
  have HP0 := Lib.hid hp; clear hp
  generalize hll : L.length = len at *
  generalize hpl : (pack L).length = NB at *
  have HLL := Lib.hid hll; clear hll hpl
  have t1 : decide ((p0 : Int) ≤ (len : Int)) = true := by have := HP0.out; have := HLL.out; simp; omega
  have t2 : decide (p0 ≤ len) = true := by have := HP0.out; have := HLL.out; simp; omega
  have t3 : decide ((many : Int) ≤ 300) = true := by simp; omega
  have t4 : decide (many ≤ 300) = true := by simp; omega
  go_enter Tryz.func134, Tryz.ntmps134
  go_wp2_with fail
  generalize hV : w.alloc (.cells #[.int .i64 (len : Int), .slice A NB c] 27) = V0
  have HV : Hid (Below w.heap.size w V0) := hV ▸ one_below _ _
  have HVs : Hid (w.heap.size + 1 = V0.heap.size) := by show _ = _; rw [← hV, World.size_alloc]
  have HK : Hid (∀ w' : World, Below V0.heap.size V0 w' → w'.cell? ⟨w.heap.size, 0, none⟩ = some (.int .i64 (len : Int)) ∧ w'.cell? ⟨w.heap.size, 1, none⟩ = some (.slice A NB c)) := by
    subst hV
    exact fun w' h => box_at (by rwa [World.size_alloc] at h)
  clear hV
  go_region_held3 (fun w' => w'.cell? ⟨w.heap.size, 0, none⟩ = some (.int .i64 (len : Int)) ∧ w'.cell? ⟨w.heap.size, 1, none⟩ = some (.slice A NB c))
    ((refine HK.out _ ?_; first | exact hk2.out | exact hk1.out.trans ((one_below _ _).mono hk1.out.size) | exact hk1.out | exact (Below.refl _ _).drew))
    (first
      | (go_at_call 41; have hx := hk1.out; refine (HR.out w1 _ rfl).mono ?_; rintro e w2 ⟨rfl, B2⟩; have hk2 : Hid (Below V0.heap.size V0 w2) := hx.trans (B2.mono hx.size); clear B2 hx)
      | (go_at_call 42; have hx := hk1.out; refine (HN.out w1).mono ?_; rintro e _ ⟨rfl, rfl⟩; clear hx)
      | (go_at_call 56; have hx := hk1.out; refine (HO.out w1).mono ?_; rintro e _ ⟨rfl, rfl⟩; clear hx)
      | (go_at_call 46; refine (HC.out V0.drew (HA.out.on HV.out.drew)).mono ?_; rintro e w1 ⟨rfl, B1⟩; have hk1 : Hid (Below V0.heap.size V0 w1) := ((Below.refl _ V0).drew).trans B1; clear B1))
  have HB2 := Lib.hid hk2.out
  clear hk1 hk2 t1 t2 t3 t4
  go_wp2
  go_loopw [1, 14, 41] (fun fr v p wr => RdRel L k a many p0 V0 fr v p wr) (fun _ _ p _ => many - (intOf p).toNat)
  case atStart => exact ⟨0, [], p0, Nat.zero_le _, rfl, rfl, by rw [HLL.out]; exact HP0.out, rfl, by simp, rfl, ⟨rfl, .inl ⟨rfl, rfl⟩⟩, HB2.out⟩
  case round =>
    obtain ⟨i, l, s, him, rfl, rfl, hs, hli, hle, hrd, hrow, hbel⟩ := hrel
    rw [HLL.out] at hs
    by_cases hlt : i < many
    · obtain ⟨p1, q1⟩ := HK.out wr hbel
      have hZ := HZ.out s wr hs (HA.out.on (HV.out.trans (hbel.mono HV.out.size)))
      obtain ⟨b1, b2, b3⟩ := zetR_bd L s k (by rw [HLL.out]; exact hs) hk
      rw [HLL.out] at b2
      obtain ⟨j, hj⟩ : ∃ j, many - i = j + 1 := ⟨many - i - 1, by omega⟩
      rw [hj, rdG_succ] at hrd
      have hj2 : many - (i + 1) = j := by omega
      have HB := Lib.hid hbel; clear hbel
      generalize (zetR L s k).1 = g at *
      generalize (zetR L s k).2.1 = s2 at *
      generalize (zetR L s k).2.2 = ez at *
      obtain ⟨Av, cv, rfl⟩ := own_slice3 hrow
      have HRow := Lib.hid hrow
      by_cases hz : ez = 0
      · subst hz
        rw [if_neg (by omega)] at hrd
        have hE := fun V hV => elem_any l i hli (by omega) hle g (by omega) a ha Av cv V hV
        unfold elV at hE
        by_cases h0 : elE l g a = 0
        · rw [if_neg (by omega)] at hrd
          rw [h0, if_pos rfl] at hE
          have hel : ∃ x : Nat, el l g a = (x : Int) ∧ x ≤ 1048576 := by
            unfold elE at h0
            split at h0
            · omega
            · exact ⟨(el l g a).toNat, by omega, by omega⟩
          obtain ⟨x, hx, hx2⟩ := hel
          rw [hx] at hE
          rw [hx, Int.toNat_natCast] at hrd
          have HE := Lib.hid hE; have HRd := Lib.hid hrd; have HZ2 := Lib.hid hZ
          have HLe := Lib.hid hle; have HLi := Lib.hid hli; have HJ2 := Lib.hid hj2
          clear hE hrd hZ hle hli hx h0 hj hj2 b3 hrow
          go_wp2_with fail
          refine HZ2.out.mono ?_
          rintro e w3 ⟨rfl, B3⟩
          have HB3 : Hid (Below V0.heap.size V0 w3) := HB.out.trans (B3.mono HB.out.size)
          have HRow3 := Lib.hid (own_below HRow.out B3)
          have hz3 : V0.heap.size ≤ w3.heap.size := Nat.le_trans HB.out.size B3.size
          clear B3 p1 q1
          have hrow := HRow3.out
          go_wp2_with fail
          refine (HE.out _ (own_rdv HRow3.out)).mono ?_
          rintro e _ ⟨rfl, rfl⟩
          go_wp2_with (at_builtin; refine wpList_append_own _ rfl _ _ 22 rfl V0.heap.size 3 i0 (.int .i64 0) 1 8 Tryz.underlying22 hi hz0 hz1 hz2 rfl (by decide) _ _ _ rfl (hrow.alloc _) ⟨w3.heap.size, 0, none⟩ 1 1 [.int .i64 (x : Int)] rfl rfl (news_row w3 [.int .i64 (x : Int)] _) (by simp [Value.oneCell']) (by unfold maxLen; omega) (by omega) (by simp; omega) ?_; intro v' w4 hown' hgrow _)
          have hzz : zc (ns l) ++ [Value.int .i64 (x : Int)] = zc (ns (l ++ [x])) := by rw [ns_append, zc_append]; rfl
          rw [hzz] at hown'
          have HO4 := Lib.hid hown'
          have HB4 : Hid (Below V0.heap.size V0 w4) := HB3.out.trans (((Below.refl V0.heap.size w3).alloc hz3 _).trans (grown_low hgrow (hrow.alloc _) (by simp; omega)))
          clear hown' hgrow hrow hzz
          go_roundw
          case rel => exact ⟨i + 1, l ++ [x], s2, by omega, by go_num, rfl, by rw [HLL.out]; exact b2, by rw [List.length_append, HLi.out]; rfl, fun y hy => by
            rcases List.mem_append.1 hy with h | h
            · exact HLe.out y h
            · obtain rfl : y = x := by simpa using h
              exact hx2, by rw [HJ2.out]; exact HRd.out, HO4.out, HB4.out⟩
          case measure => simp [intOf]; omega
        · have h3 : elE l g a = 3 := by rcases elE_or l g a with h | h <;> omega
          rw [if_pos h0] at hrd
          rw [h3, if_neg (by omega)] at hE
          have HE := Lib.hid hE; have HZ2 := Lib.hid hZ
          have hres := HRes.out.symm.trans hrd
          simp only [Prod.mk.injEq] at hres
          obtain ⟨rfl, rfl, rfl⟩ := hres
          clear hE hrd hZ hle hli h3 h0 hj hj2 b3 hrow HRes
          go_wp2_with fail
          refine HZ2.out.mono ?_
          rintro e w3 ⟨rfl, B3⟩
          have HB3 : Hid (Below V0.heap.size V0 w3) := HB.out.trans (B3.mono HB.out.size)
          have HRow3 := Lib.hid (own_below HRow.out B3)
          clear B3 p1 q1
          go_wp2_with fail
          refine (HE.out _ (own_rdv HRow3.out)).mono ?_
          rintro e _ ⟨rfl, rfl⟩
          go_wp2
          go_ret3
          exact ⟨none, 0, rfl, ⟨rfl, .inl ⟨rfl, rfl⟩⟩, HV.out.trans (HB3.out.mono HV.out.size)⟩
      · rw [if_pos hz] at hrd
        have HZ2 := Lib.hid hZ
        have hres := HRes.out.symm.trans hrd
        simp only [Prod.mk.injEq] at hres
        have t0 : (ez != 0) = true := by simpa using hz
        clear hz
        obtain ⟨rfl, rfl, rfl⟩ := hres
        clear hrd hZ hle hli hj hj2 b3 hrow HRes
        go_wp2_with fail
        refine HZ2.out.mono ?_
        rintro e w3 ⟨rfl, B3⟩
        have HB3 : Hid (Below V0.heap.size V0 w3) := HB.out.trans (B3.mono HB.out.size)
        clear B3 p1 q1
        go_wp2
        go_ret3
        exact ⟨none, 0, rfl, ⟨rfl, .inl ⟨rfl, rfl⟩⟩, HV.out.trans (HB3.out.mono HV.out.size)⟩
    · obtain rfl : i = many := by omega
      rw [Nat.sub_self] at hrd
      have hres := HRes.out.symm.trans hrd
      simp only [rdG, Prod.mk.injEq] at hres
      obtain ⟨rfl, rfl, rfl⟩ := hres
      obtain ⟨Av, cv, rfl⟩ := own_slice3 hrow
      have HO := Lib.hid hrow
      have HB := Lib.hid hbel
      have HLi := Lib.hid hli
      clear hrow hbel hrd hli hle HRes
      go_wp2
      go_ret3
      exact ⟨Av, cv, (by rw [HLi.out]; rfl), by rw [HLi.out]; exact own_base HO.out HV.out.size, HV.out.trans (HB.out.mono HV.out.size)⟩
theorem rdO {w : World} {l : List Nat} {to : Nat} {err : Int} {e : Ending} {w' : World} (h : RdO w l to err e w') : RdP w l to err e w' := by
  obtain ⟨A, c, a, r, b⟩ := h
  exact ⟨A, c, a, own_cap r, own_none r, own_rdv r, b⟩
theorem gread_in (L : List Bool) (hL : L.length ≤ 8192) (p0 : Nat) (hp : p0 ≤ L.length) (a : Nat) (ha : a ≤ 1048576) (k : Nat) (hk : 1 ≤ k) (hk2 : k ≤ 16) (many : Nat) (hm : many ≤ 300) (R : List Nat) (to : Nat) (e0 : Int)
    (hR : rdG L k a many [] p0 = (R, to, e0)) (A : Option Addr) (c : Nat) (w : World) (hA : Rd w w.heap.size A (pack L)) :
    Calls Tryz.prog 134 #[.agg #[.int .i64 (L.length : Int), .slice A (pack L).length c], .int .i64 (p0 : Int), .int .i64 (a : Int), .int .i64 (k : Int), .int .i64 (many : Int)] w (RdP w R to e0) :=
  (gread_own L hL p0 hp a ha k hk hk2 many hm R to e0 hR A c w hA).mono fun _ _ h => rdO h

end
end Go.Proofs.YticdnodlapafoaaGreat
