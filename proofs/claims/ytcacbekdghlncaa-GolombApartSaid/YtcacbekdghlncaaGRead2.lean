/- The program's ReadLeast, Read and ReadZeta, whatever they are handed; each with its conditions. -/
import Derived.Test.YtcacbekdghlncaaGRead
import Derived.Test.YtcacbekdghlncaaGWrite
import Derived.Deep.RegionHeld3
namespace Go.Proofs.Ytcacbekdghlncaa
set_option maxRecDepth 100000
set_option linter.unusedVariables false
open Go.RowKit

theorem mulI (h k s : Nat) (hs : h * k = s) : ((h : Int) * (k : Int)) = (s : Int) := by rw [← hs]; simp
theorem range1_hid (e : Int) (he : e ≠ 0) (b : Bool) (w : World) (B : Nat) (hB : w.heap.size = B) :
    Calls Try.prog 56 #[.int .i64 e, .slice (some ⟨B, 0, none⟩) 1 1] (w.alloc (.cells #[.bool b] 4)) fun x w' => x = .returned (.int .i64 e) ∧ Below w.heap.size w w' :=
  range1 e b e (by unfold rgE; rw [if_neg (fun h => he h.1)]) w B hB
set_option maxHeartbeats 1000000 in
theorem rleast_bad (len : Int) (A : Option Addr) (c N : Nat) (bs : List Nat) (p : Int) (w : World) (hA : Rd w w.heap.size A bs) (ec e0 : Int) (ok : Bool) (he : rgE ec [decide (0 ≤ p), decide (p ≤ len), ok] = e0) (m : Nat) (h0 : e0 ≠ 0)
    (HC : Hid (∀ V, Rd V V.heap.size A bs → Calls Try.prog 66 #[.agg #[.int .i64 len, .slice A N c]] V fun e w' => e = .returned (.int .i64 ec) ∧ Below V.heap.size V w'))
    (HO : Hid (∀ V, Calls Try.prog 74 #[.int .u64 (m : Int)] V fun e w' => e = .returned (.bool ok) ∧ V = w')) :
    Calls Try.prog 37 #[.agg #[.int .i64 len, .slice A N c], .int .i64 p, .int .u64 (m : Int)] w (ReadP w 0 0 e0) := by
  have HA := Lib.hid hA; clear hA
  have HR := Lib.hid (range3 ec (decide (0 ≤ p)) (decide (p ≤ len)) ok e0 he)
  clear he
  go_enter Try.func37, Try.ntmps37
  go_wp2_with fail
  generalize hV : w.alloc (.cells #[.int .i64 len, .slice A N c] 25) = V0
  have HV : Hid (Below w.heap.size w V0) := hV ▸ one_below _ _
  have HVs : Hid (w.heap.size + 1 = V0.heap.size) := by show _ = _; rw [← hV, World.size_alloc]
  have HK : Hid (∀ w' : World, Below V0.heap.size V0 w' → w'.cell? ⟨w.heap.size, 0, none⟩ = some (.int .i64 len) ∧ w'.cell? ⟨w.heap.size, 1, none⟩ = some (.slice A N c)) := by
    subst hV
    exact fun w' h => box_at (by rwa [World.size_alloc] at h)
  clear hV
  go_region_held3 (fun w' => w'.cell? ⟨w.heap.size, 0, none⟩ = some (.int .i64 len) ∧ w'.cell? ⟨w.heap.size, 1, none⟩ = some (.slice A N c))
    ((refine HK.out _ ?_; first | exact hk2.out | exact hk1.out.trans ((one_below _ _).mono hk1.out.size) | exact hk1.out | exact (Below.refl _ _).drew))
    (first
      | (go_at_call 56; have hx := hk1.out; refine (HR.out w1 _ rfl).mono ?_; rintro e w2 ⟨rfl, B2⟩; have hk2 : Hid (Below V0.heap.size V0 w2) := hx.trans (B2.mono hx.size); clear B2 hx)
      | (go_at_call 74; have hx := hk1.out; refine (HO.out w1).mono ?_; rintro e _ ⟨rfl, rfl⟩; clear hx)
      | (go_at_call 66; refine (HC.out V0.drew (HA.out.on HV.out.drew)).mono ?_; rintro e w1 ⟨rfl, B1⟩; have hk1 : Hid (Below V0.heap.size V0 w1) := ((Below.refl _ V0).drew).trans B1; clear B1))
  obtain ⟨p1, q1⟩ := HK.out w2 hk2.out
  have HB2 : Hid (Below w.heap.size w w2) := HV.out.trans (hk2.out.mono HV.out.size)
  have t0 : (e0 != 0) = true := by simpa using h0
  clear h0 HK hk1 hk2 p1 q1
  go_wp2
  go_ret3
  exact ⟨rfl, HB2.out⟩
set_option maxHeartbeats 1000000 in
theorem rcode_bad (len : Int) (A : Option Addr) (c N : Nat) (bs : List Nat) (p : Int) (w : World) (hA : Rd w w.heap.size A bs) (ec e0 : Int) (ok : Bool) (he : rgE ec [decide (0 ≤ p), decide (p ≤ len), ok] = e0) (m : Nat) (h0 : e0 ≠ 0)
    (HC : Hid (∀ V, Rd V V.heap.size A bs → Calls Try.prog 66 #[.agg #[.int .i64 len, .slice A N c]] V fun e w' => e = .returned (.int .i64 ec) ∧ Below V.heap.size V w'))
    (HO : Hid (∀ V, Calls Try.prog 74 #[.int .u64 (m : Int)] V fun e w' => e = .returned (.bool ok) ∧ V = w')) :
    Calls Try.prog 38 #[.agg #[.int .i64 len, .slice A N c], .int .i64 p, .int .u64 (m : Int)] w (ReadP w 0 0 e0) := by
  have HA := Lib.hid hA; clear hA
  have HR := Lib.hid (range3 ec (decide (0 ≤ p)) (decide (p ≤ len)) ok e0 he)
  clear he
  go_enter Try.func38, Try.ntmps38
  go_wp2_with fail
  generalize hV : w.alloc (.cells #[.int .i64 len, .slice A N c] 25) = V0
  have HV : Hid (Below w.heap.size w V0) := hV ▸ one_below _ _
  have HVs : Hid (w.heap.size + 1 = V0.heap.size) := by show _ = _; rw [← hV, World.size_alloc]
  have HK : Hid (∀ w' : World, Below V0.heap.size V0 w' → w'.cell? ⟨w.heap.size, 0, none⟩ = some (.int .i64 len) ∧ w'.cell? ⟨w.heap.size, 1, none⟩ = some (.slice A N c)) := by
    subst hV
    exact fun w' h => box_at (by rwa [World.size_alloc] at h)
  clear hV
  go_region_held3 (fun w' => w'.cell? ⟨w.heap.size, 0, none⟩ = some (.int .i64 len) ∧ w'.cell? ⟨w.heap.size, 1, none⟩ = some (.slice A N c))
    ((refine HK.out _ ?_; first | exact hk2.out | exact hk1.out.trans ((one_below _ _).mono hk1.out.size) | exact hk1.out | exact (Below.refl _ _).drew))
    (first
      | (go_at_call 56; have hx := hk1.out; refine (HR.out w1 _ rfl).mono ?_; rintro e w2 ⟨rfl, B2⟩; have hk2 : Hid (Below V0.heap.size V0 w2) := hx.trans (B2.mono hx.size); clear B2 hx)
      | (go_at_call 74; have hx := hk1.out; refine (HO.out w1).mono ?_; rintro e _ ⟨rfl, rfl⟩; clear hx)
      | (go_at_call 66; refine (HC.out V0.drew (HA.out.on HV.out.drew)).mono ?_; rintro e w1 ⟨rfl, B1⟩; have hk1 : Hid (Below V0.heap.size V0 w1) := ((Below.refl _ V0).drew).trans B1; clear B1))
  obtain ⟨p1, q1⟩ := HK.out w2 hk2.out
  have HB2 : Hid (Below w.heap.size w w2) := HV.out.trans (hk2.out.mono HV.out.size)
  have t0 : (e0 != 0) = true := by simpa using h0
  clear h0 HK hk1 hk2 p1 q1
  go_wp2
  go_ret3
  exact ⟨rfl, HB2.out⟩
set_option maxHeartbeats 1000000 in
theorem rzeta_bad (len : Int) (A : Option Addr) (c N : Nat) (bs : List Nat) (p : Int) (w : World) (hA : Rd w w.heap.size A bs) (ec e0 : Int) (ok : Bool) (he : rgE ec [decide (0 ≤ p), decide (p ≤ len), ok] = e0) (k : Int) (h0 : e0 ≠ 0)
    (HC : Hid (∀ V, Rd V V.heap.size A bs → Calls Try.prog 66 #[.agg #[.int .i64 len, .slice A N c]] V fun e w' => e = .returned (.int .i64 ec) ∧ Below V.heap.size V w'))
    (HO : Hid (∀ V, Calls Try.prog 79 #[.int .i64 k] V fun e w' => e = .returned (.bool ok) ∧ V = w')) :
    Calls Try.prog 45 #[.agg #[.int .i64 len, .slice A N c], .int .i64 p, .int .i64 k] w (ReadP w 0 0 e0) := by
  have HA := Lib.hid hA; clear hA
  have HR := Lib.hid (range3 ec (decide (0 ≤ p)) (decide (p ≤ len)) ok e0 he)
  clear he
  go_enter Try.func45, Try.ntmps45
  go_wp2_with fail
  generalize hV : w.alloc (.cells #[.int .i64 len, .slice A N c] 25) = V0
  have HV : Hid (Below w.heap.size w V0) := hV ▸ one_below _ _
  have HVs : Hid (w.heap.size + 1 = V0.heap.size) := by show _ = _; rw [← hV, World.size_alloc]
  have HK : Hid (∀ w' : World, Below V0.heap.size V0 w' → w'.cell? ⟨w.heap.size, 0, none⟩ = some (.int .i64 len) ∧ w'.cell? ⟨w.heap.size, 1, none⟩ = some (.slice A N c)) := by
    subst hV
    exact fun w' h => box_at (by rwa [World.size_alloc] at h)
  clear hV
  go_region_held3 (fun w' => w'.cell? ⟨w.heap.size, 0, none⟩ = some (.int .i64 len) ∧ w'.cell? ⟨w.heap.size, 1, none⟩ = some (.slice A N c))
    ((refine HK.out _ ?_; first | exact hk2.out | exact hk1.out.trans ((one_below _ _).mono hk1.out.size) | exact hk1.out | exact (Below.refl _ _).drew))
    (first
      | (go_at_call 56; have hx := hk1.out; refine (HR.out w1 _ rfl).mono ?_; rintro e w2 ⟨rfl, B2⟩; have hk2 : Hid (Below V0.heap.size V0 w2) := hx.trans (B2.mono hx.size); clear B2 hx)
      | (go_at_call 79; have hx := hk1.out; refine (HO.out w1).mono ?_; rintro e _ ⟨rfl, rfl⟩; clear hx)
      | (go_at_call 66; refine (HC.out V0.drew (HA.out.on HV.out.drew)).mono ?_; rintro e w1 ⟨rfl, B1⟩; have hk1 : Hid (Below V0.heap.size V0 w1) := ((Below.refl _ V0).drew).trans B1; clear B1))
  obtain ⟨p1, q1⟩ := HK.out w2 hk2.out
  have HB2 : Hid (Below w.heap.size w w2) := HV.out.trans (hk2.out.mono HV.out.size)
  have t0 : (e0 != 0) = true := by simpa using h0
  clear h0 HK hk1 hk2 p1 q1
  go_wp2
  go_ret3
  exact ⟨rfl, HB2.out⟩
set_option maxHeartbeats 1000000 in
theorem rleast_w (len : Int) (A : Option Addr) (c N : Nat) (bs : List Nat) (p : Int) (w : World) (hA : Rd w w.heap.size A bs) (ec : Int) (ok : Bool) (he : rgE ec [decide (0 ≤ p), decide (p ≤ len), ok] = 0) (m r to : Nat) (er : Int)
    (HC : Hid (∀ V, Rd V V.heap.size A bs → Calls Try.prog 66 #[.agg #[.int .i64 len, .slice A N c]] V fun e w' => e = .returned (.int .i64 ec) ∧ Below V.heap.size V w'))
    (HO : Hid (∀ V, Calls Try.prog 74 #[.int .u64 (m : Int)] V fun e w' => e = .returned (.bool ok) ∧ V = w'))
    (HG : Hid (∀ V, Rd V V.heap.size A bs → Calls Try.prog 77 #[.agg #[.int .i64 len, .slice A N c], .int .i64 p, .int .u64 (m : Int)] V (ReadP V r to er))) :
    Calls Try.prog 37 #[.agg #[.int .i64 len, .slice A N c], .int .i64 p, .int .u64 (m : Int)] w (ReadP w r to er) := by
  have HA := Lib.hid hA; clear hA
  have HR := Lib.hid (range3 ec (decide (0 ≤ p)) (decide (p ≤ len)) ok 0 he)
  clear he
  go_enter Try.func37, Try.ntmps37
  go_wp2_with fail
  generalize hV : w.alloc (.cells #[.int .i64 len, .slice A N c] 25) = V0
  have HV : Hid (Below w.heap.size w V0) := hV ▸ one_below _ _
  have HVs : Hid (w.heap.size + 1 = V0.heap.size) := by show _ = _; rw [← hV, World.size_alloc]
  have HK : Hid (∀ w' : World, Below V0.heap.size V0 w' → w'.cell? ⟨w.heap.size, 0, none⟩ = some (.int .i64 len) ∧ w'.cell? ⟨w.heap.size, 1, none⟩ = some (.slice A N c)) := by
    subst hV
    exact fun w' h => box_at (by rwa [World.size_alloc] at h)
  clear hV
  go_region_held3 (fun w' => w'.cell? ⟨w.heap.size, 0, none⟩ = some (.int .i64 len) ∧ w'.cell? ⟨w.heap.size, 1, none⟩ = some (.slice A N c))
    ((refine HK.out _ ?_; first | exact hk2.out | exact hk1.out.trans ((one_below _ _).mono hk1.out.size) | exact hk1.out | exact (Below.refl _ _).drew))
    (first
      | (go_at_call 56; have hx := hk1.out; refine (HR.out w1 _ rfl).mono ?_; rintro e w2 ⟨rfl, B2⟩; have hk2 : Hid (Below V0.heap.size V0 w2) := hx.trans (B2.mono hx.size); clear B2 hx)
      | (go_at_call 74; have hx := hk1.out; refine (HO.out w1).mono ?_; rintro e _ ⟨rfl, rfl⟩; clear hx)
      | (go_at_call 66; refine (HC.out V0.drew (HA.out.on HV.out.drew)).mono ?_; rintro e w1 ⟨rfl, B1⟩; have hk1 : Hid (Below V0.heap.size V0 w1) := ((Below.refl _ V0).drew).trans B1; clear B1))
  obtain ⟨p1, q1⟩ := HK.out w2 hk2.out
  have HB2 : Hid (Below w.heap.size w w2) := HV.out.trans (hk2.out.mono HV.out.size)
  clear HK hk1 hk2
  go_wp2_with fail
  refine (HG.out _ (HA.out.on HB2.out)).mono ?_
  rintro e w3 ⟨rfl, B3⟩
  have HB3 : Hid (Below w.heap.size w w3) := HB2.out.trans (B3.mono HB2.out.size)
  clear B3 p1 q1
  go_wp2
  go_ret3
  exact ⟨rfl, HB3.out⟩
set_option maxHeartbeats 1000000 in
theorem rcode_u (len : Int) (A : Option Addr) (c N : Nat) (bs : List Nat) (p : Int) (w : World) (hA : Rd w w.heap.size A bs) (ec : Int) (ok : Bool) (he : rgE ec [decide (0 ≤ p), decide (p ≤ len), ok] = 0) (m : Nat) (q fr : Nat) (hq : q ≤ 8192) (eu : Int) (h0 : eu ≠ 0)
    (HC : Hid (∀ V, Rd V V.heap.size A bs → Calls Try.prog 66 #[.agg #[.int .i64 len, .slice A N c]] V fun e w' => e = .returned (.int .i64 ec) ∧ Below V.heap.size V w'))
    (HO : Hid (∀ V, Calls Try.prog 74 #[.int .u64 (m : Int)] V fun e w' => e = .returned (.bool ok) ∧ V = w'))
    (HU : Hid (∀ V, Rd V V.heap.size A bs → Calls Try.prog 34 #[.agg #[.int .i64 len, .slice A N c], .int .i64 p] V (ReadP V q fr eu))) :
    Calls Try.prog 38 #[.agg #[.int .i64 len, .slice A N c], .int .i64 p, .int .u64 (m : Int)] w (ReadP w 0 0 eu) := by
  have HA := Lib.hid hA; clear hA
  have HR := Lib.hid (range3 ec (decide (0 ≤ p)) (decide (p ≤ len)) ok 0 he)
  clear he
  go_enter Try.func38, Try.ntmps38
  go_wp2_with fail
  generalize hV : w.alloc (.cells #[.int .i64 len, .slice A N c] 25) = V0
  have HV : Hid (Below w.heap.size w V0) := hV ▸ one_below _ _
  have HVs : Hid (w.heap.size + 1 = V0.heap.size) := by show _ = _; rw [← hV, World.size_alloc]
  have HK : Hid (∀ w' : World, Below V0.heap.size V0 w' → w'.cell? ⟨w.heap.size, 0, none⟩ = some (.int .i64 len) ∧ w'.cell? ⟨w.heap.size, 1, none⟩ = some (.slice A N c)) := by
    subst hV
    exact fun w' h => box_at (by rwa [World.size_alloc] at h)
  clear hV
  go_region_held3 (fun w' => w'.cell? ⟨w.heap.size, 0, none⟩ = some (.int .i64 len) ∧ w'.cell? ⟨w.heap.size, 1, none⟩ = some (.slice A N c))
    ((refine HK.out _ ?_; first | exact hk2.out | exact hk1.out.trans ((one_below _ _).mono hk1.out.size) | exact hk1.out | exact (Below.refl _ _).drew))
    (first
      | (go_at_call 56; have hx := hk1.out; refine (HR.out w1 _ rfl).mono ?_; rintro e w2 ⟨rfl, B2⟩; have hk2 : Hid (Below V0.heap.size V0 w2) := hx.trans (B2.mono hx.size); clear B2 hx)
      | (go_at_call 74; have hx := hk1.out; refine (HO.out w1).mono ?_; rintro e _ ⟨rfl, rfl⟩; clear hx)
      | (go_at_call 66; refine (HC.out V0.drew (HA.out.on HV.out.drew)).mono ?_; rintro e w1 ⟨rfl, B1⟩; have hk1 : Hid (Below V0.heap.size V0 w1) := ((Below.refl _ V0).drew).trans B1; clear B1))
  obtain ⟨p1, q1⟩ := HK.out w2 hk2.out
  have HB2 : Hid (Below w.heap.size w w2) := HV.out.trans (hk2.out.mono HV.out.size)
  have t0 : (eu != 0) = true := by simpa using h0
  have HKw : Hid (∀ w' : World, Below w2.heap.size w2 w' → w'.cell? ⟨w.heap.size, 0, none⟩ = some (.int .i64 len) ∧ w'.cell? ⟨w.heap.size, 1, none⟩ = some (.slice A N c)) := fun w' h => HK.out w' (hk2.out.trans (h.mono hk2.out.size))
  clear HK hk1 hk2
  go_wp2_with fail
  refine (HU.out _ (HA.out.on HB2.out)).mono ?_
  rintro e w3 ⟨rfl, B3⟩
  have HB3 : Hid (Below w.heap.size w w3) := HB2.out.trans (B3.mono HB2.out.size)
  have H23 := Lib.hid B3
  clear B3 p1 q1
  obtain ⟨p1, q1⟩ := HKw.out w3 H23.out
  go_wp2_with fail
  refine (range1_hid eu h0 _ _ _ rfl).mono ?_
  rintro e w4 ⟨rfl, B4⟩
  have HB4 : Hid (Below w.heap.size w w4) := HB3.out.trans (B4.mono HB3.out.size)
  have H24 : Hid (Below w2.heap.size w2 w4) := H23.out.trans (B4.mono H23.out.size)
  clear B4 p1 q1
  clear HKw H23 H24
  go_wp2
  go_ret3
  exact ⟨rfl, HB4.out⟩
set_option maxHeartbeats 1000000 in
theorem rzeta_u (len : Int) (A : Option Addr) (c N : Nat) (bs : List Nat) (p : Int) (w : World) (hA : Rd w w.heap.size A bs) (ec : Int) (ok : Bool) (he : rgE ec [decide (0 ≤ p), decide (p ≤ len), ok] = 0) (k : Int) (h fr : Nat) (hq : h ≤ 8192) (eu : Int) (h0 : eu ≠ 0) (hk : 1 ≤ k ∧ k ≤ 16)
    (HC : Hid (∀ V, Rd V V.heap.size A bs → Calls Try.prog 66 #[.agg #[.int .i64 len, .slice A N c]] V fun e w' => e = .returned (.int .i64 ec) ∧ Below V.heap.size V w'))
    (HO : Hid (∀ V, Calls Try.prog 79 #[.int .i64 k] V fun e w' => e = .returned (.bool ok) ∧ V = w'))
    (HU : Hid (∀ V, Rd V V.heap.size A bs → Calls Try.prog 34 #[.agg #[.int .i64 len, .slice A N c], .int .i64 p] V (ReadP V h fr eu))) :
    Calls Try.prog 45 #[.agg #[.int .i64 len, .slice A N c], .int .i64 p, .int .i64 k] w (ReadP w 0 0 eu) := by
  have HA := Lib.hid hA; clear hA
  have HR := Lib.hid (range3 ec (decide (0 ≤ p)) (decide (p ≤ len)) ok 0 he)
  clear he
  go_enter Try.func45, Try.ntmps45
  go_wp2_with fail
  generalize hV : w.alloc (.cells #[.int .i64 len, .slice A N c] 25) = V0
  have HV : Hid (Below w.heap.size w V0) := hV ▸ one_below _ _
  have HVs : Hid (w.heap.size + 1 = V0.heap.size) := by show _ = _; rw [← hV, World.size_alloc]
  have HK : Hid (∀ w' : World, Below V0.heap.size V0 w' → w'.cell? ⟨w.heap.size, 0, none⟩ = some (.int .i64 len) ∧ w'.cell? ⟨w.heap.size, 1, none⟩ = some (.slice A N c)) := by
    subst hV
    exact fun w' h => box_at (by rwa [World.size_alloc] at h)
  clear hV
  go_region_held3 (fun w' => w'.cell? ⟨w.heap.size, 0, none⟩ = some (.int .i64 len) ∧ w'.cell? ⟨w.heap.size, 1, none⟩ = some (.slice A N c))
    ((refine HK.out _ ?_; first | exact hk2.out | exact hk1.out.trans ((one_below _ _).mono hk1.out.size) | exact hk1.out | exact (Below.refl _ _).drew))
    (first
      | (go_at_call 56; have hx := hk1.out; refine (HR.out w1 _ rfl).mono ?_; rintro e w2 ⟨rfl, B2⟩; have hk2 : Hid (Below V0.heap.size V0 w2) := hx.trans (B2.mono hx.size); clear B2 hx)
      | (go_at_call 79; have hx := hk1.out; refine (HO.out w1).mono ?_; rintro e _ ⟨rfl, rfl⟩; clear hx)
      | (go_at_call 66; refine (HC.out V0.drew (HA.out.on HV.out.drew)).mono ?_; rintro e w1 ⟨rfl, B1⟩; have hk1 : Hid (Below V0.heap.size V0 w1) := ((Below.refl _ V0).drew).trans B1; clear B1))
  obtain ⟨p1, q1⟩ := HK.out w2 hk2.out
  have HB2 : Hid (Below w.heap.size w w2) := HV.out.trans (hk2.out.mono HV.out.size)
  have t0 : (eu != 0) = true := by simpa using h0
  have HKw : Hid (∀ w' : World, Below w2.heap.size w2 w' → w'.cell? ⟨w.heap.size, 0, none⟩ = some (.int .i64 len) ∧ w'.cell? ⟨w.heap.size, 1, none⟩ = some (.slice A N c)) := fun w' h => HK.out w' (hk2.out.trans (h.mono hk2.out.size))
  clear HK hk1 hk2
  go_wp2_with fail
  refine (HU.out _ (HA.out.on HB2.out)).mono ?_
  rintro e w3 ⟨rfl, B3⟩
  have HB3 : Hid (Below w.heap.size w w3) := HB2.out.trans (B3.mono HB2.out.size)
  have H23 := Lib.hid B3
  clear B3 p1 q1
  obtain ⟨p1, q1⟩ := HKw.out w3 H23.out
  go_wp2_with fail
  refine (range1_hid eu h0 _ _ _ rfl).mono ?_
  rintro e w4 ⟨rfl, B4⟩
  have HB4 : Hid (Below w.heap.size w w4) := HB3.out.trans (B4.mono HB3.out.size)
  have H24 : Hid (Below w2.heap.size w2 w4) := H23.out.trans (B4.mono H23.out.size)
  clear B4 p1 q1
  clear HKw H23 H24
  go_wp2
  go_ret3
  exact ⟨rfl, HB4.out⟩
set_option maxHeartbeats 1000000 in
theorem rcode_q (len : Int) (A : Option Addr) (c N : Nat) (bs : List Nat) (p : Int) (w : World) (hA : Rd w w.heap.size A bs) (ec : Int) (ok : Bool) (he : rgE ec [decide (0 ≤ p), decide (p ≤ len), ok] = 0) (m q fr : Nat) (hq : 8128 ≤ q) (hq2 : q ≤ 8192)
    (HC : Hid (∀ V, Rd V V.heap.size A bs → Calls Try.prog 66 #[.agg #[.int .i64 len, .slice A N c]] V fun e w' => e = .returned (.int .i64 ec) ∧ Below V.heap.size V w'))
    (HO : Hid (∀ V, Calls Try.prog 74 #[.int .u64 (m : Int)] V fun e w' => e = .returned (.bool ok) ∧ V = w'))
    (HU : Hid (∀ V, Rd V V.heap.size A bs → Calls Try.prog 34 #[.agg #[.int .i64 len, .slice A N c], .int .i64 p] V (ReadP V q fr 0))) :
    Calls Try.prog 38 #[.agg #[.int .i64 len, .slice A N c], .int .i64 p, .int .u64 (m : Int)] w (ReadP w 0 0 3) := by
  have HA := Lib.hid hA; clear hA
  have HR := Lib.hid (range3 ec (decide (0 ≤ p)) (decide (p ≤ len)) ok 0 he)
  clear he
  go_enter Try.func38, Try.ntmps38
  go_wp2_with fail
  generalize hV : w.alloc (.cells #[.int .i64 len, .slice A N c] 25) = V0
  have HV : Hid (Below w.heap.size w V0) := hV ▸ one_below _ _
  have HVs : Hid (w.heap.size + 1 = V0.heap.size) := by show _ = _; rw [← hV, World.size_alloc]
  have HK : Hid (∀ w' : World, Below V0.heap.size V0 w' → w'.cell? ⟨w.heap.size, 0, none⟩ = some (.int .i64 len) ∧ w'.cell? ⟨w.heap.size, 1, none⟩ = some (.slice A N c)) := by
    subst hV
    exact fun w' h => box_at (by rwa [World.size_alloc] at h)
  clear hV
  go_region_held3 (fun w' => w'.cell? ⟨w.heap.size, 0, none⟩ = some (.int .i64 len) ∧ w'.cell? ⟨w.heap.size, 1, none⟩ = some (.slice A N c))
    ((refine HK.out _ ?_; first | exact hk2.out | exact hk1.out.trans ((one_below _ _).mono hk1.out.size) | exact hk1.out | exact (Below.refl _ _).drew))
    (first
      | (go_at_call 56; have hx := hk1.out; refine (HR.out w1 _ rfl).mono ?_; rintro e w2 ⟨rfl, B2⟩; have hk2 : Hid (Below V0.heap.size V0 w2) := hx.trans (B2.mono hx.size); clear B2 hx)
      | (go_at_call 74; have hx := hk1.out; refine (HO.out w1).mono ?_; rintro e _ ⟨rfl, rfl⟩; clear hx)
      | (go_at_call 66; refine (HC.out V0.drew (HA.out.on HV.out.drew)).mono ?_; rintro e w1 ⟨rfl, B1⟩; have hk1 : Hid (Below V0.heap.size V0 w1) := ((Below.refl _ V0).drew).trans B1; clear B1))
  obtain ⟨p1, q1⟩ := HK.out w2 hk2.out
  have HB2 : Hid (Below w.heap.size w w2) := HV.out.trans (hk2.out.mono HV.out.size)
  have t0 : decide ((q : Int) < 8128) = false := by simp; omega
  have HKw : Hid (∀ w' : World, Below w2.heap.size w2 w' → w'.cell? ⟨w.heap.size, 0, none⟩ = some (.int .i64 len) ∧ w'.cell? ⟨w.heap.size, 1, none⟩ = some (.slice A N c)) := fun w' h => HK.out w' (hk2.out.trans (h.mono hk2.out.size))
  clear HK hk1 hk2
  go_wp2_with fail
  refine (HU.out _ (HA.out.on HB2.out)).mono ?_
  rintro e w3 ⟨rfl, B3⟩
  have HB3 : Hid (Below w.heap.size w w3) := HB2.out.trans (B3.mono HB2.out.size)
  have H23 := Lib.hid B3
  clear B3 p1 q1
  obtain ⟨p1, q1⟩ := HKw.out w3 H23.out
  go_wp2_with fail
  refine (range1 0 false 3 rfl _ _ rfl).mono ?_
  rintro e w4 ⟨rfl, B4⟩
  have HB4 : Hid (Below w.heap.size w w4) := HB3.out.trans (B4.mono HB3.out.size)
  have H24 : Hid (Below w2.heap.size w2 w4) := H23.out.trans (B4.mono H23.out.size)
  clear B4 p1 q1
  clear HKw H23 H24
  go_wp2
  go_ret3
  exact ⟨rfl, HB4.out⟩
set_option maxHeartbeats 1000000 in
theorem rzeta_q (len : Int) (A : Option Addr) (c N : Nat) (bs : List Nat) (p : Int) (w : World) (hA : Rd w w.heap.size A bs) (ec : Int) (ok : Bool) (he : rgE ec [decide (0 ≤ p), decide (p ≤ len), ok] = 0) (k h fr s : Nat) (hk2 : k ≤ 16) (hh : h ≤ 8192) (hs : h * k = s) (hs2 : s ≤ 200000) (hq : 40 < s)
    (HC : Hid (∀ V, Rd V V.heap.size A bs → Calls Try.prog 66 #[.agg #[.int .i64 len, .slice A N c]] V fun e w' => e = .returned (.int .i64 ec) ∧ Below V.heap.size V w'))
    (HO : Hid (∀ V, Calls Try.prog 79 #[.int .i64 (k : Int)] V fun e w' => e = .returned (.bool ok) ∧ V = w'))
    (HU : Hid (∀ V, Rd V V.heap.size A bs → Calls Try.prog 34 #[.agg #[.int .i64 len, .slice A N c], .int .i64 p] V (ReadP V h fr 0))) :
    Calls Try.prog 45 #[.agg #[.int .i64 len, .slice A N c], .int .i64 p, .int .i64 (k : Int)] w (ReadP w 0 0 3) := by
  have HA := Lib.hid hA; clear hA
  have HR := Lib.hid (range3 ec (decide (0 ≤ p)) (decide (p ≤ len)) ok 0 he)
  clear he
  go_enter Try.func45, Try.ntmps45
  go_wp2_with fail
  generalize hV : w.alloc (.cells #[.int .i64 len, .slice A N c] 25) = V0
  have HV : Hid (Below w.heap.size w V0) := hV ▸ one_below _ _
  have HVs : Hid (w.heap.size + 1 = V0.heap.size) := by show _ = _; rw [← hV, World.size_alloc]
  have HK : Hid (∀ w' : World, Below V0.heap.size V0 w' → w'.cell? ⟨w.heap.size, 0, none⟩ = some (.int .i64 len) ∧ w'.cell? ⟨w.heap.size, 1, none⟩ = some (.slice A N c)) := by
    subst hV
    exact fun w' h => box_at (by rwa [World.size_alloc] at h)
  clear hV
  go_region_held3 (fun w' => w'.cell? ⟨w.heap.size, 0, none⟩ = some (.int .i64 len) ∧ w'.cell? ⟨w.heap.size, 1, none⟩ = some (.slice A N c))
    ((refine HK.out _ ?_; first | exact hk2.out | exact hk1.out.trans ((one_below _ _).mono hk1.out.size) | exact hk1.out | exact (Below.refl _ _).drew))
    (first
      | (go_at_call 56; have hx := hk1.out; refine (HR.out w1 _ rfl).mono ?_; rintro e w2 ⟨rfl, B2⟩; have hk2 : Hid (Below V0.heap.size V0 w2) := hx.trans (B2.mono hx.size); clear B2 hx)
      | (go_at_call 79; have hx := hk1.out; refine (HO.out w1).mono ?_; rintro e _ ⟨rfl, rfl⟩; clear hx)
      | (go_at_call 66; refine (HC.out V0.drew (HA.out.on HV.out.drew)).mono ?_; rintro e w1 ⟨rfl, B1⟩; have hk1 : Hid (Below V0.heap.size V0 w1) := ((Below.refl _ V0).drew).trans B1; clear B1))
  obtain ⟨p1, q1⟩ := HK.out w2 hk2.out
  have HB2 : Hid (Below w.heap.size w w2) := HV.out.trans (hk2.out.mono HV.out.size)
  have t0 : decide ((s : Int) ≤ 40) = false := by simp; omega
  have HKw : Hid (∀ w' : World, Below w2.heap.size w2 w' → w'.cell? ⟨w.heap.size, 0, none⟩ = some (.int .i64 len) ∧ w'.cell? ⟨w.heap.size, 1, none⟩ = some (.slice A N c)) := fun w' h => HK.out w' (hk2.out.trans (h.mono hk2.out.size))
  clear HK hk1 hk2
  go_wp2_with fail
  refine (HU.out _ (HA.out.on HB2.out)).mono ?_
  rintro e w3 ⟨rfl, B3⟩
  have HB3 : Hid (Below w.heap.size w w3) := HB2.out.trans (B3.mono HB2.out.size)
  have H23 := Lib.hid B3
  clear B3 p1 q1
  obtain ⟨p1, q1⟩ := HKw.out w3 H23.out
  go_wp2_with fail
  rw [mulI h k s hs, t0]
  refine (range1 0 false 3 rfl _ _ rfl).mono ?_
  rintro e w4 ⟨rfl, B4⟩
  have HB4 : Hid (Below w.heap.size w w4) := HB3.out.trans (B4.mono HB3.out.size)
  have H24 : Hid (Below w2.heap.size w2 w4) := H23.out.trans (B4.mono H23.out.size)
  clear B4 p1 q1
  clear HKw H23 H24
  go_wp2
  go_ret3
  exact ⟨rfl, HB4.out⟩
set_option maxHeartbeats 1000000 in
theorem rcode_s (len : Int) (A : Option Addr) (c N : Nat) (bs : List Nat) (p : Int) (w : World) (hA : Rd w w.heap.size A bs) (ec : Int) (ok : Bool) (he : rgE ec [decide (0 ≤ p), decide (p ≤ len), ok] = 0) (m q fr r y : Nat) (hq : q < 8128) (hfr : fr ≤ 8192) (hm : m ≤ 1099511627776) (hy : q * m = y) (hy2 : y ≤ 9007199254740992) (hr : r ≤ 1099511627776) (to : Nat) (er : Int) (h1 : er ≠ 0)
    (HC : Hid (∀ V, Rd V V.heap.size A bs → Calls Try.prog 66 #[.agg #[.int .i64 len, .slice A N c]] V fun e w' => e = .returned (.int .i64 ec) ∧ Below V.heap.size V w'))
    (HO : Hid (∀ V, Calls Try.prog 74 #[.int .u64 (m : Int)] V fun e w' => e = .returned (.bool ok) ∧ V = w'))
    (HU : Hid (∀ V, Rd V V.heap.size A bs → Calls Try.prog 34 #[.agg #[.int .i64 len, .slice A N c], .int .i64 p] V (ReadP V q fr 0)))
    (HG : Hid (∀ V, Rd V V.heap.size A bs → Calls Try.prog 77 #[.agg #[.int .i64 len, .slice A N c], .int .i64 (fr : Int), .int .u64 (m : Int)] V (ReadP V r to er))) :
    Calls Try.prog 38 #[.agg #[.int .i64 len, .slice A N c], .int .i64 p, .int .u64 (m : Int)] w (ReadP w 0 0 er) := by
  have HA := Lib.hid hA; clear hA
  have HR := Lib.hid (range3 ec (decide (0 ≤ p)) (decide (p ≤ len)) ok 0 he)
  clear he
  go_enter Try.func38, Try.ntmps38
  go_wp2_with fail
  generalize hV : w.alloc (.cells #[.int .i64 len, .slice A N c] 25) = V0
  have HV : Hid (Below w.heap.size w V0) := hV ▸ one_below _ _
  have HVs : Hid (w.heap.size + 1 = V0.heap.size) := by show _ = _; rw [← hV, World.size_alloc]
  have HK : Hid (∀ w' : World, Below V0.heap.size V0 w' → w'.cell? ⟨w.heap.size, 0, none⟩ = some (.int .i64 len) ∧ w'.cell? ⟨w.heap.size, 1, none⟩ = some (.slice A N c)) := by
    subst hV
    exact fun w' h => box_at (by rwa [World.size_alloc] at h)
  clear hV
  go_region_held3 (fun w' => w'.cell? ⟨w.heap.size, 0, none⟩ = some (.int .i64 len) ∧ w'.cell? ⟨w.heap.size, 1, none⟩ = some (.slice A N c))
    ((refine HK.out _ ?_; first | exact hk2.out | exact hk1.out.trans ((one_below _ _).mono hk1.out.size) | exact hk1.out | exact (Below.refl _ _).drew))
    (first
      | (go_at_call 56; have hx := hk1.out; refine (HR.out w1 _ rfl).mono ?_; rintro e w2 ⟨rfl, B2⟩; have hk2 : Hid (Below V0.heap.size V0 w2) := hx.trans (B2.mono hx.size); clear B2 hx)
      | (go_at_call 74; have hx := hk1.out; refine (HO.out w1).mono ?_; rintro e _ ⟨rfl, rfl⟩; clear hx)
      | (go_at_call 66; refine (HC.out V0.drew (HA.out.on HV.out.drew)).mono ?_; rintro e w1 ⟨rfl, B1⟩; have hk1 : Hid (Below V0.heap.size V0 w1) := ((Below.refl _ V0).drew).trans B1; clear B1))
  obtain ⟨p1, q1⟩ := HK.out w2 hk2.out
  have HB2 : Hid (Below w.heap.size w w2) := HV.out.trans (hk2.out.mono HV.out.size)
  have t0 : decide ((q : Int) < 8128) = true := by simp; omega
  have t1 : (er != 0) = true := by simpa using h1
  have HKw : Hid (∀ w' : World, Below w2.heap.size w2 w' → w'.cell? ⟨w.heap.size, 0, none⟩ = some (.int .i64 len) ∧ w'.cell? ⟨w.heap.size, 1, none⟩ = some (.slice A N c)) := fun w' h => HK.out w' (hk2.out.trans (h.mono hk2.out.size))
  clear HK hk1 hk2
  go_wp2_with fail
  refine (HU.out _ (HA.out.on HB2.out)).mono ?_
  rintro e w3 ⟨rfl, B3⟩
  have HB3 : Hid (Below w.heap.size w w3) := HB2.out.trans (B3.mono HB2.out.size)
  have H23 := Lib.hid B3
  clear B3 p1 q1
  obtain ⟨p1, q1⟩ := HKw.out w3 H23.out
  go_wp2_with fail
  refine (range1 0 true 0 rfl _ _ rfl).mono ?_
  rintro e w4 ⟨rfl, B4⟩
  have HB4 : Hid (Below w.heap.size w w4) := HB3.out.trans (B4.mono HB3.out.size)
  have H24 : Hid (Below w2.heap.size w2 w4) := H23.out.trans (B4.mono H23.out.size)
  clear B4 p1 q1
  obtain ⟨p1, q1⟩ := HKw.out w4 H24.out
  go_wp2_with fail
  refine (HG.out _ (HA.out.on HB4.out)).mono ?_
  rintro e w5 ⟨rfl, B5⟩
  have HB5 : Hid (Below w.heap.size w w5) := HB4.out.trans (B5.mono HB4.out.size)
  clear B5 p1 q1 HKw H23 H24
  go_wp2_with fail
  refine (range1_hid er h1 _ _ _ rfl).mono ?_
  rintro e w6 ⟨rfl, B6⟩
  have HB6 : Hid (Below w.heap.size w w6) := HB5.out.trans (B6.mono HB5.out.size)
  clear B6
  go_wp2
  go_ret3
  exact ⟨rfl, HB6.out⟩
set_option maxHeartbeats 1000000 in
theorem rcode_o (len : Int) (A : Option Addr) (c N : Nat) (bs : List Nat) (p : Int) (w : World) (hA : Rd w w.heap.size A bs) (ec : Int) (ok : Bool) (he : rgE ec [decide (0 ≤ p), decide (p ≤ len), ok] = 0) (m q fr r y : Nat) (hq : q < 8128) (hfr : fr ≤ 8192) (hm : m ≤ 1099511627776) (hy : q * m = y) (hy2 : y ≤ 9007199254740992) (hr : r ≤ 1099511627776) (to : Nat) (h1 : 1099511627776 < y + r)
    (HC : Hid (∀ V, Rd V V.heap.size A bs → Calls Try.prog 66 #[.agg #[.int .i64 len, .slice A N c]] V fun e w' => e = .returned (.int .i64 ec) ∧ Below V.heap.size V w'))
    (HO : Hid (∀ V, Calls Try.prog 74 #[.int .u64 (m : Int)] V fun e w' => e = .returned (.bool ok) ∧ V = w'))
    (HU : Hid (∀ V, Rd V V.heap.size A bs → Calls Try.prog 34 #[.agg #[.int .i64 len, .slice A N c], .int .i64 p] V (ReadP V q fr 0)))
    (HG : Hid (∀ V, Rd V V.heap.size A bs → Calls Try.prog 77 #[.agg #[.int .i64 len, .slice A N c], .int .i64 (fr : Int), .int .u64 (m : Int)] V (ReadP V r to 0))) :
    Calls Try.prog 38 #[.agg #[.int .i64 len, .slice A N c], .int .i64 p, .int .u64 (m : Int)] w (ReadP w 0 0 3) := by
  have HA := Lib.hid hA; clear hA
  have HR := Lib.hid (range3 ec (decide (0 ≤ p)) (decide (p ≤ len)) ok 0 he)
  clear he
  go_enter Try.func38, Try.ntmps38
  go_wp2_with fail
  generalize hV : w.alloc (.cells #[.int .i64 len, .slice A N c] 25) = V0
  have HV : Hid (Below w.heap.size w V0) := hV ▸ one_below _ _
  have HVs : Hid (w.heap.size + 1 = V0.heap.size) := by show _ = _; rw [← hV, World.size_alloc]
  have HK : Hid (∀ w' : World, Below V0.heap.size V0 w' → w'.cell? ⟨w.heap.size, 0, none⟩ = some (.int .i64 len) ∧ w'.cell? ⟨w.heap.size, 1, none⟩ = some (.slice A N c)) := by
    subst hV
    exact fun w' h => box_at (by rwa [World.size_alloc] at h)
  clear hV
  go_region_held3 (fun w' => w'.cell? ⟨w.heap.size, 0, none⟩ = some (.int .i64 len) ∧ w'.cell? ⟨w.heap.size, 1, none⟩ = some (.slice A N c))
    ((refine HK.out _ ?_; first | exact hk2.out | exact hk1.out.trans ((one_below _ _).mono hk1.out.size) | exact hk1.out | exact (Below.refl _ _).drew))
    (first
      | (go_at_call 56; have hx := hk1.out; refine (HR.out w1 _ rfl).mono ?_; rintro e w2 ⟨rfl, B2⟩; have hk2 : Hid (Below V0.heap.size V0 w2) := hx.trans (B2.mono hx.size); clear B2 hx)
      | (go_at_call 74; have hx := hk1.out; refine (HO.out w1).mono ?_; rintro e _ ⟨rfl, rfl⟩; clear hx)
      | (go_at_call 66; refine (HC.out V0.drew (HA.out.on HV.out.drew)).mono ?_; rintro e w1 ⟨rfl, B1⟩; have hk1 : Hid (Below V0.heap.size V0 w1) := ((Below.refl _ V0).drew).trans B1; clear B1))
  obtain ⟨p1, q1⟩ := HK.out w2 hk2.out
  have HB2 : Hid (Below w.heap.size w w2) := HV.out.trans (hk2.out.mono HV.out.size)
  have t0 : decide ((q : Int) < 8128) = true := by simp; omega
  have t1 : decide ((y : Int) + (r : Int) ≤ 1099511627776) = false := by simp; omega
  have HKw : Hid (∀ w' : World, Below w2.heap.size w2 w' → w'.cell? ⟨w.heap.size, 0, none⟩ = some (.int .i64 len) ∧ w'.cell? ⟨w.heap.size, 1, none⟩ = some (.slice A N c)) := fun w' h => HK.out w' (hk2.out.trans (h.mono hk2.out.size))
  clear HK hk1 hk2
  go_wp2_with fail
  refine (HU.out _ (HA.out.on HB2.out)).mono ?_
  rintro e w3 ⟨rfl, B3⟩
  have HB3 : Hid (Below w.heap.size w w3) := HB2.out.trans (B3.mono HB2.out.size)
  have H23 := Lib.hid B3
  clear B3 p1 q1
  obtain ⟨p1, q1⟩ := HKw.out w3 H23.out
  go_wp2_with fail
  refine (range1 0 true 0 rfl _ _ rfl).mono ?_
  rintro e w4 ⟨rfl, B4⟩
  have HB4 : Hid (Below w.heap.size w w4) := HB3.out.trans (B4.mono HB3.out.size)
  have H24 : Hid (Below w2.heap.size w2 w4) := H23.out.trans (B4.mono H23.out.size)
  clear B4 p1 q1
  obtain ⟨p1, q1⟩ := HKw.out w4 H24.out
  go_wp2_with fail
  refine (HG.out _ (HA.out.on HB4.out)).mono ?_
  rintro e w5 ⟨rfl, B5⟩
  have HB5 : Hid (Below w.heap.size w w5) := HB4.out.trans (B5.mono HB4.out.size)
  clear B5 p1 q1 HKw H23 H24
  go_wp2_with fail
  rw [mulI q m y hy, t1]
  refine (range1 0 false 3 rfl _ _ rfl).mono ?_
  rintro e w6 ⟨rfl, B6⟩
  have HB6 : Hid (Below w.heap.size w w6) := HB5.out.trans (B6.mono HB5.out.size)
  clear B6
  go_wp2
  go_ret3
  exact ⟨rfl, HB6.out⟩
set_option maxHeartbeats 1000000 in
theorem rcode_k (len : Int) (A : Option Addr) (c N : Nat) (bs : List Nat) (p : Int) (w : World) (hA : Rd w w.heap.size A bs) (ec : Int) (ok : Bool) (he : rgE ec [decide (0 ≤ p), decide (p ≤ len), ok] = 0) (m q fr r y : Nat) (hq : q < 8128) (hfr : fr ≤ 8192) (hm : m ≤ 1099511627776) (hy : q * m = y) (hy2 : y ≤ 9007199254740992) (hr : r ≤ 1099511627776) (to : Nat) (x : Nat) (hx : x = y + r) (h1 : y + r ≤ 1099511627776)
    (HC : Hid (∀ V, Rd V V.heap.size A bs → Calls Try.prog 66 #[.agg #[.int .i64 len, .slice A N c]] V fun e w' => e = .returned (.int .i64 ec) ∧ Below V.heap.size V w'))
    (HO : Hid (∀ V, Calls Try.prog 74 #[.int .u64 (m : Int)] V fun e w' => e = .returned (.bool ok) ∧ V = w'))
    (HU : Hid (∀ V, Rd V V.heap.size A bs → Calls Try.prog 34 #[.agg #[.int .i64 len, .slice A N c], .int .i64 p] V (ReadP V q fr 0)))
    (HG : Hid (∀ V, Rd V V.heap.size A bs → Calls Try.prog 77 #[.agg #[.int .i64 len, .slice A N c], .int .i64 (fr : Int), .int .u64 (m : Int)] V (ReadP V r to 0))) :
    Calls Try.prog 38 #[.agg #[.int .i64 len, .slice A N c], .int .i64 p, .int .u64 (m : Int)] w (ReadP w x to 0) := by
  have HA := Lib.hid hA; clear hA
  have HR := Lib.hid (range3 ec (decide (0 ≤ p)) (decide (p ≤ len)) ok 0 he)
  clear he
  go_enter Try.func38, Try.ntmps38
  go_wp2_with fail
  generalize hV : w.alloc (.cells #[.int .i64 len, .slice A N c] 25) = V0
  have HV : Hid (Below w.heap.size w V0) := hV ▸ one_below _ _
  have HVs : Hid (w.heap.size + 1 = V0.heap.size) := by show _ = _; rw [← hV, World.size_alloc]
  have HK : Hid (∀ w' : World, Below V0.heap.size V0 w' → w'.cell? ⟨w.heap.size, 0, none⟩ = some (.int .i64 len) ∧ w'.cell? ⟨w.heap.size, 1, none⟩ = some (.slice A N c)) := by
    subst hV
    exact fun w' h => box_at (by rwa [World.size_alloc] at h)
  clear hV
  go_region_held3 (fun w' => w'.cell? ⟨w.heap.size, 0, none⟩ = some (.int .i64 len) ∧ w'.cell? ⟨w.heap.size, 1, none⟩ = some (.slice A N c))
    ((refine HK.out _ ?_; first | exact hk2.out | exact hk1.out.trans ((one_below _ _).mono hk1.out.size) | exact hk1.out | exact (Below.refl _ _).drew))
    (first
      | (go_at_call 56; have hx := hk1.out; refine (HR.out w1 _ rfl).mono ?_; rintro e w2 ⟨rfl, B2⟩; have hk2 : Hid (Below V0.heap.size V0 w2) := hx.trans (B2.mono hx.size); clear B2 hx)
      | (go_at_call 74; have hx := hk1.out; refine (HO.out w1).mono ?_; rintro e _ ⟨rfl, rfl⟩; clear hx)
      | (go_at_call 66; refine (HC.out V0.drew (HA.out.on HV.out.drew)).mono ?_; rintro e w1 ⟨rfl, B1⟩; have hk1 : Hid (Below V0.heap.size V0 w1) := ((Below.refl _ V0).drew).trans B1; clear B1))
  obtain ⟨p1, q1⟩ := HK.out w2 hk2.out
  have HB2 : Hid (Below w.heap.size w w2) := HV.out.trans (hk2.out.mono HV.out.size)
  have t0 : decide ((q : Int) < 8128) = true := by simp; omega
  have t1 : decide ((y : Int) + (r : Int) ≤ 1099511627776) = true := by simp; omega
  have hxi : (x : Int) = (y : Int) + (r : Int) := by omega
  have HKw : Hid (∀ w' : World, Below w2.heap.size w2 w' → w'.cell? ⟨w.heap.size, 0, none⟩ = some (.int .i64 len) ∧ w'.cell? ⟨w.heap.size, 1, none⟩ = some (.slice A N c)) := fun w' h => HK.out w' (hk2.out.trans (h.mono hk2.out.size))
  clear HK hk1 hk2
  go_wp2_with fail
  refine (HU.out _ (HA.out.on HB2.out)).mono ?_
  rintro e w3 ⟨rfl, B3⟩
  have HB3 : Hid (Below w.heap.size w w3) := HB2.out.trans (B3.mono HB2.out.size)
  have H23 := Lib.hid B3
  clear B3 p1 q1
  obtain ⟨p1, q1⟩ := HKw.out w3 H23.out
  go_wp2_with fail
  refine (range1 0 true 0 rfl _ _ rfl).mono ?_
  rintro e w4 ⟨rfl, B4⟩
  have HB4 : Hid (Below w.heap.size w w4) := HB3.out.trans (B4.mono HB3.out.size)
  have H24 : Hid (Below w2.heap.size w2 w4) := H23.out.trans (B4.mono H23.out.size)
  clear B4 p1 q1
  obtain ⟨p1, q1⟩ := HKw.out w4 H24.out
  go_wp2_with fail
  refine (HG.out _ (HA.out.on HB4.out)).mono ?_
  rintro e w5 ⟨rfl, B5⟩
  have HB5 : Hid (Below w.heap.size w w5) := HB4.out.trans (B5.mono HB4.out.size)
  clear B5 p1 q1 HKw H23 H24
  go_wp2_with fail
  rw [mulI q m y hy, t1]
  refine (range1 0 true 0 rfl _ _ rfl).mono ?_
  rintro e w6 ⟨rfl, B6⟩
  have HB6 : Hid (Below w.heap.size w w6) := HB5.out.trans (B6.mono HB5.out.size)
  clear B6
  go_wp2
  go_ret3
  exact ⟨by rw [hxi]; rfl, HB6.out⟩
set_option maxHeartbeats 1000000 in
theorem rzeta_s (len : Int) (A : Option Addr) (c N : Nat) (bs : List Nat) (p : Int) (w : World) (hA : Rd w w.heap.size A bs) (ec : Int) (ok : Bool) (he : rgE ec [decide (0 ≤ p), decide (p ≤ len), ok] = 0) (k h fr s f y r : Nat) (hk2 : k ≤ 16) (hh : h ≤ 40) (hfr : fr ≤ 8192) (hs : h * k = s) (hs2 : s ≤ 40) (hf : f ≤ 1099511627776) (hf1 : 1 ≤ f) (hr : r ≤ 72057594037927936) (to : Nat) (er : Int) (h1 : er ≠ 0)
    (HC : Hid (∀ V, Rd V V.heap.size A bs → Calls Try.prog 66 #[.agg #[.int .i64 len, .slice A N c]] V fun e w' => e = .returned (.int .i64 ec) ∧ Below V.heap.size V w'))
    (HO : Hid (∀ V, Calls Try.prog 79 #[.int .i64 (k : Int)] V fun e w' => e = .returned (.bool ok) ∧ V = w'))
    (HU : Hid (∀ V, Rd V V.heap.size A bs → Calls Try.prog 34 #[.agg #[.int .i64 len, .slice A N c], .int .i64 p] V (ReadP V h fr 0)))
    (HS : Hid (∀ V, Calls Try.prog 81 #[.int .i64 (s : Int), .int .i64 (k : Int)] V fun e w' => e = .returned (.tuple #[.int .u64 (f : Int), .int .u64 (y : Int)]) ∧ Below V.heap.size V w'))
    (HG : Hid (∀ V, Rd V V.heap.size A bs → Calls Try.prog 77 #[.agg #[.int .i64 len, .slice A N c], .int .i64 (fr : Int), .int .u64 (y : Int)] V (ReadP V r to er))) :
    Calls Try.prog 45 #[.agg #[.int .i64 len, .slice A N c], .int .i64 p, .int .i64 (k : Int)] w (ReadP w 0 0 er) := by
  have HA := Lib.hid hA; clear hA
  have HR := Lib.hid (range3 ec (decide (0 ≤ p)) (decide (p ≤ len)) ok 0 he)
  clear he
  go_enter Try.func45, Try.ntmps45
  go_wp2_with fail
  generalize hV : w.alloc (.cells #[.int .i64 len, .slice A N c] 25) = V0
  have HV : Hid (Below w.heap.size w V0) := hV ▸ one_below _ _
  have HVs : Hid (w.heap.size + 1 = V0.heap.size) := by show _ = _; rw [← hV, World.size_alloc]
  have HK : Hid (∀ w' : World, Below V0.heap.size V0 w' → w'.cell? ⟨w.heap.size, 0, none⟩ = some (.int .i64 len) ∧ w'.cell? ⟨w.heap.size, 1, none⟩ = some (.slice A N c)) := by
    subst hV
    exact fun w' h => box_at (by rwa [World.size_alloc] at h)
  clear hV
  go_region_held3 (fun w' => w'.cell? ⟨w.heap.size, 0, none⟩ = some (.int .i64 len) ∧ w'.cell? ⟨w.heap.size, 1, none⟩ = some (.slice A N c))
    ((refine HK.out _ ?_; first | exact hk2.out | exact hk1.out.trans ((one_below _ _).mono hk1.out.size) | exact hk1.out | exact (Below.refl _ _).drew))
    (first
      | (go_at_call 56; have hx := hk1.out; refine (HR.out w1 _ rfl).mono ?_; rintro e w2 ⟨rfl, B2⟩; have hk2 : Hid (Below V0.heap.size V0 w2) := hx.trans (B2.mono hx.size); clear B2 hx)
      | (go_at_call 79; have hx := hk1.out; refine (HO.out w1).mono ?_; rintro e _ ⟨rfl, rfl⟩; clear hx)
      | (go_at_call 66; refine (HC.out V0.drew (HA.out.on HV.out.drew)).mono ?_; rintro e w1 ⟨rfl, B1⟩; have hk1 : Hid (Below V0.heap.size V0 w1) := ((Below.refl _ V0).drew).trans B1; clear B1))
  obtain ⟨p1, q1⟩ := HK.out w2 hk2.out
  have HB2 : Hid (Below w.heap.size w w2) := HV.out.trans (hk2.out.mono HV.out.size)
  have t0 : decide ((s : Int) ≤ 40) = true := by simp; omega
  have t1 : (er != 0) = true := by simpa using h1
  have HKw : Hid (∀ w' : World, Below w2.heap.size w2 w' → w'.cell? ⟨w.heap.size, 0, none⟩ = some (.int .i64 len) ∧ w'.cell? ⟨w.heap.size, 1, none⟩ = some (.slice A N c)) := fun w' h => HK.out w' (hk2.out.trans (h.mono hk2.out.size))
  clear HK hk1 hk2
  go_wp2_with fail
  refine (HU.out _ (HA.out.on HB2.out)).mono ?_
  rintro e w3 ⟨rfl, B3⟩
  have HB3 : Hid (Below w.heap.size w w3) := HB2.out.trans (B3.mono HB2.out.size)
  have H23 := Lib.hid B3
  clear B3 p1 q1
  obtain ⟨p1, q1⟩ := HKw.out w3 H23.out
  go_wp2_with fail
  rw [mulI h k s hs, t0]
  refine (range1 0 true 0 rfl _ _ rfl).mono ?_
  rintro e w4 ⟨rfl, B4⟩
  have HB4 : Hid (Below w.heap.size w w4) := HB3.out.trans (B4.mono HB3.out.size)
  have H24 : Hid (Below w2.heap.size w2 w4) := H23.out.trans (B4.mono H23.out.size)
  clear B4 p1 q1
  go_wp2_with fail
  refine (HS.out _).mono ?_
  rintro e w4b ⟨rfl, B4⟩
  replace HB4 : Hid (Below w.heap.size w w4b) := HB4.out.trans (B4.mono HB4.out.size)
  replace H24 : Hid (Below w2.heap.size w2 w4b) := H24.out.trans (B4.mono H24.out.size)
  clear B4
  obtain ⟨p1, q1⟩ := HKw.out w4b H24.out
  go_wp2_with fail
  refine (HG.out _ (HA.out.on HB4.out)).mono ?_
  rintro e w5 ⟨rfl, B5⟩
  have HB5 : Hid (Below w.heap.size w w5) := HB4.out.trans (B5.mono HB4.out.size)
  clear B5 p1 q1 HKw H23 H24
  go_wp2_with fail
  refine (range1_hid er h1 _ _ _ rfl).mono ?_
  rintro e w6 ⟨rfl, B6⟩
  have HB6 : Hid (Below w.heap.size w w6) := HB5.out.trans (B6.mono HB5.out.size)
  clear B6
  go_wp2
  go_ret3
  exact ⟨rfl, HB6.out⟩
set_option maxHeartbeats 1000000 in
theorem rzeta_o (len : Int) (A : Option Addr) (c N : Nat) (bs : List Nat) (p : Int) (w : World) (hA : Rd w w.heap.size A bs) (ec : Int) (ok : Bool) (he : rgE ec [decide (0 ≤ p), decide (p ≤ len), ok] = 0) (k h fr s f y r : Nat) (hk2 : k ≤ 16) (hh : h ≤ 40) (hfr : fr ≤ 8192) (hs : h * k = s) (hs2 : s ≤ 40) (hf : f ≤ 1099511627776) (hf1 : 1 ≤ f) (hr : r ≤ 72057594037927936) (to : Nat) (h1 : 1099511627776 < f + r - 1)
    (HC : Hid (∀ V, Rd V V.heap.size A bs → Calls Try.prog 66 #[.agg #[.int .i64 len, .slice A N c]] V fun e w' => e = .returned (.int .i64 ec) ∧ Below V.heap.size V w'))
    (HO : Hid (∀ V, Calls Try.prog 79 #[.int .i64 (k : Int)] V fun e w' => e = .returned (.bool ok) ∧ V = w'))
    (HU : Hid (∀ V, Rd V V.heap.size A bs → Calls Try.prog 34 #[.agg #[.int .i64 len, .slice A N c], .int .i64 p] V (ReadP V h fr 0)))
    (HS : Hid (∀ V, Calls Try.prog 81 #[.int .i64 (s : Int), .int .i64 (k : Int)] V fun e w' => e = .returned (.tuple #[.int .u64 (f : Int), .int .u64 (y : Int)]) ∧ Below V.heap.size V w'))
    (HG : Hid (∀ V, Rd V V.heap.size A bs → Calls Try.prog 77 #[.agg #[.int .i64 len, .slice A N c], .int .i64 (fr : Int), .int .u64 (y : Int)] V (ReadP V r to 0))) :
    Calls Try.prog 45 #[.agg #[.int .i64 len, .slice A N c], .int .i64 p, .int .i64 (k : Int)] w (ReadP w 0 0 3) := by
  have HA := Lib.hid hA; clear hA
  have HR := Lib.hid (range3 ec (decide (0 ≤ p)) (decide (p ≤ len)) ok 0 he)
  clear he
  go_enter Try.func45, Try.ntmps45
  go_wp2_with fail
  generalize hV : w.alloc (.cells #[.int .i64 len, .slice A N c] 25) = V0
  have HV : Hid (Below w.heap.size w V0) := hV ▸ one_below _ _
  have HVs : Hid (w.heap.size + 1 = V0.heap.size) := by show _ = _; rw [← hV, World.size_alloc]
  have HK : Hid (∀ w' : World, Below V0.heap.size V0 w' → w'.cell? ⟨w.heap.size, 0, none⟩ = some (.int .i64 len) ∧ w'.cell? ⟨w.heap.size, 1, none⟩ = some (.slice A N c)) := by
    subst hV
    exact fun w' h => box_at (by rwa [World.size_alloc] at h)
  clear hV
  go_region_held3 (fun w' => w'.cell? ⟨w.heap.size, 0, none⟩ = some (.int .i64 len) ∧ w'.cell? ⟨w.heap.size, 1, none⟩ = some (.slice A N c))
    ((refine HK.out _ ?_; first | exact hk2.out | exact hk1.out.trans ((one_below _ _).mono hk1.out.size) | exact hk1.out | exact (Below.refl _ _).drew))
    (first
      | (go_at_call 56; have hx := hk1.out; refine (HR.out w1 _ rfl).mono ?_; rintro e w2 ⟨rfl, B2⟩; have hk2 : Hid (Below V0.heap.size V0 w2) := hx.trans (B2.mono hx.size); clear B2 hx)
      | (go_at_call 79; have hx := hk1.out; refine (HO.out w1).mono ?_; rintro e _ ⟨rfl, rfl⟩; clear hx)
      | (go_at_call 66; refine (HC.out V0.drew (HA.out.on HV.out.drew)).mono ?_; rintro e w1 ⟨rfl, B1⟩; have hk1 : Hid (Below V0.heap.size V0 w1) := ((Below.refl _ V0).drew).trans B1; clear B1))
  obtain ⟨p1, q1⟩ := HK.out w2 hk2.out
  have HB2 : Hid (Below w.heap.size w w2) := HV.out.trans (hk2.out.mono HV.out.size)
  have t0 : decide ((s : Int) ≤ 40) = true := by simp; omega
  have t1 : decide ((f : Int) + (r : Int) - 1 ≤ 1099511627776) = false := by simp; omega
  have HKw : Hid (∀ w' : World, Below w2.heap.size w2 w' → w'.cell? ⟨w.heap.size, 0, none⟩ = some (.int .i64 len) ∧ w'.cell? ⟨w.heap.size, 1, none⟩ = some (.slice A N c)) := fun w' h => HK.out w' (hk2.out.trans (h.mono hk2.out.size))
  clear HK hk1 hk2
  go_wp2_with fail
  refine (HU.out _ (HA.out.on HB2.out)).mono ?_
  rintro e w3 ⟨rfl, B3⟩
  have HB3 : Hid (Below w.heap.size w w3) := HB2.out.trans (B3.mono HB2.out.size)
  have H23 := Lib.hid B3
  clear B3 p1 q1
  obtain ⟨p1, q1⟩ := HKw.out w3 H23.out
  go_wp2_with fail
  rw [mulI h k s hs, t0]
  refine (range1 0 true 0 rfl _ _ rfl).mono ?_
  rintro e w4 ⟨rfl, B4⟩
  have HB4 : Hid (Below w.heap.size w w4) := HB3.out.trans (B4.mono HB3.out.size)
  have H24 : Hid (Below w2.heap.size w2 w4) := H23.out.trans (B4.mono H23.out.size)
  clear B4 p1 q1
  go_wp2_with fail
  refine (HS.out _).mono ?_
  rintro e w4b ⟨rfl, B4⟩
  replace HB4 : Hid (Below w.heap.size w w4b) := HB4.out.trans (B4.mono HB4.out.size)
  replace H24 : Hid (Below w2.heap.size w2 w4b) := H24.out.trans (B4.mono H24.out.size)
  clear B4
  obtain ⟨p1, q1⟩ := HKw.out w4b H24.out
  go_wp2_with fail
  refine (HG.out _ (HA.out.on HB4.out)).mono ?_
  rintro e w5 ⟨rfl, B5⟩
  have HB5 : Hid (Below w.heap.size w w5) := HB4.out.trans (B5.mono HB4.out.size)
  clear B5 p1 q1 HKw H23 H24
  go_wp2_with fail
  refine (range1 0 false 3 rfl _ _ rfl).mono ?_
  rintro e w6 ⟨rfl, B6⟩
  have HB6 : Hid (Below w.heap.size w w6) := HB5.out.trans (B6.mono HB5.out.size)
  clear B6
  go_wp2
  go_ret3
  exact ⟨rfl, HB6.out⟩
set_option maxHeartbeats 1000000 in
theorem rzeta_k (len : Int) (A : Option Addr) (c N : Nat) (bs : List Nat) (p : Int) (w : World) (hA : Rd w w.heap.size A bs) (ec : Int) (ok : Bool) (he : rgE ec [decide (0 ≤ p), decide (p ≤ len), ok] = 0) (k h fr s f y r : Nat) (hk2 : k ≤ 16) (hh : h ≤ 40) (hfr : fr ≤ 8192) (hs : h * k = s) (hs2 : s ≤ 40) (hf : f ≤ 1099511627776) (hf1 : 1 ≤ f) (hr : r ≤ 72057594037927936) (to : Nat) (x : Nat) (hx : x + 1 = f + r) (h1 : f + r - 1 ≤ 1099511627776)
    (HC : Hid (∀ V, Rd V V.heap.size A bs → Calls Try.prog 66 #[.agg #[.int .i64 len, .slice A N c]] V fun e w' => e = .returned (.int .i64 ec) ∧ Below V.heap.size V w'))
    (HO : Hid (∀ V, Calls Try.prog 79 #[.int .i64 (k : Int)] V fun e w' => e = .returned (.bool ok) ∧ V = w'))
    (HU : Hid (∀ V, Rd V V.heap.size A bs → Calls Try.prog 34 #[.agg #[.int .i64 len, .slice A N c], .int .i64 p] V (ReadP V h fr 0)))
    (HS : Hid (∀ V, Calls Try.prog 81 #[.int .i64 (s : Int), .int .i64 (k : Int)] V fun e w' => e = .returned (.tuple #[.int .u64 (f : Int), .int .u64 (y : Int)]) ∧ Below V.heap.size V w'))
    (HG : Hid (∀ V, Rd V V.heap.size A bs → Calls Try.prog 77 #[.agg #[.int .i64 len, .slice A N c], .int .i64 (fr : Int), .int .u64 (y : Int)] V (ReadP V r to 0))) :
    Calls Try.prog 45 #[.agg #[.int .i64 len, .slice A N c], .int .i64 p, .int .i64 (k : Int)] w (ReadP w x to 0) := by
  have HA := Lib.hid hA; clear hA
  have HR := Lib.hid (range3 ec (decide (0 ≤ p)) (decide (p ≤ len)) ok 0 he)
  clear he
  go_enter Try.func45, Try.ntmps45
  go_wp2_with fail
  generalize hV : w.alloc (.cells #[.int .i64 len, .slice A N c] 25) = V0
  have HV : Hid (Below w.heap.size w V0) := hV ▸ one_below _ _
  have HVs : Hid (w.heap.size + 1 = V0.heap.size) := by show _ = _; rw [← hV, World.size_alloc]
  have HK : Hid (∀ w' : World, Below V0.heap.size V0 w' → w'.cell? ⟨w.heap.size, 0, none⟩ = some (.int .i64 len) ∧ w'.cell? ⟨w.heap.size, 1, none⟩ = some (.slice A N c)) := by
    subst hV
    exact fun w' h => box_at (by rwa [World.size_alloc] at h)
  clear hV
  go_region_held3 (fun w' => w'.cell? ⟨w.heap.size, 0, none⟩ = some (.int .i64 len) ∧ w'.cell? ⟨w.heap.size, 1, none⟩ = some (.slice A N c))
    ((refine HK.out _ ?_; first | exact hk2.out | exact hk1.out.trans ((one_below _ _).mono hk1.out.size) | exact hk1.out | exact (Below.refl _ _).drew))
    (first
      | (go_at_call 56; have hx := hk1.out; refine (HR.out w1 _ rfl).mono ?_; rintro e w2 ⟨rfl, B2⟩; have hk2 : Hid (Below V0.heap.size V0 w2) := hx.trans (B2.mono hx.size); clear B2 hx)
      | (go_at_call 79; have hx := hk1.out; refine (HO.out w1).mono ?_; rintro e _ ⟨rfl, rfl⟩; clear hx)
      | (go_at_call 66; refine (HC.out V0.drew (HA.out.on HV.out.drew)).mono ?_; rintro e w1 ⟨rfl, B1⟩; have hk1 : Hid (Below V0.heap.size V0 w1) := ((Below.refl _ V0).drew).trans B1; clear B1))
  obtain ⟨p1, q1⟩ := HK.out w2 hk2.out
  have HB2 : Hid (Below w.heap.size w w2) := HV.out.trans (hk2.out.mono HV.out.size)
  have t0 : decide ((s : Int) ≤ 40) = true := by simp; omega
  have t1 : decide ((f : Int) + (r : Int) - 1 ≤ 1099511627776) = true := by simp; omega
  have hxi : (x : Int) = (f : Int) + (r : Int) - 1 := by omega
  have HKw : Hid (∀ w' : World, Below w2.heap.size w2 w' → w'.cell? ⟨w.heap.size, 0, none⟩ = some (.int .i64 len) ∧ w'.cell? ⟨w.heap.size, 1, none⟩ = some (.slice A N c)) := fun w' h => HK.out w' (hk2.out.trans (h.mono hk2.out.size))
  clear HK hk1 hk2
  go_wp2_with fail
  refine (HU.out _ (HA.out.on HB2.out)).mono ?_
  rintro e w3 ⟨rfl, B3⟩
  have HB3 : Hid (Below w.heap.size w w3) := HB2.out.trans (B3.mono HB2.out.size)
  have H23 := Lib.hid B3
  clear B3 p1 q1
  obtain ⟨p1, q1⟩ := HKw.out w3 H23.out
  go_wp2_with fail
  rw [mulI h k s hs, t0]
  refine (range1 0 true 0 rfl _ _ rfl).mono ?_
  rintro e w4 ⟨rfl, B4⟩
  have HB4 : Hid (Below w.heap.size w w4) := HB3.out.trans (B4.mono HB3.out.size)
  have H24 : Hid (Below w2.heap.size w2 w4) := H23.out.trans (B4.mono H23.out.size)
  clear B4 p1 q1
  go_wp2_with fail
  refine (HS.out _).mono ?_
  rintro e w4b ⟨rfl, B4⟩
  replace HB4 : Hid (Below w.heap.size w w4b) := HB4.out.trans (B4.mono HB4.out.size)
  replace H24 : Hid (Below w2.heap.size w2 w4b) := H24.out.trans (B4.mono H24.out.size)
  clear B4
  obtain ⟨p1, q1⟩ := HKw.out w4b H24.out
  go_wp2_with fail
  refine (HG.out _ (HA.out.on HB4.out)).mono ?_
  rintro e w5 ⟨rfl, B5⟩
  have HB5 : Hid (Below w.heap.size w w5) := HB4.out.trans (B5.mono HB4.out.size)
  clear B5 p1 q1 HKw H23 H24
  go_wp2_with fail
  refine (range1 0 true 0 rfl _ _ rfl).mono ?_
  rintro e w6 ⟨rfl, B6⟩
  have HB6 : Hid (Below w.heap.size w w6) := HB5.out.trans (B6.mono HB5.out.size)
  clear B6
  go_wp2
  go_ret3
  exact ⟨by rw [hxi]; rfl, HB6.out⟩

/-- Which bits, places and divisors are wrong. -/
def rcE (len : Int) (bs : List Nat) (p : Int) (ok : Bool) : Int := if chk len bs ≠ 0 then chk len bs else if p < 0 ∨ len < p ∨ ok = false then 3 else 0
theorem rcE_eq (len : Int) (bs : List Nat) (p : Int) (ok : Bool) : rgE (chk len bs) [decide (0 ≤ p), decide (p ≤ len), ok] = rcE len bs p ok := by
  by_cases hc : chk len bs = 0
  · have e1 : rcE len bs p ok = if p < 0 ∨ len < p ∨ ok = false then 3 else 0 := by unfold rcE; rw [if_neg (fun h => h hc)]
    rw [e1, hc]
    unfold rgE
    by_cases h : p < 0 ∨ len < p ∨ ok = false
    · rw [if_pos h, if_pos]
      refine ⟨rfl, ?_⟩
      rcases h with h | h | h
      · rw [decide_eq_false (show ¬ 0 ≤ p by omega)]; simp
      · rw [decide_eq_false (show ¬ p ≤ len by omega)]; simp
      · rw [h]; simp
    · rw [if_neg h, if_neg]
      rw [decide_eq_true (show 0 ≤ p by omega), decide_eq_true (show p ≤ len by omega)]
      have : ok = true := by
        cases ok
        · exact absurd (.inr (.inr rfl)) h
        · rfl
      rw [this]; simp
  · have e1 : rcE len bs p ok = chk len bs := by unfold rcE; rw [if_pos hc]
    rw [e1]
    unfold rgE
    rw [if_neg (fun h => hc h.1)]
theorem ck_hid (len : Int) (A : Option Addr) (c : Nat) (bs : List Nat) (hb : ∀ b ∈ bs, b < 256) : Hid (∀ V, Rd V V.heap.size A bs → Calls Try.prog 66 #[.agg #[.int .i64 len, .slice A bs.length c]] V fun e w' => e = .returned (.int .i64 (chk len bs)) ∧ Below V.heap.size V w') := fun V h => check_any len A c bs V hb h
theorem rleast_bad_l (len : Int) (A : Option Addr) (c : Nat) (bs : List Nat) (p : Int) (m : Nat) (hb : ∀ b ∈ bs, b < 256) (h0 : rcE len bs p (okM m) ≠ 0) (w : World) (h : Rd w w.heap.size A bs) :
    Calls Try.prog 37 #[.agg #[.int .i64 len, .slice A bs.length c], .int .i64 p, .int .u64 (m : Int)] w (ReadP w 0 0 (rcE len bs p (okM m))) :=
  rleast_bad len A c _ bs p w h _ _ _ (rcE_eq len bs p (okM m)) m h0 (ck_hid len A c bs hb) (fun V => isDiv_any m V)
theorem rcode_bad_l (len : Int) (A : Option Addr) (c : Nat) (bs : List Nat) (p : Int) (m : Nat) (hb : ∀ b ∈ bs, b < 256) (h0 : rcE len bs p (okM m) ≠ 0) (w : World) (h : Rd w w.heap.size A bs) :
    Calls Try.prog 38 #[.agg #[.int .i64 len, .slice A bs.length c], .int .i64 p, .int .u64 (m : Int)] w (ReadP w 0 0 (rcE len bs p (okM m))) :=
  rcode_bad len A c _ bs p w h _ _ _ (rcE_eq len bs p (okM m)) m h0 (ck_hid len A c bs hb) (fun V => isDiv_any m V)
theorem rzeta_bad_l (len : Int) (A : Option Addr) (c : Nat) (bs : List Nat) (p k : Int) (hb : ∀ b ∈ bs, b < 256) (h0 : rcE len bs p (okK k) ≠ 0) (w : World) (h : Rd w w.heap.size A bs) :
    Calls Try.prog 45 #[.agg #[.int .i64 len, .slice A bs.length c], .int .i64 p, .int .i64 k] w (ReadP w 0 0 (rcE len bs p (okK k))) :=
  rzeta_bad len A c _ bs p w h _ _ _ (rcE_eq len bs p (okK k)) k h0 (ck_hid len A c bs hb) (fun V => isK_any k V)
theorem rcE_ok (l : List Bool) (hl : l.length ≤ 8192) (p : Nat) (hp : p ≤ l.length) (ok : Bool) (hok : ok = true) : rgE (chk (l.length : Int) (pack l)) [decide (0 ≤ (p : Int)), decide ((p : Int) ≤ (l.length : Int)), ok] = 0 := by
  rw [rcE_eq]; unfold rcE; rw [chk_pack l hl, if_neg (by omega), if_neg (by simp [hok]; omega)]
theorem okM_of (m : Nat) (h1 : 1 ≤ m) (h2 : m ≤ 1099511627776) : okM m = true := by unfold okM; simp; omega
theorem rleast_l (l : List Bool) (hl : l.length ≤ 8192) (m : Nat) (hm : 1 ≤ m) (hm2 : m ≤ 1099511627776) (A : Option Addr) (c p : Nat) (hp : p ≤ l.length) (w : World) (h : Rd w w.heap.size A (pack l)) :
    Calls Try.prog 37 #[.agg #[.int .i64 (l.length : Int), .slice A (pack l).length c], .int .i64 (p : Int), .int .u64 (m : Int)] w (ReadP w (lstR l p m).1 (lstR l p m).2.1 (lstR l p m).2.2) :=
  rleast_w _ A c _ (pack l) _ w h _ _ (rcE_ok l hl p hp (okM m) (okM_of m hm hm2)) m _ _ _ (ck_hid _ A c _ (pack_lt l)) (fun V => isDiv_any m V) (fun V hV => getLeast_l l hl m hm (by omega) A c p hp V hV)
theorem rcode_l (l : List Bool) (hl : l.length ≤ 8192) (m : Nat) (hm : 1 ≤ m) (hm2 : m ≤ 1099511627776) (A : Option Addr) (c p : Nat) (hp : p ≤ l.length) (w : World) (h : Rd w w.heap.size A (pack l)) :
    Calls Try.prog 38 #[.agg #[.int .i64 (l.length : Int), .slice A (pack l).length c], .int .i64 (p : Int), .int .u64 (m : Int)] w (ReadP w (golR l p m).1 (golR l p m).2.1 (golR l p m).2.2) := by
  have he := rcE_ok l hl p hp (okM m) (okM_of m hm hm2)
  have hc := ck_hid (l.length : Int) A c (pack l) (pack_lt l)
  have ho : Hid (∀ V, Calls Try.prog 74 #[.int .u64 (m : Int)] V fun e w' => e = .returned (.bool (okM m)) ∧ V = w') := fun V => isDiv_any m V
  have hu : Hid (∀ V, Rd V V.heap.size A (pack l) → Calls Try.prog 34 #[.agg #[.int .i64 (l.length : Int), .slice A (pack l).length c], .int .i64 (p : Int)] V (ReadP V (uR l p).1 (uR l p).2.1 (uR l p).2.2)) := fun V hV => readU_l l hl A c p hp V hV
  have hb := uR_bound l p hp
  unfold golR
  generalize uR l p = u at *
  obtain ⟨q, fr, eu⟩ := u
  simp only at hb hu ⊢
  by_cases h0 : eu = 0
  · subst h0
    rw [if_neg (by simp)]
    by_cases h1 : 8128 ≤ q
    · rw [if_pos h1]
      exact rcode_q _ A c _ (pack l) _ w h _ _ he m q fr h1 (by omega) hc ho hu
    · rw [if_neg h1]
      have hg : Hid (∀ V, Rd V V.heap.size A (pack l) → Calls Try.prog 77 #[.agg #[.int .i64 (l.length : Int), .slice A (pack l).length c], .int .i64 (fr : Int), .int .u64 (m : Int)] V (ReadP V (lstR l fr m).1 (lstR l fr m).2.1 (lstR l fr m).2.2)) := fun V hV => getLeast_l l hl m hm (by omega) A c fr (by omega) V hV
      have hlb := lstR_bound l fr m hm (by omega)
      have hy : q * m ≤ 8128 * 1099511627776 := Nat.mul_le_mul (by omega) hm2
      unfold remR
      simp only
      generalize lstR l fr m = v at *
      obtain ⟨r, to, er⟩ := v
      simp only at hlb hg ⊢
      by_cases h2 : er = 0
      · subst h2
        rw [if_neg (by simp)]
        by_cases h3 : 1099511627776 < q * m + r
        · rw [if_pos h3]
          exact rcode_o _ A c _ (pack l) _ w h _ _ he m q fr r _ (by omega) (by omega) hm2 rfl (by omega) (by omega) to h3 hc ho hu hg
        · rw [if_neg h3]
          exact rcode_k _ A c _ (pack l) _ w h _ _ he m q fr r _ (by omega) (by omega) hm2 rfl (by omega) (by omega) to _ rfl (Nat.not_lt.1 h3) hc ho hu hg
      · rw [if_pos h2]
        exact rcode_s _ A c _ (pack l) _ w h _ _ he m q fr r _ (by omega) (by omega) hm2 rfl (by omega) (by omega) to er h2 hc ho hu hg
  · rw [if_pos h0]
    exact rcode_u _ A c _ (pack l) _ w h _ _ he m q fr (by omega) eu h0 hc ho hu
theorem rzeta_l (l : List Bool) (hl : l.length ≤ 8192) (k : Nat) (hk : 1 ≤ k) (hk2 : k ≤ 16) (A : Option Addr) (c p : Nat) (hp : p ≤ l.length) (w : World) (h : Rd w w.heap.size A (pack l)) :
    Calls Try.prog 45 #[.agg #[.int .i64 (l.length : Int), .slice A (pack l).length c], .int .i64 (p : Int), .int .i64 (k : Int)] w (ReadP w (zetR l p k).1 (zetR l p k).2.1 (zetR l p k).2.2) := by
  have he := rcE_ok l hl p hp (okK (k : Int)) (by unfold okK; simp; omega)
  have hc := ck_hid (l.length : Int) A c (pack l) (pack_lt l)
  have ho : Hid (∀ V, Calls Try.prog 79 #[.int .i64 (k : Int)] V fun e w' => e = .returned (.bool (okK (k : Int))) ∧ V = w') := fun V => isK_any (k : Int) V
  have hu : Hid (∀ V, Rd V V.heap.size A (pack l) → Calls Try.prog 34 #[.agg #[.int .i64 (l.length : Int), .slice A (pack l).length c], .int .i64 (p : Int)] V (ReadP V (uR l p).1 (uR l p).2.1 (uR l p).2.2)) := fun V hV => readU_l l hl A c p hp V hV
  have hb := uR_bound l p hp
  unfold zetR
  generalize uR l p = u at *
  obtain ⟨q, fr, eu⟩ := u
  simp only at hb hu ⊢
  have hqk : q * k ≤ 8192 * 16 := Nat.mul_le_mul (by omega) hk2
  by_cases h0 : eu = 0
  · subst h0
    rw [if_neg (by simp)]
    by_cases h1 : 40 < q * k
    · rw [if_pos h1]
      exact rzeta_q _ A c _ (pack l) _ w h _ _ he k q fr _ hk2 (by omega) rfl (by omega) h1 hc ho hu
    · rw [if_neg h1]
      have zp := zq_pos q k hk
      have zl := zq_le q k (by omega) hk2
      have hq40 : q ≤ 40 := Nat.le_trans (Nat.le_mul_of_pos_right q (by omega)) (Nat.not_lt.1 h1)
      have hp1 := Nat.pow_le_pow_right (n := 2) (by omega) (show q * k ≤ 40 by omega)
      have hp2 := Nat.two_pow_pos (q * k)
      have hp3 := Nat.pow_le_pow_right (n := 2) (by omega) (show q * k ≤ q * k + k by omega)
      have hst : Hid (∀ V, Calls Try.prog 81 #[.int .i64 ((q * k : Nat) : Int), .int .i64 (k : Int)] V fun e w' => e = .returned (.tuple #[.int .u64 ((2 ^ (q * k) : Nat) : Int), .int .u64 ((zq q k : Nat) : Int)]) ∧ Below V.heap.size V w') := fun V => stretch_any _ k _ _ (by omega) hk2 rfl (by unfold zq; omega) V
      have hg : Hid (∀ V, Rd V V.heap.size A (pack l) → Calls Try.prog 77 #[.agg #[.int .i64 (l.length : Int), .slice A (pack l).length c], .int .i64 (fr : Int), .int .u64 ((zq q k : Nat) : Int)] V (ReadP V (lstR l fr (zq q k)).1 (lstR l fr (zq q k)).2.1 (lstR l fr (zq q k)).2.2)) := fun V hV => getLeast_l l hl (zq q k) zp zl A c fr (by omega) V hV
      have hlb := lstR_bound l fr (zq q k) zp (by omega)
      unfold remR
      simp only
      generalize lstR l fr (zq q k) = v at *
      obtain ⟨r, to, er⟩ := v
      simp only at hlb hg ⊢
      generalize 2 ^ (q * k) = f at *
      by_cases h2 : er = 0
      · subst h2
        rw [if_neg (by simp)]
        by_cases h3 : 1099511627776 < f + r - 1
        · rw [if_pos h3]
          exact rzeta_o _ A c _ (pack l) _ w h _ _ he k q fr _ f (zq q k) r hk2 hq40 (by omega) rfl (by omega) (by omega) (by omega) (by omega) to h3 hc ho hu hst hg
        · rw [if_neg h3]
          exact rzeta_k _ A c _ (pack l) _ w h _ _ he k q fr _ f (zq q k) r hk2 hq40 (by omega) rfl (by omega) (by omega) (by omega) (by omega) to _ (by omega) (Nat.not_lt.1 h3) hc ho hu hst hg
      · rw [if_pos h2]
        exact rzeta_s _ A c _ (pack l) _ w h _ _ he k q fr _ f (zq q k) r hk2 hq40 (by omega) rfl (by omega) (by omega) (by omega) (by omega) to er h2 hc ho hu hst hg
  · rw [if_pos h0]
    exact rzeta_u _ A c _ (pack l) _ w h _ _ he (k : Int) q fr (by omega) eu h0 (by omega) hc ho hu
end Go.Proofs.Ytcacbekdghlncaa
