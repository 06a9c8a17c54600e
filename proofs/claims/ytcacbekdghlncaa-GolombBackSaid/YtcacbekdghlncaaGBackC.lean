/- The closures of the law GolombBack, in letters. -/
import Derived.Test.YtcacbekdghlncaaGBegun
import Derived.Test.YtcacbekdghlncaaEBackB
import Derived.Test.YtcacbekdghlncaaGApart
namespace Go.Proofs.Ytcacbekdghlncaa
set_option maxRecDepth 100000
set_option linter.unusedVariables false
open Go.RowKit

set_option maxHeartbeats 600000 in
theorem gb_2 (lJ m : Int) (nJ pm : Nat) (bJ : List Nat) (r1 r2 : Nat) (r3 : Int) (A : Option Addr) (c : Nat) (w : World) (hA : Rd w w.heap.size A bJ) (hm : w.cell? ⟨pm, 0, none⟩ = some (.int .u64 m)) (hz : pm < w.heap.size)
    (HR : Hid (∀ V, Rd V V.heap.size A bJ → Calls Try.prog 37 #[.agg #[.int .i64 lJ, .slice A nJ c], .int .i64 0, .int .u64 m] V (ReadP V r1 r2 r3))) :
    Calls Try.prog 49 #[.agg #[.int .i64 lJ, .slice A nJ c], .pointer (some ⟨pm, 0, none⟩)] w (ReadP w r1 r2 r3) := by
  have HA := Lib.hid hA; clear hA
  go_enter Try.func49, Try.ntmps49
  go_wp2_with fail
  refine (HR.out _ (HA.out.on (one_below _ _))).mono ?_
  rintro e w1 ⟨rfl, B1⟩
  have HB : Hid (Below w.heap.size w w1) := (one_below w _).trans (B1.mono (by rw [World.size_alloc]; omega))
  clear B1
  go_wp2
  go_ret3
  exact ⟨rfl, HB.out⟩
set_option maxHeartbeats 600000 in
theorem gb_3 (lJ m : Int) (nJ pm : Nat) (bJ : List Nat) (r1 r2 : Nat) (r3 : Int) (A : Option Addr) (c : Nat) (w : World) (hA : Rd w w.heap.size A bJ) (hm : w.cell? ⟨pm, 0, none⟩ = some (.int .u64 m)) (hz : pm < w.heap.size)
    (HR : Hid (∀ V, Rd V V.heap.size A bJ → Calls Try.prog 38 #[.agg #[.int .i64 lJ, .slice A nJ c], .int .i64 0, .int .u64 m] V (ReadP V r1 r2 r3))) :
    Calls Try.prog 50 #[.agg #[.int .i64 lJ, .slice A nJ c], .pointer (some ⟨pm, 0, none⟩)] w (ReadP w r1 r2 r3) := by
  have HA := Lib.hid hA; clear hA
  go_enter Try.func50, Try.ntmps50
  go_wp2_with fail
  refine (HR.out _ (HA.out.on (one_below _ _))).mono ?_
  rintro e w1 ⟨rfl, B1⟩
  have HB : Hid (Below w.heap.size w w1) := (one_below w _).trans (B1.mono (by rw [World.size_alloc]; omega))
  clear B1
  go_wp2
  go_ret3
  exact ⟨rfl, HB.out⟩
set_option maxHeartbeats 600000 in
theorem gb_4 (lJ m : Int) (nJ pm : Nat) (bJ : List Nat) (r1 r2 : Nat) (r3 : Int) (A : Option Addr) (c : Nat) (w : World) (hA : Rd w w.heap.size A bJ) (hm : w.cell? ⟨pm, 0, none⟩ = some (.int .i64 m)) (hz : pm < w.heap.size)
    (HR : Hid (∀ V, Rd V V.heap.size A bJ → Calls Try.prog 45 #[.agg #[.int .i64 lJ, .slice A nJ c], .int .i64 0, .int .i64 m] V (ReadP V r1 r2 r3))) :
    Calls Try.prog 51 #[.agg #[.int .i64 lJ, .slice A nJ c], .pointer (some ⟨pm, 0, none⟩)] w (ReadP w r1 r2 r3) := by
  have HA := Lib.hid hA; clear hA
  go_enter Try.func51, Try.ntmps51
  go_wp2_with fail
  refine (HR.out _ (HA.out.on (one_below _ _))).mono ?_
  rintro e w1 ⟨rfl, B1⟩
  have HB : Hid (Below w.heap.size w w1) := (one_below w _).trans (B1.mono (by rw [World.size_alloc]; omega))
  clear B1
  go_wp2
  go_ret3
  exact ⟨rfl, HB.out⟩
set_option maxHeartbeats 600000 in
theorem gb1_e2 (lC len : Int) (n nC N pb pn pm : Nat) (bC bs : List Nat) (A B : Option Addr) (c d : Nat) (w : World) (hA : Rd w w.heap.size A bC) (hB : Rd w w.heap.size B bs) (b0 : w.cell? ⟨pb, 0, none⟩ = some (.int .i64 len)) (b1 : w.cell? ⟨pb, 1, none⟩ = some (.slice B N d)) (n0 : w.cell? ⟨pn, 0, none⟩ = some (.int .u64 (n : Int))) (zb : pb < w.heap.size) (zn : pn < w.heap.size) (e0 ej : Int) (lJ : Int) (nJ : Nat) (bJ : List Nat) (h0 : e0 ≠ 0) (hC : lC = 0) (hC2 : nC = 0) (hC3 : bC = [])
    (HJ : Hid (∀ A B c d V, Rd V V.heap.size A bC → Rd V V.heap.size B bs → Calls Try.prog 30 #[.agg #[.int .i64 lC, .slice A nC c], .agg #[.int .i64 len, .slice B N d]] V (Gv V lJ nJ bJ ej))) :
    Calls Try.prog 48 #[.agg #[.int .i64 lC, .slice A nC c], .int .i64 e0, .func (.func 49) #[] #[.pointer (some ⟨pm, 0, none⟩)], .pointer (some ⟨pb, 0, none⟩), .pointer (some ⟨pn, 0, none⟩)] w fun e w' => e = .returned (.bool true) ∧ Below w.heap.size w w' := by
  have HA := Lib.hid hA; clear hA
  have HD := Lib.hid hB; clear hB
  subst hC hC2 hC3
  have t0 : (e0 != 0) = true := by simpa using h0
  have t1 : (e0 == 0) = false := by simpa using h0
  go_enter Try.func48, Try.ntmps48
  go_wp2_with fail
  refine (HJ.out A B c d _ (HA.out.on (one_below _ _)) (HD.out.on (one_below _ _))).mono ?_
  rintro e w1 ⟨A1, c1, rfl, R1, B1⟩
  have HB : Hid (Below w.heap.size w w1) := (one_below w _).trans (B1.mono (by rw [World.size_alloc]; omega))
  rw [World.size_alloc] at B1
  have hz0 := B1.size
  rw [World.size_alloc] at hz0
  have zc : w.heap.size < w1.heap.size := by omega
  obtain ⟨p1, q1⟩ := box_at B1
  have HR1 := Lib.hid R1
  have n1 := (HB.out.cell (p := ⟨pn, 0, none⟩) zn).trans n0
  have zn1 : pn < w1.heap.size := by omega
  clear R1 B1 n0 b0 b1 hz0
  go_wp2_with fail
  refine (same_0 A none c 0 _ (HA.out.on (HB.out.trans ((one_below w1 _).mono HB.out.size)))).mono ?_
  rintro e w2 ⟨rfl, B2⟩
  rw [World.size_alloc] at B2
  have HB2 : Hid (Below w.heap.size w w2) := HB.out.trans (((one_below w1 _).trans (B2.mono (by omega))).mono HB.out.size)
  clear B2
  go_wp2
  go_ret
  exact ⟨rfl, HB2.out⟩
set_option maxHeartbeats 600000 in
theorem gb1_j2 (lC len : Int) (n nC N pb pn pm : Nat) (bC bs : List Nat) (A B : Option Addr) (c d : Nat) (w : World) (hA : Rd w w.heap.size A bC) (hB : Rd w w.heap.size B bs) (b0 : w.cell? ⟨pb, 0, none⟩ = some (.int .i64 len)) (b1 : w.cell? ⟨pb, 1, none⟩ = some (.slice B N d)) (n0 : w.cell? ⟨pn, 0, none⟩ = some (.int .u64 (n : Int))) (zb : pb < w.heap.size) (zn : pn < w.heap.size) (ej : Int) (h0 : ej ≠ 0)
    (HJ : Hid (∀ A B c d V, Rd V V.heap.size A bC → Rd V V.heap.size B bs → Calls Try.prog 30 #[.agg #[.int .i64 lC, .slice A nC c], .agg #[.int .i64 len, .slice B N d]] V (Gv V 0 0 [] ej))) :
    Calls Try.prog 48 #[.agg #[.int .i64 lC, .slice A nC c], .int .i64 0, .func (.func 49) #[] #[.pointer (some ⟨pm, 0, none⟩)], .pointer (some ⟨pb, 0, none⟩), .pointer (some ⟨pn, 0, none⟩)] w fun e w' => e = .returned (.bool true) ∧ Below w.heap.size w w' := by
  have HA := Lib.hid hA; clear hA
  have HD := Lib.hid hB; clear hB
  have t0 : (ej != 0) = true := by simpa using h0
  go_enter Try.func48, Try.ntmps48
  go_wp2_with fail
  refine (HJ.out A B c d _ (HA.out.on (one_below _ _)) (HD.out.on (one_below _ _))).mono ?_
  rintro e w1 ⟨A1, c1, rfl, R1, B1⟩
  have HB : Hid (Below w.heap.size w w1) := (one_below w _).trans (B1.mono (by rw [World.size_alloc]; omega))
  rw [World.size_alloc] at B1
  have hz0 := B1.size
  rw [World.size_alloc] at hz0
  have zc : w.heap.size < w1.heap.size := by omega
  obtain ⟨p1, q1⟩ := box_at B1
  have HR1 := Lib.hid R1
  have n1 := (HB.out.cell (p := ⟨pn, 0, none⟩) zn).trans n0
  have zn1 : pn < w1.heap.size := by omega
  clear R1 B1 n0 b0 b1 hz0
  go_wp2
  go_ret
  exact ⟨rfl, HB.out.alloc HB.out.size _⟩
set_option maxHeartbeats 600000 in
theorem gb1_k2 (lC len : Int) (n nC N pb pn pm : Nat) (bC bs : List Nat) (A B : Option Addr) (c d : Nat) (w : World) (hA : Rd w w.heap.size A bC) (hB : Rd w w.heap.size B bs) (b0 : w.cell? ⟨pb, 0, none⟩ = some (.int .i64 len)) (b1 : w.cell? ⟨pb, 1, none⟩ = some (.slice B N d)) (n0 : w.cell? ⟨pn, 0, none⟩ = some (.int .u64 (n : Int))) (zb : pb < w.heap.size) (zn : pn < w.heap.size) (lJ : Int) (nJ : Nat) (bJ : List Nat) (lc : Nat) (hlc : lC = (lc : Int))
    (HJ : Hid (∀ A B c d V, Rd V V.heap.size A bC → Rd V V.heap.size B bs → Calls Try.prog 30 #[.agg #[.int .i64 lC, .slice A nC c], .agg #[.int .i64 len, .slice B N d]] V (Gv V lJ nJ bJ 0)))
    (HR : Hid (∀ A c V, Rd V V.heap.size A bJ → Below w.heap.size w V → Calls Try.prog 49 #[.agg #[.int .i64 lJ, .slice A nJ c], .pointer (some ⟨pm, 0, none⟩)] V (ReadP V n lc 0))) :
    Calls Try.prog 48 #[.agg #[.int .i64 lC, .slice A nC c], .int .i64 0, .func (.func 49) #[] #[.pointer (some ⟨pm, 0, none⟩)], .pointer (some ⟨pb, 0, none⟩), .pointer (some ⟨pn, 0, none⟩)] w fun e w' => e = .returned (.bool true) ∧ Below w.heap.size w w' := by
  have HA := Lib.hid hA; clear hA
  have HD := Lib.hid hB; clear hB
  subst hlc
  go_enter Try.func48, Try.ntmps48
  go_wp2_with fail
  refine (HJ.out A B c d _ (HA.out.on (one_below _ _)) (HD.out.on (one_below _ _))).mono ?_
  rintro e w1 ⟨A1, c1, rfl, R1, B1⟩
  have HB : Hid (Below w.heap.size w w1) := (one_below w _).trans (B1.mono (by rw [World.size_alloc]; omega))
  rw [World.size_alloc] at B1
  have hz0 := B1.size
  rw [World.size_alloc] at hz0
  have zc : w.heap.size < w1.heap.size := by omega
  obtain ⟨p1, q1⟩ := box_at B1
  have HR1 := Lib.hid R1
  have n1 := (HB.out.cell (p := ⟨pn, 0, none⟩) zn).trans n0
  have zn1 : pn < w1.heap.size := by omega
  clear R1 B1 n0 b0 b1 hz0
  go_wp2_with fail
  refine (HR.out A1 c1 _ (HR1.out.on (one_below _ _)) (HB.out.trans ((one_below w1 _).mono HB.out.size))).mono ?_
  rintro e w2 ⟨rfl, B2⟩
  rw [World.size_alloc] at B2
  have b12 : Below w1.heap.size w1 w2 := (one_below w1 _).trans (B2.mono (by omega))
  have HB2 : Hid (Below w.heap.size w w2) := HB.out.trans (b12.mono HB.out.size)
  have p2 := (b12.cell (p := ⟨w.heap.size, 0, none⟩) zc).trans p1
  have n2 := (b12.cell (p := ⟨pn, 0, none⟩) zn1).trans n1
  clear B2 b12 p1 q1 n1
  go_wp2
  go_ret
  exact ⟨rfl, HB2.out⟩
set_option maxHeartbeats 600000 in
theorem gb1_e3 (lC len : Int) (n nC N pb pn pm : Nat) (bC bs : List Nat) (A B : Option Addr) (c d : Nat) (w : World) (hA : Rd w w.heap.size A bC) (hB : Rd w w.heap.size B bs) (b0 : w.cell? ⟨pb, 0, none⟩ = some (.int .i64 len)) (b1 : w.cell? ⟨pb, 1, none⟩ = some (.slice B N d)) (n0 : w.cell? ⟨pn, 0, none⟩ = some (.int .u64 (n : Int))) (zb : pb < w.heap.size) (zn : pn < w.heap.size) (e0 ej : Int) (lJ : Int) (nJ : Nat) (bJ : List Nat) (h0 : e0 ≠ 0) (hC : lC = 0) (hC2 : nC = 0) (hC3 : bC = [])
    (HJ : Hid (∀ A B c d V, Rd V V.heap.size A bC → Rd V V.heap.size B bs → Calls Try.prog 30 #[.agg #[.int .i64 lC, .slice A nC c], .agg #[.int .i64 len, .slice B N d]] V (Gv V lJ nJ bJ ej))) :
    Calls Try.prog 48 #[.agg #[.int .i64 lC, .slice A nC c], .int .i64 e0, .func (.func 50) #[] #[.pointer (some ⟨pm, 0, none⟩)], .pointer (some ⟨pb, 0, none⟩), .pointer (some ⟨pn, 0, none⟩)] w fun e w' => e = .returned (.bool true) ∧ Below w.heap.size w w' := by
  have HA := Lib.hid hA; clear hA
  have HD := Lib.hid hB; clear hB
  subst hC hC2 hC3
  have t0 : (e0 != 0) = true := by simpa using h0
  have t1 : (e0 == 0) = false := by simpa using h0
  go_enter Try.func48, Try.ntmps48
  go_wp2_with fail
  refine (HJ.out A B c d _ (HA.out.on (one_below _ _)) (HD.out.on (one_below _ _))).mono ?_
  rintro e w1 ⟨A1, c1, rfl, R1, B1⟩
  have HB : Hid (Below w.heap.size w w1) := (one_below w _).trans (B1.mono (by rw [World.size_alloc]; omega))
  rw [World.size_alloc] at B1
  have hz0 := B1.size
  rw [World.size_alloc] at hz0
  have zc : w.heap.size < w1.heap.size := by omega
  obtain ⟨p1, q1⟩ := box_at B1
  have HR1 := Lib.hid R1
  have n1 := (HB.out.cell (p := ⟨pn, 0, none⟩) zn).trans n0
  have zn1 : pn < w1.heap.size := by omega
  clear R1 B1 n0 b0 b1 hz0
  go_wp2_with fail
  refine (same_0 A none c 0 _ (HA.out.on (HB.out.trans ((one_below w1 _).mono HB.out.size)))).mono ?_
  rintro e w2 ⟨rfl, B2⟩
  rw [World.size_alloc] at B2
  have HB2 : Hid (Below w.heap.size w w2) := HB.out.trans (((one_below w1 _).trans (B2.mono (by omega))).mono HB.out.size)
  clear B2
  go_wp2
  go_ret
  exact ⟨rfl, HB2.out⟩
set_option maxHeartbeats 600000 in
theorem gb1_j3 (lC len : Int) (n nC N pb pn pm : Nat) (bC bs : List Nat) (A B : Option Addr) (c d : Nat) (w : World) (hA : Rd w w.heap.size A bC) (hB : Rd w w.heap.size B bs) (b0 : w.cell? ⟨pb, 0, none⟩ = some (.int .i64 len)) (b1 : w.cell? ⟨pb, 1, none⟩ = some (.slice B N d)) (n0 : w.cell? ⟨pn, 0, none⟩ = some (.int .u64 (n : Int))) (zb : pb < w.heap.size) (zn : pn < w.heap.size) (ej : Int) (h0 : ej ≠ 0)
    (HJ : Hid (∀ A B c d V, Rd V V.heap.size A bC → Rd V V.heap.size B bs → Calls Try.prog 30 #[.agg #[.int .i64 lC, .slice A nC c], .agg #[.int .i64 len, .slice B N d]] V (Gv V 0 0 [] ej))) :
    Calls Try.prog 48 #[.agg #[.int .i64 lC, .slice A nC c], .int .i64 0, .func (.func 50) #[] #[.pointer (some ⟨pm, 0, none⟩)], .pointer (some ⟨pb, 0, none⟩), .pointer (some ⟨pn, 0, none⟩)] w fun e w' => e = .returned (.bool true) ∧ Below w.heap.size w w' := by
  have HA := Lib.hid hA; clear hA
  have HD := Lib.hid hB; clear hB
  have t0 : (ej != 0) = true := by simpa using h0
  go_enter Try.func48, Try.ntmps48
  go_wp2_with fail
  refine (HJ.out A B c d _ (HA.out.on (one_below _ _)) (HD.out.on (one_below _ _))).mono ?_
  rintro e w1 ⟨A1, c1, rfl, R1, B1⟩
  have HB : Hid (Below w.heap.size w w1) := (one_below w _).trans (B1.mono (by rw [World.size_alloc]; omega))
  rw [World.size_alloc] at B1
  have hz0 := B1.size
  rw [World.size_alloc] at hz0
  have zc : w.heap.size < w1.heap.size := by omega
  obtain ⟨p1, q1⟩ := box_at B1
  have HR1 := Lib.hid R1
  have n1 := (HB.out.cell (p := ⟨pn, 0, none⟩) zn).trans n0
  have zn1 : pn < w1.heap.size := by omega
  clear R1 B1 n0 b0 b1 hz0
  go_wp2
  go_ret
  exact ⟨rfl, HB.out.alloc HB.out.size _⟩
set_option maxHeartbeats 600000 in
theorem gb1_k3 (lC len : Int) (n nC N pb pn pm : Nat) (bC bs : List Nat) (A B : Option Addr) (c d : Nat) (w : World) (hA : Rd w w.heap.size A bC) (hB : Rd w w.heap.size B bs) (b0 : w.cell? ⟨pb, 0, none⟩ = some (.int .i64 len)) (b1 : w.cell? ⟨pb, 1, none⟩ = some (.slice B N d)) (n0 : w.cell? ⟨pn, 0, none⟩ = some (.int .u64 (n : Int))) (zb : pb < w.heap.size) (zn : pn < w.heap.size) (lJ : Int) (nJ : Nat) (bJ : List Nat) (lc : Nat) (hlc : lC = (lc : Int))
    (HJ : Hid (∀ A B c d V, Rd V V.heap.size A bC → Rd V V.heap.size B bs → Calls Try.prog 30 #[.agg #[.int .i64 lC, .slice A nC c], .agg #[.int .i64 len, .slice B N d]] V (Gv V lJ nJ bJ 0)))
    (HR : Hid (∀ A c V, Rd V V.heap.size A bJ → Below w.heap.size w V → Calls Try.prog 50 #[.agg #[.int .i64 lJ, .slice A nJ c], .pointer (some ⟨pm, 0, none⟩)] V (ReadP V n lc 0))) :
    Calls Try.prog 48 #[.agg #[.int .i64 lC, .slice A nC c], .int .i64 0, .func (.func 50) #[] #[.pointer (some ⟨pm, 0, none⟩)], .pointer (some ⟨pb, 0, none⟩), .pointer (some ⟨pn, 0, none⟩)] w fun e w' => e = .returned (.bool true) ∧ Below w.heap.size w w' := by
  have HA := Lib.hid hA; clear hA
  have HD := Lib.hid hB; clear hB
  subst hlc
  go_enter Try.func48, Try.ntmps48
  go_wp2_with fail
  refine (HJ.out A B c d _ (HA.out.on (one_below _ _)) (HD.out.on (one_below _ _))).mono ?_
  rintro e w1 ⟨A1, c1, rfl, R1, B1⟩
  have HB : Hid (Below w.heap.size w w1) := (one_below w _).trans (B1.mono (by rw [World.size_alloc]; omega))
  rw [World.size_alloc] at B1
  have hz0 := B1.size
  rw [World.size_alloc] at hz0
  have zc : w.heap.size < w1.heap.size := by omega
  obtain ⟨p1, q1⟩ := box_at B1
  have HR1 := Lib.hid R1
  have n1 := (HB.out.cell (p := ⟨pn, 0, none⟩) zn).trans n0
  have zn1 : pn < w1.heap.size := by omega
  clear R1 B1 n0 b0 b1 hz0
  go_wp2_with fail
  refine (HR.out A1 c1 _ (HR1.out.on (one_below _ _)) (HB.out.trans ((one_below w1 _).mono HB.out.size))).mono ?_
  rintro e w2 ⟨rfl, B2⟩
  rw [World.size_alloc] at B2
  have b12 : Below w1.heap.size w1 w2 := (one_below w1 _).trans (B2.mono (by omega))
  have HB2 : Hid (Below w.heap.size w w2) := HB.out.trans (b12.mono HB.out.size)
  have p2 := (b12.cell (p := ⟨w.heap.size, 0, none⟩) zc).trans p1
  have n2 := (b12.cell (p := ⟨pn, 0, none⟩) zn1).trans n1
  clear B2 b12 p1 q1 n1
  go_wp2
  go_ret
  exact ⟨rfl, HB2.out⟩
set_option maxHeartbeats 600000 in
theorem gb1_e4 (lC len : Int) (n nC N pb pn pm : Nat) (bC bs : List Nat) (A B : Option Addr) (c d : Nat) (w : World) (hA : Rd w w.heap.size A bC) (hB : Rd w w.heap.size B bs) (b0 : w.cell? ⟨pb, 0, none⟩ = some (.int .i64 len)) (b1 : w.cell? ⟨pb, 1, none⟩ = some (.slice B N d)) (n0 : w.cell? ⟨pn, 0, none⟩ = some (.int .u64 (n : Int))) (zb : pb < w.heap.size) (zn : pn < w.heap.size) (e0 ej : Int) (lJ : Int) (nJ : Nat) (bJ : List Nat) (h0 : e0 ≠ 0) (hC : lC = 0) (hC2 : nC = 0) (hC3 : bC = [])
    (HJ : Hid (∀ A B c d V, Rd V V.heap.size A bC → Rd V V.heap.size B bs → Calls Try.prog 30 #[.agg #[.int .i64 lC, .slice A nC c], .agg #[.int .i64 len, .slice B N d]] V (Gv V lJ nJ bJ ej))) :
    Calls Try.prog 48 #[.agg #[.int .i64 lC, .slice A nC c], .int .i64 e0, .func (.func 51) #[] #[.pointer (some ⟨pm, 0, none⟩)], .pointer (some ⟨pb, 0, none⟩), .pointer (some ⟨pn, 0, none⟩)] w fun e w' => e = .returned (.bool true) ∧ Below w.heap.size w w' := by
  have HA := Lib.hid hA; clear hA
  have HD := Lib.hid hB; clear hB
  subst hC hC2 hC3
  have t0 : (e0 != 0) = true := by simpa using h0
  have t1 : (e0 == 0) = false := by simpa using h0
  go_enter Try.func48, Try.ntmps48
  go_wp2_with fail
  refine (HJ.out A B c d _ (HA.out.on (one_below _ _)) (HD.out.on (one_below _ _))).mono ?_
  rintro e w1 ⟨A1, c1, rfl, R1, B1⟩
  have HB : Hid (Below w.heap.size w w1) := (one_below w _).trans (B1.mono (by rw [World.size_alloc]; omega))
  rw [World.size_alloc] at B1
  have hz0 := B1.size
  rw [World.size_alloc] at hz0
  have zc : w.heap.size < w1.heap.size := by omega
  obtain ⟨p1, q1⟩ := box_at B1
  have HR1 := Lib.hid R1
  have n1 := (HB.out.cell (p := ⟨pn, 0, none⟩) zn).trans n0
  have zn1 : pn < w1.heap.size := by omega
  clear R1 B1 n0 b0 b1 hz0
  go_wp2_with fail
  refine (same_0 A none c 0 _ (HA.out.on (HB.out.trans ((one_below w1 _).mono HB.out.size)))).mono ?_
  rintro e w2 ⟨rfl, B2⟩
  rw [World.size_alloc] at B2
  have HB2 : Hid (Below w.heap.size w w2) := HB.out.trans (((one_below w1 _).trans (B2.mono (by omega))).mono HB.out.size)
  clear B2
  go_wp2
  go_ret
  exact ⟨rfl, HB2.out⟩
set_option maxHeartbeats 600000 in
theorem gb1_j4 (lC len : Int) (n nC N pb pn pm : Nat) (bC bs : List Nat) (A B : Option Addr) (c d : Nat) (w : World) (hA : Rd w w.heap.size A bC) (hB : Rd w w.heap.size B bs) (b0 : w.cell? ⟨pb, 0, none⟩ = some (.int .i64 len)) (b1 : w.cell? ⟨pb, 1, none⟩ = some (.slice B N d)) (n0 : w.cell? ⟨pn, 0, none⟩ = some (.int .u64 (n : Int))) (zb : pb < w.heap.size) (zn : pn < w.heap.size) (ej : Int) (h0 : ej ≠ 0)
    (HJ : Hid (∀ A B c d V, Rd V V.heap.size A bC → Rd V V.heap.size B bs → Calls Try.prog 30 #[.agg #[.int .i64 lC, .slice A nC c], .agg #[.int .i64 len, .slice B N d]] V (Gv V 0 0 [] ej))) :
    Calls Try.prog 48 #[.agg #[.int .i64 lC, .slice A nC c], .int .i64 0, .func (.func 51) #[] #[.pointer (some ⟨pm, 0, none⟩)], .pointer (some ⟨pb, 0, none⟩), .pointer (some ⟨pn, 0, none⟩)] w fun e w' => e = .returned (.bool true) ∧ Below w.heap.size w w' := by
  have HA := Lib.hid hA; clear hA
  have HD := Lib.hid hB; clear hB
  have t0 : (ej != 0) = true := by simpa using h0
  go_enter Try.func48, Try.ntmps48
  go_wp2_with fail
  refine (HJ.out A B c d _ (HA.out.on (one_below _ _)) (HD.out.on (one_below _ _))).mono ?_
  rintro e w1 ⟨A1, c1, rfl, R1, B1⟩
  have HB : Hid (Below w.heap.size w w1) := (one_below w _).trans (B1.mono (by rw [World.size_alloc]; omega))
  rw [World.size_alloc] at B1
  have hz0 := B1.size
  rw [World.size_alloc] at hz0
  have zc : w.heap.size < w1.heap.size := by omega
  obtain ⟨p1, q1⟩ := box_at B1
  have HR1 := Lib.hid R1
  have n1 := (HB.out.cell (p := ⟨pn, 0, none⟩) zn).trans n0
  have zn1 : pn < w1.heap.size := by omega
  clear R1 B1 n0 b0 b1 hz0
  go_wp2
  go_ret
  exact ⟨rfl, HB.out.alloc HB.out.size _⟩
set_option maxHeartbeats 600000 in
theorem gb1_k4 (lC len : Int) (n nC N pb pn pm : Nat) (bC bs : List Nat) (A B : Option Addr) (c d : Nat) (w : World) (hA : Rd w w.heap.size A bC) (hB : Rd w w.heap.size B bs) (b0 : w.cell? ⟨pb, 0, none⟩ = some (.int .i64 len)) (b1 : w.cell? ⟨pb, 1, none⟩ = some (.slice B N d)) (n0 : w.cell? ⟨pn, 0, none⟩ = some (.int .u64 (n : Int))) (zb : pb < w.heap.size) (zn : pn < w.heap.size) (lJ : Int) (nJ : Nat) (bJ : List Nat) (lc : Nat) (hlc : lC = (lc : Int))
    (HJ : Hid (∀ A B c d V, Rd V V.heap.size A bC → Rd V V.heap.size B bs → Calls Try.prog 30 #[.agg #[.int .i64 lC, .slice A nC c], .agg #[.int .i64 len, .slice B N d]] V (Gv V lJ nJ bJ 0)))
    (HR : Hid (∀ A c V, Rd V V.heap.size A bJ → Below w.heap.size w V → Calls Try.prog 51 #[.agg #[.int .i64 lJ, .slice A nJ c], .pointer (some ⟨pm, 0, none⟩)] V (ReadP V n lc 0))) :
    Calls Try.prog 48 #[.agg #[.int .i64 lC, .slice A nC c], .int .i64 0, .func (.func 51) #[] #[.pointer (some ⟨pm, 0, none⟩)], .pointer (some ⟨pb, 0, none⟩), .pointer (some ⟨pn, 0, none⟩)] w fun e w' => e = .returned (.bool true) ∧ Below w.heap.size w w' := by
  have HA := Lib.hid hA; clear hA
  have HD := Lib.hid hB; clear hB
  subst hlc
  go_enter Try.func48, Try.ntmps48
  go_wp2_with fail
  refine (HJ.out A B c d _ (HA.out.on (one_below _ _)) (HD.out.on (one_below _ _))).mono ?_
  rintro e w1 ⟨A1, c1, rfl, R1, B1⟩
  have HB : Hid (Below w.heap.size w w1) := (one_below w _).trans (B1.mono (by rw [World.size_alloc]; omega))
  rw [World.size_alloc] at B1
  have hz0 := B1.size
  rw [World.size_alloc] at hz0
  have zc : w.heap.size < w1.heap.size := by omega
  obtain ⟨p1, q1⟩ := box_at B1
  have HR1 := Lib.hid R1
  have n1 := (HB.out.cell (p := ⟨pn, 0, none⟩) zn).trans n0
  have zn1 : pn < w1.heap.size := by omega
  clear R1 B1 n0 b0 b1 hz0
  go_wp2_with fail
  refine (HR.out A1 c1 _ (HR1.out.on (one_below _ _)) (HB.out.trans ((one_below w1 _).mono HB.out.size))).mono ?_
  rintro e w2 ⟨rfl, B2⟩
  rw [World.size_alloc] at B2
  have b12 : Below w1.heap.size w1 w2 := (one_below w1 _).trans (B2.mono (by omega))
  have HB2 : Hid (Below w.heap.size w w2) := HB.out.trans (b12.mono HB.out.size)
  have p2 := (b12.cell (p := ⟨w.heap.size, 0, none⟩) zc).trans p1
  have n2 := (b12.cell (p := ⟨pn, 0, none⟩) zn1).trans n1
  clear B2 b12 p1 q1 n1
  go_wp2
  go_ret
  exact ⟨rfl, HB2.out⟩
theorem gb1_all2 (C : List Bool) (hC : C.length ≤ 8192) (e0 : Int) (heC : e0 ≠ 0 → C = []) (len : Int) (n pb pn pm : Nat) (bs : List Nat) (hb : ∀ b ∈ bs, b < 256) (A B : Option Addr) (c d : Nat) (w : World) (hA : Rd w w.heap.size A (pack C)) (hB : Rd w w.heap.size B bs) (b0 : w.cell? ⟨pb, 0, none⟩ = some (.int .i64 len)) (b1 : w.cell? ⟨pb, 1, none⟩ = some (.slice B bs.length d)) (n0 : w.cell? ⟨pn, 0, none⟩ = some (.int .u64 (n : Int))) (zb : pb < w.heap.size) (zn : pn < w.heap.size)
    (hR : e0 = 0 → ∀ (t : List Bool), (C ++ t).length ≤ 8192 → ∀ A c V, Rd V V.heap.size A (pack (C ++ t)) → Below w.heap.size w V → Calls Try.prog 49 #[.agg #[.int .i64 ((C ++ t).length : Int), .slice A (pack (C ++ t)).length c], .pointer (some ⟨pm, 0, none⟩)] V (ReadP V n C.length 0)) :
    Calls Try.prog 48 #[.agg #[.int .i64 (C.length : Int), .slice A (pack C).length c], .int .i64 e0, .func (.func 49) #[] #[.pointer (some ⟨pm, 0, none⟩)], .pointer (some ⟨pb, 0, none⟩), .pointer (some ⟨pn, 0, none⟩)] w fun e w' => e = .returned (.bool true) ∧ Below w.heap.size w w' := by
  obtain ⟨t, ht, hj⟩ := join_some C hC len bs hb
  by_cases he : e0 = 0
  · subst he
    rcases hj with ⟨ej, hej, hj⟩ | hj
    · exact gb1_j2 _ len n _ _ pb pn pm _ bs A B c d w hA hB b0 b1 n0 zb zn ej hej hj
    · exact gb1_k2 _ len n _ _ pb pn pm _ bs A B c d w hA hB b0 b1 n0 zb zn _ _ _ C.length rfl hj (fun A c V h1 h2 => hR rfl t ht A c V h1 h2)
  · have h0 := heC he
    subst h0
    rcases hj with ⟨ej, hej, hj⟩ | hj
    · exact gb1_e2 _ len n _ _ pb pn pm _ bs A B c d w hA hB b0 b1 n0 zb zn e0 ej 0 0 [] he rfl rfl rfl hj
    · exact gb1_e2 _ len n _ _ pb pn pm _ bs A B c d w hA hB b0 b1 n0 zb zn e0 0 _ _ _ he rfl rfl rfl hj
theorem gb1_all3 (C : List Bool) (hC : C.length ≤ 8192) (e0 : Int) (heC : e0 ≠ 0 → C = []) (len : Int) (n pb pn pm : Nat) (bs : List Nat) (hb : ∀ b ∈ bs, b < 256) (A B : Option Addr) (c d : Nat) (w : World) (hA : Rd w w.heap.size A (pack C)) (hB : Rd w w.heap.size B bs) (b0 : w.cell? ⟨pb, 0, none⟩ = some (.int .i64 len)) (b1 : w.cell? ⟨pb, 1, none⟩ = some (.slice B bs.length d)) (n0 : w.cell? ⟨pn, 0, none⟩ = some (.int .u64 (n : Int))) (zb : pb < w.heap.size) (zn : pn < w.heap.size)
    (hR : e0 = 0 → ∀ (t : List Bool), (C ++ t).length ≤ 8192 → ∀ A c V, Rd V V.heap.size A (pack (C ++ t)) → Below w.heap.size w V → Calls Try.prog 50 #[.agg #[.int .i64 ((C ++ t).length : Int), .slice A (pack (C ++ t)).length c], .pointer (some ⟨pm, 0, none⟩)] V (ReadP V n C.length 0)) :
    Calls Try.prog 48 #[.agg #[.int .i64 (C.length : Int), .slice A (pack C).length c], .int .i64 e0, .func (.func 50) #[] #[.pointer (some ⟨pm, 0, none⟩)], .pointer (some ⟨pb, 0, none⟩), .pointer (some ⟨pn, 0, none⟩)] w fun e w' => e = .returned (.bool true) ∧ Below w.heap.size w w' := by
  obtain ⟨t, ht, hj⟩ := join_some C hC len bs hb
  by_cases he : e0 = 0
  · subst he
    rcases hj with ⟨ej, hej, hj⟩ | hj
    · exact gb1_j3 _ len n _ _ pb pn pm _ bs A B c d w hA hB b0 b1 n0 zb zn ej hej hj
    · exact gb1_k3 _ len n _ _ pb pn pm _ bs A B c d w hA hB b0 b1 n0 zb zn _ _ _ C.length rfl hj (fun A c V h1 h2 => hR rfl t ht A c V h1 h2)
  · have h0 := heC he
    subst h0
    rcases hj with ⟨ej, hej, hj⟩ | hj
    · exact gb1_e3 _ len n _ _ pb pn pm _ bs A B c d w hA hB b0 b1 n0 zb zn e0 ej 0 0 [] he rfl rfl rfl hj
    · exact gb1_e3 _ len n _ _ pb pn pm _ bs A B c d w hA hB b0 b1 n0 zb zn e0 0 _ _ _ he rfl rfl rfl hj
theorem gb1_all4 (C : List Bool) (hC : C.length ≤ 8192) (e0 : Int) (heC : e0 ≠ 0 → C = []) (len : Int) (n pb pn pm : Nat) (bs : List Nat) (hb : ∀ b ∈ bs, b < 256) (A B : Option Addr) (c d : Nat) (w : World) (hA : Rd w w.heap.size A (pack C)) (hB : Rd w w.heap.size B bs) (b0 : w.cell? ⟨pb, 0, none⟩ = some (.int .i64 len)) (b1 : w.cell? ⟨pb, 1, none⟩ = some (.slice B bs.length d)) (n0 : w.cell? ⟨pn, 0, none⟩ = some (.int .u64 (n : Int))) (zb : pb < w.heap.size) (zn : pn < w.heap.size)
    (hR : e0 = 0 → ∀ (t : List Bool), (C ++ t).length ≤ 8192 → ∀ A c V, Rd V V.heap.size A (pack (C ++ t)) → Below w.heap.size w V → Calls Try.prog 51 #[.agg #[.int .i64 ((C ++ t).length : Int), .slice A (pack (C ++ t)).length c], .pointer (some ⟨pm, 0, none⟩)] V (ReadP V n C.length 0)) :
    Calls Try.prog 48 #[.agg #[.int .i64 (C.length : Int), .slice A (pack C).length c], .int .i64 e0, .func (.func 51) #[] #[.pointer (some ⟨pm, 0, none⟩)], .pointer (some ⟨pb, 0, none⟩), .pointer (some ⟨pn, 0, none⟩)] w fun e w' => e = .returned (.bool true) ∧ Below w.heap.size w w' := by
  obtain ⟨t, ht, hj⟩ := join_some C hC len bs hb
  by_cases he : e0 = 0
  · subst he
    rcases hj with ⟨ej, hej, hj⟩ | hj
    · exact gb1_j4 _ len n _ _ pb pn pm _ bs A B c d w hA hB b0 b1 n0 zb zn ej hej hj
    · exact gb1_k4 _ len n _ _ pb pn pm _ bs A B c d w hA hB b0 b1 n0 zb zn _ _ _ C.length rfl hj (fun A c V h1 h2 => hR rfl t ht A c V h1 h2)
  · have h0 := heC he
    subst h0
    rcases hj with ⟨ej, hej, hj⟩ | hj
    · exact gb1_e4 _ len n _ _ pb pn pm _ bs A B c d w hA hB b0 b1 n0 zb zn e0 ej 0 0 [] he rfl rfl rfl hj
    · exact gb1_e4 _ len n _ _ pb pn pm _ bs A B c d w hA hB b0 b1 n0 zb zn e0 0 _ _ _ he rfl rfl rfl hj
end Go.Proofs.Ytcacbekdghlncaa
