/- The law KraftFull, way by way and together. -/
import Derived.Test.YtlmoidblglmdgaaKLCodes
import Derived.Deep.QuietTactic
import Derived.BigQuiet
namespace Go.Proofs.Ytlmoidblglmdgaa
set_option maxRecDepth 100000
set_option linter.unusedVariables false
open Go.RowKit Go.Shelf Go.Sort

abbrev SignC (A : Option Addr) (n c : Nat) (w : World) (len : Int) (A2 : Option Addr) (N c2 : Nat) (s to : Nat) (f : Int) : Prop := ∀ V, Below w.heap.size w V → Calls Try.prog 20 #[.slice A n c, .agg #[.int .i64 len, .slice A2 N c2], .int .i64 0] V (SgP V s to f)
set_option maxHeartbeats 2000000 in
theorem lfull_k (A : Option Addr) (n c : Nat) (w : World) (len : Int) (A2 : Option Addr) (N c2 : Nat) (r k f : Int) (s to : Nat) (hR : RoomC A n c w r k) (hS : SignC A n c w len A2 N c2 s to f) (hk : k ≠ 0) :
    Calls Try.prog 7 #[.slice A n c, .agg #[.int .i64 len, .slice A2 N c2]] w fun e w' => e = .returned (.bool true) ∧ Below w.heap.size w w' := by
  have HR := Lib.hid hR; have HS := Lib.hid hS; clear hR hS
  have t0 : (k == 0) = false := by simpa using hk
  go_enter Try.func7, Try.ntmps7
  go_wp2_with fail
  generalize hV : w.alloc (.cells #[.int .i64 len, .slice A2 N c2] 26) = V0
  have HV : Hid (Below w.heap.size w V0) := hV ▸ one_below _ _
  have HVs : Hid (w.heap.size + 1 = V0.heap.size) := by show _ = _; rw [← hV, World.size_alloc]
  have HK : Hid (∀ w' : World, Below V0.heap.size V0 w' → w'.cell? ⟨w.heap.size, 0, none⟩ = some (.int .i64 len) ∧ w'.cell? ⟨w.heap.size, 1, none⟩ = some (.slice A2 N c2)) := by
    subst hV
    exact fun w' h => box_at (by rwa [World.size_alloc] at h)
  clear hV
  refine (HR.out V0 HV.out).mono ?_
  rintro e w1 ⟨rfl, b1⟩
  have HB1 := Lib.hid b1; clear b1
  obtain ⟨p1, q1⟩ := HK.out w1 HB1.out
  go_wp2_with fail
  refine (HS.out w1 (HV.out.trans (HB1.out.mono HV.out.size))).mono ?_
  rintro e w2 ⟨rfl, b2⟩
  have HB2 : Hid (Below V0.heap.size V0 w2) := HB1.out.trans (b2.mono HB1.out.size)
  clear b2 p1 q1
  go_wp2_with fail
  refine (kbegun w2).mono ?_
  rintro e w3 ⟨rfl, b3⟩
  have HB3 : Hid (Below V0.heap.size V0 w3) := HB2.out.trans (b3.mono HB2.out.size)
  clear b3
  obtain ⟨p3, q3⟩ := HK.out w3 HB3.out
  go_wp2
  go_ret
  exact ⟨rfl, HV.out.trans (HB3.out.mono HV.out.size)⟩
set_option maxHeartbeats 2000000 in
theorem lfull_neg (A : Option Addr) (n c : Nat) (w : World) (len : Int) (A2 : Option Addr) (N c2 : Nat) (r k f : Int) (s to : Nat) (hR : RoomC A n c w r k) (hS : SignC A n c w len A2 N c2 s to f) (hk : k = 0) (hr : r < 0) :
    Calls Try.prog 7 #[.slice A n c, .agg #[.int .i64 len, .slice A2 N c2]] w fun e w' => e = .returned (.bool true) ∧ Below w.heap.size w w' := by
  have HR := Lib.hid hR; have HS := Lib.hid hS; clear hR hS
  subst hk
  have t0 : decide (r < 0) = true := by simpa using hr
  go_enter Try.func7, Try.ntmps7
  go_wp2_with fail
  generalize hV : w.alloc (.cells #[.int .i64 len, .slice A2 N c2] 26) = V0
  have HV : Hid (Below w.heap.size w V0) := hV ▸ one_below _ _
  have HVs : Hid (w.heap.size + 1 = V0.heap.size) := by show _ = _; rw [← hV, World.size_alloc]
  have HK : Hid (∀ w' : World, Below V0.heap.size V0 w' → w'.cell? ⟨w.heap.size, 0, none⟩ = some (.int .i64 len) ∧ w'.cell? ⟨w.heap.size, 1, none⟩ = some (.slice A2 N c2)) := by
    subst hV
    exact fun w' h => box_at (by rwa [World.size_alloc] at h)
  clear hV
  refine (HR.out V0 HV.out).mono ?_
  rintro e w1 ⟨rfl, b1⟩
  have HB1 := Lib.hid b1; clear b1
  obtain ⟨p1, q1⟩ := HK.out w1 HB1.out
  go_wp2_with fail
  refine (HS.out w1 (HV.out.trans (HB1.out.mono HV.out.size))).mono ?_
  rintro e w2 ⟨rfl, b2⟩
  have HB2 : Hid (Below V0.heap.size V0 w2) := HB1.out.trans (b2.mono HB1.out.size)
  clear b2 p1 q1
  go_wp2_with fail
  refine (kbegun w2).mono ?_
  rintro e w3 ⟨rfl, b3⟩
  have HB3 : Hid (Below V0.heap.size V0 w3) := HB2.out.trans (b3.mono HB2.out.size)
  clear b3
  obtain ⟨p3, q3⟩ := HK.out w3 HB3.out
  go_wp2
  go_ret
  exact ⟨rfl, HV.out.trans (HB3.out.mono HV.out.size)⟩
set_option maxHeartbeats 2000000 in
theorem lfull_3 (A : Option Addr) (n c : Nat) (w : World) (len : Int) (A2 : Option Addr) (N c2 : Nat) (r k f : Int) (s to : Nat) (hR : RoomC A n c w r k) (hS : SignC A n c w len A2 N c2 s to f) (hk : k = 0) (hr : 0 ≤ r) (hf : f = 3) :
    Calls Try.prog 7 #[.slice A n c, .agg #[.int .i64 len, .slice A2 N c2]] w fun e w' => e = .returned (.bool true) ∧ Below w.heap.size w w' := by
  have HR := Lib.hid hR; have HS := Lib.hid hS; clear hR hS
  subst hk hf
  have t0 : decide (r < 0) = false := by simp; omega
  go_enter Try.func7, Try.ntmps7
  go_wp2_with fail
  generalize hV : w.alloc (.cells #[.int .i64 len, .slice A2 N c2] 26) = V0
  have HV : Hid (Below w.heap.size w V0) := hV ▸ one_below _ _
  have HVs : Hid (w.heap.size + 1 = V0.heap.size) := by show _ = _; rw [← hV, World.size_alloc]
  have HK : Hid (∀ w' : World, Below V0.heap.size V0 w' → w'.cell? ⟨w.heap.size, 0, none⟩ = some (.int .i64 len) ∧ w'.cell? ⟨w.heap.size, 1, none⟩ = some (.slice A2 N c2)) := by
    subst hV
    exact fun w' h => box_at (by rwa [World.size_alloc] at h)
  clear hV
  refine (HR.out V0 HV.out).mono ?_
  rintro e w1 ⟨rfl, b1⟩
  have HB1 := Lib.hid b1; clear b1
  obtain ⟨p1, q1⟩ := HK.out w1 HB1.out
  go_wp2_with fail
  refine (HS.out w1 (HV.out.trans (HB1.out.mono HV.out.size))).mono ?_
  rintro e w2 ⟨rfl, b2⟩
  have HB2 : Hid (Below V0.heap.size V0 w2) := HB1.out.trans (b2.mono HB1.out.size)
  clear b2 p1 q1
  go_wp2_with fail
  refine (kbegun w2).mono ?_
  rintro e w3 ⟨rfl, b3⟩
  have HB3 : Hid (Below V0.heap.size V0 w3) := HB2.out.trans (b3.mono HB2.out.size)
  clear b3
  obtain ⟨p3, q3⟩ := HK.out w3 HB3.out
  go_wp2
  go_ret
  exact ⟨rfl, HV.out.trans (HB3.out.mono HV.out.size)⟩
set_option maxHeartbeats 2000000 in
theorem lfull_1 (A : Option Addr) (n c : Nat) (w : World) (len : Int) (A2 : Option Addr) (N c2 : Nat) (r k f : Int) (s to : Nat) (hR : RoomC A n c w r k) (hS : SignC A n c w len A2 N c2 s to f) (hk : k = 0) (hr : 0 ≤ r) (hf : f = 1) :
    Calls Try.prog 7 #[.slice A n c, .agg #[.int .i64 len, .slice A2 N c2]] w fun e w' => e = .returned (.bool true) ∧ Below w.heap.size w w' := by
  have HR := Lib.hid hR; have HS := Lib.hid hS; clear hR hS
  subst hk hf
  have t0 : decide (r < 0) = false := by simp; omega
  go_enter Try.func7, Try.ntmps7
  go_wp2_with fail
  generalize hV : w.alloc (.cells #[.int .i64 len, .slice A2 N c2] 26) = V0
  have HV : Hid (Below w.heap.size w V0) := hV ▸ one_below _ _
  have HVs : Hid (w.heap.size + 1 = V0.heap.size) := by show _ = _; rw [← hV, World.size_alloc]
  have HK : Hid (∀ w' : World, Below V0.heap.size V0 w' → w'.cell? ⟨w.heap.size, 0, none⟩ = some (.int .i64 len) ∧ w'.cell? ⟨w.heap.size, 1, none⟩ = some (.slice A2 N c2)) := by
    subst hV
    exact fun w' h => box_at (by rwa [World.size_alloc] at h)
  clear hV
  refine (HR.out V0 HV.out).mono ?_
  rintro e w1 ⟨rfl, b1⟩
  have HB1 := Lib.hid b1; clear b1
  obtain ⟨p1, q1⟩ := HK.out w1 HB1.out
  go_wp2_with fail
  refine (HS.out w1 (HV.out.trans (HB1.out.mono HV.out.size))).mono ?_
  rintro e w2 ⟨rfl, b2⟩
  have HB2 : Hid (Below V0.heap.size V0 w2) := HB1.out.trans (b2.mono HB1.out.size)
  clear b2 p1 q1
  go_wp2_with fail
  refine (kbegun w2).mono ?_
  rintro e w3 ⟨rfl, b3⟩
  have HB3 : Hid (Below V0.heap.size V0 w3) := HB2.out.trans (b3.mono HB2.out.size)
  clear b3
  obtain ⟨p3, q3⟩ := HK.out w3 HB3.out
  go_wp2
  go_ret
  exact ⟨rfl, HV.out.trans (HB3.out.mono HV.out.size)⟩
set_option maxHeartbeats 2000000 in
theorem lfull_00 (A : Option Addr) (n c : Nat) (w : World) (len : Int) (A2 : Option Addr) (N c2 : Nat) (r k f : Int) (s to : Nat) (hR : RoomC A n c w r k) (hS : SignC A n c w len A2 N c2 s to f) (hk : k = 0) (hr : r = 0) (hf : f = 0) :
    Calls Try.prog 7 #[.slice A n c, .agg #[.int .i64 len, .slice A2 N c2]] w fun e w' => e = .returned (.bool true) ∧ Below w.heap.size w w' := by
  have HR := Lib.hid hR; have HS := Lib.hid hS; clear hR hS
  subst hk hf hr
  go_enter Try.func7, Try.ntmps7
  go_wp2_with fail
  generalize hV : w.alloc (.cells #[.int .i64 len, .slice A2 N c2] 26) = V0
  have HV : Hid (Below w.heap.size w V0) := hV ▸ one_below _ _
  have HVs : Hid (w.heap.size + 1 = V0.heap.size) := by show _ = _; rw [← hV, World.size_alloc]
  have HK : Hid (∀ w' : World, Below V0.heap.size V0 w' → w'.cell? ⟨w.heap.size, 0, none⟩ = some (.int .i64 len) ∧ w'.cell? ⟨w.heap.size, 1, none⟩ = some (.slice A2 N c2)) := by
    subst hV
    exact fun w' h => box_at (by rwa [World.size_alloc] at h)
  clear hV
  refine (HR.out V0 HV.out).mono ?_
  rintro e w1 ⟨rfl, b1⟩
  have HB1 := Lib.hid b1; clear b1
  obtain ⟨p1, q1⟩ := HK.out w1 HB1.out
  go_wp2_with fail
  refine (HS.out w1 (HV.out.trans (HB1.out.mono HV.out.size))).mono ?_
  rintro e w2 ⟨rfl, b2⟩
  have HB2 : Hid (Below V0.heap.size V0 w2) := HB1.out.trans (b2.mono HB1.out.size)
  clear b2 p1 q1
  go_wp2_with fail
  refine (kbegun w2).mono ?_
  rintro e w3 ⟨rfl, b3⟩
  have HB3 : Hid (Below V0.heap.size V0 w3) := HB2.out.trans (b3.mono HB2.out.size)
  clear b3
  obtain ⟨p3, q3⟩ := HK.out w3 HB3.out
  go_wp2
  go_ret
  exact ⟨rfl, HV.out.trans (HB3.out.mono HV.out.size)⟩
set_option maxHeartbeats 2000000 in
theorem lfull_07 (A : Option Addr) (n c : Nat) (w : World) (len : Int) (A2 : Option Addr) (N c2 : Nat) (r k f : Int) (s to : Nat) (hR : RoomC A n c w r k) (hS : SignC A n c w len A2 N c2 s to f) (hk : k = 0) (hr : r = 0) (hf : f = 7) (hl : len < 24) :
    Calls Try.prog 7 #[.slice A n c, .agg #[.int .i64 len, .slice A2 N c2]] w fun e w' => e = .returned (.bool true) ∧ Below w.heap.size w w' := by
  have HR := Lib.hid hR; have HS := Lib.hid hS; clear hR hS
  subst hk hf hr
  have t0 : decide (len < 24) = true := by simpa using hl
  go_enter Try.func7, Try.ntmps7
  go_wp2_with fail
  generalize hV : w.alloc (.cells #[.int .i64 len, .slice A2 N c2] 26) = V0
  have HV : Hid (Below w.heap.size w V0) := hV ▸ one_below _ _
  have HVs : Hid (w.heap.size + 1 = V0.heap.size) := by show _ = _; rw [← hV, World.size_alloc]
  have HK : Hid (∀ w' : World, Below V0.heap.size V0 w' → w'.cell? ⟨w.heap.size, 0, none⟩ = some (.int .i64 len) ∧ w'.cell? ⟨w.heap.size, 1, none⟩ = some (.slice A2 N c2)) := by
    subst hV
    exact fun w' h => box_at (by rwa [World.size_alloc] at h)
  clear hV
  refine (HR.out V0 HV.out).mono ?_
  rintro e w1 ⟨rfl, b1⟩
  have HB1 := Lib.hid b1; clear b1
  obtain ⟨p1, q1⟩ := HK.out w1 HB1.out
  go_wp2_with fail
  refine (HS.out w1 (HV.out.trans (HB1.out.mono HV.out.size))).mono ?_
  rintro e w2 ⟨rfl, b2⟩
  have HB2 : Hid (Below V0.heap.size V0 w2) := HB1.out.trans (b2.mono HB1.out.size)
  clear b2 p1 q1
  go_wp2_with fail
  refine (kbegun w2).mono ?_
  rintro e w3 ⟨rfl, b3⟩
  have HB3 : Hid (Below V0.heap.size V0 w3) := HB2.out.trans (b3.mono HB2.out.size)
  clear b3
  obtain ⟨p3, q3⟩ := HK.out w3 HB3.out
  go_wp2
  go_ret
  exact ⟨rfl, HV.out.trans (HB3.out.mono HV.out.size)⟩
set_option maxHeartbeats 2000000 in
theorem lfull_pos (A : Option Addr) (n c : Nat) (w : World) (len : Int) (A2 : Option Addr) (N c2 : Nat) (r k f : Int) (s to : Nat) (hR : RoomC A n c w r k) (hS : SignC A n c w len A2 N c2 s to f) (hk : k = 0) (hr : 0 < r) (hf : f = 0 ∨ f = 5 ∨ f = 7) (hO : ∀ V, Below w.heap.size w V → Calls Try.prog 20 #[.slice A n c, .agg #[.int .i64 24, .slice (some ⟨V.heap.size, 0, none⟩) 3 3], .int .i64 0] ((V.alloc (.cells #[.int .u8 255, .int .u8 255, .int .u8 255] 5)).alloc (.cells #[.int .i64 24, .slice (some ⟨V.heap.size, 0, none⟩) 3 3] 26)) fun e w' => e = .returned (.tuple #[.int .i64 0, .int .i64 0, .int .i64 5]) ∧ Below V.heap.size V w') :
    Calls Try.prog 7 #[.slice A n c, .agg #[.int .i64 len, .slice A2 N c2]] w fun e w' => e = .returned (.bool true) ∧ Below w.heap.size w w' := by
  have HR := Lib.hid hR; have HS := Lib.hid hS; clear hR hS
  have HO := Lib.hid hO; clear hO
  subst hk
  have t0 : decide (r < 0) = false := by simp; omega
  have t1 : (r == 0) = false := by simp; omega
  have t2 : (f == 3) = false := by simp; omega
  have t3 : (f == 1) = false := by simp; omega
  clear hf
  go_enter Try.func7, Try.ntmps7
  go_wp2_with fail
  generalize hV : w.alloc (.cells #[.int .i64 len, .slice A2 N c2] 26) = V0
  have HV : Hid (Below w.heap.size w V0) := hV ▸ one_below _ _
  have HVs : Hid (w.heap.size + 1 = V0.heap.size) := by show _ = _; rw [← hV, World.size_alloc]
  have HK : Hid (∀ w' : World, Below V0.heap.size V0 w' → w'.cell? ⟨w.heap.size, 0, none⟩ = some (.int .i64 len) ∧ w'.cell? ⟨w.heap.size, 1, none⟩ = some (.slice A2 N c2)) := by
    subst hV
    exact fun w' h => box_at (by rwa [World.size_alloc] at h)
  clear hV
  refine (HR.out V0 HV.out).mono ?_
  rintro e w1 ⟨rfl, b1⟩
  have HB1 := Lib.hid b1; clear b1
  obtain ⟨p1, q1⟩ := HK.out w1 HB1.out
  go_wp2_with fail
  refine (HS.out w1 (HV.out.trans (HB1.out.mono HV.out.size))).mono ?_
  rintro e w2 ⟨rfl, b2⟩
  have HB2 : Hid (Below V0.heap.size V0 w2) := HB1.out.trans (b2.mono HB1.out.size)
  clear b2 p1 q1
  go_wp2_with fail
  refine (kbegun w2).mono ?_
  rintro e w3 ⟨rfl, b3⟩
  have HB3 : Hid (Below V0.heap.size V0 w3) := HB2.out.trans (b3.mono HB2.out.size)
  clear b3
  obtain ⟨p3, q3⟩ := HK.out w3 HB3.out
  have hs3 : w.heap.size < w3.heap.size := by have := HB3.out.size; have := HVs.out; omega
  go_wp2_with fail
  refine (HO.out w3 (HV.out.trans (HB3.out.mono HV.out.size))).mono ?_
  rintro e w4 ⟨rfl, b4⟩
  have HB4 : Hid (Below w.heap.size w w4) := (HV.out.trans (HB3.out.mono HV.out.size)).trans (b4.mono (by omega))
  clear b4
  go_wp2
  go_ret
  exact ⟨rfl, HB4.out⟩
theorem ones_pack : pack (List.replicate 24 true) = [255, 255, 255] := by decide
theorem ones_call (l : List Nat) (n : Nat) (hn : l.length = n) (h64 : n ≤ 64) (h24 : ∀ x ∈ l, x ≤ 24) (hr : tkn l < 16777216) (A : Option Addr) (c : Nat) (w : World) (h : RdV w w.heap.size A (zc (ns l))) (V : World) (hV : Below w.heap.size w V) :
    Calls Try.prog 20 #[.slice A n c, .agg #[.int .i64 24, .slice (some ⟨V.heap.size, 0, none⟩) 3 3], .int .i64 0] ((V.alloc (.cells #[.int .u8 255, .int .u8 255, .int .u8 255] 5)).alloc (.cells #[.int .i64 24, .slice (some ⟨V.heap.size, 0, none⟩) 3 3] 26)) fun e w' => e = .returned (.tuple #[.int .i64 0, .int .i64 0, .int .i64 5]) ∧ Below V.heap.size V w' := by
  have hup : Below V.heap.size V ((V.alloc (.cells #[.int .u8 255, .int .u8 255, .int .u8 255] 5)).alloc (.cells #[.int .i64 24, .slice (some ⟨V.heap.size, 0, none⟩) 3 3] 26)) := (one_below V _).trans ((one_below _ _).mono (by simp))
  have hres : sgA 0 (sgn ((List.replicate 24 true).drop 0) (words l)) = (0, 0, 5) := by
    rw [List.drop_zero, ones_miss l h24 hr]; rfl
  have hrd : Rd ((V.alloc (.cells #[.int .u8 255, .int .u8 255, .int .u8 255] 5)).alloc (.cells #[.int .i64 24, .slice (some ⟨V.heap.size, 0, none⟩) 3 3] 26)) ((V.alloc (.cells #[.int .u8 255, .int .u8 255, .int .u8 255] 5)).alloc (.cells #[.int .i64 24, .slice (some ⟨V.heap.size, 0, none⟩) 3 3] 26)).heap.size (some ⟨V.heap.size, 0, none⟩) (pack (List.replicate 24 true)) := by
    rw [ones_pack]
    refine .inr ⟨V.heap.size, 0, rfl, by simp; omega, fun i hi => ?_⟩
    have e0 : ((V.alloc (.cells #[.int .u8 255, .int .u8 255, .int .u8 255] 5)).alloc (.cells #[.int .i64 24, .slice (some ⟨V.heap.size, 0, none⟩) 3 3] 26)).heap[V.heap.size]? = some (.cells #[.int .u8 255, .int .u8 255, .int .u8 255] 5 (0, 0)) := (Below.heap_alloc _ _ _ (by simp)).trans (World.alloc_heap_new V _)
    rw [cell_at e0, Nat.zero_add]
    have : i = 0 ∨ i = 1 ∨ i = 2 := by simp at hi; omega
    rcases this with rfl | rfl | rfl <;> rfl
  have h1 := sign_ok l n hn h64 h24 (by omega) A c _ (h.on (hV.trans (hup.mono hV.size))) (List.replicate 24 true) (by decide) (some ⟨V.heap.size, 0, none⟩) 3 hrd 0 (Nat.zero_le _) 0 0 5 hres
  rw [ones_pack] at h1
  refine Calls.mono h1 ?_
  rintro e w' ⟨he, hb⟩
  exact ⟨he, hup.trans (hb.mono hup.size)⟩
theorem chk_13 (len : Int) (bs : List Nat) (h : chk len bs ≠ 0) : chk len bs = 1 ∨ chk len bs = 3 := by
  rcases chk_cases len bs with h' | h' | h'
  · exact absurd h' h
  · exact .inl h'
  · exact .inr h'

theorem kraftFull_law (A : Option Addr) (c : Nat) (xs : List Int) (len : Int) (A2 : Option Addr) (c2 : Nat) (bs : List Nat) (w : World) (hb : ∀ x ∈ xs, -9223372036854775808 ≤ x ∧ x ≤ 9223372036854775807) (h : RdV w w.heap.size A (zc xs)) (hs : xs.length ≤ 9223372036854775807) (hby : ∀ b ∈ bs, b < 256) (h2 : Rd w w.heap.size A2 bs) :
    Calls Try.prog 7 #[.slice A xs.length c, .agg #[.int .i64 len, .slice A2 bs.length c2]] w fun e w' => e = .returned (.bool true) ∧ Below w.heap.size w w' := by
  have hR : RoomC A xs.length c w (roR xs) (kchk xs) := fun V hV => room_any xs _ rfl hs A c V (h.on hV)
  by_cases he : woE xs = 0
  · obtain ⟨l, rfl, h64, h24, hr⟩ := woE_zero xs he
    have hk : kchk (ns l) = 0 := kchk_ok l h64 h24
    have hl : (ns l).length = l.length := ns_length l
    have hrr : roR (ns l) = 16777216 - (tkn l : Int) := by unfold roR; rw [if_pos hk, ns_nat]
    rw [hrr, hk, hl] at hR
    rw [hl]
    by_cases hc : chk len bs = 0
    · obtain ⟨lb, rfl, h8, rfl⟩ := chk_zero len bs hby hc
      have hS : SignC A l.length c w (lb.length : Int) A2 (pack lb).length c2 (sgA 0 (sgn (lb.drop 0) (words l))).1 (sgA 0 (sgn (lb.drop 0) (words l))).2.1 (sgA 0 (sgn (lb.drop 0) (words l))).2.2 := fun V hV => sign_ok l _ rfl h64 h24 hr A c V (h.on hV) lb h8 A2 c2 (h2.on hV) 0 (Nat.zero_le _) _ _ _ rfl
      rw [List.drop_zero] at hS
      have hcs := sgn_cases (words_ok l h24) hr lb (words l) (fun y hy => hy)
      have hf : (sgA 0 (sgn lb (words l))).2.2 = (sgn lb (words l)).2.2 := by unfold sgA; split <;> simp_all
      rw [hf] at hS
      by_cases h0 : tkn l = 16777216
      · obtain ⟨x, hx, hh, hh24⟩ := full_hit l h24 h0 lb
        rcases hcs with ⟨y, hy, hp, e⟩ | ⟨y, hy, hp, hlt, e⟩ | ⟨hn, e⟩
        · exact lfull_00 _ _ _ _ _ _ _ _ _ _ _ _ _ hR hS rfl (by omega) (by rw [e])
        · refine lfull_07 _ _ _ _ _ _ _ _ _ _ _ _ _ hR hS rfl (by omega) (by rw [e]) ?_
          have := ((words_ok l h24).mem y hy).2
          omega
        · exact absurd hh (hn x hx)
      · refine lfull_pos _ _ _ _ _ _ _ _ _ _ _ _ _ hR hS rfl (by omega) ?_ (fun V hV => ones_call l _ rfl h64 h24 (by omega) A c w h V hV)
        rcases hcs with ⟨y, hy, hp, e⟩ | ⟨y, hy, hp, hlt, e⟩ | ⟨hn, e⟩ <;> rw [e] <;> simp
    · have hS : SignC A l.length c w len A2 bs.length c2 0 0 (chk len bs) := fun V hV => sign_r l _ rfl h64 h24 hr A c V (h.on hV) len A2 c2 bs hby (h2.on hV) 0 (chk len bs) (chk len bs) rfl (by unfold rgE; rw [if_neg (fun h => hc h.1)]) hc
      rcases chk_13 len bs hc with e | e
      · exact lfull_1 _ _ _ _ _ _ _ _ _ _ _ _ _ hR hS rfl (by omega) e
      · exact lfull_3 _ _ _ _ _ _ _ _ _ _ _ _ _ hR hS rfl (by omega) e
  · have hS : SignC A xs.length c w len A2 bs.length c2 0 0 (woE xs) := fun V hV => sign_w A _ c len A2 _ c2 0 V _ he (fun V' hV' => wordsOf_no xs _ rfl hs _ rfl he A c V' ((h.on hV).on hV'))
    by_cases hk : kchk xs = 0
    · refine lfull_neg _ _ _ _ _ _ _ _ _ _ _ _ _ hR hS hk ?_
      unfold woE at he
      rw [if_neg (by omega)] at he
      unfold roR
      rw [if_pos hk]
      by_cases h' : 16777216 < tkn (xs.map Int.toNat)
      · omega
      · rw [if_neg h'] at he; exact absurd rfl he
    · exact lfull_k _ _ _ _ _ _ _ _ _ _ _ _ _ hR hS hk
end Go.Proofs.Ytlmoidblglmdgaa
