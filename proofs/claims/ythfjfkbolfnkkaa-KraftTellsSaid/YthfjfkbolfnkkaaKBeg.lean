/- The order of bits, and whether bits begin with bits: what the closure of Apart and begins answer. -/
import Derived.Test.YthfjfkbolfnkkaaKEach
import Derived.Test.YthfjfkbolfnkkaaLists
import Derived.Deep.RegionHeld3
namespace Go.Proofs.Ythfjfkbolfnkkaa
set_option maxRecDepth 100000
set_option linter.unusedVariables false
open Go.RowKit Go.Shelf Go.Sort

set_option maxHeartbeats 4000000 in
theorem closB (l1 l2 : Int) (A1 A2 : Option Addr) (n1 n2 c1 c2 : Nat) (a : Int) (W : World) (HC : ∀ V, Below W.heap.size W V → Calls Try.prog 44 #[.slice A1 n1 c1, .slice A2 n2 c2] V fun e w' => e = .returned (.int .i64 a) ∧ w' = V) :
    Calls Try.prog 42 #[.agg #[.int .i64 l1, .slice A1 n1 c1], .agg #[.int .i64 l2, .slice A2 n2 c2]] W fun e w' => e = .returned (.int .i64 (orI a (Lib.compareInt l1 l2))) ∧ ∃ q os', w' = grow (W.drewN q) os' := by
  have C1 := Lib.hid HC; clear HC
  have C2 := Lib.hid (cmpI l1 l2)
  have HO := Lib.hid (orI_new a (Lib.compareInt l1 l2))
  generalize Lib.compareInt l1 l2 = b at *
  generalize orI a b = r at *
  go_enter Try.func42, Try.ntmps42
  go_wp2_with fail
  generalize hV : (W.alloc (.cells #[.int .i64 l1, .slice A1 n1 c1] 26)).alloc (.cells #[.int .i64 l2, .slice A2 n2 c2] 26) = V0
  have HV : Hid (V0 = (W.alloc (.cells #[.int .i64 l1, .slice A1 n1 c1] 26)).alloc (.cells #[.int .i64 l2, .slice A2 n2 c2] 26)) := hV.symm
  have HVB : Hid (Below W.heap.size W V0) := hV ▸ (one_below W _).trans ((one_below _ _).mono (by simp))
  have HK : Hid (∀ w' : World, Below V0.heap.size V0 w' → w'.cell? ⟨W.heap.size, 1, none⟩ = some (.slice A1 n1 c1) ∧ w'.cell? ⟨W.heap.size + 1, 1, none⟩ = some (.slice A2 n2 c2) ∧ w'.cell? ⟨W.heap.size, 0, none⟩ = some (.int .i64 l1) ∧ w'.cell? ⟨W.heap.size + 1, 0, none⟩ = some (.int .i64 l2)) := by
    subst hV
    intro w' h
    have m0 := World.alloc_heap_new W (.cells #[.int .i64 l1, .slice A1 n1 c1] 26)
    have m1 := World.alloc_heap_new (W.alloc (.cells #[.int .i64 l1, .slice A1 n1 c1] 26)) (.cells #[.int .i64 l2, .slice A2 n2 c2] 26)
    have k0 := (h.block W.heap.size (by simp only [World.size_alloc]; omega)).trans ((Below.heap_alloc _ _ _ (by simp)).trans m0)
    have k1 := (h.block (W.alloc (.cells #[.int .i64 l1, .slice A1 n1 c1] 26)).heap.size (by simp)).trans m1
    rw [World.size_alloc] at k1
    exact ⟨(cell_at k0 _).trans rfl, (cell_at k1 _).trans rfl, (cell_at k0 _).trans rfl, (cell_at k1 _).trans rfl⟩
  clear hV
  have hk0 := HK.out V0 (Below.refl _ _)
  go_region_held3 (fun w' => w'.cell? ⟨W.heap.size, 1, none⟩ = some (.slice A1 n1 c1) ∧ w'.cell? ⟨W.heap.size + 1, 1, none⟩ = some (.slice A2 n2 c2) ∧ w'.cell? ⟨W.heap.size, 0, none⟩ = some (.int .i64 l1) ∧ w'.cell? ⟨W.heap.size + 1, 0, none⟩ = some (.int .i64 l2))
    ((refine HK.out _ ?_; first | exact (Below.refl _ _).drew | exact ((Below.refl _ _).drew).alloc (Nat.le_refl _) _ | exact ((Below.refl _ _).alloc (Nat.le_refl _) _).drew))
    (first
      | (go_at_call 44; refine (C1.out _ HVB.out.drew).mono ?_; rintro e w1 ⟨rfl, rfl⟩)
      | (go_at_call 45; refine (C2.out _).mono ?_; rintro e w1 ⟨rfl, rfl⟩)
      | (go_at_call 43; refine (HO.out (V0.alloc (.cells #[.int .i64 a, .int .i64 b] 3)).drew _ (World.alloc_heap_new V0 (.cells #[.int .i64 a, .int .i64 b] 3))).mono ?_; rintro e w1 ⟨rfl, rfl⟩))
  all_goals (
    go_wp2
    go_ret
    exact ⟨rfl, 1, _, by rw [HV.out, alloc_eq_grow, alloc_eq_grow, alloc_eq_grow, grow_grow, grow_grow, drew_grow]; rfl⟩)

/-- Do bits begin with bits? -/
theorem take_pack (x s : List Bool) (h : s.length ≤ x.length) : decide (pack (x.take s.length) = pack s) = decide (s <+: x) := by
  rw [Bool.eq_iff_iff]
  simp only [decide_eq_true_eq]
  constructor
  · intro e
    have := pack_inj (by simp; omega) e
    rw [List.prefix_iff_eq_take]
    exact this.symm
  · intro e
    rw [← List.prefix_iff_eq_take.1 e]
set_option maxHeartbeats 4000000 in
theorem begins_any (x s : List Bool) (lx ls : Nat) (hlx : x.length = lx) (hls : s.length = ls) (hx : lx ≤ 8192) (hs : ls ≤ 8192) (A1 A2 : Option Addr) (c1 c2 N1 N2 : Nat) (hN1 : (pack x).length = N1) (hN2 : (pack s).length = N2) (w : World) (r1 : Rd w w.heap.size A1 (pack x)) (r2 : Rd w w.heap.size A2 (pack s)) :
    Calls Try.prog 46 #[.agg #[.int .i64 (lx : Int), .slice A1 N1 c1], .agg #[.int .i64 (ls : Int), .slice A2 N2 c2]] w fun e w' => e = .returned (.bool (decide (s <+: x))) ∧ Below w.heap.size w w' := by
  have R1 := Lib.hid r1; have R2 := Lib.hid r2
  by_cases hle : ls ≤ lx
  · have hd := take_pack x s (by omega)
    have HC : Hid (∀ V : World, Below w.heap.size w V → Calls Try.prog 66 #[.agg #[.int .i64 (lx : Int), .slice A1 N1 c1], .int .i64 0, .int .i64 (ls : Int)] V (Gv V (ls : Int) (pack (x.take ls)).length (pack (x.take ls)) 0)) := by
      intro V hV
      have := cut_l0 x (x.take ls) (by omega) A1 c1 ls (by omega) rfl V (R1.out.on hV)
      have e1 : (x.take ls).length = ls := by simp; omega
      rw [e1, hlx, hN1] at this
      exact this
    have HE : Hid (∀ (V : World) (A3 : Option Addr) (c3 : Nat), Rd V V.heap.size A3 (pack (x.take ls)) → Below w.heap.size w V → Calls Try.prog 76 #[.slice A3 (pack (x.take ls)).length c3, .slice A2 N2 c2] V fun e w' => e = .returned (.bool (decide (s <+: x))) ∧ w' = V) := by
      intro V A3 c3 h3 hV
      rw [← hd, ← hN2, hls]
      exact beq_any _ _ _ _ rfl rfl (pack_lt _) (pack_lt _) A3 A2 c3 c2 V V.heap.size V.heap.size h3 (R2.out.on hV)
    clear r1 r2 hd hN1 hN2 hlx hls
    generalize decide (s <+: x) = res at *
    generalize pack (x.take ls) = bs at *
    generalize bs.length = N3 at *
    go_enter Try.func46, Try.ntmps46
    go_wp2_with fail
    generalize hV : (w.alloc (.cells #[.int .i64 (lx : Int), .slice A1 N1 c1] 26)).alloc (.cells #[.int .i64 (ls : Int), .slice A2 N2 c2] 26) = V0
    have HVB : Hid (Below w.heap.size w V0) := hV ▸ (one_below w _).trans ((one_below _ _).mono (by simp))
    have HVs : Hid (w.heap.size + 2 = V0.heap.size) := by show _ = _; rw [← hV, World.size_alloc, World.size_alloc]
    have HK : Hid (∀ w' : World, Below V0.heap.size V0 w' → w'.cell? ⟨w.heap.size + 1, 1, none⟩ = some (.slice A2 N2 c2)) := by
      subst hV
      intro w' h
      have m1 := World.alloc_heap_new (w.alloc (.cells #[.int .i64 (lx : Int), .slice A1 N1 c1] 26)) (.cells #[.int .i64 (ls : Int), .slice A2 N2 c2] 26)
      have k1 := (h.block (w.alloc (.cells #[.int .i64 (lx : Int), .slice A1 N1 c1] 26)).heap.size (by simp)).trans m1
      rw [World.size_alloc] at k1
      exact (cell_at k1 _).trans rfl
    clear hV
    refine (HC.out V0 HVB.out).mono ?_
    rintro e w3 ⟨A3, c3, rfl, r3, b3⟩
    have HR3 := Lib.hid r3; have HB3 := Lib.hid b3
    clear r3 b3
    have hw3 : w.heap.size + 2 ≤ w3.heap.size := by have := HB3.out.size; have := HVs.out; omega
    have k5 := HK.out (w3.alloc (.cells #[.int .i64 (ls : Int), .slice A3 N3 c3] 26)) (HB3.out.trans ((one_below w3 _).mono HB3.out.size))
    go_wp2_with fail
    refine (HE.out _ A3 c3 (HR3.out.on (one_below w3 _)) ((HVB.out.trans (HB3.out.mono HVB.out.size)).trans ((one_below w3 _).mono (by omega)))).mono ?_
    rintro e w4 ⟨rfl, rfl⟩
    go_wp2
    go_ret
    exact ⟨rfl, (HVB.out.trans (HB3.out.mono HVB.out.size)).trans ((one_below w3 _).mono (by omega))⟩
  · have hd : decide (s <+: x) = false := by
      rw [decide_eq_false_iff_not]
      intro h
      have := h.length_le
      omega
    rw [hd]
    have HC : Hid (∀ V : World, Below w.heap.size w V → Calls Try.prog 66 #[.agg #[.int .i64 (lx : Int), .slice A1 N1 c1], .int .i64 0, .int .i64 (ls : Int)] V (Gv V 0 0 (pack []) 3)) := by
      intro V hV
      have he : cutE (lx : Int) (pack x) 0 (ls : Int) = 3 := by
        unfold cutE
        rw [← hlx, chk_pack x (by omega), if_neg (by simp), if_pos (by omega)]
      have := cut_e (lx : Int) A1 c1 (pack x) 0 (ls : Int) 3 (pack_lt x) he (by decide) V (R1.out.on hV)
      rw [hN1] at this
      exact this
    clear r1 r2 hd hN1 hN2 hlx hls
    go_enter Try.func46, Try.ntmps46
    go_wp2_with fail
    generalize hV : (w.alloc (.cells #[.int .i64 (lx : Int), .slice A1 N1 c1] 26)).alloc (.cells #[.int .i64 (ls : Int), .slice A2 N2 c2] 26) = V0
    have HVB : Hid (Below w.heap.size w V0) := hV ▸ (one_below w _).trans ((one_below _ _).mono (by simp))
    clear hV
    refine (HC.out V0 HVB.out).mono ?_
    rintro e w3 ⟨A3, c3, rfl, r3, b3⟩
    have HB3 := Lib.hid b3
    clear r3 b3
    have hw3 : w.heap.size ≤ w3.heap.size := Nat.le_trans HVB.out.size HB3.out.size
    go_wp2
    go_ret
    exact ⟨rfl, (HVB.out.trans (HB3.out.mono HVB.out.size)).trans ((one_below w3 _).mono hw3)⟩
end Go.Proofs.Ythfjfkbolfnkkaa
