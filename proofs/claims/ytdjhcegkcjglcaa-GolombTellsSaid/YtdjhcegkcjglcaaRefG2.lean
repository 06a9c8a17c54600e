/- The document's own GolombRead; with its conditions. -/
import Derived.Test.YtdjhcegkcjglcaaRefG
import Derived.Test.YtdjhcegkcjglcaaGWrite
namespace Go.Proofs.Ytdjhcegkcjglcaa
set_option maxRecDepth 100000
set_option linter.unusedVariables false
open Go.RowKit

theorem mulQ (h k s : Nat) (hs : h * k = s) : ((h : Int) * (k : Int)) = (s : Int) := by rw [← hs]; simp
set_option maxHeartbeats 1000000 in
theorem golombRead_any (l : List Bool) (N : Nat) (hl : l.length = N) (hN : N ≤ 8192) (A : Option Addr) (c s m : Nat) (hs : s ≤ N) (h1 : 1 ≤ m) (h2 : m ≤ 1099511627776) (r : Nat × Nat × Int) (hr : r = golR l s m) (w : World) (h : RdV w w.heap.size A (ic l)) :
    Calls Try.prog 42 #[.slice A N c, .int .i64 (s : Int), .int .u64 (m : Int)] w (ReadP w r.1 r.2.1 r.2.2) := by
  have HU := Lib.hid (ur_l l N hl hN A c s hs w h)
  have hb := uR_bound l s (by omega)
  unfold golR at hr
  generalize uR l s = u at *
  obtain ⟨q, fr, e0⟩ := u
  simp only at hb hr HU
  by_cases h0 : e0 = 0
  · subst h0
    rw [if_pos rfl] at HU
    rw [if_neg (by simp)] at hr
    have t0 : decide ((fr : Int) < 0) = false := by simp
    by_cases hq : 8128 ≤ q
    · rw [if_pos hq] at hr
      subst hr
      have t1 : decide ((8128 : Int) ≤ (q : Int)) = true := by simp; omega
      go_enter Try.func42, Try.ntmps42
      go_wp2_with fail
      refine HU.out.mono ?_
      rintro e _ ⟨rfl, rfl⟩
      go_wp2
      go_ret3
      exact ⟨rfl, Below.refl _ _⟩
    · rw [if_neg hq] at hr
      have t1 : decide ((8128 : Int) ≤ (q : Int)) = false := by simp; omega
      have HL : ∀ (rn : Nat) (rt : Int), (rn = (lstR l fr m).1 ∧ rt = if (lstR l fr m).2.2 = 0 then ((lstR l fr m).2.1 : Int) else -1) → Hid (Calls Try.prog 41 #[.slice A N c, .int .i64 (fr : Int), .int .u64 (m : Int)] w fun e w' => e = .returned (.tuple #[.int .u64 (rn : Int), .int .i64 rt]) ∧ w = w') := fun rn rt hh => leastRead_any l N hl hN A c fr m (by omega) h1 (by omega) _ rfl rn rt hh w h
      have hlb := lstR_bound l fr m h1 (by omega)
      have hy : q * m ≤ 8128 * 1099511627776 := Nat.mul_le_mul (by omega) h2
      unfold remR at hr
      simp only at hr
      generalize lstR l fr m = v at *
      obtain ⟨x, to, er⟩ := v
      simp only at hlb hr HL
      by_cases hr2 : er = 0
      · subst hr2
        rw [if_neg (by simp)] at hr
        have HX := HL x (to : Int) ⟨rfl, rfl⟩
        have t2 : decide ((to : Int) < 0) = false := by simp
        clear HL
        have HM := Lib.hid (mulQ q m _ rfl)
        generalize hyy : q * m = y at *
        by_cases h3 : 1099511627776 < y + x
        · rw [if_pos h3] at hr
          subst hr
          have t3 : decide ((1099511627776 : Int) < (y : Int) + (x : Int)) = true := by simp; omega
          go_enter Try.func42, Try.ntmps42
          go_wp2_with fail
          refine HU.out.mono ?_
          rintro e _ ⟨rfl, rfl⟩
          go_wp2_with fail
          refine HX.out.mono ?_
          rintro e _ ⟨rfl, rfl⟩
          go_wp2
          go_ret3
          exact ⟨rfl, Below.refl _ _⟩
        · rw [if_neg h3] at hr
          subst hr
          have t3 : decide ((1099511627776 : Int) < (y : Int) + (x : Int)) = false := by simp; omega
          go_enter Try.func42, Try.ntmps42
          go_wp2_with fail
          refine HU.out.mono ?_
          rintro e _ ⟨rfl, rfl⟩
          go_wp2_with fail
          refine HX.out.mono ?_
          rintro e _ ⟨rfl, rfl⟩
          go_wp2
          go_ret3
          exact ⟨by rw [← hyy]; go_num, Below.refl _ _⟩
      · rw [if_pos hr2] at hr
        obtain rfl : er = 7 := by omega
        have HX := HL x (-1) ⟨rfl, rfl⟩
        clear HL
        subst hr
        go_enter Try.func42, Try.ntmps42
        go_wp2_with fail
        refine HU.out.mono ?_
        rintro e _ ⟨rfl, rfl⟩
        go_wp2_with fail
        refine HX.out.mono ?_
        rintro e _ ⟨rfl, rfl⟩
        go_wp2
        go_ret3
        exact ⟨rfl, Below.refl _ _⟩
  · rw [if_neg h0] at HU
    rw [if_pos h0] at hr
    obtain rfl : e0 = 7 := by omega
    subst hr
    go_enter Try.func42, Try.ntmps42
    go_wp2_with fail
    refine HU.out.mono ?_
    rintro e _ ⟨rfl, rfl⟩
    go_wp2
    go_ret3
    exact ⟨rfl, Below.refl _ _⟩
end Go.Proofs.Ytdjhcegkcjglcaa
