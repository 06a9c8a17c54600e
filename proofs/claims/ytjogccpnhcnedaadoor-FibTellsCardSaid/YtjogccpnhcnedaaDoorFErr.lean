/- What is wrong with bits and a place, as the document tells it. (For seats without unary.) -/
import Derived.Test.YtjogccpnhcnedaaDoorRefGen
namespace Go.Proofs.YtjogccpnhcnedaaDoor
set_option maxRecDepth 100000
set_option linter.unusedVariables false
open Go.RowKit

/-- What is wrong with bits, and a place. -/
def rdE (len : Int) (bs : List Nat) (p : Int) : Int := if chk len bs ≠ 0 then chk len bs else if p < 0 ∨ len < p then 3 else 0

set_option maxRecDepth 100000 in
set_option maxHeartbeats 1000000 in
theorem readErr_any (len : Int) (A : Option Addr) (c : Nat) (bs : List Nat) (p : Int) (w : World) (hb : ∀ b ∈ bs, b < 256) (h : Rd w w.heap.size A bs) (e0 : Int) (he0 : rdE len bs p = e0) :
    Calls Tryd.prog 19 #[.agg #[.int .i64 len, .slice A bs.length c], .int .i64 p] w fun e w' => e = .returned (.int .i64 e0) ∧ Below w.heap.size w w' := by
  have hC := rcheck_any len A c bs hb (w.alloc (.cells #[.int .i64 len, .slice A bs.length c] 26)) (h.on (one_below w _))
  rw [World.size_alloc] at hC
  have HC := Lib.hid hC; clear hC
  have HB := Lib.hid (one_below w (.cells #[.int .i64 len, .slice A bs.length c] 26))
  unfold rdE at he0
  clear h
  generalize chk len bs = k at *
  generalize bs.length = nn at *
  by_cases hc : k = 0
  · subst hc
    rw [if_neg (by simp)] at he0
    by_cases hp : p < 0 ∨ len < p
    · rw [if_pos hp] at he0
      subst he0
      have HP := Lib.hid (between_no p 0 len (by omega))
      clear hp
      go_enter Tryd.func19, Tryd.ntmps19
      go_wp2_with fail
      refine HC.out.mono ?_
      rintro e w1 ⟨rfl, hq⟩
      obtain ⟨hc1, hf1⟩ := old_cells hq
      go_wp2_with fail
      refine (HP.out _).mono ?_
      rintro e w2 ⟨rfl, rfl⟩
      go_wp2
      go_ret
      exact ⟨rfl, HB.out.trans (hq.mono (by omega))⟩
    · rw [if_neg hp] at he0
      subst he0
      have HP := Lib.hid (between_yes p 0 len (by omega))
      clear hp
      go_enter Tryd.func19, Tryd.ntmps19
      go_wp2_with fail
      refine HC.out.mono ?_
      rintro e w1 ⟨rfl, hq⟩
      obtain ⟨hc1, hf1⟩ := old_cells hq
      go_wp2_with fail
      refine (HP.out _).mono ?_
      rintro e w2 ⟨rfl, rfl⟩
      go_wp2
      go_ret
      exact ⟨rfl, HB.out.trans (hq.mono (by omega))⟩
  · rw [if_pos hc] at he0
    subst he0
    have t1 : (k == 0) = false := by simpa using hc
    clear hc
    go_enter Tryd.func19, Tryd.ntmps19
    go_wp2_with fail
    refine HC.out.mono ?_
    rintro e w1 ⟨rfl, hq⟩
    obtain ⟨hc1, hf1⟩ := old_cells hq
    go_wp2
    go_ret
    exact ⟨rfl, HB.out.trans (hq.mono (by omega))⟩

end Go.Proofs.YtjogccpnhcnedaaDoor
