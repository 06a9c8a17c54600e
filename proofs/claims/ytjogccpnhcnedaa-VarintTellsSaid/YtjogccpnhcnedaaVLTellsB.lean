/- The law VarintTells for whatever is handed in: its cases put together. -/
import Derived.Test.YtjogccpnhcnedaaVLTells
namespace Go.Proofs.Ytjogccpnhcnedaa
set_option maxRecDepth 100000
set_option linter.unusedVariables false
open Go.RowKit Go.Shelf


theorem allR_len (bs : List Nat) (hb : ∀ b ∈ bs, b < 256) : (allR bs).1.length ≤ 4096 := by
  by_cases h : (allR bs).2 = 0
  · obtain ⟨ns, e1, e2, _, e4⟩ := allR_ok bs hb h
    rw [e1]
    have := vbs_len ns
    rw [← e2] at this
    simp only
    omega
  · rw [allR_bad bs h]; simp

set_option maxHeartbeats 2000000 in
theorem vtells_law (x : Int) (A : Option Addr) (c : Nat) (ns : List Nat) (B : Option Addr) (d : Nat) (bs : List Nat) (p : Int) (w : World) (hx : -9223372036854775808 ≤ x ∧ x ≤ 9223372036854775807)
    (hc : ns.length ≤ c) (hu : ∀ n ∈ ns, n < 18446744073709551616) (hA : RdV w w.heap.size A (nc ns)) (hn : ns.length ≤ 9223372036854775807)
    (hd : bs.length ≤ d) (hb : ∀ b ∈ bs, b < 256) (hB : Rd w w.heap.size B bs) (hm : bs.length ≤ 9223372036854775807) (hnil : B = none → d = 0) (hp : -9223372036854775808 ≤ p ∧ p ≤ 9223372036854775807) :
    Calls Try.prog 5 #[.int .i64 x, .slice A ns.length c, .slice B bs.length d, .int .i64 p] w fun e w' => e = .returned (.bool true) ∧ Below w.heap.size w w' := by
  have H1' := fun w h => write_any ns _ rfl hn hu A c w h
  have H2' := fun v to e0 hr w h => read_any bs _ rfl hb p B d hd w h v to e0 hr
  have H3 : Hid (∀ w, Rd w w.heap.size B bs → Calls Try.prog 29 #[.slice B bs.length d] w (AllP w (allR bs).1 (allR bs).2)) := fun w h => all_any bs _ rfl hm hb B d hd w h _ _ rfl
  have H6 : Hid (∀ w, Rd w w.heap.size B bs → Calls Try.prog 32 #[.slice B bs.length d] w (AllP w (allR bs).1 (allR bs).2)) := fun w h => rall_any bs _ rfl hb B d w h _ _ rfl
  have H7 := Lib.hid (fold_any x hx.1 hx.2)
  have H8 := Lib.hid (foldOf_any x hx.1 hx.2)
  have H9 := Lib.hid (unfold_any (fold x) (fold_lt x hx.1 hx.2))
  rw [unfold_fold] at H9
  have hrl := allR_len bs hb
  have H11 : Hid (∀ A1 c1 A2 c2 w, RdV w w.heap.size A1 (nc (allR bs).1) → RdV w w.heap.size A2 (nc (allR bs).1) → Calls Try.prog 38 #[.slice A1 (allR bs).1.length c1, .slice A2 (allR bs).1.length c2] w fun e w' => e = .returned (.bool true) ∧ Below w.heap.size w w') := fun A1 c1 A2 c2 w h1 h2 => by
    have := sameN_any w A1 A2 c1 c2 (allR bs).1 (allR bs).1 (by omega) h1 h2
    simpa using this
  by_cases h46 : (vbs ns).length ≤ 4096
  · have e := wr_ok ns h46
    have H1 : Hid (∀ w, RdV w w.heap.size A (nc ns) → Calls Try.prog 27 #[.slice A ns.length c] w (Wrote w (vbs ns) 0)) := fun w h => by
      have := H1' w h
      rwa [e.1, e.2] at this
    have H10 : Hid (∀ A1 c1 A2 c2 w, Rd w w.heap.size A1 (vbs ns) → Rd w w.heap.size A2 (vbs ns) → Calls Try.prog 37 #[.slice A1 (vbs ns).length c1, .slice A2 (vbs ns).length c2] w fun e w' => e = .returned (.bool true) ∧ Below w.heap.size w w') := fun A1 c1 A2 c2 w h1 h2 => by
      have := sameB_any w A1 A2 c1 c2 (vbs ns) (vbs ns) (by omega) h1 h2
      simpa using this
    by_cases m46 : 4096 < bs.length
    · have er : rdR bs p = (0, 0, 2) := by unfold rdR; rw [if_pos m46]
      exact vtells_s_many x _ A c _ ns B d _ bs p w (vbs ns) _ 0 0 0 _ rfl hn hu hA hB H1 (H2' 0 0 2 er) H3 H6 H7 H8 H9 H10 H11 m46 rfl h46
    · by_cases hpr : p < 0 ∨ (bs.length : Int) < p
      · have er : rdR bs p = (0, 0, 3) := by unfold rdR; rw [if_neg m46, if_pos hpr]
        exact vtells_s_range x _ A c _ ns B d _ bs p w (vbs ns) _ 0 0 0 _ rfl hn hu hA hB H1 (H2' 0 0 3 er) H3 H6 H7 H8 H9 H10 H11 (by omega) hpr rfl h46
      · obtain ⟨k, rfl⟩ := Int.eq_ofNat_of_zero_le (show 0 ≤ p by omega)
        exact vtells_s_ok x _ A c _ ns B d _ bs _ w (vbs ns) _ (rdR bs (k : Int)).1 (rdR bs (k : Int)).2.1 (rdR bs (k : Int)).2.2 _ rfl hn hu hA hB H1 (H2' _ _ _ rfl) H3 (fun w h => rread_any bs _ rfl hb (by omega) k (by omega) B d w h _ _ _ rfl) H6 H7 H8 H9 H10 H11 (by omega) (by omega) (by omega) rfl h46
  · have h46' : 4096 < (vbs ns).length := by omega
    have e := wr_no ns h46'
    have H1 : Hid (∀ w, RdV w w.heap.size A (nc ns) → Calls Try.prog 27 #[.slice A ns.length c] w (Wrote w [] 2)) := fun w h => by
      have := H1' w h
      rwa [e.1, e.2] at this
    have H10 : Hid (∀ A1 c1 w, Calls Try.prog 37 #[.slice A1 0 c1, .slice none 0 0] w fun e w' => e = .returned (.bool true) ∧ Below w.heap.size w w') := fun A1 c1 w => by
      have := sameB_any w A1 none c1 0 [] [] (by decide) (Rd.nil _ _ _) (Rd.nil _ _ _)
      simpa using this
    by_cases m46 : 4096 < bs.length
    · have er : rdR bs p = (0, 0, 2) := by unfold rdR; rw [if_pos m46]
      exact vtells_b_many x _ A c _ ns B d _ bs p w [] _ 0 0 0 _ rfl hn hu hA hB H1 (H2' 0 0 2 er) H3 H6 H7 H8 H9 H10 H11 m46 h46'
    · by_cases hpr : p < 0 ∨ (bs.length : Int) < p
      · have er : rdR bs p = (0, 0, 3) := by unfold rdR; rw [if_neg m46, if_pos hpr]
        exact vtells_b_range x _ A c _ ns B d _ bs p w [] _ 0 0 0 _ rfl hn hu hA hB H1 (H2' 0 0 3 er) H3 H6 H7 H8 H9 H10 H11 (by omega) hpr h46'
      · obtain ⟨k, rfl⟩ := Int.eq_ofNat_of_zero_le (show 0 ≤ p by omega)
        exact vtells_b_ok x _ A c _ ns B d _ bs _ w [] _ (rdR bs (k : Int)).1 (rdR bs (k : Int)).2.1 (rdR bs (k : Int)).2.2 _ rfl hn hu hA hB H1 (H2' _ _ _ rfl) H3 (fun w h => rread_any bs _ rfl hb (by omega) k (by omega) B d w h _ _ _ rfl) H6 H7 H8 H9 H10 H11 (by omega) (by omega) (by omega) h46'
end Go.Proofs.Ytjogccpnhcnedaa
