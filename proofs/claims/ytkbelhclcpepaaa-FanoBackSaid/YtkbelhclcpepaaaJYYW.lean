/- A writer of fano keeps bits: numbers are put into it, and noughts up to a place; wherever there is room for them. -/
import Derived.Test.YtkbelhclcpepaaaJYYPure
import Derived.Test.YtkbelhclcpepaaaJY2
namespace Go.Proofs.Ytkbelhclcpepaaa
set_option maxRecDepth 100000
set_option linter.unusedVariables false
open Go.RowKit

/-- Block K holds bits that are right, in a writer of fano. -/
def YW (w : World) (K : Nat) (l : List Bool) : Prop :=
  ∃ A c, w.heap[K]? = some (.cells #[.int .i64 (l.length : Int), .slice A (pack l).length c] 126 (0, 0)) ∧ Rd w w.heap.size A (pack l)

/-- New bits are stored in a writer. -/
theorem YW.put {w w' : World} {K : Nat} {l L : List Bool} {A A' : Option Addr} {c c' : Nat} (hK : w.heap[K]? = some (.cells #[.int .i64 (l.length : Int), .slice A (pack l).length c] 126 (0, 0))) (hR : Rd w' w'.heap.size A' (pack L)) (hB : Below w.heap.size w w') :
    (w'.cell? ⟨K, 0, none⟩ = some (.int .i64 (l.length : Int)) ∧ w'.cell? ⟨K, 1, none⟩ = some (.slice A (pack l).length c) ∧ w'.frozen? ⟨K, 0, none⟩ = false ∧ w'.frozen? ⟨K, 1, none⟩ = false) ∧
    Hid (YW ((w'.setCell ⟨K, 0, none⟩ (.int .i64 (L.length : Int))).setCell ⟨K, 1, none⟩ (.slice A' (pack L).length c')) K L ∧ w.grownBy ((w'.setCell ⟨K, 0, none⟩ (.int .i64 (L.length : Int))).setCell ⟨K, 1, none⟩ (.slice A' (pack L).length c')) (some K)) := by
  have hlt : K < w.heap.size := (Array.getElem?_eq_some_iff.1 hK).1
  have hK1 := (hB.block K hlt).trans hK
  have hK2 := heap_set_same w' K 0 (.int .i64 (L.length : Int)) 126 _ hK1
  have hK3 := heap_set_same _ K 1 (.slice A' (pack L).length c') 126 _ hK2
  refine ⟨blk_cells hK1, ⟨A', c', ?_, ?_⟩, grown_trans (grown_of_below hB _) (grown_trans (grown_set _ _ _ _) (grown_set _ _ _ _))⟩
  · rw [hK3]; simp
  · have r1 := hR.setK (i := 0) (.int .i64 (L.length : Int)) hK1
    have hK2' : (w'.setCell ⟨K, 0, none⟩ (.int .i64 (L.length : Int))).heap[K]? = some (.cells #[.int .i64 (L.length : Int), .slice A (pack l).length c] 126 (0, 0)) := by rw [hK2]; simp
    have r2 := r1.setK (i := 1) (.slice A' (pack L).length c') hK2'
    have e : ((w'.setCell ⟨K, 0, none⟩ (.int .i64 (L.length : Int))).setCell ⟨K, 1, none⟩ (.slice A' (pack L).length c')).heap.size = w'.heap.size := by simp [World.setCell]
    rw [e]
    exact r2

set_option maxHeartbeats 400000 in
theorem yput_ok (w : World) (K : Nat) (l L : List Bool) (n k : Nat) (hk : k ≤ 64) (hn : n / 2 ^ k = 0) (hf : l.length + k ≤ 8192) (hn64 : n < 18446744073709551616) (hL : L = l ++ nb n k) (h : YW w K l) :
    Calls Try.prog 95 #[.pointer (some ⟨K, 0, none⟩), .int .u64 (n : Int), .int .i64 (k : Int)] w fun e w' => e = .returned (.tuple #[]) ∧ YW w' K L ∧ w.grownBy w' (some K) := by
  obtain ⟨A, c, hK, hR⟩ := h
  have HP := Lib.hid (put_l l L A c n k hk hn hf hn64 hL w hR)
  obtain ⟨c0, c1, f0, f1⟩ := blk_cells hK
  have HK := Lib.hid hK
  clear hK hR hn hL
  go_enter Try.func95, Try.ntmps95
  go_wp2_with fail
  refine HP.out.mono ?_
  rintro e w1 ⟨A1, c1', rfl, R1, B1⟩
  obtain ⟨⟨d0, d1, e0, e1⟩, HU⟩ := YW.put (c' := c1') HK.out R1 B1
  clear R1 B1 c0 c1 f0 f1
  go_wp2
  go_end0
  exact ⟨rfl, HU.out.1, HU.out.2⟩

/-- How many bits a writer holds. -/
def wlen (w : World) (K : Nat) : Nat := match w.cell? ⟨K, 0, none⟩ with | some (.int _ n) => n.toNat | _ => 0
theorem wlen_of {w : World} {K : Nat} {l : List Bool} (h : YW w K l) : wlen w K = l.length := by
  obtain ⟨A, c, hK, _⟩ := h
  unfold wlen
  rw [(blk_cells hK).1]; rfl
/-- Noughts up to a place. -/
def upto (l : List Bool) (to : Nat) : List Bool := l ++ List.replicate (to - l.length) false
theorem upto_more (l : List Bool) (to k : Nat) (h : l.length + k ≤ to) : upto (l ++ List.replicate k false) to = upto l to := by
  unfold upto
  rw [List.length_append, List.length_replicate, List.append_assoc, List.replicate_append_replicate]
  congr 2; omega
theorem upto_end (l : List Bool) (to : Nat) (h : to ≤ l.length) : upto l to = l := by
  unfold upto; rw [show to - l.length = 0 by omega]; simp
/-- At each round's head: noughts have come, and the same is to come. -/
def FillRel (w : World) (K : Nat) (l : List Bool) (to : Nat) (wr : World) : Prop :=
  ∃ m : List Bool, upto m to = upto l to ∧ YW wr K m ∧ w.grownBy wr (some K)
set_option maxHeartbeats 1000000 in
theorem yfill_ok (w : World) (K : Nat) (l L : List Bool) (to : Nat) (hto : to ≤ 8192) (hL : L = upto l to) (h : YW w K l) :
    Calls Try.prog 96 #[.pointer (some ⟨K, 0, none⟩), .int .i64 (to : Int)] w fun e w' => e = .returned (.tuple #[]) ∧ YW w' K L ∧ w.grownBy w' (some K) := by
  have HU := Lib.hid h; clear h
  have HL := Lib.hid hL; clear hL
  go_enter Try.func96, Try.ntmps96
  go_wp2_with fail
  go_loopw [] (fun wr => FillRel w K l to wr) (fun wr => to - wlen wr K)
  case atStart => exact ⟨l, rfl, HU.out, ⟨rfl, rfl, rfl, Nat.le_refl _, fun _ _ _ => rfl⟩⟩
  case round =>
    obtain ⟨m, hm, hu, hg⟩ := hrel
    have hwl := wlen_of hu
    have HU2 := Lib.hid hu
    obtain ⟨A, c, hK, hR⟩ := hu
    obtain ⟨c0, c1, f0, f1⟩ := blk_cells hK
    clear hK hR
    have HM := Lib.hid hm; clear hm
    by_cases hlt : m.length < to
    · have HP : Hid (∀ k, k ≤ 64 → m.length + k ≤ to → Calls Try.prog 95 #[.pointer (some ⟨K, 0, none⟩), .int .u64 0, .int .i64 (k : Int)] wr fun e w' => e = .returned (.tuple #[]) ∧ YW w' K (m ++ List.replicate k false) ∧ wr.grownBy w' (some K)) := fun k h1 h2 =>
        yput_ok wr K m (m ++ List.replicate k false) 0 k h1 (by simp) (by omega) (by omega) (by rw [nb_zeros]) HU2.out
      have HN : Hid (∀ k, m.length + k ≤ to → upto (m ++ List.replicate k false) to = upto l to) := fun k h => (upto_more m to k h).trans HM.out
      have HZ : Hid (∀ k, (m ++ List.replicate k false).length = m.length + k) := fun k => by simp
      clear c1 f0 f1
      go_wp2_with fail
      · have h1 : m.length + 64 ≤ to := by omega
        refine (HP.out 64 (by omega) h1).mono ?_
        rintro e w1 ⟨rfl, hu1, hg1⟩
        have hw1 := wlen_of hu1
        rw [HZ.out] at hw1
        go_wp2
        go_roundw
        case rel => exact ⟨_, HN.out 64 h1, hu1, grown_trans hg hg1⟩
        case measure => omega
      · have h0 : (to : Int) - (m.length : Int) = ((to - m.length : Nat) : Int) := by omega
        rw [h0]
        refine (HP.out (to - m.length) (by omega) (by omega)).mono ?_
        rintro e w1 ⟨rfl, hu1, hg1⟩
        have hw1 := wlen_of hu1
        rw [HZ.out] at hw1
        go_wp2
        go_roundw
        case rel => exact ⟨_, HN.out (to - m.length) (by omega), hu1, grown_trans hg hg1⟩
        case measure => omega
    · have HE : Hid (L = m) := by
        show _ = _
        rw [HL.out, ← HM.out, upto_end m to (by omega)]
      go_wp2
      go_end0
      exact ⟨rfl, by rw [HE.out]; exact HU2.out, hg⟩
end Go.Proofs.Ytkbelhclcpepaaa
