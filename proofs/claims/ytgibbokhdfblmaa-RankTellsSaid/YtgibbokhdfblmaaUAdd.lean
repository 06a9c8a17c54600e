/- A number's unary code is added to a writer of unary, wherever there is room for it. -/
import Derived.Test.YtgibbokhdfblmaaUMem
namespace Go.Proofs.Ytgibbokhdfblmaa
open Go.RowKit

theorem Rd.setK {w : World} {B K i : Nat} {A A' : Option Addr} {bs : List Nat} {a : Int} {n c : Nat} {t : TypeId} (u : Value) (h : Rd w B A bs) (hK : w.heap[K]? = some (.cells #[.int .i64 a, .slice A' n c] t (0, 0))) : Rd (w.setCell ⟨K, i, none⟩ u) B A bs := by
  rcases h with h | ⟨b, off, rfl, hb, hc⟩
  · exact .inl h
  · by_cases h0 : bs = []
    · exact .inl h0
    · have hl : 0 < bs.length := List.length_pos_iff.2 h0
      have hne : b ≠ K := by
        rintro rfl
        have h1 := hc 0 hl
        simp only [World.cell?, hK] at h1
        rcases (show off = 0 ∨ off = 1 ∨ 2 ≤ off by omega) with rfl | rfl | h2
        · simp at h1
        · simp at h1
        · rw [Array.getElem?_eq_none (by simp; omega)] at h1
          cases h1
      exact .inr ⟨b, off, rfl, hb, fun j hj => (World.cell?_setCell_other w _ ⟨b, off + j, none⟩ u (by intro e; exact hne (congrArg Addr.block e).symm)).trans (hc j hj)⟩

/-- New bits are stored in a writer. -/
theorem UW.put {w w' : World} {K : Nat} {l L : List Bool} {A A' : Option Addr} {c c' : Nat} (hK : w.heap[K]? = some (.cells #[.int .i64 (l.length : Int), .slice A (pack l).length c] 87 (0, 0))) (hR : Rd w' w'.heap.size A' (pack L)) (hB : Below w.heap.size w w') :
    (w'.cell? ⟨K, 0, none⟩ = some (.int .i64 (l.length : Int)) ∧ w'.cell? ⟨K, 1, none⟩ = some (.slice A (pack l).length c) ∧ w'.frozen? ⟨K, 0, none⟩ = false ∧ w'.frozen? ⟨K, 1, none⟩ = false) ∧
    Hid (UW ((w'.setCell ⟨K, 0, none⟩ (.int .i64 (L.length : Int))).setCell ⟨K, 1, none⟩ (.slice A' (pack L).length c')) K L ∧ w.grownBy ((w'.setCell ⟨K, 0, none⟩ (.int .i64 (L.length : Int))).setCell ⟨K, 1, none⟩ (.slice A' (pack L).length c')) (some K)) := by
  have hlt : K < w.heap.size := (Array.getElem?_eq_some_iff.1 hK).1
  have hK1 := (hB.block K hlt).trans hK
  have hK2 := heap_set_same w' K 0 (.int .i64 (L.length : Int)) 87 _ hK1
  have hK3 := heap_set_same _ K 1 (.slice A' (pack L).length c') 87 _ hK2
  refine ⟨blk_cells hK1, ⟨A', c', ?_, ?_⟩, grown_trans (grown_of_below hB _) (grown_trans (grown_set _ _ _ _) (grown_set _ _ _ _))⟩
  · rw [hK3]; simp
  · have r1 := hR.setK (i := 0) (.int .i64 (L.length : Int)) hK1
    have hK2' : (w'.setCell ⟨K, 0, none⟩ (.int .i64 (L.length : Int))).heap[K]? = some (.cells #[.int .i64 (L.length : Int), .slice A (pack l).length c] 87 (0, 0)) := by rw [hK2]; simp
    have r2 := r1.setK (i := 1) (.slice A' (pack L).length c') hK2'
    have e : ((w'.setCell ⟨K, 0, none⟩ (.int .i64 (L.length : Int))).setCell ⟨K, 1, none⟩ (.slice A' (pack L).length c')).heap.size = w'.heap.size := by simp [World.setCell]
    rw [e]
    exact r2

set_option maxHeartbeats 400000 in
theorem uput_ok (w : World) (K : Nat) (l L : List Bool) (n k : Nat) (hk : k ≤ 64) (hn : n / 2 ^ k = 0) (hf : l.length + k ≤ 8192) (hn64 : n < 18446744073709551616) (hL : L = l ++ nb n k) (h : UW w K l) :
    Calls Try.prog 85 #[.pointer (some ⟨K, 0, none⟩), .int .u64 (n : Int), .int .i64 (k : Int)] w fun e w' => e = .returned (.tuple #[]) ∧ UW w' K L ∧ w.grownBy w' (some K) := by
  obtain ⟨A, c, hK, hR⟩ := h
  have HP := Lib.hid (put_l l L A c n k hk hn hf hn64 hL w hR)
  obtain ⟨c0, c1, f0, f1⟩ := blk_cells hK
  have HK := Lib.hid hK
  clear hK hR hn hL
  go_enter Try.func85, Try.ntmps85
  go_wp2_with fail
  refine HP.out.mono ?_
  rintro e w1 ⟨A1, c1', rfl, R1, B1⟩
  obtain ⟨⟨d0, d1, e0, e1⟩, HU⟩ := UW.put (c' := c1') HK.out R1 B1
  clear R1 B1 c0 c1 f0 f1
  go_wp2
  go_end0
  exact ⟨rfl, HU.out.1, HU.out.2⟩

/-- At each round's head: z noughts are still to come. -/
def AddRel (w : World) (K : Nat) (l : List Bool) (n : Nat) (p : Value) (wr : World) : Prop :=
  ∃ z : Nat, z ≤ n ∧ p = .int .i64 (z : Int) ∧ UW wr K (l ++ List.replicate (n - z) false) ∧ w.grownBy wr (some K)

set_option maxHeartbeats 1000000 in
theorem uadd_ok (w : World) (K : Nat) (l L : List Bool) (n : Nat) (hf : l.length + n + 1 ≤ 8192) (hL : L = l ++ uc n) (h : UW w K l) :
    Calls Try.prog 56 #[.pointer (some ⟨K, 0, none⟩), .int .u64 (n : Int)] w fun e w' => e = .returned (.int .i64 0) ∧ UW w' K L ∧ w.grownBy w' (some K) := by
  have HU := Lib.hid h
  obtain ⟨A, c, hK, hR⟩ := h
  obtain ⟨c0, c1, f0, f1⟩ := blk_cells hK
  clear hK hR f0 f1
  have HL := Lib.hid hL; clear hL
  have t0 : decide ((8192 : Int) - (l.length : Int) ≤ (n : Int)) = false := by simp; omega
  have hw : (0 : Int) ≤ 8192 - (l.length : Int) := by omega
  go_enter Try.func56, Try.ntmps56
  go_wp2_with fail
  go_loopw [5] (fun p wr => AddRel w K l n p wr) (fun p _ => (intOf p).toNat)
  case atStart => exact ⟨n, Nat.le_refl _, rfl, by rw [Nat.sub_self, List.replicate_zero, List.append_nil]; exact HU.out, ⟨rfl, rfl, rfl, Nat.le_refl _, fun _ _ _ => rfl⟩⟩
  case round =>
    obtain ⟨z, hz, rfl, hu, hg⟩ := hrel
    by_cases h64 : 64 ≤ z
    · have HU2 := Lib.hid (uput_ok wr K (l ++ List.replicate (n - z) false) (l ++ List.replicate (n - (z - 64)) false) 0 64 (by omega) (by simp) (by rw [List.length_append, List.length_replicate]; omega) (by omega) (by
        rw [nb_zeros, List.append_assoc, List.replicate_append_replicate]; congr 2; omega) hu)
      clear hu
      go_wp2_with fail
      refine HU2.out.mono ?_
      rintro e w1 ⟨rfl, hu1, hg1⟩
      go_wp2
      go_roundw
      case rel => exact ⟨z - 64, by omega, by go_num, hu1, grown_trans hg hg1⟩
      case measure => simp [intOf]; omega
    · have HU2 := Lib.hid (uput_ok wr K (l ++ List.replicate (n - z) false) L 1 (z + 1) (by omega) (by
          rw [Nat.div_eq_zero_iff]; right; exact Nat.one_lt_two_pow (by omega)) (by rw [List.length_append, List.length_replicate]; omega) (by omega) (by
        rw [nb_one, HL.out]; unfold uc; rw [List.append_assoc, ← List.append_assoc (List.replicate (n - z) false), List.replicate_append_replicate]; congr 3; omega) hu)
      clear hu
      go_wp2_with fail
      refine HU2.out.mono ?_
      rintro e w1 ⟨rfl, hu1, hg1⟩
      go_wp2
      go_ret
      exact ⟨rfl, hu1, grown_trans hg hg1⟩

set_option maxHeartbeats 400000 in
theorem uadd_full (w : World) (K : Nat) (l : List Bool) (n : Nat) (hl : l.length ≤ 8192) (hf : 8192 < l.length + n + 1) (h : UW w K l) :
    Calls Try.prog 56 #[.pointer (some ⟨K, 0, none⟩), .int .u64 (n : Int)] w fun e w' => e = .returned (.int .i64 8) ∧ w = w' := by
  obtain ⟨A, c, hK, hR⟩ := h
  obtain ⟨c0, c1, f0, f1⟩ := blk_cells hK
  clear hK hR f0 f1
  have t0 : decide ((8192 : Int) - (l.length : Int) ≤ (n : Int)) = true := by simp; omega
  have hw : (0 : Int) ≤ 8192 - (l.length : Int) := by omega
  go_enter Try.func56, Try.ntmps56
  go_wp2
  go_ret
  exact ⟨rfl, rfl⟩
end Go.Proofs.Ytgibbokhdfblmaa
