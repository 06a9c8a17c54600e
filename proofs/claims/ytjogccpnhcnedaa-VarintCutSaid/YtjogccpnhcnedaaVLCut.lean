/- The law VarintCut: a number that is cut off ends too soon, wherever it is cut; for all numbers and places. -/
import Derived.Test.YtjogccpnhcnedaaVLLong
namespace Go.Proofs.Ytjogccpnhcnedaa
set_option maxRecDepth 100000
set_option linter.unusedVariables false
open Go.RowKit Go.Shelf

theorem Rd.take {w : World} {B : Nat} {A : Option Addr} {bs : List Nat} (h : Rd w B A bs) (k : Nat) : Rd w B A (bs.take k) := by
  rcases h with rfl | ⟨b, off, rfl, hb, hc⟩
  · exact .inl (by simp)
  · refine .inr ⟨b, off, rfl, hb, fun i hi => ?_⟩
    rw [List.length_take] at hi
    rw [List.getElem?_take_of_lt (by omega)]
    exact hc i (by omega)
theorem rdR_take (n k : Nat) (hn : n < 18446744073709551616) (hk : k < (vb n).length) : rdR ((vb n).take k) 0 = (0, 0, 7) := by
  have h10 := vb_ten n hn
  have h := rdR_in ((vb n).take k) 0 (by rw [List.length_take]; omega) (Nat.zero_le _)
  rw [List.drop_zero, vr_cut n 0 0 k (by omega) (by omega) (by omega) hk, if_neg (by decide)] at h
  exact h
theorem rdR_whole (n : Nat) (hn : n < 18446744073709551616) : rdR (vb n) 0 = (n, (vb n).length, 0) := by
  have h10 := vb_ten n hn
  have h := rdR_in (vb n) 0 (by omega) (Nat.zero_le _)
  have e := vr_app n [] hn
  rw [List.append_nil] at e
  rw [List.drop_zero, e, if_pos rfl, Nat.zero_add] at h
  exact h

set_option maxHeartbeats 1000000 in
theorem vcut_law (n : Nat) (p : Int) (w : World) (hn : n < 18446744073709551616) (hp : -9223372036854775808 ≤ p ∧ p ≤ 9223372036854775807) :
    Calls Try.prog 10 #[.int .u64 (n : Int), .int .i64 p] w fun e w' => e = .returned (.bool true) ∧ Below w.heap.size w w' := by
  have H1 : Hid (∀ w, Calls Try.prog 27 #[.slice (some ⟨w.heap.size, 0, none⟩) 1 1] (w.alloc (.cells #[.int .u64 (n : Int)] 22)) (Wrote w (vb n) 0)) := fun w => write_one n hn w
  have h10 := vb_ten n hn
  have H3 : Hid (∀ A c w, (vb n).length ≤ c → Rd w w.heap.size A (vb n) → Calls Try.prog 28 #[.slice A (vb n).length c, .int .i64 0] w (ReadP w n (vb n).length 0)) := fun A c w hc h =>
    read_any (vb n) _ rfl (vb_bytes n) 0 A c hc w h _ _ _ (rdR_whole n hn)
  have H2' := fun k (hk : k < (vb n).length) => (show Hid (∀ A c w, k ≤ c → Rd w w.heap.size A (vb n) → Calls Try.prog 28 #[.slice A k c, .int .i64 0] w (ReadP w 0 0 7)) from fun A c w hc h =>
    read_any ((vb n).take k) k (by rw [List.length_take]; omega) (fun b hb => vb_bytes n b (List.mem_of_mem_take hb)) 0 A c hc w (h.take k) _ _ _ (rdR_take n k hn hk))
  unfold Wrote at H1
  have HBy : Hid (vb n = vb n) := rfl
  generalize vb n = L at *
  generalize hl : L.length = l at *
  clear HBy
  rcases (show p < 0 ∨ (0 ≤ p ∧ (l : Int) ≤ p) ∨ (0 ≤ p ∧ p < (l : Int)) by omega) with h | ⟨h1, h2⟩ | ⟨h1, h2⟩
  · clear H2' hl
    have t1 : decide (p < 0) = true := by simpa using h
    go_enter Try.func10, Try.ntmps10
    go_wp2_with fail
    refine (H1.out w).mono ?_
    rintro e w1_ ⟨A1, c1, rfl, hc1, hr1, Bq⟩
    have HB := Lib.hid Bq
    clear Bq
    have G1 := Lib.hid hc1; clear hc1
    have G2 := Lib.hid hr1; clear hr1
    go_wp2_with fail
    refine (vbegun_true w1_).mono ?_
    rintro e w2_ ⟨rfl, Bq⟩
    replace G2 := Lib.hid (G2.out.on Bq)
    replace HB := Lib.hid (HB.out.trans (Bq.mono HB.out.size))
    clear Bq
    go_wp2
    go_ret
    exact ⟨rfl, HB.out⟩
  · clear H2' hl
    have t1 : decide (p < 0) = false := by simp; omega
    have t2 : decide ((l : Int) ≤ p) = true := by simpa using h2
    go_enter Try.func10, Try.ntmps10
    go_wp2_with fail
    refine (H1.out w).mono ?_
    rintro e w1_ ⟨A1, c1, rfl, hc1, hr1, Bq⟩
    have HB := Lib.hid Bq
    clear Bq
    have G1 := Lib.hid hc1; clear hc1
    have G2 := Lib.hid hr1; clear hr1
    go_wp2_with fail
    refine (vbegun_true w1_).mono ?_
    rintro e w2_ ⟨rfl, Bq⟩
    replace G2 := Lib.hid (G2.out.on Bq)
    replace HB := Lib.hid (HB.out.trans (Bq.mono HB.out.size))
    clear Bq
    go_wp2
    go_ret
    exact ⟨rfl, HB.out⟩
  · obtain ⟨k, rfl⟩ := Int.eq_ofNat_of_zero_le h1
    have H2 := H2' k (by omega)
    have hkl2 : k < l := by omega
    have t2 : decide (l ≤ k) = false := by simp; omega
    clear H2' hl h1 h2 hp
    go_enter Try.func10, Try.ntmps10
    go_wp2_with fail
    refine (H1.out w).mono ?_
    rintro e w1_ ⟨A1, c1, rfl, hc1, hr1, Bq⟩
    have HB := Lib.hid Bq
    clear Bq
    have G1 := Lib.hid hc1; clear hc1
    have G2 := Lib.hid hr1; clear hr1
    go_wp2_with fail
    refine (vbegun_true w1_).mono ?_
    rintro e w2_ ⟨rfl, Bq⟩
    replace G2 := Lib.hid (G2.out.on Bq)
    replace HB := Lib.hid (HB.out.trans (Bq.mono HB.out.size))
    clear Bq
    have hcap := G1.out
    have hkl : k ≤ c1 := by omega
    go_wp2_with fail
    refine (H2.out A1 c1 w2_ hkl G2.out).mono ?_
    rintro e w3_ ⟨rfl, Bq⟩
    replace G2 := Lib.hid (G2.out.on Bq)
    replace HB := Lib.hid (HB.out.trans (Bq.mono HB.out.size))
    clear Bq
    go_wp2_with fail
    refine (H3.out A1 c1 w3_ G1.out G2.out).mono ?_
    rintro e w4_ ⟨rfl, Bq⟩
    replace G2 := Lib.hid (G2.out.on Bq)
    replace HB := Lib.hid (HB.out.trans (Bq.mono HB.out.size))
    clear Bq
    go_wp2
    go_ret
    exact ⟨rfl, HB.out⟩
end Go.Proofs.Ytjogccpnhcnedaa
