/- Texts of this proof, one behind the other; each fact names its conditions. -/
import Derived.Test.YtbddcokjkdoaaaaGreatSN2
import Derived.Test.YtbddcokjkdoaaaaGreatSN7
namespace Go.Proofs.YtbddcokjkdoaaaaGreat
set_option maxRecDepth 100000
set_option linter.unusedVariables false
open Go.RowKit Go.Shelf
theorem cells7 {w : World} {X : Nat} {T : TypeId} {a b c d e f g : Value} (h : w.heap[X]? = some (.cells #[a, b, c, d, e, f, g] T (0, 0))) :
    (w.cell? ⟨X, 0, none⟩ = some a ∧ w.cell? ⟨X, 1, none⟩ = some b ∧ w.cell? ⟨X, 2, none⟩ = some c ∧ w.cell? ⟨X, 3, none⟩ = some d ∧ w.cell? ⟨X, 4, none⟩ = some e ∧ w.cell? ⟨X, 5, none⟩ = some f ∧ w.cell? ⟨X, 6, none⟩ = some g) ∧ ∀ i, w.frozen? ⟨X, i, none⟩ = false := by
  refine ⟨⟨?_, ?_, ?_, ?_, ?_, ?_, ?_⟩, fun i => frz_at h i⟩ <;> rw [cell_at h] <;> rfl
def ShRel (w7 : World) (X n t m : Nat) (wr : World) : Prop :=
  ∃ k : Nat, k ≤ m ∧ wr.heap[X]? = some (.cells #[.int .i64 (n : Int), .int .i64 (t : Int), .int .i64 (k : Int), .int .i64 0, .slice none 0 0, .int .i64 0, .slice none 0 0] 65 (0, 0)) ∧ Below X w7 wr ∧ w7.heap.size ≤ wr.heap.size
theorem below_set7 {w V : World} {B X : Nat} (h : Below B w V) (hX : B ≤ X) (a b c d e f g : Value) : Below B w (((((((V.setCell ⟨X, 0, none⟩ a).setCell ⟨X, 1, none⟩ b).setCell ⟨X, 2, none⟩ c).setCell ⟨X, 3, none⟩ d).setCell ⟨X, 4, none⟩ e).setCell ⟨X, 5, none⟩ f).setCell ⟨X, 6, none⟩ g) :=
  ((((((h.setCell (p := ⟨X, 0, none⟩) hX _).setCell (p := ⟨X, 1, none⟩) hX _).setCell (p := ⟨X, 2, none⟩) hX _).setCell (p := ⟨X, 3, none⟩) hX _).setCell (p := ⟨X, 4, none⟩) hX _).setCell (p := ⟨X, 5, none⟩) hX _).setCell (p := ⟨X, 6, none⟩) hX _
def wlen2 (w : World) (X : Nat) : Nat := match w.cell? ⟨X, 2, none⟩ with | some (.int _ n) => n.toNat | _ => 0
set_option maxHeartbeats 1000000 in
theorem shape_ok (n t m : Nat) (hm : fnw n t = m) (hn : n ≤ 300) (ht : t ≤ 1048576) (w : World) :
    Calls Tryz.prog 160 #[.int .i64 (n : Int), .int .i64 (t : Int)] w fun e w' => e = .returned (.agg #[.int .i64 (n : Int), .int .i64 (t : Int), .int .i64 (m : Int), .int .i64 0, .slice none 0 0, .int .i64 0, .slice none 0 0]) ∧ Below w.heap.size w w' := by
  have hb := fw_bound n t ht
  rw [hm] at hb
  have HM := Lib.hid hm; clear hm
  go_enter Tryz.func160, Tryz.ntmps160
  go_wp2_with fail
  obtain ⟨w7, hw7⟩ : ∃ w7, w7 = (w.alloc (.cells #[.int .i64 0, .int .i64 0, .int .i64 0, .int .i64 0, .slice none 0 0, .int .i64 0, .slice none 0 0] 65)).alloc (.cells #[.int .i64 (n : Int), .int .i64 (t : Int), .int .i64 0, .int .i64 0, .slice none 0 0, .int .i64 0, .slice none 0 0] 65) := ⟨_, rfl⟩
  have H7 : Hid (w7.heap.size = w.heap.size + 2 ∧ Below w.heap.size w w7 ∧ w7.heap[w.heap.size]? = some (.cells #[.int .i64 0, .int .i64 0, .int .i64 0, .int .i64 0, .slice none 0 0, .int .i64 0, .slice none 0 0] 65 (0, 0)) ∧ w7.heap[w.heap.size + 1]? = some (.cells #[.int .i64 (n : Int), .int .i64 (t : Int), .int .i64 0, .int .i64 0, .slice none 0 0, .int .i64 0, .slice none 0 0] 65 (0, 0))) := by
    rw [hw7]; exact ⟨by rw [World.size_alloc, World.size_alloc], up2 w _ _, (Below.heap_alloc _ _ _ (by simp)).trans (World.alloc_heap_new w _), two_new w _ _⟩
  rw [← hw7]
  clear hw7
  go_loopw [] (fun wr => ShRel w7 (w.heap.size + 1) n t m wr) (fun wr => m - wlen2 wr (w.heap.size + 1))
  case atStart => exact ⟨0, Nat.zero_le _, H7.out.2.2.2, Below.refl _ _, Nat.le_refl _⟩
  case round =>
    obtain ⟨k, hk, hblk, hbel, hsz⟩ := hrel
    obtain ⟨⟨x0, x1, x2, x3, x4, x5, x6⟩, hf⟩ := cells7 hblk
    have f2 := hf 2
    have hwl : wlen2 wr (w.heap.size + 1) = k := by unfold wlen2; rw [x2]; rfl
    have HBl := Lib.hid hblk
    have HBe := Lib.hid hbel
    have HSz := Lib.hid hsz
    clear hblk hbel hsz hf
    by_cases hn0 : 1 ≤ n
    · have tn : decide ((0 : Int) < (n : Int)) = true := by simp; omega
      have hmore := fw_more n t k hn0
      rw [HM.out] at hmore
      by_cases hlt : k < m
      · have hc := hmore.2 hlt
        clear hmore x3 x4 x5 x6
        obtain ⟨q, hq⟩ : ∃ q, n * 2 ^ (k + 1) = q := ⟨_, rfl⟩
        rw [hq] at hc
        have hqi : (n : Int) * 2 ^ (k + 1) = (q : Int) := by rw [← hq]; simp
        clear hq
        go_wp2
        have hs := heap_set_same wr (w.heap.size + 1) 2 (.int .i64 ((k : Int) + 1)) 65 _ HBl.out
        simp only [List.setIfInBounds_toArray, List.set_cons_zero, List.set_cons_succ] at hs
        refine ⟨⟨k + 1, hlt, hs, HBe.out.setCell (p := ⟨w.heap.size + 1, 2, none⟩) (Nat.le_refl _) _, by simpa [World.setCell] using HSz.out⟩, ?_⟩
        have h2 : wlen2 (wr.setCell ⟨w.heap.size + 1, 2, none⟩ (.int .i64 ((k : Int) + 1))) (w.heap.size + 1) = k + 1 := by
          unfold wlen2
          rw [(cells7 hs).1.2.2.1]; rfl
        rw [h2, hwl]; omega
      · have hc : ¬ n * 2 ^ (k + 1) ≤ t + 1 := fun h => hlt (hmore.1 h)
        clear hmore
        obtain rfl : k = m := by omega
        obtain ⟨q, hq⟩ : ∃ q, n * 2 ^ (k + 1) = q := ⟨_, rfl⟩
        rw [hq] at hc
        have hqi : (n : Int) * 2 ^ (k + 1) = (q : Int) := by rw [← hq]; simp
        have hq9 : q ≤ 9223372036854775807 := by
          rw [← hq]
          have h1 : 2 ^ (k + 1) ≤ 2 ^ 21 := Nat.pow_le_pow_right (by omega) (by omega)
          have h2 : n * 2 ^ (k + 1) ≤ 300 * 2 ^ 21 := Nat.mul_le_mul hn h1
          omega
        have tc4 : wrap64 ((n : Int) * 2 ^ (k + 1)) = (q : Int) := by rw [hqi]; unfold wrap64; omega
        have tc1 : decide (wrap64 ((n : Int) * 2 ^ (k + 1)) ≤ (t : Int) + 1) = false := by rw [tc4]; simp; omega
        clear hq hqi tc4 hc hq9 hlt
        have hr := (HBe.out.block w.heap.size (by omega)).trans H7.out.2.2.1
        obtain ⟨⟨r0, r1, r2, r3, r4, r5, r6⟩, hrf⟩ := cells7 hr
        have k0 := hrf 0; have k1 := hrf 1; have k2 := hrf 2; have k3 := hrf 3; have k4 := hrf 4; have k5 := hrf 5; have k6 := hrf 6
        have HL : Hid (Below w.heap.size w wr) := H7.out.2.1.trans (HBe.out.mono (by omega))
        clear hr hrf HBl f2
        go_wp2
        exact bodyPost_ret (v := .agg #[.int .i64 (n : Int), .int .i64 (t : Int), .int .i64 (k : Int), .int .i64 0, .slice none 0 0, .int .i64 0, .slice none 0 0]) (by simp [results, Tryz.results160, go_sem, r0, r1, r2, r3, r4, r5, r6]) rfl ⟨rfl, below_set7 HL.out (Nat.le_refl _) _ _ _ _ _ _ _⟩
    · have tn : decide ((0 : Int) < (n : Int)) = false := by simp; omega
      have tn2 : decide (0 < n) = false := by simp; omega
      have hr := (HBe.out.block w.heap.size (by omega)).trans H7.out.2.2.1
      obtain ⟨⟨r0, r1, r2, r3, r4, r5, r6⟩, hrf⟩ := cells7 hr
      have k0 := hrf 0; have k1 := hrf 1; have k2 := hrf 2; have k3 := hrf 3; have k4 := hrf 4; have k5 := hrf 5; have k6 := hrf 6
      have HL : Hid (Below w.heap.size w wr) := H7.out.2.1.trans (HBe.out.mono (by omega))
      have hkf : k = m := by (have h0 : n = 0 := by omega); (have h9 := HM.out); rw [h0, fw_zero] at h9; omega
      rw [hkf] at x2
      clear hr hrf HBl f2
      go_wp2
      exact bodyPost_ret (v := .agg #[.int .i64 (n : Int), .int .i64 (t : Int), .int .i64 (m : Int), .int .i64 0, .slice none 0 0, .int .i64 0, .slice none 0 0]) (by simp [results, Tryz.results160, go_sem, r0, r1, r2, r3, r4, r5, r6]) rfl ⟨rfl, below_set7 HL.out (Nat.le_refl _) _ _ _ _ _ _ _⟩
end Go.Proofs.YtbddcokjkdoaaaaGreat
