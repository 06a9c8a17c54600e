/- What Cut answers, for whatever bits and positions it is handed. -/
import Derived.Test.YtgibbokhdfblmaaAddBits
namespace Go.Proofs.Ytgibbokhdfblmaa
open Go.RowKit

set_option maxHeartbeats 400000 in
theorem cut_bad (len : Int) (A : Option Addr) (c : Nat) (bs : List Nat) (fr to : Int) (w : World) (hb : ∀ b ∈ bs, b < 256) (h : Rd w w.heap.size A bs) (hc : chk len bs ≠ 0) :
    Calls Try.prog 65 #[.agg #[.int .i64 len, .slice A bs.length c], .int .i64 fr, .int .i64 to] w (Gave w [] (chk len bs)) := by
  have HC := Lib.hid (check_begun len A c bs w hb h)
  have hcb : (chk len bs != 0) = true := by simpa using hc
  clear hc hb h
  have HB := Lib.hid (begun_below w len A bs.length c)
  generalize chk len bs = e0 at *
  generalize bs.length = nn at *
  go_enter Try.func65, Try.ntmps65
  go_wp2_with (go_at_call 43; refine HC.out.mono ?_; rintro e w1 ⟨rfl, hq⟩; obtain ⟨hc1, hf1⟩ := old_cells hq)
  exact bodyPost_ret (v := .tuple #[.agg #[.int .i64 0, .slice none 0 0], .int .i64 e0]) (by simp [results, Try.results65, go_sem, hc1]) rfl (gave_zero (HB.out.trans (hq.mono (by omega))) _ (by omega) e0)

set_option maxHeartbeats 400000 in
theorem cut_range (l : List Bool) (hl : l.length ≤ 8192) (A : Option Addr) (c : Nat) (fr to : Int) (w : World) (h : Rd w w.heap.size A (pack l)) (hw : fr < 0 ∨ to < fr ∨ (l.length : Int) < to) :
    Calls Try.prog 65 #[.agg #[.int .i64 (l.length : Int), .slice A (pack l).length c], .int .i64 fr, .int .i64 to] w (Gave w [] 3) := by
  have hc0 := check_begun (l.length : Int) A c (pack l) w (pack_lt l) h
  rw [chk_pack l hl] at hc0
  have HC := Lib.hid hc0; clear hc0
  clear h
  have HB := Lib.hid (begun_below w (l.length : Int) A (pack l).length c)
  generalize (pack l).length = nn at *
  generalize l.length = ln at *
  have hw3 : fr < 0 ∨ (0 ≤ fr ∧ to < fr) ∨ (0 ≤ fr ∧ fr ≤ to ∧ (ln : Int) < to) := by omega
  clear hw
  rcases hw3 with hw | ⟨g1, hw⟩ | ⟨g1, g2, hw⟩
  · go_enter Try.func65, Try.ntmps65
    go_wp2_with (go_at_call 43; refine HC.out.mono ?_; rintro e w1 ⟨rfl, hq⟩; obtain ⟨hc1, hf1⟩ := old_cells hq)
    exact bodyPost_ret (v := .tuple #[.agg #[.int .i64 0, .slice none 0 0], .int .i64 3]) (by simp [results, Try.results65, go_sem, hc1]) rfl (gave_zero (HB.out.trans (hq.mono (by omega))) _ (by omega) 3)
  · have t1 : decide (fr < 0) = false := by simp; omega
    have t2 : decide (to < fr) = true := by simp; omega
    go_enter Try.func65, Try.ntmps65
    go_wp2_with (go_at_call 43; refine HC.out.mono ?_; rintro e w1 ⟨rfl, hq⟩; obtain ⟨hc1, hf1⟩ := old_cells hq)
    exact bodyPost_ret (v := .tuple #[.agg #[.int .i64 0, .slice none 0 0], .int .i64 3]) (by simp [results, Try.results65, go_sem, hc1]) rfl (gave_zero (HB.out.trans (hq.mono (by omega))) _ (by omega) 3)
  · have t1 : decide (fr < 0) = false := by simp; omega
    have t2 : decide (to < fr) = false := by simp; omega
    have t3 : decide ((ln : Int) < to) = true := by simp; omega
    go_enter Try.func65, Try.ntmps65
    go_wp2_with (go_at_call 43; refine HC.out.mono ?_; rintro e w1 ⟨rfl, hq⟩; obtain ⟨hc1, hf1⟩ := old_cells hq)
    exact bodyPost_ret (v := .tuple #[.agg #[.int .i64 0, .slice none 0 0], .int .i64 3]) (by simp [results, Try.results65, go_sem, hc1]) rfl (gave_zero (HB.out.trans (hq.mono (by omega))) _ (by omega) 3)

set_option maxHeartbeats 1000000 in
theorem cut_ok (l L : List Bool) (hl : l.length ≤ 8192) (A : Option Addr) (c : Nat) (fr to : Nat) (w : World) (h : Rd w w.heap.size A (pack l)) (h1 : fr ≤ to) (h2 : to ≤ l.length) (hL : L = (l.drop fr).take (to - fr)) :
    Calls Try.prog 65 #[.agg #[.int .i64 (l.length : Int), .slice A (pack l).length c], .int .i64 (fr : Int), .int .i64 (to : Int)] w (Gave w L 0) := by
  have hc0 := check_begun (l.length : Int) A c (pack l) w (pack_lt l) h
  rw [chk_pack l hl] at hc0
  have HC := Lib.hid hc0; clear hc0
  have HL := Lib.hid hL; clear hL
  have HR := Lib.hid h; clear h
  have HB := Lib.hid (begun_below w (l.length : Int) A (pack l).length c)
  have t1 : decide ((fr : Int) < 0) = false := by simp
  have t2 : decide ((to : Int) < (fr : Int)) = false := by simp; omega
  have t3 : decide ((l.length : Int) < (to : Int)) = false := by simp; omega
  go_enter Try.func65, Try.ntmps65
  go_wp2_with fail
  refine HC.out.mono ?_
  rintro e w1 ⟨rfl, hq⟩
  obtain ⟨hc1, hf1⟩ := old_cells hq
  have hs : w.heap.size + 2 ≤ w1.heap.size := by have := hq.size; rw [begun_size'] at this; exact this
  have HS := Lib.hid hs
  have hs1 : w.heap.size + 1 < w1.heap.size := by omega
  have hs2 : w.heap.size < w1.heap.size := by omega
  have HW : Hid (Wr (w1.alloc (.cells #[.int .i64 (([] : List Bool).length : Int), .slice none 0 0] 100)) (fun k => k < w.heap.size + 2) w1.heap.size []) :=
    Wr.laid (base := w1.heap.size) (World.ownsRow_nil _ _ _ _) (fun j hj => by omega) (Nat.le_refl _)
  go_wp2_with fail
  refine (addBits_any _ (fun k => k < w.heap.size + 2) (fun j hj => by have := HS.out; simp only [World.size_alloc]; omega) w1.heap.size [] l hl A c w.heap.size (fun k hk => by omega) (by have := HS.out; simp only [World.size_alloc]; omega) fr to h1 h2 (by simp; omega) HW.out (HR.out.below ((HB.out.trans (hq.mono (by omega))).alloc (by omega) _) (Nat.le_refl _))).mono ?_
  rintro e w4 ⟨rfl, hw4, hf4⟩
  rw [List.nil_append, ← HL.out] at hw4
  have hwb : w4.heap[w.heap.size + 1]? = some (.cells #[.int .i64 0, .slice none 0 0] 25 (0, 0)) := by
    rw [hf4.block _ (by omega), Below.heap_alloc _ _ _ (by omega), hq.block _ (by omega)]
    exact begun_res w _ A _ c
  have hlow : Below w.heap.size w w4 := ((HB.out.trans (hq.mono (by omega))).alloc (by omega) _).trans (hf4.below (fun j hj => by omega))
  obtain ⟨A3, c3, ⟨d0, d1⟩, ⟨d2, d3, g0, g1⟩, HG⟩ := finish hw4 (r := w.heap.size + 1) (by omega) (by omega) hwb hlow
  clear hwb hlow hw4 hf4 hc1 hf1
  go_wp2
  exact bodyPost_ret (v := .tuple #[.agg #[.int .i64 (L.length : Int), .slice A3 (pack L).length c3], .int .i64 0]) (by simp [results, Try.results65, go_sem, d2, d3]) rfl HG.out

/-- What Cut answers. -/
def cutE (len : Int) (bs : List Nat) (fr to : Int) : Int := if chk len bs ≠ 0 then chk len bs else if fr < 0 ∨ to < fr ∨ len < to then 3 else 0

theorem cut_any (len : Int) (A : Option Addr) (c : Nat) (bs : List Nat) (fr to : Int) (w : World) (hb : ∀ b ∈ bs, b < 256) (h : Rd w w.heap.size A bs) :
    Calls Try.prog 65 #[.agg #[.int .i64 len, .slice A bs.length c], .int .i64 fr, .int .i64 to] w (Gave w (if cutE len bs fr to = 0 then ((unpack len.toNat bs).drop fr.toNat).take (to.toNat - fr.toNat) else []) (cutE len bs fr to)) := by
  by_cases hc : chk len bs = 0
  · obtain ⟨l, rfl, hl, rfl⟩ := chk_zero len bs hb hc
    by_cases hw : fr < 0 ∨ to < fr ∨ (l.length : Int) < to
    · have e : cutE (l.length : Int) (pack l) fr to = 3 := by unfold cutE; rw [if_neg (by omega), if_pos hw]
      rw [e, if_neg (by decide)]
      exact cut_range l hl A c fr to w h hw
    · have e : cutE (l.length : Int) (pack l) fr to = 0 := by unfold cutE; rw [if_neg (by omega), if_neg hw]
      rw [e, if_pos rfl]
      obtain ⟨f, rfl⟩ := Int.eq_ofNat_of_zero_le (show 0 ≤ fr by omega)
      obtain ⟨t, rfl⟩ := Int.eq_ofNat_of_zero_le (show 0 ≤ to by omega)
      rw [Int.toNat_natCast, Int.toNat_natCast, Int.toNat_natCast, unpack_pack]
      exact cut_ok l _ hl A c f t w h (by omega) (by omega) rfl
  · have e : cutE len bs fr to = chk len bs := by unfold cutE; rw [if_pos hc]
    rw [e, if_neg hc]
    exact cut_bad len A c bs fr to w hb h hc
end Go.Proofs.Ytgibbokhdfblmaa
