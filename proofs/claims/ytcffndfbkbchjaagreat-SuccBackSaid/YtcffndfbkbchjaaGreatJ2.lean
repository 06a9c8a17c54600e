/- What Join answers, for whatever bits it is handed. -/
import Derived.Test.YtcffndfbkbchjaaGreatJ1
import Derived.ProofKit
import Derived.OpenShut
import Derived.ShutString
import Derived.ChangeOld
import Derived.Lib.SmallJoins
namespace Go.Proofs.YtcffndfbkbchjaaGreat

section
open Go.RowKit

/-- The three blocks that Join begins with. -/
def begun3 (w : World) (a b : Value) (a' b' : Value) : World := ((w.alloc (.cells #[a, a'] 35)).alloc (.cells #[b, b'] 35)).alloc (.cells #[.int .i64 0, .slice none 0 0] 35)
theorem begun3_size (w : World) (a b a' b' : Value) : (begun3 w a b a' b').heap.size = w.heap.size + 3 := by
  unfold begun3; simp only [World.size_alloc]
theorem begun3_below (w : World) (a b a' b' : Value) : Below w.heap.size w (begun3 w a b a' b') := (((Below.refl _ w).alloc (Nat.le_refl _) _).alloc (by simp) _).alloc (by simp only [World.size_alloc]; omega) _
theorem begun3_res (w : World) (a b a' b' : Value) : (begun3 w a b a' b').heap[w.heap.size + 1 + 1]? = some (.cells #[.int .i64 0, .slice none 0 0] 35) := by
  have := World.alloc_heap_new ((w.alloc (.cells #[a, a'] 35)).alloc (.cells #[b, b'] 35)) (.cells #[.int .i64 0, .slice none 0 0] 35)
  simp only [World.size_alloc] at this
  exact this

/-- Check, called later on. -/
theorem check_later (len : Int) (A : Option Addr) (c : Nat) (bs : List Nat) (w : World) (hb : ∀ b ∈ bs, b < 256) (h : Rd w w.heap.size A bs) (W' : World) (hW : Below w.heap.size w W') :
    Calls Tryz.prog 46 #[.agg #[.int .i64 len, .slice A bs.length c]] W' fun e w' => e = .returned (.int .i64 (chk len bs)) ∧ Below W'.heap.size W' w' :=
  check_any len A c bs W' hb (h.below hW hW.size)

set_option maxHeartbeats 400000 in
theorem join_a (lx ly : Int) (A B : Option Addr) (c d : Nat) (xs ys : List Nat) (w : World) (hx : ∀ b ∈ xs, b < 256) (hA : Rd w w.heap.size A xs) (h : chk lx xs ≠ 0) :
    Calls Tryz.prog 25 #[.agg #[.int .i64 lx, .slice A xs.length c], .agg #[.int .i64 ly, .slice B ys.length d]] w (Gave w [] (chk lx xs)) := by
  have HX := Lib.hid (check_later lx A c xs w hx hA (begun3 w (.int .i64 lx) (.int .i64 ly) (.slice A xs.length c) (.slice B ys.length d)) (begun3_below _ _ _ _ _))
  have hcb : (chk lx xs != 0) = true := by simpa using h
  clear h hx hA
  have HB := Lib.hid (begun3_below w (.int .i64 lx) (.int .i64 ly) (.slice A xs.length c) (.slice B ys.length d))
  rw [begun3_size] at HX
  generalize chk lx xs = e0 at *
  generalize xs.length = n at *
  generalize ys.length = m at *
  go_enter Tryz.func25, Tryz.ntmps25
  go_wp2_with (go_at_call 46; refine HX.out.mono ?_; rintro e w1 ⟨rfl, hq⟩; unfold begun3 at hq; obtain ⟨hc1, hf1⟩ := old_cells hq)
  exact bodyPost_ret (v := .tuple #[.agg #[.int .i64 0, .slice none 0 0], .int .i64 e0]) (by simp [results, Tryz.results25, go_sem, hc1]) rfl (gave_zero (HB.out.trans (hq.mono (by omega))) _ (by omega) e0)

set_option maxHeartbeats 400000 in
theorem join_b (lx ly : Int) (A B : Option Addr) (c d : Nat) (xs ys : List Nat) (w : World) (hx : ∀ b ∈ xs, b < 256) (hA : Rd w w.heap.size A xs) (h : chk lx xs = 0) (hy : ∀ b ∈ ys, b < 256) (hB : Rd w w.heap.size B ys) (h2 : chk ly ys ≠ 0) :
    Calls Tryz.prog 25 #[.agg #[.int .i64 lx, .slice A xs.length c], .agg #[.int .i64 ly, .slice B ys.length d]] w (Gave w [] (chk ly ys)) := by
  have hX := check_later lx A c xs w hx hA (begun3 w (.int .i64 lx) (.int .i64 ly) (.slice A xs.length c) (.slice B ys.length d)) (begun3_below _ _ _ _ _)
  rw [h, begun3_size] at hX
  have HX := Lib.hid hX; clear hX
  have HY := Lib.hid (check_later ly B d ys w hy hB)
  have hcb : (chk ly ys != 0) = true := by simpa using h2
  clear h h2 hx hA hy hB
  have HB := Lib.hid (begun3_below w (.int .i64 lx) (.int .i64 ly) (.slice A xs.length c) (.slice B ys.length d))
  generalize chk ly ys = e0 at *
  generalize xs.length = n at *
  generalize ys.length = m at *
  go_enter Tryz.func25, Tryz.ntmps25
  go_wp2_with fail
  refine HX.out.mono ?_
  rintro e w1 ⟨rfl, hq⟩
  unfold begun3 at hq
  obtain ⟨hc1, hf1⟩ := old_cells hq
  have HS : Hid (w.heap.size + 3 ≤ w1.heap.size) := by have := hq.size; rw [show (((w.alloc _).alloc _).alloc _).heap.size = w.heap.size + 3 from begun3_size w _ _ _ _] at this; exact this
  go_wp2_with fail
  refine (HY.out w1 (HB.out.trans (hq.mono (by omega)))).mono ?_
  rintro e w2 ⟨rfl, hq2⟩
  have hq3 := hq.trans (hq2.mono HS.out)
  clear hc1 hf1
  obtain ⟨hc1, hf1⟩ := old_cells hq3
  go_wp2
  exact bodyPost_ret (v := .tuple #[.agg #[.int .i64 0, .slice none 0 0], .int .i64 e0]) (by simp [results, Tryz.results25, go_sem, hc1]) rfl (gave_zero (HB.out.trans (hq3.mono (by omega))) _ (by omega) e0)

set_option maxHeartbeats 1000000 in
theorem join_in (a b L : List Bool) (ha : a.length ≤ 8192) (hb : b.length ≤ 8192) (A B : Option Addr) (c d : Nat) (w : World) (hA : Rd w w.heap.size A (pack a)) (hB : Rd w w.heap.size B (pack b)) (hL : L = a ++ b) :
    Calls Tryz.prog 25 #[.agg #[.int .i64 (a.length : Int), .slice A (pack a).length c], .agg #[.int .i64 (b.length : Int), .slice B (pack b).length d]] w (Gave w (if 8192 < a.length + b.length then [] else L) (if 8192 < a.length + b.length then 8 else 0)) := by
  have hX := check_later (a.length : Int) A c (pack a) w (pack_lt a) hA (begun3 w (.int .i64 (a.length : Int)) (.int .i64 (b.length : Int)) (.slice A (pack a).length c) (.slice B (pack b).length d)) (begun3_below _ _ _ _ _)
  rw [chk_pack a ha, begun3_size] at hX
  have HX := Lib.hid hX; clear hX
  have hY := check_later (b.length : Int) B d (pack b) w (pack_lt b) hB
  rw [chk_pack b hb] at hY
  have HY := Lib.hid hY; clear hY
  have HBz := Lib.hid (begun3_below w (.int .i64 (a.length : Int)) (.int .i64 (b.length : Int)) (.slice A (pack a).length c) (.slice B (pack b).length d))
  have HCP : Hid (∀ w2, Below w.heap.size w w2 → Calls Tryz.prog 60 #[.agg #[.int .i64 (a.length : Int), .slice A (pack a).length c]] w2 (Copied w2 (a.length : Int) (pack a).length (pack a))) := fun w2 hq =>
    copy_any _ w2 A c (pack a) (by rw [pack_length]; omega) (hA.below hq hq.size)
  have HL := Lib.hid hL; clear hL
  have HBR := Lib.hid hB; clear hB hA
  by_cases hf : 8192 < a.length + b.length
  · rw [if_pos hf, if_pos hf]
    go_enter Tryz.func25, Tryz.ntmps25
    go_wp2_with fail
    refine HX.out.mono ?_
    rintro e w1 ⟨rfl, hq⟩
    unfold begun3 at hq
    obtain ⟨hc1, hf1⟩ := old_cells hq
    have HS : Hid (w.heap.size + 3 ≤ w1.heap.size) := by have := hq.size; rw [show (((w.alloc _).alloc _).alloc _).heap.size = w.heap.size + 3 from begun3_size w _ _ _ _] at this; exact this
    go_wp2_with fail
    refine (HY.out w1 (HBz.out.trans (hq.mono (by omega)))).mono ?_
    rintro e w2 ⟨rfl, hq2⟩
    have hq3 := hq.trans (hq2.mono HS.out)
    clear hc1 hf1
    obtain ⟨hc1, hf1⟩ := old_cells hq3
    go_wp2
    exact bodyPost_ret (v := .tuple #[.agg #[.int .i64 0, .slice none 0 0], .int .i64 8]) (by simp [results, Tryz.results25, go_sem, hc1]) rfl (gave_zero (HBz.out.trans (hq3.mono (by omega))) _ (by omega) 8)
  · rw [if_neg hf, if_neg hf]
    have hf' : a.length + b.length ≤ 8192 := by omega
    clear hf
    go_enter Tryz.func25, Tryz.ntmps25
    go_wp2_with fail
    refine HX.out.mono ?_
    rintro e w1 ⟨rfl, hq⟩
    unfold begun3 at hq
    obtain ⟨hc1, hf1⟩ := old_cells hq
    have HS : Hid (w.heap.size + 3 ≤ w1.heap.size) := by have := hq.size; rw [show (((w.alloc _).alloc _).alloc _).heap.size = w.heap.size + 3 from begun3_size w _ _ _ _] at this; exact this
    go_wp2_with fail
    refine (HY.out w1 (HBz.out.trans (hq.mono (by omega)))).mono ?_
    rintro e w2 ⟨rfl, hq2⟩
    have hq3 := hq.trans (hq2.mono HS.out)
    have HS2 : Hid (w.heap.size + 3 ≤ w2.heap.size) := by have h1 := HS.out; have h2 := hq2.size; show _ ≤ _; omega
    clear hc1 hf1 hq hq2
    obtain ⟨hc1, hf1⟩ := old_cells hq3
    go_wp2_with fail
    refine (HCP.out w2 (HBz.out.trans (hq3.mono (by omega)))).mono ?_
    rintro e w3 ⟨A2, c2, rfl, ho3, hb3⟩
    have hq4 := hq3.trans (hb3.mono HS2.out)
    have HS3 : Hid (w.heap.size + 3 ≤ w3.heap.size) := by have h1 := HS2.out; have h2 := hb3.size; show _ ≤ _; omega
    have HW : Hid (Wr (w3.alloc (.cells #[.int .i64 (a.length : Int), .slice A2 (pack a).length c2] 92)) (fun k => k < w.heap.size + 3) w3.heap.size a) := Wr.laid ho3 (fun j hj => by have := HS2.out; omega) hb3.size
    have HR : Hid (Rd (w3.alloc (.cells #[.int .i64 (a.length : Int), .slice A2 (pack a).length c2] 92)) w.heap.size B (pack b)) := HBR.out.below ((HBz.out.trans (hq4.mono (by omega))).alloc (by have := HS3.out; omega) _) (Nat.le_refl _)
    clear hc1 hf1 ho3 hb3
    obtain ⟨hc1, hf1⟩ := old_cells hq4
    have hs1 : w.heap.size + 1 < w3.heap.size := by have := HS3.out; omega
    go_wp2_with fail
    have hz0 : ((0 : Nat) : Int) = 0 := rfl
    rw [← hz0]
    refine (addBits_any _ (fun k => k < w.heap.size + 3) (fun j hj => by have := HS3.out; simp only [World.size_alloc]; omega) w3.heap.size a b hb B d w.heap.size (fun k hk => by omega) (by have := HS3.out; simp only [World.size_alloc]; omega) 0 b.length (by omega) (Nat.le_refl _) (by omega) HW.out HR.out).mono ?_
    rintro e w4 ⟨rfl, hw4, hf4⟩
    rw [List.drop_zero, Nat.sub_zero, List.take_length, ← HL.out] at hw4
    have hwb : w4.heap[w.heap.size + 1 + 1]? = some (.cells #[.int .i64 0, .slice none 0 0] 35 (0, 0)) := by
      rw [hf4.block _ (by omega), Below.heap_alloc _ _ _ (by have := HS3.out; omega), hq4.block _ (by omega)]
      exact begun3_res w _ _ _ _
    have hlow : Below w.heap.size w w4 := ((HBz.out.trans (hq4.mono (by omega))).alloc (by have := HS3.out; omega) _).trans (hf4.below (fun j hj => by omega))
    obtain ⟨A3, c3, ⟨d0, d1⟩, ⟨d2, d3, g0, g1⟩, HG⟩ := finish hw4 (r := w.heap.size + 1 + 1) (by omega) (by omega) hwb hlow
    clear hwb hlow hw4 hf4 hc1 hf1 hz0
    go_wp2
    exact bodyPost_ret (v := .tuple #[.agg #[.int .i64 (L.length : Int), .slice A3 (pack L).length c3], .int .i64 0]) (by simp [results, Tryz.results25, go_sem, d2, d3]) rfl HG.out

/-- What Join answers. -/
def joinE (lx : Int) (xs : List Nat) (ly : Int) (ys : List Nat) : Int := if chk lx xs ≠ 0 then chk lx xs else if chk ly ys ≠ 0 then chk ly ys else if 8192 < lx + ly then 8 else 0

theorem join_any (lx ly : Int) (A B : Option Addr) (c d : Nat) (xs ys : List Nat) (w : World) (hx : ∀ b ∈ xs, b < 256) (hA : Rd w w.heap.size A xs) (hy : ∀ b ∈ ys, b < 256) (hB : Rd w w.heap.size B ys) :
    Calls Tryz.prog 25 #[.agg #[.int .i64 lx, .slice A xs.length c], .agg #[.int .i64 ly, .slice B ys.length d]] w (Gave w (if joinE lx xs ly ys = 0 then unpack lx.toNat xs ++ unpack ly.toNat ys else []) (joinE lx xs ly ys)) := by
  by_cases h : chk lx xs = 0
  · by_cases h2 : chk ly ys = 0
    · obtain ⟨a, rfl, ha, rfl⟩ := chk_zero lx xs hx h
      obtain ⟨b, rfl, hb, rfl⟩ := chk_zero ly ys hy h2
      have hj := join_in a b _ ha hb A B c d w hA hB rfl
      have e : joinE (a.length : Int) (pack a) (b.length : Int) (pack b) = if 8192 < a.length + b.length then 8 else 0 := by
        unfold joinE
        rw [if_neg (by omega), if_neg (by omega)]
        by_cases hf : 8192 < a.length + b.length
        · rw [if_pos hf, if_pos (by omega)]
        · rw [if_neg hf, if_neg (by omega)]
      rw [e, Int.toNat_natCast, Int.toNat_natCast, unpack_pack, unpack_pack]
      by_cases hf : 8192 < a.length + b.length
      · rw [if_pos hf, if_pos hf] at hj
        rw [if_pos hf]
        rw [if_neg (by decide)]
        exact hj
      · rw [if_neg hf, if_neg hf] at hj
        rw [if_neg hf]
        rw [if_pos rfl]
        exact hj
    · have e : joinE lx xs ly ys = chk ly ys := by unfold joinE; rw [if_neg (by omega), if_pos h2]
      rw [e, if_neg h2]
      exact join_b lx ly A B c d xs ys w hx hA h hy hB h2
  · have e : joinE lx xs ly ys = chk lx xs := by unfold joinE; rw [if_pos h]
    rw [e, if_neg h]
    exact join_a lx ly A B c d xs ys w hx hA h
end

section
open Go.RowKit

set_option maxHeartbeats 400000 in
theorem cut_bad (len : Int) (A : Option Addr) (c : Nat) (bs : List Nat) (fr to : Int) (w : World) (hb : ∀ b ∈ bs, b < 256) (h : Rd w w.heap.size A bs) (hc : chk len bs ≠ 0) :
    Calls Tryz.prog 26 #[.agg #[.int .i64 len, .slice A bs.length c], .int .i64 fr, .int .i64 to] w (Gave w [] (chk len bs)) := by
  have HC := Lib.hid (check_begun len A c bs w hb h)
  have hcb : (chk len bs != 0) = true := by simpa using hc
  clear hc hb h
  have HB := Lib.hid (begun_below w len A bs.length c)
  generalize chk len bs = e0 at *
  generalize bs.length = nn at *
  go_enter Tryz.func26, Tryz.ntmps26
  go_wp2_with (go_at_call 46; refine HC.out.mono ?_; rintro e w1 ⟨rfl, hq⟩; obtain ⟨hc1, hf1⟩ := old_cells hq)
  exact bodyPost_ret (v := .tuple #[.agg #[.int .i64 0, .slice none 0 0], .int .i64 e0]) (by simp [results, Tryz.results26, go_sem, hc1]) rfl (gave_zero (HB.out.trans (hq.mono (by omega))) _ (by omega) e0)

set_option maxHeartbeats 400000 in
theorem cut_range (l : List Bool) (hl : l.length ≤ 8192) (A : Option Addr) (c : Nat) (fr to : Int) (w : World) (h : Rd w w.heap.size A (pack l)) (hw : fr < 0 ∨ to < fr ∨ (l.length : Int) < to) :
    Calls Tryz.prog 26 #[.agg #[.int .i64 (l.length : Int), .slice A (pack l).length c], .int .i64 fr, .int .i64 to] w (Gave w [] 3) := by
  have hc0 := check_begun (l.length : Int) A c (pack l) w (pack_lt l) h
  rw [chk_pack l hl] at hc0
  have HC := Lib.hid hc0; clear hc0
  clear h
  have HB := Lib.hid (begun_below w (l.length : Int) A (pack l).length c)
  generalize (pack l).length = nn at *
  generalize l.length = ln at *
  have hw3 : fr < 0 ∨ (0 ≤ fr ∧ to < fr) ∨ (0 ≤ fr ∧ fr ≤ to ∧ (ln : Int) < to) := by omega
  clear hw
  rcases hw3 with hw | ⟨g1, hw⟩ | ⟨g1, g2, hw⟩
  · go_enter Tryz.func26, Tryz.ntmps26
    go_wp2_with (go_at_call 46; refine HC.out.mono ?_; rintro e w1 ⟨rfl, hq⟩; obtain ⟨hc1, hf1⟩ := old_cells hq)
    exact bodyPost_ret (v := .tuple #[.agg #[.int .i64 0, .slice none 0 0], .int .i64 3]) (by simp [results, Tryz.results26, go_sem, hc1]) rfl (gave_zero (HB.out.trans (hq.mono (by omega))) _ (by omega) 3)
  · have t1 : decide (fr < 0) = false := by simp; omega
    have t2 : decide (to < fr) = true := by simp; omega
    go_enter Tryz.func26, Tryz.ntmps26
    go_wp2_with (go_at_call 46; refine HC.out.mono ?_; rintro e w1 ⟨rfl, hq⟩; obtain ⟨hc1, hf1⟩ := old_cells hq)
    exact bodyPost_ret (v := .tuple #[.agg #[.int .i64 0, .slice none 0 0], .int .i64 3]) (by simp [results, Tryz.results26, go_sem, hc1]) rfl (gave_zero (HB.out.trans (hq.mono (by omega))) _ (by omega) 3)
  · have t1 : decide (fr < 0) = false := by simp; omega
    have t2 : decide (to < fr) = false := by simp; omega
    have t3 : decide ((ln : Int) < to) = true := by simp; omega
    go_enter Tryz.func26, Tryz.ntmps26
    go_wp2_with (go_at_call 46; refine HC.out.mono ?_; rintro e w1 ⟨rfl, hq⟩; obtain ⟨hc1, hf1⟩ := old_cells hq)
    exact bodyPost_ret (v := .tuple #[.agg #[.int .i64 0, .slice none 0 0], .int .i64 3]) (by simp [results, Tryz.results26, go_sem, hc1]) rfl (gave_zero (HB.out.trans (hq.mono (by omega))) _ (by omega) 3)

set_option maxHeartbeats 1000000 in
theorem cut_ok (l L : List Bool) (hl : l.length ≤ 8192) (A : Option Addr) (c : Nat) (fr to : Nat) (w : World) (h : Rd w w.heap.size A (pack l)) (h1 : fr ≤ to) (h2 : to ≤ l.length) (hL : L = (l.drop fr).take (to - fr)) :
    Calls Tryz.prog 26 #[.agg #[.int .i64 (l.length : Int), .slice A (pack l).length c], .int .i64 (fr : Int), .int .i64 (to : Int)] w (Gave w L 0) := by
  have hc0 := check_begun (l.length : Int) A c (pack l) w (pack_lt l) h
  rw [chk_pack l hl] at hc0
  have HC := Lib.hid hc0; clear hc0
  have HL := Lib.hid hL; clear hL
  have HR := Lib.hid h; clear h
  have HB := Lib.hid (begun_below w (l.length : Int) A (pack l).length c)
  have t1 : decide ((fr : Int) < 0) = false := by simp
  have t2 : decide ((to : Int) < (fr : Int)) = false := by simp; omega
  have t3 : decide ((l.length : Int) < (to : Int)) = false := by simp; omega
  go_enter Tryz.func26, Tryz.ntmps26
  go_wp2_with fail
  refine HC.out.mono ?_
  rintro e w1 ⟨rfl, hq⟩
  obtain ⟨hc1, hf1⟩ := old_cells hq
  have hs : w.heap.size + 2 ≤ w1.heap.size := by have := hq.size; rw [begun_size'] at this; exact this
  have HS := Lib.hid hs
  have hs1 : w.heap.size + 1 < w1.heap.size := by omega
  have hs2 : w.heap.size < w1.heap.size := by omega
  have HW : Hid (Wr (w1.alloc (.cells #[.int .i64 (([] : List Bool).length : Int), .slice none 0 0] 92)) (fun k => k < w.heap.size + 2) w1.heap.size []) :=
    Wr.laid (base := w1.heap.size) (World.ownsRow_nil _ _ _ _) (fun j hj => by omega) (Nat.le_refl _)
  go_wp2_with fail
  refine (addBits_any _ (fun k => k < w.heap.size + 2) (fun j hj => by have := HS.out; simp only [World.size_alloc]; omega) w1.heap.size [] l hl A c w.heap.size (fun k hk => by omega) (by have := HS.out; simp only [World.size_alloc]; omega) fr to h1 h2 (by simp; omega) HW.out (HR.out.below ((HB.out.trans (hq.mono (by omega))).alloc (by omega) _) (Nat.le_refl _))).mono ?_
  rintro e w4 ⟨rfl, hw4, hf4⟩
  rw [List.nil_append, ← HL.out] at hw4
  have hwb : w4.heap[w.heap.size + 1]? = some (.cells #[.int .i64 0, .slice none 0 0] 35 (0, 0)) := by
    rw [hf4.block _ (by omega), Below.heap_alloc _ _ _ (by omega), hq.block _ (by omega)]
    exact begun_res w _ A _ c
  have hlow : Below w.heap.size w w4 := ((HB.out.trans (hq.mono (by omega))).alloc (by omega) _).trans (hf4.below (fun j hj => by omega))
  obtain ⟨A3, c3, ⟨d0, d1⟩, ⟨d2, d3, g0, g1⟩, HG⟩ := finish hw4 (r := w.heap.size + 1) (by omega) (by omega) hwb hlow
  clear hwb hlow hw4 hf4 hc1 hf1
  go_wp2
  exact bodyPost_ret (v := .tuple #[.agg #[.int .i64 (L.length : Int), .slice A3 (pack L).length c3], .int .i64 0]) (by simp [results, Tryz.results26, go_sem, d2, d3]) rfl HG.out

/-- What Cut answers. -/
def cutE (len : Int) (bs : List Nat) (fr to : Int) : Int := if chk len bs ≠ 0 then chk len bs else if fr < 0 ∨ to < fr ∨ len < to then 3 else 0

theorem cut_any (len : Int) (A : Option Addr) (c : Nat) (bs : List Nat) (fr to : Int) (w : World) (hb : ∀ b ∈ bs, b < 256) (h : Rd w w.heap.size A bs) :
    Calls Tryz.prog 26 #[.agg #[.int .i64 len, .slice A bs.length c], .int .i64 fr, .int .i64 to] w (Gave w (if cutE len bs fr to = 0 then ((unpack len.toNat bs).drop fr.toNat).take (to.toNat - fr.toNat) else []) (cutE len bs fr to)) := by
  by_cases hc : chk len bs = 0
  · obtain ⟨l, rfl, hl, rfl⟩ := chk_zero len bs hb hc
    by_cases hw : fr < 0 ∨ to < fr ∨ (l.length : Int) < to
    · have e : cutE (l.length : Int) (pack l) fr to = 3 := by unfold cutE; rw [if_neg (by omega), if_pos hw]
      rw [e, if_neg (by decide)]
      exact cut_range l hl A c fr to w h hw
    · have e : cutE (l.length : Int) (pack l) fr to = 0 := by unfold cutE; rw [if_neg (by omega), if_neg hw]
      rw [e, if_pos rfl]
      obtain ⟨f, rfl⟩ := Int.eq_ofNat_of_zero_le (show 0 ≤ fr by omega)
      obtain ⟨t, rfl⟩ := Int.eq_ofNat_of_zero_le (show 0 ≤ to by omega)
      rw [Int.toNat_natCast, Int.toNat_natCast, Int.toNat_natCast, unpack_pack]
      exact cut_ok l _ hl A c f t w h (by omega) (by omega) rfl
  · have e : cutE len bs fr to = chk len bs := by unfold cutE; rw [if_pos hc]
    rw [e, if_neg hc]
    exact cut_bad len A c bs fr to w hb h hc
end

section
open Go.RowKit Go.Shelf

attribute [local go_sem] Oper.semAt_some

/-- Bits as a number, the first one the highest. -/
def num (l : List Bool) : Nat := l.foldl (fun n b => 2 * n + b.toNat) 0
theorem num_snoc (l : List Bool) (b : Bool) : num (l ++ [b]) = 2 * num l + b.toNat := by simp [num]
theorem fold_lt (l : List Bool) : ∀ a : Nat, l.foldl (fun n b => 2 * n + b.toNat) a < (a + 1) * 2 ^ l.length := by
  induction l with
  | nil => intro a; simp
  | cons b l ih =>
    intro a
    rw [List.foldl_cons, List.length_cons]
    refine Nat.lt_of_lt_of_le (ih _) ?_
    have := Bool.toNat_le b
    rw [Nat.pow_succ, Nat.mul_comm (2 ^ l.length) 2, ← Nat.mul_assoc]
    exact Nat.mul_le_mul_right _ (by omega)
theorem num_lt (l : List Bool) : num l < 2 ^ l.length := by
  have := fold_lt l 0
  rwa [Nat.zero_add, Nat.one_mul] at this

/-- A number and an error come back. -/
def Got (w : World) (n : Nat) (err : Int) (e : Ending) (w' : World) : Prop := e = .returned (.tuple #[.int .u64 (n : Int), .int .i64 err]) ∧ Below w.heap.size w w'

theorem check_one (len : Int) (A : Option Addr) (c : Nat) (bs : List Nat) (w : World) (hb : ∀ b ∈ bs, b < 256) (h : Rd w w.heap.size A bs) :
    Calls Tryz.prog 46 #[.agg #[.int .i64 len, .slice A bs.length c]] (w.alloc (.cells #[.int .i64 len, .slice A bs.length c] 35)) fun e w' => e = .returned (.int .i64 (chk len bs)) ∧ Below (w.heap.size + 1) (w.alloc (.cells #[.int .i64 len, .slice A bs.length c] 35)) w' := by
  have := check_any len A c bs (w.alloc (.cells #[.int .i64 len, .slice A bs.length c] 35)) hb (h.below ((Below.refl _ w).alloc (Nat.le_refl _) _) (by simp))
  rwa [World.size_alloc] at this

theorem one_below (w : World) (o : Obj) : Below w.heap.size w (w.alloc o) := (Below.refl _ w).alloc (Nat.le_refl _) _

set_option maxHeartbeats 400000 in
theorem get_bad (len : Int) (A : Option Addr) (c : Nat) (bs : List Nat) (at_ width : Int) (w : World) (hb : ∀ b ∈ bs, b < 256) (h : Rd w w.heap.size A bs) (hc : chk len bs ≠ 0) :
    Calls Tryz.prog 29 #[.agg #[.int .i64 len, .slice A bs.length c], .int .i64 at_, .int .i64 width] w (Got w 0 (chk len bs)) := by
  have HC := Lib.hid (check_one len A c bs w hb h)
  have hcb : (chk len bs != 0) = true := by simpa using hc
  clear hc hb h
  have HB := Lib.hid (one_below w (.cells #[.int .i64 len, .slice A bs.length c] 35))
  generalize chk len bs = e0 at *
  generalize bs.length = nn at *
  go_enter Tryz.func29, Tryz.ntmps29
  go_wp2_with (go_at_call 46; refine HC.out.mono ?_; rintro e w1 ⟨rfl, hq⟩; obtain ⟨hc1, hf1⟩ := old_cells hq)
  go_ret2
  exact ⟨rfl, HB.out.trans (hq.mono (by omega))⟩

set_option maxHeartbeats 400000 in
theorem get_range (l : List Bool) (hl : l.length ≤ 8192) (A : Option Addr) (c : Nat) (at_ width : Int) (w : World) (h : Rd w w.heap.size A (pack l)) (hw : width < 0 ∨ 64 < width ∨ at_ < 0 ∨ (l.length : Int) < at_) :
    Calls Tryz.prog 29 #[.agg #[.int .i64 (l.length : Int), .slice A (pack l).length c], .int .i64 at_, .int .i64 width] w (Got w 0 3) := by
  have hc0 := check_one (l.length : Int) A c (pack l) w (pack_lt l) h
  rw [chk_pack l hl] at hc0
  have HC := Lib.hid hc0; clear hc0
  clear h
  have HB := Lib.hid (one_below w (.cells #[.int .i64 (l.length : Int), .slice A (pack l).length c] 35))
  generalize (pack l).length = nn at *
  generalize l.length = ln at *
  have hw3 : width < 0 ∨ 64 < width ∨ (0 ≤ width ∧ width ≤ 64 ∧ at_ < 0) ∨ (0 ≤ width ∧ width ≤ 64 ∧ 0 ≤ at_ ∧ (ln : Int) < at_) := by omega
  clear hw
  rcases hw3 with hw | hw | ⟨g1, g2, hw⟩ | ⟨g1, g2, g3, hw⟩
  · have t1 : decide (width < 0) = true := by simp; omega
    go_enter Tryz.func29, Tryz.ntmps29
    go_wp2_with (go_at_call 46; refine HC.out.mono ?_; rintro e w1 ⟨rfl, hq⟩; obtain ⟨hc1, hf1⟩ := old_cells hq)
    go_ret2
    exact ⟨rfl, HB.out.trans (hq.mono (by omega))⟩
  · have t1 : decide (width < 0) = false := by simp; omega
    have t2 : decide (64 < width) = true := by simp; omega
    go_enter Tryz.func29, Tryz.ntmps29
    go_wp2_with (go_at_call 46; refine HC.out.mono ?_; rintro e w1 ⟨rfl, hq⟩; obtain ⟨hc1, hf1⟩ := old_cells hq)
    go_ret2
    exact ⟨rfl, HB.out.trans (hq.mono (by omega))⟩
  · have t1 : decide (width < 0) = false := by simp; omega
    have t2 : decide (64 < width) = false := by simp; omega
    have t3 : decide (at_ < 0) = true := by simp; omega
    go_enter Tryz.func29, Tryz.ntmps29
    go_wp2_with (go_at_call 46; refine HC.out.mono ?_; rintro e w1 ⟨rfl, hq⟩; obtain ⟨hc1, hf1⟩ := old_cells hq)
    go_ret2
    exact ⟨rfl, HB.out.trans (hq.mono (by omega))⟩
  · have t1 : decide (width < 0) = false := by simp; omega
    have t2 : decide (64 < width) = false := by simp; omega
    have t3 : decide (at_ < 0) = false := by simp; omega
    have t4 : decide ((ln : Int) < at_) = true := by simp; omega
    go_enter Tryz.func29, Tryz.ntmps29
    go_wp2_with (go_at_call 46; refine HC.out.mono ?_; rintro e w1 ⟨rfl, hq⟩; obtain ⟨hc1, hf1⟩ := old_cells hq)
    go_ret2
    exact ⟨rfl, HB.out.trans (hq.mono (by omega))⟩

set_option maxHeartbeats 400000 in
theorem get_short (l : List Bool) (hl : l.length ≤ 8192) (A : Option Addr) (c : Nat) (at_ width : Int) (w : World) (h : Rd w w.heap.size A (pack l)) (h1 : 0 ≤ width) (h2 : width ≤ 64) (h3 : 0 ≤ at_) (h4 : at_ ≤ (l.length : Int)) (hs : (l.length : Int) - at_ < width) :
    Calls Tryz.prog 29 #[.agg #[.int .i64 (l.length : Int), .slice A (pack l).length c], .int .i64 at_, .int .i64 width] w (Got w 0 7) := by
  have hc0 := check_one (l.length : Int) A c (pack l) w (pack_lt l) h
  rw [chk_pack l hl] at hc0
  have HC := Lib.hid hc0; clear hc0
  clear h
  have HB := Lib.hid (one_below w (.cells #[.int .i64 (l.length : Int), .slice A (pack l).length c] 35))
  generalize (pack l).length = nn at *
  generalize l.length = ln at *
  have t1 : decide (width < 0) = false := by simp; omega
  have t2 : decide (64 < width) = false := by simp; omega
  have t3 : decide (at_ < 0) = false := by simp; omega
  have t4 : decide ((ln : Int) < at_) = false := by simp; omega
  go_enter Tryz.func29, Tryz.ntmps29
  go_wp2_with (go_at_call 46; refine HC.out.mono ?_; rintro e w1 ⟨rfl, hq⟩; obtain ⟨hc1, hf1⟩ := old_cells hq)
  go_ret2
  exact ⟨rfl, HB.out.trans (hq.mono (by omega))⟩

theorem or_last (m : Nat) (b : Bool) : (2 * m) ||| b.toNat = 2 * m + b.toNat := by
  cases b
  · simp
  · have h := Nat.two_pow_add_eq_or_of_lt (i := 1) (b := 1) (by decide) m
    simpa using h.symm

theorem shl_or (m : Nat) (b : Bool) (hm : m < 2 ^ 63) : bits .or .u64 ((m : Int) * 2) (b.toNat : Int) = ((2 * m + b.toNat : Nat) : Int) := by
  have hb := Bool.toNat_le b
  have e : (m : Int) * 2 = ((2 * m : Nat) : Int) := by omega
  rw [e, u64_or_nat (2 * m) b.toNat (by omega) (by omega), or_last]

theorem box_own {β : Type} (B : Nat) (t : TypeId) (f : β → Value) : Own (fun (s : β) X => Boxed X B t (f s)) := by
  rintro s X Y row h hgr hrow
  refine h.kept hgr (fun e => ?_)
  obtain ⟨o, h1, h2⟩ := hrow B e.symm
  rw [show X.heap[B]? = _ from h] at h1; cases h1; cases h2

theorem four (w : World) (a b c d : Obj) : (((((w.alloc a).alloc b).alloc c).alloc d).heap.size = w.heap.size + 4) ∧
    ((((w.alloc a).alloc b).alloc c).alloc d).heap[w.heap.size]? = some a ∧ ((((w.alloc a).alloc b).alloc c).alloc d).heap[w.heap.size + 1]? = some b ∧
    ((((w.alloc a).alloc b).alloc c).alloc d).heap[w.heap.size + 2]? = some c ∧ ((((w.alloc a).alloc b).alloc c).alloc d).heap[w.heap.size + 3]? = some d := by
  have n0 := World.alloc_heap_new w a
  have n1 := World.alloc_heap_new (w.alloc a) b
  have n2 := World.alloc_heap_new ((w.alloc a).alloc b) c
  have n3 := World.alloc_heap_new (((w.alloc a).alloc b).alloc c) d
  simp only [World.size_alloc] at n1 n2 n3
  refine ⟨by simp only [World.size_alloc], ?_, ?_, ?_, n3⟩
  · rw [Below.heap_alloc _ _ _ (by simp only [World.size_alloc]; omega), Below.heap_alloc _ _ _ (by simp only [World.size_alloc]; omega), Below.heap_alloc _ _ _ (by simp only [World.size_alloc]; omega)]; exact n0
  · rw [Below.heap_alloc _ _ _ (by simp only [World.size_alloc]; omega), Below.heap_alloc _ _ _ (by simp only [World.size_alloc]; omega)]; exact n1
  · rw [Below.heap_alloc _ _ _ (by simp only [World.size_alloc]; omega)]; exact n2

/-- The blocks that Get's visit wants kept. -/
def kept (B N : Nat) (k : Nat) : Prop := k < B ∨ k = N + 1 ∨ k = N + 2 ∨ k = N + 3

set_option maxRecDepth 100000 in
set_option maxHeartbeats 2000000 in
theorem get_ok (l : List Bool) (hl : l.length ≤ 8192) (A : Option Addr) (c : Nat) (p k : Nat) (w : World) (h : Rd w w.heap.size A (pack l)) (h1 : k ≤ 64) (h2 : p + k ≤ l.length) :
    Calls Tryz.prog 29 #[.agg #[.int .i64 (l.length : Int), .slice A (pack l).length c], .int .i64 (p : Int), .int .i64 (k : Int)] w (Got w (num ((l.drop p).take k)) 0) := by
  have hc0 := check_one (l.length : Int) A c (pack l) w (pack_lt l) h
  rw [chk_pack l hl] at hc0
  have HC := Lib.hid hc0; clear hc0
  have HR := Lib.hid h; clear h
  have HB := Lib.hid (one_below w (.cells #[.int .i64 (l.length : Int), .slice A (pack l).length c] 35))
  have t1 : decide ((k : Int) < 0) = false := by simp
  have t2 : decide (64 < (k : Int)) = false := by simp; omega
  have t3 : decide ((p : Int) < 0) = false := by simp
  have t4 : decide ((l.length : Int) < (p : Int)) = false := by simp; omega
  have t5 : decide ((l.length : Int) - (p : Int) < (k : Int)) = false := by simp; omega
  refine (callsIn_wide (n := 3)).1 ?_
  refine callsIn_of_wp_marks Tryz.func29 rfl trivial ?_ rfl
  simp only [Tryz.ntmps29, List.size_toArray, List.length_cons, List.length_nil, Nat.reduceAdd, Nat.reduceSub, Array.replicate_succ, Array.replicate_zero, List.push_toArray, List.append_toArray, List.nil_append, List.cons_append]
  gi_wp2_with (first | (refine ⟨trivial, ?_⟩; gi_at_call 63; refine (bitsOf_in Fence.wide 2 trivial rfl _ _ _ _ _ _ _).mono ?_; rintro e w' ⟨rfl, rfl⟩) | (refine ⟨trivial, ?_⟩; gi_at_call 46; refine (callsIn_wide.2 HC.out).mono ?_; rintro e w1 ⟨rfl, hq⟩; obtain ⟨hc1, hf1⟩ := old_cells hq; have hs1 : w.heap.size < w1.heap.size := (by have := hq.size; rw [World.size_alloc] at this; omega)))
  simp only [Nat.add_assoc, Nat.reduceAdd]
  have hpk : ((p : Int) + (k : Int)) = ((p + k : Nat) : Int) := by omega
  rw [hpk]
  clear hpk
  obtain ⟨hz, b0, b1, b2, b3⟩ := four w1 (.cells #[.int .u64 0] 50) (.cells #[.int .i64 (l.length : Int), .slice A (pack l).length c] 35) (.cells #[.int .i64 (p : Int)] 3) (.cells #[.int .i64 ((p + k : Nat) : Int)] 3)
  have hlow0 : Below w1.heap.size w1 ((((w1.alloc (.cells #[.int .u64 0] 50)).alloc (.cells #[.int .i64 (l.length : Int), .slice A (pack l).length c] 35)).alloc (.cells #[.int .i64 (p : Int)] 3)).alloc (.cells #[.int .i64 ((p + k : Nat) : Int)] 3)) :=
    ((((Below.refl _ w1).alloc (Nat.le_refl _) _).alloc (by simp) _).alloc (by simp only [World.size_alloc]; omega) _).alloc (by simp only [World.size_alloc]; omega) _
  generalize ((((w1.alloc (.cells #[.int .u64 0] 50)).alloc (.cells #[.int .i64 (l.length : Int), .slice A (pack l).length c] 35)).alloc (.cells #[.int .i64 (p : Int)] 3)).alloc (.cells #[.int .i64 ((p + k : Nat) : Int)] 3)) = w5 at *
  have hlow : Below w.heap.size w w5 := (HB.out.trans (hq.mono (by omega))).trans (hlow0.mono (by omega))
  have hvis : ∀ j, kept w.heap.size w1.heap.size j → j < w5.heap.size := by
    rintro j (h | h | h | h) <;> omega
  refine wpIn_rangeFunc_ownG rfl (by decide) (gf := 100) (lb := #[.pointer (some ⟨w1.heap.size + 2, 0, none⟩), .pointer (some ⟨w1.heap.size + 3, 0, none⟩), .pointer (some ⟨w1.heap.size + 1, 0, none⟩)]) rfl trivial (enters_of Tryz.func100 (by kernel_rfl) rfl)
    (bits_stops Fence.wide 2 trivial rfl (by decide) (w1.heap.size + 2) (w1.heap.size + 3) (w1.heap.size + 1) w.heap.size c A (kept w.heap.size w1.heap.size) l hl p (p + k) (by omega) h2 (.inr (.inr (.inr rfl))) (.inr (.inl rfl)) (fun j hj => .inl hj) w5 (by omega) (by omega) (by omega) (by omega)
      (box_cell b2) (box_cell b3) (blk_cells b1).2.1 (HR.out.below hlow (Nat.le_refl _)))
    (fun h k => keepQ_t h k) (keepQ_b hvis) (Below.refl _ _) (fun _ => rfl)
    (fun pre X => Boxed X w1.heap.size 50 (.int .u64 (num pre : Int)) ∧ (Fr (kept w.heap.size w1.heap.size) w5 X ∧ w5.heap.size ≤ X.heap.size))
    (fun _ _ _ => False)
    (OwnFrom.and (Own.from (box_own w1.heap.size 50 (fun pre => .int .u64 (num pre : Int))) _) (fr_own _ w5 w5.heap.size (Nat.le_refl _) hvis))
    (fun _ _ _ _ _ hs _ _ => hs)
    ⟨b0, Fr.refl _ _, Nat.le_refl _⟩
    ?a1 ?assign ?body ?done ?stop
  case assign =>
    intro lp x X K hK
    gi_wp2
    exact hK
  case body =>
    rintro lp pre x X ⟨hbx, hfr, hzz⟩ hlt
    have hcn := hbx.cell
    have hfn := hbx.frozen
    have hnl : num pre < 2 ^ 63 := Nat.lt_of_lt_of_le (num_lt pre) (Nat.pow_le_pow_right (by omega) (by omega))
    have HO := Lib.hid (shl_or (num pre) x hnl)
    have HSn := Lib.hid (num_snoc pre x)
    have hb1 := Bool.toNat_le x
    gi_wp2
    rw [HO.out, ← HSn.out]
    have hnk : ¬ kept w.heap.size w1.heap.size w1.heap.size := by rintro (h | h | h | h) <;> omega
    exact ⟨(KeepsOthers.setCell _ _ _).from _, fun j hj => Below.heap_setCell _ _ _ _ (fun e => by have e' : j = w1.heap.size := e; subst e'; exact hnk hj), hbx.set _, hfr.setCell (p := ⟨w1.heap.size, 0, none⟩) hnk _, by simpa [World.setCell] using hzz⟩
  case done =>
    rintro D ys X hD rfl ⟨hbx, hfr, hzz⟩ hK
    rw [Nat.add_sub_cancel_left] at hbx
    have hcn := hbx.cell
    have HF : Hid (Below w.heap.size w (X.putObj D (.deferred none))) := (hlow.trans (hfr.below (fun j hj => .inl hj))).trans (belowK_b (w := w) (Nat.le_refl _) X D _ _ (by have := hlow.size; omega) hK rfl rfl)
    generalize num (List.take k (List.drop p l)) = m at *
    gi_wp2
    refine ⟨by simp, .inl ⟨_, _, rfl, run_takeDeferred hK, ?_⟩⟩
    refine ⟨.tuple #[.int .u64 (m : Int), .int .i64 0], ?_, rfl, HF.out⟩
    simp [results, Tryz.results29, go_sem]
  case stop =>
    rintro D c pre W _ _ h _
    exact h.elim

/-- What Get answers. -/
def getE (len : Int) (bs : List Nat) (p width : Int) : Int := if chk len bs ≠ 0 then chk len bs else if width < 0 ∨ 64 < width ∨ p < 0 ∨ len < p then 3 else if len - p < width then 7 else 0
def getN (len : Int) (bs : List Nat) (p width : Int) : Nat := if getE len bs p width = 0 then num (((unpack len.toNat bs).drop p.toNat).take width.toNat) else 0

theorem get_any (len : Int) (A : Option Addr) (c : Nat) (bs : List Nat) (p width : Int) (w : World) (hb : ∀ b ∈ bs, b < 256) (h : Rd w w.heap.size A bs) :
    Calls Tryz.prog 29 #[.agg #[.int .i64 len, .slice A bs.length c], .int .i64 p, .int .i64 width] w (Got w (getN len bs p width) (getE len bs p width)) := by
  unfold getN
  by_cases hc : chk len bs = 0
  · obtain ⟨l, rfl, hl, rfl⟩ := chk_zero len bs hb hc
    by_cases hw : width < 0 ∨ 64 < width ∨ p < 0 ∨ (l.length : Int) < p
    · have e : getE (l.length : Int) (pack l) p width = 3 := by unfold getE; rw [if_neg (by omega), if_pos hw]
      rw [e, if_neg (by decide)]
      exact get_range l hl A c p width w h hw
    · by_cases hs : (l.length : Int) - p < width
      · have e : getE (l.length : Int) (pack l) p width = 7 := by unfold getE; rw [if_neg (by omega), if_neg hw, if_pos hs]
        rw [e, if_neg (by decide)]
        exact get_short l hl A c p width w h (by omega) (by omega) (by omega) (by omega) hs
      · have e : getE (l.length : Int) (pack l) p width = 0 := by unfold getE; rw [if_neg (by omega), if_neg hw, if_neg hs]
        rw [e, if_pos rfl]
        obtain ⟨q, rfl⟩ := Int.eq_ofNat_of_zero_le (show 0 ≤ p by omega)
        obtain ⟨k, rfl⟩ := Int.eq_ofNat_of_zero_le (show 0 ≤ width by omega)
        rw [Int.toNat_natCast, Int.toNat_natCast, Int.toNat_natCast, unpack_pack]
        exact get_ok l hl A c q k w h (by omega) (by omega)
  · have e : getE len bs p width = chk len bs := by unfold getE; rw [if_pos hc]
    rw [e, if_neg hc]
    exact get_bad len A c bs p width w hb h hc
end

section
open Go.RowKit

/-- Bits, written out, and an error come back. -/
def Gv (w : World) (len : Int) (n : Nat) (bs : List Nat) (err : Int) (e : Ending) (w' : World) : Prop :=
  ∃ A c, e = .returned (.tuple #[.agg #[.int .i64 len, .slice A n c], .int .i64 err]) ∧ Rd w' w'.heap.size A bs ∧ Below w.heap.size w w'

theorem lt256 {bs : List Nat} (h : bs.all (fun b => decide (b < 256)) = true) : ∀ b ∈ bs, b < 256 := by
  intro b hb
  have := List.all_eq_true.1 h b hb
  simpa using this

theorem b1 (w : World) : Calls Tryz.prog 59 #[.agg #[.int .i64 0, .slice none 0 0], .int .u64 5, .int .i64 3] w (Gv w 3 1 [160] 0) := by
  have h := put_any 0 none 0 [] 5 3 w (by simp) (.inl rfl) (by decide)
  have e : putL 0 [] 5 3 = 0 := by decide
  rw [e, if_pos rfl] at h
  exact h
theorem b2 (A : Option Addr) (c : Nat) (w : World) (hA : Rd w w.heap.size A [160]) : Calls Tryz.prog 59 #[.agg #[.int .i64 3, .slice A 1 c], .int .u64 9, .int .i64 7] w (Gv w 10 2 [162, 64] 0) := by
  have h := put_any 3 A c [160] 9 7 w (lt256 (by decide)) hA (by decide)
  have e : putL 3 [160] 9 7 = 0 := by decide
  rw [e, if_pos rfl] at h
  exact h
theorem b3 (A : Option Addr) (c : Nat) (w : World) (hA : Rd w w.heap.size A [162, 64]) : Calls Tryz.prog 29 #[.agg #[.int .i64 10, .slice A 2 c], .int .i64 3, .int .i64 7] w fun e w' => e = .returned (.tuple #[.int .u64 9, .int .i64 0]) ∧ Below w.heap.size w w' := by
  have h := get_any 10 A c [162, 64] 3 7 w (lt256 (by decide)) hA
  have e : getE 10 [162, 64] 3 7 = 0 := by decide
  have e2 : getN 10 [162, 64] 3 7 = 9 := by decide
  rw [e, e2] at h
  exact h
theorem b4 (A B : Option Addr) (c d : Nat) (w : World) (hA : Rd w w.heap.size A [160]) (hB : Rd w w.heap.size B [162, 64]) : Calls Tryz.prog 25 #[.agg #[.int .i64 3, .slice A 1 c], .agg #[.int .i64 10, .slice B 2 d]] w (Gv w 13 2 [180, 72] 0) := by
  have h := join_any 3 10 A B c d [160] [162, 64] w (lt256 (by decide)) hA (lt256 (by decide)) hB
  have e : joinE 3 [160] 10 [162, 64] = 0 := by decide
  rw [e, if_pos rfl] at h
  exact h
theorem b5 (A : Option Addr) (c : Nat) (w : World) (hA : Rd w w.heap.size A [162, 64]) : Calls Tryz.prog 26 #[.agg #[.int .i64 10, .slice A 2 c], .int .i64 0, .int .i64 3] w (Gv w 3 1 [160] 0) := by
  have h := cut_any 10 A c [162, 64] 0 3 w (lt256 (by decide)) hA
  have e : cutE 10 [162, 64] 0 3 = 0 := by decide
  rw [e, if_pos rfl] at h
  exact h
theorem b6 (A : Option Addr) (c : Nat) (w : World) (hA : Rd w w.heap.size A [162, 64]) : Calls Tryz.prog 29 #[.agg #[.int .i64 10, .slice A 2 c], .int .i64 9, .int .i64 2] w fun e w' => e = .returned (.tuple #[.int .u64 0, .int .i64 7]) ∧ Below w.heap.size w w' := by
  have h := get_any 10 A c [162, 64] 9 2 w (lt256 (by decide)) hA
  have e : getE 10 [162, 64] 9 2 = 7 := by decide
  have e2 : getN 10 [162, 64] 9 2 = 0 := by decide
  rw [e, e2] at h
  exact h
theorem bsame (len : Int) (bs : List Nat) (n : Nat) (hn : bs.length = n) (hn2 : n ≤ 2) (A B : Option Addr) (c d : Nat) (w : World) (hA : Rd w w.heap.size A bs) (hB : Rd w w.heap.size B bs) :
    Calls Tryz.prog 22 #[.agg #[.int .i64 len, .slice A n c], .agg #[.int .i64 len, .slice B n d]] w fun e w' => e = .returned (.bool true) ∧ Below w.heap.size w w' := by
  have h := sameBits_any w len len A B c d bs bs (by omega) hA hB
  rw [hn] at h
  simpa using h
theorem b10 (A : Option Addr) (c : Nat) (w : World) (hA : Rd w w.heap.size A [1]) : Calls Tryz.prog 46 #[.agg #[.int .i64 3, .slice A 1 c]] w fun e w' => e = .returned (.int .i64 1) ∧ Below w.heap.size w w' := by
  have h := check_any 3 A c [1] w (lt256 (by decide)) hA
  have e : chk 3 [1] = 1 := by decide
  rw [e] at h
  exact h

/-- A box that was laid some time ago. -/
theorem box_at {w V : World} {a b : Value} (h : Below (w.heap.size + 1) (w.alloc (.cells #[a, b] 35)) V) : V.cell? ⟨w.heap.size, 0, none⟩ = some a ∧ V.cell? ⟨w.heap.size, 1, none⟩ = some b := by
  have e := (h.block w.heap.size (by omega)).trans (World.alloc_heap_new w (.cells #[a, b] 35))
  exact ⟨(blk_cells e).1, (blk_cells e).2.1⟩
/-- A literal of bytes. -/
theorem rd_lit1 (w : World) (x : Nat) : Rd (w.alloc (.cells #[.int .u8 (x : Int)] 5)) (w.alloc (.cells #[.int .u8 (x : Int)] 5)).heap.size (some ⟨w.heap.size, 0, none⟩) [x] := by
  refine .inr ⟨w.heap.size, 0, rfl, by simp, fun i hi => ?_⟩
  have e := World.alloc_heap_new w (.cells #[.int .u8 (x : Int)] 5)
  have hi0 : i = 0 := by simp at hi; exact hi
  subst hi0
  exact box_cell e
theorem rd_lit2 (w : World) (x y : Nat) : Rd (w.alloc (.cells #[.int .u8 (x : Int), .int .u8 (y : Int)] 5)) (w.alloc (.cells #[.int .u8 (x : Int), .int .u8 (y : Int)] 5)).heap.size (some ⟨w.heap.size, 0, none⟩) [x, y] := by
  refine .inr ⟨w.heap.size, 0, rfl, by simp, fun i hi => ?_⟩
  have e := World.alloc_heap_new w (.cells #[.int .u8 (x : Int), .int .u8 (y : Int)] 5)
  have hi0 : i = 0 ∨ i = 1 := by simp at hi; omega
  rcases hi0 with rfl | rfl
  · exact (blk_cells e).1
  · exact (blk_cells e).2.1
theorem Rd.on {w V : World} {A : Option Addr} {bs : List Nat} (h : Rd w w.heap.size A bs) (hb : Below w.heap.size w V) : Rd V V.heap.size A bs := h.below hb hb.size

set_option maxRecDepth 100000 in
set_option maxHeartbeats 2000000 in
theorem begun_true (w : World) : Calls Tryz.prog 24 #[] w fun e w' => e = .returned (.bool true) ∧ Below w.heap.size w w' := by
  go_enter Tryz.func24, Tryz.ntmps24
  go_wp2_with fail
  refine (b1 _).mono ?_
  rintro e w1_ ⟨A1, c1, rfl, Rq, Bq⟩
  have Sq : Below w.heap.size w w1_ := Bq
  have HB : Hid (Below w.heap.size w w1_) := Sq
  clear Bq Sq
  have HR1 := Lib.hid Rq; clear Rq
  go_wp2_with fail
  refine (b2 A1 c1 _ (HR1.out.on (one_below w1_ _))).mono ?_
  rintro e w2_ ⟨A2, c2, rfl, Rq, Bq⟩
  rw [World.size_alloc] at Bq
  have Sq : Below w1_.heap.size w1_ w2_ := (one_below w1_ _).trans (Bq.mono (by omega))
  have za : w1_.heap.size < w2_.heap.size := by have := Bq.size; rw [World.size_alloc] at this; omega
  obtain ⟨pa, qa⟩ := box_at Bq
  replace HR1 : Hid (Rd w2_ w2_.heap.size A1 [160]) := HR1.out.on Sq
  replace HB : Hid (Below w.heap.size w w2_) := HB.out.trans (Sq.mono HB.out.size)
  clear Bq Sq
  have HR2 := Lib.hid Rq; clear Rq
  go_wp2_with fail
  refine (b3 A2 c2 _ (HR2.out.on (one_below w2_ _))).mono ?_
  rintro e w3_ ⟨rfl, Bq⟩
  rw [World.size_alloc] at Bq
  have Sq : Below w2_.heap.size w2_ w3_ := (one_below w2_ _).trans (Bq.mono (by omega))
  have zb : w2_.heap.size < w3_.heap.size := by have := Bq.size; rw [World.size_alloc] at this; omega
  obtain ⟨pb, qb⟩ := box_at Bq
  replace pa := (Sq.cell (p := ⟨w1_.heap.size, 0, none⟩) za).trans pa
  replace qa := (Sq.cell (p := ⟨w1_.heap.size, 1, none⟩) za).trans qa
  replace za : w1_.heap.size < w3_.heap.size := Nat.lt_of_lt_of_le za Sq.size
  replace HR1 : Hid (Rd w3_ w3_.heap.size A1 [160]) := HR1.out.on Sq
  replace HR2 : Hid (Rd w3_ w3_.heap.size A2 [162, 64]) := HR2.out.on Sq
  replace HB : Hid (Below w.heap.size w w3_) := HB.out.trans (Sq.mono HB.out.size)
  clear Bq Sq
  go_wp2_with fail
  refine (b4 A1 A2 c1 c2 _ HR1.out HR2.out).mono ?_
  rintro e w4_ ⟨A3, c3, rfl, Rq, Bq⟩
  have Sq : Below w3_.heap.size w3_ w4_ := Bq
  replace pa := (Sq.cell (p := ⟨w1_.heap.size, 0, none⟩) za).trans pa
  replace qa := (Sq.cell (p := ⟨w1_.heap.size, 1, none⟩) za).trans qa
  replace za : w1_.heap.size < w4_.heap.size := Nat.lt_of_lt_of_le za Sq.size
  replace pb := (Sq.cell (p := ⟨w2_.heap.size, 0, none⟩) zb).trans pb
  replace qb := (Sq.cell (p := ⟨w2_.heap.size, 1, none⟩) zb).trans qb
  replace zb : w2_.heap.size < w4_.heap.size := Nat.lt_of_lt_of_le zb Sq.size
  replace HR1 : Hid (Rd w4_ w4_.heap.size A1 [160]) := HR1.out.on Sq
  replace HR2 : Hid (Rd w4_ w4_.heap.size A2 [162, 64]) := HR2.out.on Sq
  replace HB : Hid (Below w.heap.size w w4_) := HB.out.trans (Sq.mono HB.out.size)
  clear Bq Sq
  have HR3 := Lib.hid Rq; clear Rq
  go_wp2_with fail
  refine (b5 A2 c2 _ (HR2.out.on (one_below w4_ _))).mono ?_
  rintro e w5_ ⟨A4, c4, rfl, Rq, Bq⟩
  rw [World.size_alloc] at Bq
  have Sq : Below w4_.heap.size w4_ w5_ := (one_below w4_ _).trans (Bq.mono (by omega))
  have zj : w4_.heap.size < w5_.heap.size := by have := Bq.size; rw [World.size_alloc] at this; omega
  obtain ⟨pj, qj⟩ := box_at Bq
  replace pa := (Sq.cell (p := ⟨w1_.heap.size, 0, none⟩) za).trans pa
  replace qa := (Sq.cell (p := ⟨w1_.heap.size, 1, none⟩) za).trans qa
  replace za : w1_.heap.size < w5_.heap.size := Nat.lt_of_lt_of_le za Sq.size
  replace pb := (Sq.cell (p := ⟨w2_.heap.size, 0, none⟩) zb).trans pb
  replace qb := (Sq.cell (p := ⟨w2_.heap.size, 1, none⟩) zb).trans qb
  replace zb : w2_.heap.size < w5_.heap.size := Nat.lt_of_lt_of_le zb Sq.size
  replace HR1 : Hid (Rd w5_ w5_.heap.size A1 [160]) := HR1.out.on Sq
  replace HR2 : Hid (Rd w5_ w5_.heap.size A2 [162, 64]) := HR2.out.on Sq
  replace HR3 : Hid (Rd w5_ w5_.heap.size A3 [180, 72]) := HR3.out.on Sq
  replace HB : Hid (Below w.heap.size w w5_) := HB.out.trans (Sq.mono HB.out.size)
  clear Bq Sq
  have HR4 := Lib.hid Rq; clear Rq
  go_wp2_with fail
  refine (b6 A2 c2 _ (HR2.out.on (one_below w5_ _))).mono ?_
  rintro e w6_ ⟨rfl, Bq⟩
  rw [World.size_alloc] at Bq
  have Sq : Below w5_.heap.size w5_ w6_ := (one_below w5_ _).trans (Bq.mono (by omega))
  have zc : w5_.heap.size < w6_.heap.size := by have := Bq.size; rw [World.size_alloc] at this; omega
  obtain ⟨pc, qc⟩ := box_at Bq
  replace pa := (Sq.cell (p := ⟨w1_.heap.size, 0, none⟩) za).trans pa
  replace qa := (Sq.cell (p := ⟨w1_.heap.size, 1, none⟩) za).trans qa
  replace za : w1_.heap.size < w6_.heap.size := Nat.lt_of_lt_of_le za Sq.size
  replace pb := (Sq.cell (p := ⟨w2_.heap.size, 0, none⟩) zb).trans pb
  replace qb := (Sq.cell (p := ⟨w2_.heap.size, 1, none⟩) zb).trans qb
  replace zb : w2_.heap.size < w6_.heap.size := Nat.lt_of_lt_of_le zb Sq.size
  replace pj := (Sq.cell (p := ⟨w4_.heap.size, 0, none⟩) zj).trans pj
  replace qj := (Sq.cell (p := ⟨w4_.heap.size, 1, none⟩) zj).trans qj
  replace zj : w4_.heap.size < w6_.heap.size := Nat.lt_of_lt_of_le zj Sq.size
  replace HR1 : Hid (Rd w6_ w6_.heap.size A1 [160]) := HR1.out.on Sq
  replace HR2 : Hid (Rd w6_ w6_.heap.size A2 [162, 64]) := HR2.out.on Sq
  replace HR3 : Hid (Rd w6_ w6_.heap.size A3 [180, 72]) := HR3.out.on Sq
  replace HR4 : Hid (Rd w6_ w6_.heap.size A4 [160]) := HR4.out.on Sq
  replace HB : Hid (Below w.heap.size w w6_) := HB.out.trans (Sq.mono HB.out.size)
  clear Bq Sq
  go_wp2_with fail
  refine (bsame 3 [160] 1 rfl (by decide) A1 (some ⟨w6_.heap.size, 0, none⟩) c1 1 _ (HR1.out.on (one_below w6_ _)) (rd_lit1 w6_ 160)).mono ?_
  rintro e w7_ ⟨rfl, Bq⟩
  rw [World.size_alloc] at Bq
  have Sq : Below w6_.heap.size w6_ w7_ := (one_below w6_ _).trans (Bq.mono (by omega))
  replace pa := (Sq.cell (p := ⟨w1_.heap.size, 0, none⟩) za).trans pa
  replace qa := (Sq.cell (p := ⟨w1_.heap.size, 1, none⟩) za).trans qa
  replace za : w1_.heap.size < w7_.heap.size := Nat.lt_of_lt_of_le za Sq.size
  replace pb := (Sq.cell (p := ⟨w2_.heap.size, 0, none⟩) zb).trans pb
  replace qb := (Sq.cell (p := ⟨w2_.heap.size, 1, none⟩) zb).trans qb
  replace zb : w2_.heap.size < w7_.heap.size := Nat.lt_of_lt_of_le zb Sq.size
  replace pj := (Sq.cell (p := ⟨w4_.heap.size, 0, none⟩) zj).trans pj
  replace qj := (Sq.cell (p := ⟨w4_.heap.size, 1, none⟩) zj).trans qj
  replace zj : w4_.heap.size < w7_.heap.size := Nat.lt_of_lt_of_le zj Sq.size
  replace pc := (Sq.cell (p := ⟨w5_.heap.size, 0, none⟩) zc).trans pc
  replace qc := (Sq.cell (p := ⟨w5_.heap.size, 1, none⟩) zc).trans qc
  replace zc : w5_.heap.size < w7_.heap.size := Nat.lt_of_lt_of_le zc Sq.size
  replace HR1 : Hid (Rd w7_ w7_.heap.size A1 [160]) := HR1.out.on Sq
  replace HR2 : Hid (Rd w7_ w7_.heap.size A2 [162, 64]) := HR2.out.on Sq
  replace HR3 : Hid (Rd w7_ w7_.heap.size A3 [180, 72]) := HR3.out.on Sq
  replace HR4 : Hid (Rd w7_ w7_.heap.size A4 [160]) := HR4.out.on Sq
  replace HB : Hid (Below w.heap.size w w7_) := HB.out.trans (Sq.mono HB.out.size)
  clear Bq Sq
  go_wp2_with fail
  refine (bsame 10 [162, 64] 2 rfl (by decide) A2 (some ⟨w7_.heap.size, 0, none⟩) c2 2 _ (HR2.out.on (one_below w7_ _)) (rd_lit2 w7_ 162 64)).mono ?_
  rintro e w8_ ⟨rfl, Bq⟩
  rw [World.size_alloc] at Bq
  have Sq : Below w7_.heap.size w7_ w8_ := (one_below w7_ _).trans (Bq.mono (by omega))
  replace pa := (Sq.cell (p := ⟨w1_.heap.size, 0, none⟩) za).trans pa
  replace qa := (Sq.cell (p := ⟨w1_.heap.size, 1, none⟩) za).trans qa
  replace za : w1_.heap.size < w8_.heap.size := Nat.lt_of_lt_of_le za Sq.size
  replace pb := (Sq.cell (p := ⟨w2_.heap.size, 0, none⟩) zb).trans pb
  replace qb := (Sq.cell (p := ⟨w2_.heap.size, 1, none⟩) zb).trans qb
  replace zb : w2_.heap.size < w8_.heap.size := Nat.lt_of_lt_of_le zb Sq.size
  replace pj := (Sq.cell (p := ⟨w4_.heap.size, 0, none⟩) zj).trans pj
  replace qj := (Sq.cell (p := ⟨w4_.heap.size, 1, none⟩) zj).trans qj
  replace zj : w4_.heap.size < w8_.heap.size := Nat.lt_of_lt_of_le zj Sq.size
  replace pc := (Sq.cell (p := ⟨w5_.heap.size, 0, none⟩) zc).trans pc
  replace qc := (Sq.cell (p := ⟨w5_.heap.size, 1, none⟩) zc).trans qc
  replace zc : w5_.heap.size < w8_.heap.size := Nat.lt_of_lt_of_le zc Sq.size
  replace HR1 : Hid (Rd w8_ w8_.heap.size A1 [160]) := HR1.out.on Sq
  replace HR2 : Hid (Rd w8_ w8_.heap.size A2 [162, 64]) := HR2.out.on Sq
  replace HR3 : Hid (Rd w8_ w8_.heap.size A3 [180, 72]) := HR3.out.on Sq
  replace HR4 : Hid (Rd w8_ w8_.heap.size A4 [160]) := HR4.out.on Sq
  replace HB : Hid (Below w.heap.size w w8_) := HB.out.trans (Sq.mono HB.out.size)
  clear Bq Sq
  go_wp2_with fail
  refine (bsame 3 [160] 1 rfl (by decide) A4 A1 c4 c1 _ HR4.out HR1.out).mono ?_
  rintro e w9_ ⟨rfl, Bq⟩
  have Sq : Below w8_.heap.size w8_ w9_ := Bq
  replace pa := (Sq.cell (p := ⟨w1_.heap.size, 0, none⟩) za).trans pa
  replace qa := (Sq.cell (p := ⟨w1_.heap.size, 1, none⟩) za).trans qa
  replace za : w1_.heap.size < w9_.heap.size := Nat.lt_of_lt_of_le za Sq.size
  replace pb := (Sq.cell (p := ⟨w2_.heap.size, 0, none⟩) zb).trans pb
  replace qb := (Sq.cell (p := ⟨w2_.heap.size, 1, none⟩) zb).trans qb
  replace zb : w2_.heap.size < w9_.heap.size := Nat.lt_of_lt_of_le zb Sq.size
  replace pj := (Sq.cell (p := ⟨w4_.heap.size, 0, none⟩) zj).trans pj
  replace qj := (Sq.cell (p := ⟨w4_.heap.size, 1, none⟩) zj).trans qj
  replace zj : w4_.heap.size < w9_.heap.size := Nat.lt_of_lt_of_le zj Sq.size
  replace pc := (Sq.cell (p := ⟨w5_.heap.size, 0, none⟩) zc).trans pc
  replace qc := (Sq.cell (p := ⟨w5_.heap.size, 1, none⟩) zc).trans qc
  replace zc : w5_.heap.size < w9_.heap.size := Nat.lt_of_lt_of_le zc Sq.size
  replace HR1 : Hid (Rd w9_ w9_.heap.size A1 [160]) := HR1.out.on Sq
  replace HR2 : Hid (Rd w9_ w9_.heap.size A2 [162, 64]) := HR2.out.on Sq
  replace HR3 : Hid (Rd w9_ w9_.heap.size A3 [180, 72]) := HR3.out.on Sq
  replace HR4 : Hid (Rd w9_ w9_.heap.size A4 [160]) := HR4.out.on Sq
  replace HB : Hid (Below w.heap.size w w9_) := HB.out.trans (Sq.mono HB.out.size)
  clear Bq Sq
  go_wp2_with fail
  refine (b10 (some ⟨w9_.heap.size, 0, none⟩) 1 _ (rd_lit1 w9_ 1)).mono ?_
  rintro e w10_ ⟨rfl, Bq⟩
  rw [World.size_alloc] at Bq
  have Sq : Below w9_.heap.size w9_ w10_ := (one_below w9_ _).trans (Bq.mono (by omega))
  replace pa := (Sq.cell (p := ⟨w1_.heap.size, 0, none⟩) za).trans pa
  replace qa := (Sq.cell (p := ⟨w1_.heap.size, 1, none⟩) za).trans qa
  replace za : w1_.heap.size < w10_.heap.size := Nat.lt_of_lt_of_le za Sq.size
  replace pb := (Sq.cell (p := ⟨w2_.heap.size, 0, none⟩) zb).trans pb
  replace qb := (Sq.cell (p := ⟨w2_.heap.size, 1, none⟩) zb).trans qb
  replace zb : w2_.heap.size < w10_.heap.size := Nat.lt_of_lt_of_le zb Sq.size
  replace pj := (Sq.cell (p := ⟨w4_.heap.size, 0, none⟩) zj).trans pj
  replace qj := (Sq.cell (p := ⟨w4_.heap.size, 1, none⟩) zj).trans qj
  replace zj : w4_.heap.size < w10_.heap.size := Nat.lt_of_lt_of_le zj Sq.size
  replace pc := (Sq.cell (p := ⟨w5_.heap.size, 0, none⟩) zc).trans pc
  replace qc := (Sq.cell (p := ⟨w5_.heap.size, 1, none⟩) zc).trans qc
  replace zc : w5_.heap.size < w10_.heap.size := Nat.lt_of_lt_of_le zc Sq.size
  replace HR1 : Hid (Rd w10_ w10_.heap.size A1 [160]) := HR1.out.on Sq
  replace HR2 : Hid (Rd w10_ w10_.heap.size A2 [162, 64]) := HR2.out.on Sq
  replace HR3 : Hid (Rd w10_ w10_.heap.size A3 [180, 72]) := HR3.out.on Sq
  replace HR4 : Hid (Rd w10_ w10_.heap.size A4 [160]) := HR4.out.on Sq
  replace HB : Hid (Below w.heap.size w w10_) := HB.out.trans (Sq.mono HB.out.size)
  clear Bq Sq
  go_wp2
  go_ret
  exact ⟨rfl, HB.out⟩
end

section
open Go.ChangeShapes Go.WideShapes Go.ChangeAt Go.RowKit Go.Joins

theorem own : ownKnob Tryz.prog.godebug = none := by kernel_rfl
theorem laidOut : laidOutB Tryz.prog = true := by kernel_rfl
theorem cells24 : Tryz.prog.cellsOf 35 = 2 := by kernel_rfl
theorem cells5 : Tryz.prog.cellsOf 5 = 1 := by kernel_rfl

theorem lt_of_cell {w : World} {p : Addr} {v : Value} (h : w.cell? p = some v) : p.block < w.heap.size := by
  rcases Nat.lt_or_ge p.block w.heap.size with hlt | hge
  · exact hlt
  · simp [World.cell?, Array.getElem?_eq_none hge] at h

set_option maxRecDepth 100000 in
/-- Bits that were handed in. -/
theorem open_bits {H : Type} {enc : TypeId × Value → H} {W : World} {base : Nat} {v : Value} {d : DataW H} {p : List MemPlace}
    (hv : Value.okWide Tryz.prog W .any base 35 v) (h : DataW.Trod enc Tryz.prog W 0 (fun _ => true) true 35 v d p) :
    ∃ (len : Int) (A : Option Addr) (c : Nat) (bs : List Nat), v = .agg #[.int .i64 len, .slice A bs.length c] ∧ Rd W W.heap.size A bs ∧ (∀ b ∈ bs, b < 256) ∧ (Lit.int .i64 len).wf = true := by
  obtain ⟨c0, c1, y0, y1, m, rfl, rfl, rfl, hy0, hy1⟩ := open_agg2 Tryz.underlying35 (by kernel_rfl) cells24 hv h
  obtain ⟨a, e0, rfl, wa⟩ := DataW.trod_int Tryz.underlying3 hy0
  simp at e0
  subst e0
  rcases open_ints Tryz.underlying33 Tryz.underlying5 cells5 hy1 with ⟨hcs, _⟩ | ⟨x, l, c, zs, hcs, _, hl, hm, hz, _, hcell, hwz⟩
  · simp at hcs
    subst hcs
    exact ⟨a, none, 0, [], rfl, .inl rfl, by simp, wa⟩
  · simp at hcs
    subst hcs
    have hzc : zs.length = c := by simpa using hz
    refine ⟨a, some x, c, (zs.take l).map Int.toNat, ?_, ?_, ?_, wa⟩
    · have : ((zs.take l).map Int.toNat).length = l := by rw [List.length_map, List.length_take]; omega
      rw [this]
    · rcases Nat.eq_zero_or_pos l with h0 | h0
      · left; rw [h0]; rfl
      · obtain ⟨b, off, rfl, hc⟩ := ints_at hcell (by omega)
        refine .inr ⟨b, off, rfl, ?_, fun i hi => ?_⟩
        · exact lt_of_cell (hc 0 (by omega))
        · have hil : i < l := by rw [List.length_map, List.length_take] at hi; omega
          rw [hc i (by omega)]
          have hz0 : zs.getD i 0 = zs[i]'(by omega) := by rw [List.getD_eq_getElem?_getD, List.getElem?_eq_getElem (by omega)]; rfl
          have hw := bounds_u8 (hwz _ (List.getElem_mem (show i < zs.length by omega)))
          have e1 : ((zs.take l).map Int.toNat)[i]?.getD 0 = (zs[i]'(by omega)).toNat := by
            rw [List.getElem?_map, List.getElem?_take_of_lt hil, List.getElem?_eq_getElem (by omega)]; rfl
          rw [e1, hz0]
          congr 2
          omega
    · intro b hb
      simp only [List.mem_map] at hb
      obtain ⟨z, hz1, rfl⟩ := hb
      have hw := bounds_u8 (hwz z (List.mem_of_mem_take hz1))
      omega
end

section
open Go.RowKit

theorem nb_snoc (n k : Nat) : nb n (k + 1) = nb (n / 2) k ++ [n % 2 == 1] := by
  apply List.ext_getElem
  · simp [nb]
  · intro i h1 h2
    rw [nb_length] at h1
    rw [List.getElem_append]
    split
    · rename_i h3
      rw [nb_length] at h3
      simp only [nb, List.getElem_map, List.getElem_range]
      rw [Nat.div_div_eq_div_mul]
      have e : k + 1 - 1 - i = (k - 1 - i) + 1 := by omega
      rw [e, Nat.pow_succ, Nat.mul_comm]
    · rename_i h3
      rw [nb_length] at h3
      have e : i = k := by omega
      subst e
      simp [nb]
theorem num_nb : ∀ (k n : Nat), num (nb n k) = n % 2 ^ k := by
  intro k
  induction k with
  | zero => intro n; simp [nb, num, Nat.mod_one]
  | succ k ih =>
    intro n
    rw [nb_snoc, num_snoc, ih]
    have e : (n % 2 == 1).toNat = n % 2 := by
      rcases (show n % 2 = 0 ∨ n % 2 = 1 by omega) with h | h <;> rw [h] <;> rfl
    rw [e, Nat.pow_succ, Nat.mul_comm (2 ^ k) 2, Nat.mod_mul]
    omega
theorem num_nb_small (n k : Nat) (h : n / 2 ^ k = 0) : num (nb n k) = n := by
  rw [num_nb]
  apply Nat.mod_eq_of_lt
  rcases Nat.div_eq_zero_iff.1 h with h | h
  · have := Nat.two_pow_pos k; omega
  · exact h

/-- Check of what is right. -/
theorem check_l (l : List Bool) (hl : l.length ≤ 8192) (A : Option Addr) (c : Nat) (w : World) (h : Rd w w.heap.size A (pack l)) :
    Calls Tryz.prog 46 #[.agg #[.int .i64 (l.length : Int), .slice A (pack l).length c]] w fun e w' => e = .returned (.int .i64 0) ∧ Below w.heap.size w w' := by
  have := check_any (l.length : Int) A c (pack l) w (pack_lt l) h
  rwa [chk_pack l hl] at this
theorem same_l (l : List Bool) (hl : l.length ≤ 8192) (A B : Option Addr) (c d : Nat) (w : World) (hA : Rd w w.heap.size A (pack l)) (hB : Rd w w.heap.size B (pack l)) :
    Calls Tryz.prog 22 #[.agg #[.int .i64 (l.length : Int), .slice A (pack l).length c], .agg #[.int .i64 (l.length : Int), .slice B (pack l).length d]] w fun e w' => e = .returned (.bool true) ∧ Below w.heap.size w w' := by
  have h := sameBits_any w (l.length : Int) (l.length : Int) A B c d (pack l) (pack l) (by rw [pack_length]; omega) hA hB
  simpa using h
/-- Nothing against nothing. -/
theorem same_0 (A B : Option Addr) (c d : Nat) (w : World) (hA : Rd w w.heap.size A (pack [])) :
    Calls Tryz.prog 22 #[.agg #[.int .i64 0, .slice A 0 c], .agg #[.int .i64 0, .slice B 0 d]] w fun e w' => e = .returned (.bool true) ∧ Below w.heap.size w w' := by
  have h := sameBits_any w 0 0 A B c d [] [] (by simp) hA (.inl rfl)
  simpa using h
theorem put_l (l L : List Bool) (A : Option Addr) (c n k : Nat) (hk : k ≤ 64) (hn : n / 2 ^ k = 0) (hf : l.length + k ≤ 8192) (hn64 : n < 18446744073709551616) (hL : L = l ++ nb n k) (w : World) (h : Rd w w.heap.size A (pack l)) :
    Calls Tryz.prog 59 #[.agg #[.int .i64 (l.length : Int), .slice A (pack l).length c], .int .u64 (n : Int), .int .i64 (k : Int)] w (Gv w (L.length : Int) (pack L).length (pack L) 0) := put_ok l L A c n k w h hk hn hf hn64 hL
theorem cut_l (l L : List Bool) (hl : l.length ≤ 8192) (A : Option Addr) (c fr to : Nat) (h1 : fr ≤ to) (h2 : to ≤ l.length) (hL : L = (l.drop fr).take (to - fr)) (w : World) (h : Rd w w.heap.size A (pack l)) :
    Calls Tryz.prog 26 #[.agg #[.int .i64 (l.length : Int), .slice A (pack l).length c], .int .i64 (fr : Int), .int .i64 (to : Int)] w (Gv w (L.length : Int) (pack L).length (pack L) 0) := cut_ok l L hl A c fr to w h h1 h2 hL
theorem cut_l0 (l L : List Bool) (hl : l.length ≤ 8192) (A : Option Addr) (c to : Nat) (h2 : to ≤ l.length) (hL : L = l.take to) (w : World) (h : Rd w w.heap.size A (pack l)) :
    Calls Tryz.prog 26 #[.agg #[.int .i64 (l.length : Int), .slice A (pack l).length c], .int .i64 0, .int .i64 (to : Int)] w (Gv w (L.length : Int) (pack L).length (pack L) 0) := cut_ok l L hl A c 0 to w h (Nat.zero_le _) h2 (by rw [List.drop_zero, Nat.sub_zero]; exact hL)
theorem join_l (a b L : List Bool) (A B : Option Addr) (c d : Nat) (hf : a.length + b.length ≤ 8192) (hL : L = a ++ b) (w : World) (hA : Rd w w.heap.size A (pack a)) (hB : Rd w w.heap.size B (pack b)) :
    Calls Tryz.prog 25 #[.agg #[.int .i64 (a.length : Int), .slice A (pack a).length c], .agg #[.int .i64 (b.length : Int), .slice B (pack b).length d]] w (Gv w (L.length : Int) (pack L).length (pack L) 0) := by
  have h := join_in a b L (by omega) (by omega) A B c d w hA hB hL
  rw [if_neg (by omega), if_neg (by omega)] at h
  exact h
theorem join_l8 (a b : List Bool) (ha : a.length ≤ 8192) (hb : b.length ≤ 8192) (A B : Option Addr) (c d : Nat) (hf : 8192 < a.length + b.length) (w : World) (hA : Rd w w.heap.size A (pack a)) (hB : Rd w w.heap.size B (pack b)) :
    Calls Tryz.prog 25 #[.agg #[.int .i64 (a.length : Int), .slice A (pack a).length c], .agg #[.int .i64 (b.length : Int), .slice B (pack b).length d]] w (Gv w 0 0 (pack []) 8) := by
  have h := join_in a b _ ha hb A B c d w hA hB rfl
  rw [if_pos hf, if_pos hf] at h
  exact h
theorem get_l (l : List Bool) (hl : l.length ≤ 8192) (A : Option Addr) (c p k m : Nat) (h1 : k ≤ 64) (h2 : p + k ≤ l.length) (hm : m = num ((l.drop p).take k)) (w : World) (h : Rd w w.heap.size A (pack l)) :
    Calls Tryz.prog 29 #[.agg #[.int .i64 (l.length : Int), .slice A (pack l).length c], .int .i64 (p : Int), .int .i64 (k : Int)] w fun e w' => e = .returned (.tuple #[.int .u64 (m : Int), .int .i64 0]) ∧ Below w.heap.size w w' := by
  subst hm
  exact get_ok l hl A c p k w h h1 h2
/-- Put that answers an error. -/
theorem put_e (len : Int) (A : Option Addr) (c : Nat) (bs : List Nat) (n : Nat) (width err : Int) (hb : ∀ b ∈ bs, b < 256) (hn64 : n < 18446744073709551616) (he : putL len bs n width = err) (h0 : err ≠ 0) (w : World) (h : Rd w w.heap.size A bs) :
    Calls Tryz.prog 59 #[.agg #[.int .i64 len, .slice A bs.length c], .int .u64 (n : Int), .int .i64 width] w (Gv w 0 0 (pack []) err) := by
  have := put_any len A c bs n width w hb h hn64
  rw [he, if_neg h0] at this
  exact this
theorem cut_e (len : Int) (A : Option Addr) (c : Nat) (bs : List Nat) (fr to err : Int) (hb : ∀ b ∈ bs, b < 256) (he : cutE len bs fr to = err) (h0 : err ≠ 0) (w : World) (h : Rd w w.heap.size A bs) :
    Calls Tryz.prog 26 #[.agg #[.int .i64 len, .slice A bs.length c], .int .i64 fr, .int .i64 to] w (Gv w 0 0 (pack []) err) := by
  have := cut_any len A c bs fr to w hb h
  rw [he, if_neg h0] at this
  exact this
theorem join_e (lx ly : Int) (A B : Option Addr) (c d : Nat) (xs ys : List Nat) (err : Int) (hx : ∀ b ∈ xs, b < 256) (hy : ∀ b ∈ ys, b < 256) (he : joinE lx xs ly ys = err) (h0 : err ≠ 0) (w : World) (hA : Rd w w.heap.size A xs) (hB : Rd w w.heap.size B ys) :
    Calls Tryz.prog 25 #[.agg #[.int .i64 lx, .slice A xs.length c], .agg #[.int .i64 ly, .slice B ys.length d]] w (Gv w 0 0 (pack []) err) := by
  have := join_any lx ly A B c d xs ys w hx hA hy hB
  rw [he, if_neg h0] at this
  exact this
theorem get_e (len : Int) (A : Option Addr) (c : Nat) (bs : List Nat) (p width err : Int) (hb : ∀ b ∈ bs, b < 256) (he : getE len bs p width = err) (h0 : err ≠ 0) (w : World) (h : Rd w w.heap.size A bs) :
    Calls Tryz.prog 29 #[.agg #[.int .i64 len, .slice A bs.length c], .int .i64 p, .int .i64 width] w fun e w' => e = .returned (.tuple #[.int .u64 0, .int .i64 err]) ∧ Below w.heap.size w w' := by
  have := get_any len A c bs p width w hb h
  unfold getN at this
  rw [he, if_neg h0] at this
  exact this

/-- Where Put answers no error the bits are right, the width is one, and the number fits. -/
theorem putL_zero (len : Int) (bs : List Nat) (n : Nat) (width : Int) (hb : ∀ b ∈ bs, b < 256) (h : putL len bs n width = 0) :
    ∃ (l : List Bool) (k : Nat), len = (l.length : Int) ∧ bs = pack l ∧ width = (k : Int) ∧ k ≤ 64 ∧ n / 2 ^ k = 0 ∧ l.length + k ≤ 8192 := by
  unfold putL at h
  by_cases hc : chk len bs = 0
  · rw [if_neg (by omega)] at h
    obtain ⟨l, rfl, hl, rfl⟩ := chk_zero len bs hb hc
    by_cases hw : width < 0 ∨ 64 < width ∨ n / 2 ^ width.toNat ≠ 0
    · rw [if_pos hw] at h; omega
    · rw [if_neg hw] at h
      by_cases hf : 8192 < (l.length : Int) + width
      · rw [if_pos hf] at h; omega
      · obtain ⟨k, rfl⟩ := Int.eq_ofNat_of_zero_le (show 0 ≤ width by omega)
        rw [Int.toNat_natCast] at hw
        exact ⟨l, k, rfl, rfl, rfl, by omega, by omega, by omega⟩
  · rw [if_pos hc] at h; exact absurd h hc
theorem cutE_zero (len : Int) (bs : List Nat) (fr to : Int) (hb : ∀ b ∈ bs, b < 256) (h : cutE len bs fr to = 0) :
    ∃ (l : List Bool) (f t : Nat), len = (l.length : Int) ∧ bs = pack l ∧ fr = (f : Int) ∧ to = (t : Int) ∧ f ≤ t ∧ t ≤ l.length ∧ l.length ≤ 8192 := by
  unfold cutE at h
  by_cases hc : chk len bs = 0
  · rw [if_neg (by omega)] at h
    obtain ⟨l, rfl, hl, rfl⟩ := chk_zero len bs hb hc
    by_cases hw : fr < 0 ∨ to < fr ∨ (l.length : Int) < to
    · rw [if_pos hw] at h; omega
    · obtain ⟨f, rfl⟩ := Int.eq_ofNat_of_zero_le (show 0 ≤ fr by omega)
      obtain ⟨t, rfl⟩ := Int.eq_ofNat_of_zero_le (show 0 ≤ to by omega)
      exact ⟨l, f, t, rfl, rfl, rfl, rfl, by omega, by omega, hl⟩
  · rw [if_pos hc] at h; exact absurd h hc
theorem joinE_zero (lx ly : Int) (xs ys : List Nat) (hx : ∀ b ∈ xs, b < 256) (hy : ∀ b ∈ ys, b < 256) (h : joinE lx xs ly ys = 0) :
    ∃ (a b : List Bool), lx = (a.length : Int) ∧ xs = pack a ∧ ly = (b.length : Int) ∧ ys = pack b ∧ a.length + b.length ≤ 8192 := by
  unfold joinE at h
  by_cases hc : chk lx xs = 0
  · rw [if_neg (by omega)] at h
    by_cases hd : chk ly ys = 0
    · rw [if_neg (by omega)] at h
      obtain ⟨a, rfl, ha, rfl⟩ := chk_zero lx xs hx hc
      obtain ⟨b, rfl, hb, rfl⟩ := chk_zero ly ys hy hd
      by_cases hf : 8192 < (a.length : Int) + (b.length : Int)
      · rw [if_pos hf] at h; omega
      · exact ⟨a, b, rfl, rfl, rfl, rfl, by omega⟩
    · rw [if_pos hd] at h; exact absurd h hd
  · rw [if_pos hc] at h; exact absurd h hc
theorem getE_zero (len : Int) (bs : List Nat) (p width : Int) (hb : ∀ b ∈ bs, b < 256) (h : getE len bs p width = 0) :
    ∃ (l : List Bool) (q k : Nat), len = (l.length : Int) ∧ bs = pack l ∧ p = (q : Int) ∧ width = (k : Int) ∧ k ≤ 64 ∧ q + k ≤ l.length ∧ l.length ≤ 8192 := by
  unfold getE at h
  by_cases hc : chk len bs = 0
  · rw [if_neg (by omega)] at h
    obtain ⟨l, rfl, hl, rfl⟩ := chk_zero len bs hb hc
    by_cases hw : width < 0 ∨ 64 < width ∨ p < 0 ∨ (l.length : Int) < p
    · rw [if_pos hw] at h; omega
    · rw [if_neg hw] at h
      by_cases hs : (l.length : Int) - p < width
      · rw [if_pos hs] at h; omega
      · obtain ⟨q, rfl⟩ := Int.eq_ofNat_of_zero_le (show 0 ≤ p by omega)
        obtain ⟨k, rfl⟩ := Int.eq_ofNat_of_zero_le (show 0 ≤ width by omega)
        exact ⟨l, q, k, rfl, rfl, rfl, rfl, by omega, by omega, hl⟩
  · rw [if_pos hc] at h; exact absurd h hc
end
end Go.Proofs.YtcffndfbkbchjaaGreat
