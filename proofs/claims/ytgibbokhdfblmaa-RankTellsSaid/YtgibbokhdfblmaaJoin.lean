/- What Join answers, for whatever bits it is handed. -/
import Derived.Test.YtgibbokhdfblmaaAddBits
namespace Go.Proofs.Ytgibbokhdfblmaa
open Go.RowKit

/-- The three blocks that Join begins with. -/
def begun3 (w : World) (a b : Value) (a' b' : Value) : World := ((w.alloc (.cells #[a, a'] 25)).alloc (.cells #[b, b'] 25)).alloc (.cells #[.int .i64 0, .slice none 0 0] 25)
theorem begun3_size (w : World) (a b a' b' : Value) : (begun3 w a b a' b').heap.size = w.heap.size + 3 := by
  unfold begun3; simp only [World.size_alloc]
theorem begun3_below (w : World) (a b a' b' : Value) : Below w.heap.size w (begun3 w a b a' b') := (((Below.refl _ w).alloc (Nat.le_refl _) _).alloc (by simp) _).alloc (by simp only [World.size_alloc]; omega) _
theorem begun3_res (w : World) (a b a' b' : Value) : (begun3 w a b a' b').heap[w.heap.size + 1 + 1]? = some (.cells #[.int .i64 0, .slice none 0 0] 25) := by
  have := World.alloc_heap_new ((w.alloc (.cells #[a, a'] 25)).alloc (.cells #[b, b'] 25)) (.cells #[.int .i64 0, .slice none 0 0] 25)
  simp only [World.size_alloc] at this
  exact this

/-- Check, called later on. -/
theorem check_later (len : Int) (A : Option Addr) (c : Nat) (bs : List Nat) (w : World) (hb : ∀ b ∈ bs, b < 256) (h : Rd w w.heap.size A bs) (W' : World) (hW : Below w.heap.size w W') :
    Calls Try.prog 43 #[.agg #[.int .i64 len, .slice A bs.length c]] W' fun e w' => e = .returned (.int .i64 (chk len bs)) ∧ Below W'.heap.size W' w' :=
  check_any len A c bs W' hb (h.below hW hW.size)

set_option maxHeartbeats 400000 in
theorem join_a (lx ly : Int) (A B : Option Addr) (c d : Nat) (xs ys : List Nat) (w : World) (hx : ∀ b ∈ xs, b < 256) (hA : Rd w w.heap.size A xs) (h : chk lx xs ≠ 0) :
    Calls Try.prog 42 #[.agg #[.int .i64 lx, .slice A xs.length c], .agg #[.int .i64 ly, .slice B ys.length d]] w (Gave w [] (chk lx xs)) := by
  have HX := Lib.hid (check_later lx A c xs w hx hA (begun3 w (.int .i64 lx) (.int .i64 ly) (.slice A xs.length c) (.slice B ys.length d)) (begun3_below _ _ _ _ _))
  have hcb : (chk lx xs != 0) = true := by simpa using h
  clear h hx hA
  have HB := Lib.hid (begun3_below w (.int .i64 lx) (.int .i64 ly) (.slice A xs.length c) (.slice B ys.length d))
  rw [begun3_size] at HX
  generalize chk lx xs = e0 at *
  generalize xs.length = n at *
  generalize ys.length = m at *
  go_enter Try.func42, Try.ntmps42
  go_wp2_with (go_at_call 43; refine HX.out.mono ?_; rintro e w1 ⟨rfl, hq⟩; unfold begun3 at hq; obtain ⟨hc1, hf1⟩ := old_cells hq)
  exact bodyPost_ret (v := .tuple #[.agg #[.int .i64 0, .slice none 0 0], .int .i64 e0]) (by simp [results, Try.results42, go_sem, hc1]) rfl (gave_zero (HB.out.trans (hq.mono (by omega))) _ (by omega) e0)

set_option maxHeartbeats 400000 in
theorem join_b (lx ly : Int) (A B : Option Addr) (c d : Nat) (xs ys : List Nat) (w : World) (hx : ∀ b ∈ xs, b < 256) (hA : Rd w w.heap.size A xs) (h : chk lx xs = 0) (hy : ∀ b ∈ ys, b < 256) (hB : Rd w w.heap.size B ys) (h2 : chk ly ys ≠ 0) :
    Calls Try.prog 42 #[.agg #[.int .i64 lx, .slice A xs.length c], .agg #[.int .i64 ly, .slice B ys.length d]] w (Gave w [] (chk ly ys)) := by
  have hX := check_later lx A c xs w hx hA (begun3 w (.int .i64 lx) (.int .i64 ly) (.slice A xs.length c) (.slice B ys.length d)) (begun3_below _ _ _ _ _)
  rw [h, begun3_size] at hX
  have HX := Lib.hid hX; clear hX
  have HY := Lib.hid (check_later ly B d ys w hy hB)
  have hcb : (chk ly ys != 0) = true := by simpa using h2
  clear h h2 hx hA hy hB
  have HB := Lib.hid (begun3_below w (.int .i64 lx) (.int .i64 ly) (.slice A xs.length c) (.slice B ys.length d))
  generalize chk ly ys = e0 at *
  generalize xs.length = n at *
  generalize ys.length = m at *
  go_enter Try.func42, Try.ntmps42
  go_wp2_with fail
  refine HX.out.mono ?_
  rintro e w1 ⟨rfl, hq⟩
  unfold begun3 at hq
  obtain ⟨hc1, hf1⟩ := old_cells hq
  have HS : Hid (w.heap.size + 3 ≤ w1.heap.size) := by have := hq.size; rw [show (((w.alloc _).alloc _).alloc _).heap.size = w.heap.size + 3 from begun3_size w _ _ _ _] at this; exact this
  go_wp2_with fail
  refine (HY.out w1 (HB.out.trans (hq.mono (by omega)))).mono ?_
  rintro e w2 ⟨rfl, hq2⟩
  have hq3 := hq.trans (hq2.mono HS.out)
  clear hc1 hf1
  obtain ⟨hc1, hf1⟩ := old_cells hq3
  go_wp2
  exact bodyPost_ret (v := .tuple #[.agg #[.int .i64 0, .slice none 0 0], .int .i64 e0]) (by simp [results, Try.results42, go_sem, hc1]) rfl (gave_zero (HB.out.trans (hq3.mono (by omega))) _ (by omega) e0)

set_option maxHeartbeats 1000000 in
theorem join_in (a b L : List Bool) (ha : a.length ≤ 8192) (hb : b.length ≤ 8192) (A B : Option Addr) (c d : Nat) (w : World) (hA : Rd w w.heap.size A (pack a)) (hB : Rd w w.heap.size B (pack b)) (hL : L = a ++ b) :
    Calls Try.prog 42 #[.agg #[.int .i64 (a.length : Int), .slice A (pack a).length c], .agg #[.int .i64 (b.length : Int), .slice B (pack b).length d]] w (Gave w (if 8192 < a.length + b.length then [] else L) (if 8192 < a.length + b.length then 8 else 0)) := by
  have hX := check_later (a.length : Int) A c (pack a) w (pack_lt a) hA (begun3 w (.int .i64 (a.length : Int)) (.int .i64 (b.length : Int)) (.slice A (pack a).length c) (.slice B (pack b).length d)) (begun3_below _ _ _ _ _)
  rw [chk_pack a ha, begun3_size] at hX
  have HX := Lib.hid hX; clear hX
  have hY := check_later (b.length : Int) B d (pack b) w (pack_lt b) hB
  rw [chk_pack b hb] at hY
  have HY := Lib.hid hY; clear hY
  have HBz := Lib.hid (begun3_below w (.int .i64 (a.length : Int)) (.int .i64 (b.length : Int)) (.slice A (pack a).length c) (.slice B (pack b).length d))
  have HCP : Hid (∀ w2, Below w.heap.size w w2 → Calls Try.prog 67 #[.agg #[.int .i64 (a.length : Int), .slice A (pack a).length c]] w2 (Copied w2 (a.length : Int) (pack a).length (pack a))) := fun w2 hq =>
    copy_any _ w2 A c (pack a) (by rw [pack_length]; omega) (hA.below hq hq.size)
  have HL := Lib.hid hL; clear hL
  have HBR := Lib.hid hB; clear hB hA
  by_cases hf : 8192 < a.length + b.length
  · rw [if_pos hf, if_pos hf]
    go_enter Try.func42, Try.ntmps42
    go_wp2_with fail
    refine HX.out.mono ?_
    rintro e w1 ⟨rfl, hq⟩
    unfold begun3 at hq
    obtain ⟨hc1, hf1⟩ := old_cells hq
    have HS : Hid (w.heap.size + 3 ≤ w1.heap.size) := by have := hq.size; rw [show (((w.alloc _).alloc _).alloc _).heap.size = w.heap.size + 3 from begun3_size w _ _ _ _] at this; exact this
    go_wp2_with fail
    refine (HY.out w1 (HBz.out.trans (hq.mono (by omega)))).mono ?_
    rintro e w2 ⟨rfl, hq2⟩
    have hq3 := hq.trans (hq2.mono HS.out)
    clear hc1 hf1
    obtain ⟨hc1, hf1⟩ := old_cells hq3
    go_wp2
    exact bodyPost_ret (v := .tuple #[.agg #[.int .i64 0, .slice none 0 0], .int .i64 8]) (by simp [results, Try.results42, go_sem, hc1]) rfl (gave_zero (HBz.out.trans (hq3.mono (by omega))) _ (by omega) 8)
  · rw [if_neg hf, if_neg hf]
    have hf' : a.length + b.length ≤ 8192 := by omega
    clear hf
    go_enter Try.func42, Try.ntmps42
    go_wp2_with fail
    refine HX.out.mono ?_
    rintro e w1 ⟨rfl, hq⟩
    unfold begun3 at hq
    obtain ⟨hc1, hf1⟩ := old_cells hq
    have HS : Hid (w.heap.size + 3 ≤ w1.heap.size) := by have := hq.size; rw [show (((w.alloc _).alloc _).alloc _).heap.size = w.heap.size + 3 from begun3_size w _ _ _ _] at this; exact this
    go_wp2_with fail
    refine (HY.out w1 (HBz.out.trans (hq.mono (by omega)))).mono ?_
    rintro e w2 ⟨rfl, hq2⟩
    have hq3 := hq.trans (hq2.mono HS.out)
    have HS2 : Hid (w.heap.size + 3 ≤ w2.heap.size) := by have h1 := HS.out; have h2 := hq2.size; show _ ≤ _; omega
    clear hc1 hf1 hq hq2
    obtain ⟨hc1, hf1⟩ := old_cells hq3
    go_wp2_with fail
    refine (HCP.out w2 (HBz.out.trans (hq3.mono (by omega)))).mono ?_
    rintro e w3 ⟨A2, c2, rfl, ho3, hb3⟩
    have hq4 := hq3.trans (hb3.mono HS2.out)
    have HS3 : Hid (w.heap.size + 3 ≤ w3.heap.size) := by have h1 := HS2.out; have h2 := hb3.size; show _ ≤ _; omega
    have HW : Hid (Wr (w3.alloc (.cells #[.int .i64 (a.length : Int), .slice A2 (pack a).length c2] 100)) (fun k => k < w.heap.size + 3) w3.heap.size a) := Wr.laid ho3 (fun j hj => by have := HS2.out; omega) hb3.size
    have HR : Hid (Rd (w3.alloc (.cells #[.int .i64 (a.length : Int), .slice A2 (pack a).length c2] 100)) w.heap.size B (pack b)) := HBR.out.below ((HBz.out.trans (hq4.mono (by omega))).alloc (by have := HS3.out; omega) _) (Nat.le_refl _)
    clear hc1 hf1 ho3 hb3
    obtain ⟨hc1, hf1⟩ := old_cells hq4
    have hs1 : w.heap.size + 1 < w3.heap.size := by have := HS3.out; omega
    go_wp2_with fail
    have hz0 : ((0 : Nat) : Int) = 0 := rfl
    rw [← hz0]
    refine (addBits_any _ (fun k => k < w.heap.size + 3) (fun j hj => by have := HS3.out; simp only [World.size_alloc]; omega) w3.heap.size a b hb B d w.heap.size (fun k hk => by omega) (by have := HS3.out; simp only [World.size_alloc]; omega) 0 b.length (by omega) (Nat.le_refl _) (by omega) HW.out HR.out).mono ?_
    rintro e w4 ⟨rfl, hw4, hf4⟩
    rw [List.drop_zero, Nat.sub_zero, List.take_length, ← HL.out] at hw4
    have hwb : w4.heap[w.heap.size + 1 + 1]? = some (.cells #[.int .i64 0, .slice none 0 0] 25 (0, 0)) := by
      rw [hf4.block _ (by omega), Below.heap_alloc _ _ _ (by have := HS3.out; omega), hq4.block _ (by omega)]
      exact begun3_res w _ _ _ _
    have hlow : Below w.heap.size w w4 := ((HBz.out.trans (hq4.mono (by omega))).alloc (by have := HS3.out; omega) _).trans (hf4.below (fun j hj => by omega))
    obtain ⟨A3, c3, ⟨d0, d1⟩, ⟨d2, d3, g0, g1⟩, HG⟩ := finish hw4 (r := w.heap.size + 1 + 1) (by omega) (by omega) hwb hlow
    clear hwb hlow hw4 hf4 hc1 hf1 hz0
    go_wp2
    exact bodyPost_ret (v := .tuple #[.agg #[.int .i64 (L.length : Int), .slice A3 (pack L).length c3], .int .i64 0]) (by simp [results, Try.results42, go_sem, d2, d3]) rfl HG.out

/-- What Join answers. -/
def joinE (lx : Int) (xs : List Nat) (ly : Int) (ys : List Nat) : Int := if chk lx xs ≠ 0 then chk lx xs else if chk ly ys ≠ 0 then chk ly ys else if 8192 < lx + ly then 8 else 0

theorem join_any (lx ly : Int) (A B : Option Addr) (c d : Nat) (xs ys : List Nat) (w : World) (hx : ∀ b ∈ xs, b < 256) (hA : Rd w w.heap.size A xs) (hy : ∀ b ∈ ys, b < 256) (hB : Rd w w.heap.size B ys) :
    Calls Try.prog 42 #[.agg #[.int .i64 lx, .slice A xs.length c], .agg #[.int .i64 ly, .slice B ys.length d]] w (Gave w (if joinE lx xs ly ys = 0 then unpack lx.toNat xs ++ unpack ly.toNat ys else []) (joinE lx xs ly ys)) := by
  by_cases h : chk lx xs = 0
  · by_cases h2 : chk ly ys = 0
    · obtain ⟨a, rfl, ha, rfl⟩ := chk_zero lx xs hx h
      obtain ⟨b, rfl, hb, rfl⟩ := chk_zero ly ys hy h2
      have hj := join_in a b _ ha hb A B c d w hA hB rfl
      have e : joinE (a.length : Int) (pack a) (b.length : Int) (pack b) = if 8192 < a.length + b.length then 8 else 0 := by
        unfold joinE
        rw [if_neg (by omega), if_neg (by omega)]
        by_cases hf : 8192 < a.length + b.length
        · rw [if_pos hf, if_pos (by omega)]
        · rw [if_neg hf, if_neg (by omega)]
      rw [e, Int.toNat_natCast, Int.toNat_natCast, unpack_pack, unpack_pack]
      by_cases hf : 8192 < a.length + b.length
      · rw [if_pos hf, if_pos hf] at hj
        rw [if_pos hf]
        rw [if_neg (by decide)]
        exact hj
      · rw [if_neg hf, if_neg hf] at hj
        rw [if_neg hf]
        rw [if_pos rfl]
        exact hj
    · have e : joinE lx xs ly ys = chk ly ys := by unfold joinE; rw [if_neg (by omega), if_pos h2]
      rw [e, if_neg h2]
      exact join_b lx ly A B c d xs ys w hx hA h hy hB h2
  · have e : joinE lx xs ly ys = chk lx xs := by unfold joinE; rw [if_pos h]
    rw [e, if_neg h]
    exact join_a lx ly A B c d xs ys w hx hA h
end Go.Proofs.Ytgibbokhdfblmaa
