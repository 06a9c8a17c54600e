/- What is asked in any case of counting: it answers true, in whatever world. -/
import Derived.Test.YtgibbokhdfblmaaOBy
namespace Go.Proofs.Ytgibbokhdfblmaa
set_option maxRecDepth 100000
set_option linter.unusedVariables false
open Go.RowKit Go.Shelf

theorem boxT_at {w V : World} {a b : Value} {t : TypeId} (h : Below (w.heap.size + 1) (w.alloc (.cells #[a, b] t)) V) : V.cell? ⟨w.heap.size, 0, none⟩ = some a ∧ V.cell? ⟨w.heap.size, 1, none⟩ = some b := by
  have h1 := (h.block w.heap.size (by omega)).trans (World.alloc_heap_new w (.cells #[a, b] t))
  exact ⟨(cells2 h1).1, (cells2 h1).2.1⟩
/-- What is wrong with bits, a value and how many. -/
def slE (len : Int) (bs : List Nat) (bit i : Int) : Int := rgE (chk len bs) [decide (bit = 0 ∨ bit = 1), decide (0 ≤ i)]
theorem sel_any (len : Int) (A : Option Addr) (c : Nat) (bs : List Nat) (hb : ∀ b ∈ bs, b < 256) (bit i : Int) (w : World) (h : Rd w w.heap.size A bs) (rn : Nat) (re : Int)
    (hr : slE len bs bit i = re ∧ re ≠ 0 ∧ rn = 0 ∨ slE len bs bit i = 0 ∧ ((sel (decide (bit = 1)) (unpack len.toNat bs) i.toNat = none ∧ rn = 0 ∧ re = 5) ∨ (sel (decide (bit = 1)) (unpack len.toNat bs) i.toNat = some rn ∧ re = 0))) :
    Calls Try.prog 29 #[.agg #[.int .i64 len, .slice A bs.length c], .int .i64 bit, .int .i64 i] w (RkP w rn re) := by
  rcases hr with ⟨h1, h2, rfl⟩ | ⟨h1, h2⟩
  · by_cases hb0 : bit = 0
    · refine sel_e0 len A c bs hb bit i re (by simpa using hb0) ?_ h2 w h
      rw [← h1]; unfold slE; rw [show decide (bit = 0 ∨ bit = 1) = true by simp [hb0]]
    · refine sel_e1 len A c bs hb bit i re (by simpa using hb0) (decide (bit = 1)) (by by_cases h : bit = 1 <;> simp [h]) ?_ h2 w h
      rw [← h1]; unfold slE; rw [show decide (bit = 0 ∨ bit = 1) = decide (bit = 1) by simp [hb0]]
  · obtain ⟨h3, h4⟩ := rgE_zero h1
    obtain ⟨l, rfl, hl, rfl⟩ := chk_zero len bs hb h3
    simp at h4
    obtain ⟨q, rfl⟩ := Int.eq_ofNat_of_zero_le h4.2
    rw [Int.toNat_natCast, Int.toNat_natCast, unpack_pack] at h2
    rcases (show bit = 0 ∨ bit = 1 by by_cases h : bit = 0; exact .inl h; exact .inr (h4.1 h)) with rfl | rfl
    · exact sel_ok0 l hl A c q rn re h2 w h
    · exact sel_ok1 l hl A c q rn re h2 w h
theorem boxT2_at {w V : World} {a b d e : Value} {t u : TypeId} (h : Below ((w.alloc (.cells #[a, b] t)).alloc (.cells #[d, e] u)).heap.size ((w.alloc (.cells #[a, b] t)).alloc (.cells #[d, e] u)) V) :
    (V.cell? ⟨w.heap.size, 0, none⟩ = some a ∧ V.cell? ⟨w.heap.size, 1, none⟩ = some b) ∧ (V.cell? ⟨w.heap.size + 1, 0, none⟩ = some d ∧ V.cell? ⟨w.heap.size + 1, 1, none⟩ = some e) ∧ w.heap.size + 1 < V.heap.size := by
  have h1 : (w.alloc (.cells #[a, b] t)).heap.size = w.heap.size + 1 := World.size_alloc _ _
  have h2 : ((w.alloc (.cells #[a, b] t)).alloc (.cells #[d, e] u)).heap.size = w.heap.size + 2 := by rw [World.size_alloc, h1]
  have g1 := (h.block w.heap.size (by omega)).trans ((one_below _ _).block _ (by omega) |>.trans (World.alloc_heap_new w _))
  have g2 : V.heap[w.heap.size + 1]? = some (.cells #[d, e] u (0, 0)) := by
    rw [h.block _ (by omega), ← h1]; exact World.alloc_heap_new _ _
  exact ⟨⟨(cells2 g1).1, (cells2 g1).2.1⟩, ⟨(cells2 g2).1, (cells2 g2).2.1⟩, by have := h.size; omega⟩
theorem rdv_int3 (w : World) (a b c : Int) : RdV (w.alloc (.cells #[.int .i64 a, .int .i64 b, .int .i64 c] 3)) (w.alloc (.cells #[.int .i64 a, .int .i64 b, .int .i64 c] 3)).heap.size (some ⟨w.heap.size, 0, none⟩) (zc [a, b, c]) := by
  refine .inr ⟨w.heap.size, 0, rfl, by simp, fun i v hi => ?_⟩
  rw [cell_at (World.alloc_heap_new w (.cells #[.int .i64 a, .int .i64 b, .int .i64 c] 3)), Nat.zero_add]
  simpa [zc] using hi
theorem isame (xs : List Int) (n : Nat) (hn : xs.length = n) (h2 : n ≤ 9223372036854775807) (A B : Option Addr) (c d : Nat) (w : World) (hA : RdV w w.heap.size A (zc xs)) (hB : RdV w w.heap.size B (zc xs)) :
    Calls Try.prog 38 #[.slice A n c, .slice B n d] w fun e w' => e = .returned (.bool true) ∧ Below w.heap.size w w' := by
  have := same_ints w A B c d xs xs n hn hn h2 hA hB
  simpa using this
/-- The bits that are asked. -/
def LB : List Bool := [true, false, true, true, false, true, false, false, true, true]
theorem lb_pack : pack LB = [180, 192] := by decide +kernel
theorem lb_bx : ns (bx LB 4) = [0, 3, 4] := by decide +kernel
theorem rb_rd {w : World} {A : Option Addr} (h : Rd w w.heap.size A [180, 192]) : Rd w w.heap.size A (pack LB) := by rw [lb_pack]; exact h
theorem rb1 (A : Option Addr) (c : Nat) (w : World) (h : Rd w w.heap.size A [180, 192]) : Calls Try.prog 28 #[.agg #[.int .i64 10, .slice A 2 c], .int .i64 6] w (RkP w 4 0) := by
  have := rank_ok LB (by decide) A c 6 (by decide) 4 (by decide +kernel) w (rb_rd h)
  rwa [lb_pack] at this
theorem rb2 (A : Option Addr) (c : Nat) (w : World) (h : Rd w w.heap.size A [180, 192]) : Calls Try.prog 29 #[.agg #[.int .i64 10, .slice A 2 c], .int .i64 1, .int .i64 4] w (RkP w 8 0) := by
  have := sel_ok1 LB (by decide) A c 4 8 0 (.inr ⟨by decide +kernel, rfl⟩) w (rb_rd h)
  rwa [lb_pack] at this
theorem rb3 (A : Option Addr) (c : Nat) (w : World) (h : Rd w w.heap.size A [180, 192]) : Calls Try.prog 29 #[.agg #[.int .i64 10, .slice A 2 c], .int .i64 0, .int .i64 0] w (RkP w 1 0) := by
  have := sel_ok0 LB (by decide) A c 0 1 0 (.inr ⟨by decide +kernel, rfl⟩) w (rb_rd h)
  rwa [lb_pack] at this
theorem rb4 (A : Option Addr) (c : Nat) (w : World) (h : Rd w w.heap.size A [180, 192]) : Calls Try.prog 30 #[.agg #[.int .i64 10, .slice A 2 c], .int .i64 4] w fun x w' => ∃ B d, x = .returned (.tuple #[.agg #[.int .i64 4, .slice B 3 d], .int .i64 0]) ∧ RdV w' w'.heap.size B (zc [0, 3, 4]) ∧ Below w.heap.size w w' := by
  have := build_ok LB (by decide) A c 4 (by decide) (by decide) w (rb_rd h)
  rw [lb_pack, lb_bx] at this
  exact this
theorem rb5 (A B : Option Addr) (c d : Nat) (w : World) (h : Rd w w.heap.size A [180, 192]) (h2 : RdV w w.heap.size B (zc [0, 3, 4])) : Calls Try.prog 31 #[.agg #[.int .i64 10, .slice A 2 c], .agg #[.int .i64 4, .slice B 3 d], .int .i64 9] w (RkP w 5 0) := by
  have := by_ok LB (by decide) A c 4 (by decide) (by decide) B d 9 (by decide) w (rb_rd h) (by rw [lb_bx]; exact h2)
  rw [lb_pack, lb_bx, show cnt (LB.take 9) = 5 by decide +kernel] at this
  exact this
theorem rb6 (A : Option Addr) (c : Nat) (w : World) (h : Rd w w.heap.size A [180, 192]) : Calls Try.prog 29 #[.agg #[.int .i64 10, .slice A 2 c], .int .i64 1, .int .i64 6] w (RkP w 0 5) := by
  have := sel_ok1 LB (by decide) A c 6 0 5 (.inl ⟨by decide +kernel, rfl, rfl⟩) w (rb_rd h)
  rwa [lb_pack] at this
theorem rb7 (A : Option Addr) (c : Nat) (w : World) (h : Rd w w.heap.size A [180, 192]) : Calls Try.prog 39 #[.agg #[.int .i64 10, .slice A 2 c], .agg #[.int .i64 4, .slice none 0 0]] w fun e w' => e = .returned (.int .i64 4) ∧ Below w.heap.size w w' := by
  have := rcheck_ix 10 A c [180, 192] (by decide) 4 [] (by decide) none 0 w h (.inl rfl)
  rw [show ckI 10 [180, 192] 4 [] = 4 by decide +kernel] at this
  exact this
set_option maxHeartbeats 4000000 in
theorem rbegun_true (w : World) : Calls Try.prog 37 #[] w fun e w' => e = .returned (.bool true) ∧ Below w.heap.size w w' := by
  go_enter Try.func37, Try.ntmps37
  go_wp2_with fail
  obtain ⟨V0, hV0⟩ : ∃ V0, V0 = (w.alloc (.cells #[.int .u8 180, .int .u8 192] 5)).alloc (.cells #[.int .i64 10, .slice (some ⟨w.heap.size, 0, none⟩) 2 2] 25) := ⟨_, rfl⟩
  have hs1 : (w.alloc (.cells #[.int .u8 180, .int .u8 192] 5)).heap.size = w.heap.size + 1 := World.size_alloc _ _
  have HB : Hid (Below w.heap.size w V0) := by rw [hV0]; exact up2 w _ _
  have HR : Hid (Rd V0 V0.heap.size (some ⟨w.heap.size, 0, none⟩) [180, 192]) := by
    have h1 := rd_lit2 w 180 192
    rw [hV0]
    exact h1.on (one_below _ _)
  have zb : (w.heap.size + 1) < V0.heap.size := by rw [hV0, World.size_alloc, hs1]; omega
  have hb2 : V0.heap[w.heap.size + 1]? = some (.cells #[.int .i64 10, .slice (some ⟨w.heap.size, 0, none⟩) 2 2] 25 (0, 0)) := by
    rw [hV0, ← hs1]; exact World.alloc_heap_new _ _
  obtain ⟨pb, qb, -, -⟩ := cells2 hb2
  rw [← hV0]
  clear hV0 hs1 hb2
  go_wp2_with fail
  refine (rb1 (some ⟨w.heap.size, 0, none⟩) 2 _ HR.out).mono ?_
  rintro e w1_ ⟨rfl, Bq⟩
  have Sq : Below V0.heap.size V0 w1_ := Bq
  replace pb := (Sq.cell (p := ⟨(w.heap.size + 1), 0, none⟩) zb).trans pb
  replace qb := (Sq.cell (p := ⟨(w.heap.size + 1), 1, none⟩) zb).trans qb
  replace zb : (w.heap.size + 1) < w1_.heap.size := Nat.lt_of_lt_of_le zb Sq.size
  replace HR : Hid (Rd w1_ w1_.heap.size (some ⟨w.heap.size, 0, none⟩) [180, 192]) := HR.out.on Sq
  replace HB : Hid (Below w.heap.size w w1_) := HB.out.trans (Sq.mono HB.out.size)
  clear Bq Sq
  go_wp2_with fail
  refine (rb2 (some ⟨w.heap.size, 0, none⟩) 2 _ HR.out).mono ?_
  rintro e w2_ ⟨rfl, Bq⟩
  have Sq : Below w1_.heap.size w1_ w2_ := Bq
  replace pb := (Sq.cell (p := ⟨(w.heap.size + 1), 0, none⟩) zb).trans pb
  replace qb := (Sq.cell (p := ⟨(w.heap.size + 1), 1, none⟩) zb).trans qb
  replace zb : (w.heap.size + 1) < w2_.heap.size := Nat.lt_of_lt_of_le zb Sq.size
  replace HR : Hid (Rd w2_ w2_.heap.size (some ⟨w.heap.size, 0, none⟩) [180, 192]) := HR.out.on Sq
  replace HB : Hid (Below w.heap.size w w2_) := HB.out.trans (Sq.mono HB.out.size)
  clear Bq Sq
  go_wp2_with fail
  refine (rb3 (some ⟨w.heap.size, 0, none⟩) 2 _ HR.out).mono ?_
  rintro e w3_ ⟨rfl, Bq⟩
  have Sq : Below w2_.heap.size w2_ w3_ := Bq
  replace pb := (Sq.cell (p := ⟨(w.heap.size + 1), 0, none⟩) zb).trans pb
  replace qb := (Sq.cell (p := ⟨(w.heap.size + 1), 1, none⟩) zb).trans qb
  replace zb : (w.heap.size + 1) < w3_.heap.size := Nat.lt_of_lt_of_le zb Sq.size
  replace HR : Hid (Rd w3_ w3_.heap.size (some ⟨w.heap.size, 0, none⟩) [180, 192]) := HR.out.on Sq
  replace HB : Hid (Below w.heap.size w w3_) := HB.out.trans (Sq.mono HB.out.size)
  clear Bq Sq
  go_wp2_with fail
  refine (rb4 (some ⟨w.heap.size, 0, none⟩) 2 _ HR.out).mono ?_
  rintro e w4_ ⟨A2, c2, rfl, Rq, Bq⟩
  have Sq : Below w3_.heap.size w3_ w4_ := Bq
  replace pb := (Sq.cell (p := ⟨(w.heap.size + 1), 0, none⟩) zb).trans pb
  replace qb := (Sq.cell (p := ⟨(w.heap.size + 1), 1, none⟩) zb).trans qb
  replace zb : (w.heap.size + 1) < w4_.heap.size := Nat.lt_of_lt_of_le zb Sq.size
  replace HR : Hid (Rd w4_ w4_.heap.size (some ⟨w.heap.size, 0, none⟩) [180, 192]) := HR.out.on Sq
  replace HB : Hid (Below w.heap.size w w4_) := HB.out.trans (Sq.mono HB.out.size)
  clear Bq Sq
  have HX := Lib.hid Rq; clear Rq
  go_wp2_with fail
  refine (rb5 (some ⟨w.heap.size, 0, none⟩) A2 2 c2 _ (HR.out.on (one_below w4_ _)) (HX.out.on (one_below w4_ _))).mono ?_
  rintro e w5_ ⟨rfl, Bq⟩
  rw [World.size_alloc] at Bq
  have Sq : Below w4_.heap.size w4_ w5_ := (one_below w4_ _).trans (Bq.mono (by omega))
  have zx : w4_.heap.size < w5_.heap.size := by have := Bq.size; rw [World.size_alloc] at this; omega
  obtain ⟨px, qx⟩ := boxT_at Bq
  replace pb := (Sq.cell (p := ⟨(w.heap.size + 1), 0, none⟩) zb).trans pb
  replace qb := (Sq.cell (p := ⟨(w.heap.size + 1), 1, none⟩) zb).trans qb
  replace zb : (w.heap.size + 1) < w5_.heap.size := Nat.lt_of_lt_of_le zb Sq.size
  replace HR : Hid (Rd w5_ w5_.heap.size (some ⟨w.heap.size, 0, none⟩) [180, 192]) := HR.out.on Sq
  replace HX : Hid (RdV w5_ w5_.heap.size A2 (zc [0, 3, 4])) := HX.out.on Sq
  replace HB : Hid (Below w.heap.size w w5_) := HB.out.trans (Sq.mono HB.out.size)
  clear Bq Sq
  go_wp2_with fail
  refine (rb6 (some ⟨w.heap.size, 0, none⟩) 2 _ HR.out).mono ?_
  rintro e w6_ ⟨rfl, Bq⟩
  have Sq : Below w5_.heap.size w5_ w6_ := Bq
  replace pb := (Sq.cell (p := ⟨(w.heap.size + 1), 0, none⟩) zb).trans pb
  replace qb := (Sq.cell (p := ⟨(w.heap.size + 1), 1, none⟩) zb).trans qb
  replace zb : (w.heap.size + 1) < w6_.heap.size := Nat.lt_of_lt_of_le zb Sq.size
  replace px := (Sq.cell (p := ⟨w4_.heap.size, 0, none⟩) zx).trans px
  replace qx := (Sq.cell (p := ⟨w4_.heap.size, 1, none⟩) zx).trans qx
  replace zx : w4_.heap.size < w6_.heap.size := Nat.lt_of_lt_of_le zx Sq.size
  replace HR : Hid (Rd w6_ w6_.heap.size (some ⟨w.heap.size, 0, none⟩) [180, 192]) := HR.out.on Sq
  replace HX : Hid (RdV w6_ w6_.heap.size A2 (zc [0, 3, 4])) := HX.out.on Sq
  replace HB : Hid (Below w.heap.size w w6_) := HB.out.trans (Sq.mono HB.out.size)
  clear Bq Sq
  go_wp2_with fail
  refine (isame [0, 3, 4] 3 rfl (by decide) A2 (some ⟨w6_.heap.size, 0, none⟩) c2 3 _ (HX.out.on (one_below w6_ _)) (rdv_int3 w6_ 0 3 4)).mono ?_
  rintro e w7_ ⟨rfl, Bq⟩
  rw [World.size_alloc] at Bq
  have Sq : Below w6_.heap.size w6_ w7_ := (one_below w6_ _).trans (Bq.mono (by omega))
  replace pb := (Sq.cell (p := ⟨(w.heap.size + 1), 0, none⟩) zb).trans pb
  replace qb := (Sq.cell (p := ⟨(w.heap.size + 1), 1, none⟩) zb).trans qb
  replace zb : (w.heap.size + 1) < w7_.heap.size := Nat.lt_of_lt_of_le zb Sq.size
  replace px := (Sq.cell (p := ⟨w4_.heap.size, 0, none⟩) zx).trans px
  replace qx := (Sq.cell (p := ⟨w4_.heap.size, 1, none⟩) zx).trans qx
  replace zx : w4_.heap.size < w7_.heap.size := Nat.lt_of_lt_of_le zx Sq.size
  replace HR : Hid (Rd w7_ w7_.heap.size (some ⟨w.heap.size, 0, none⟩) [180, 192]) := HR.out.on Sq
  replace HX : Hid (RdV w7_ w7_.heap.size A2 (zc [0, 3, 4])) := HX.out.on Sq
  replace HB : Hid (Below w.heap.size w w7_) := HB.out.trans (Sq.mono HB.out.size)
  clear Bq Sq
  go_wp2_with fail
  refine (rb7 (some ⟨w.heap.size, 0, none⟩) 2 _ HR.out).mono ?_
  rintro e w8_ ⟨rfl, Bq⟩
  have Sq : Below w7_.heap.size w7_ w8_ := Bq
  replace pb := (Sq.cell (p := ⟨(w.heap.size + 1), 0, none⟩) zb).trans pb
  replace qb := (Sq.cell (p := ⟨(w.heap.size + 1), 1, none⟩) zb).trans qb
  replace zb : (w.heap.size + 1) < w8_.heap.size := Nat.lt_of_lt_of_le zb Sq.size
  replace px := (Sq.cell (p := ⟨w4_.heap.size, 0, none⟩) zx).trans px
  replace qx := (Sq.cell (p := ⟨w4_.heap.size, 1, none⟩) zx).trans qx
  replace zx : w4_.heap.size < w8_.heap.size := Nat.lt_of_lt_of_le zx Sq.size
  replace HR : Hid (Rd w8_ w8_.heap.size (some ⟨w.heap.size, 0, none⟩) [180, 192]) := HR.out.on Sq
  replace HX : Hid (RdV w8_ w8_.heap.size A2 (zc [0, 3, 4])) := HX.out.on Sq
  replace HB : Hid (Below w.heap.size w w8_) := HB.out.trans (Sq.mono HB.out.size)
  clear Bq Sq
  go_wp2
  go_ret
  exact ⟨rfl, HB.out⟩
end Go.Proofs.Ytgibbokhdfblmaa
