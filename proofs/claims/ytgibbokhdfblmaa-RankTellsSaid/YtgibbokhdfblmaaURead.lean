/- What Read of unary answers, for whatever bits and position it is handed. -/
import Derived.Test.YtgibbokhdfblmaaUOnes
namespace Go.Proofs.Ytgibbokhdfblmaa
open Go.RowKit Go.Shelf

attribute [local go_sem] Oper.semAt_some

/-- A number, a position and an error come back. -/
def ReadP (w : World) (n to : Nat) (err : Int) (e : Ending) (w' : World) : Prop := e = .returned (.tuple #[.int .u64 (n : Int), .int .i64 (to : Int), .int .i64 err]) ∧ Below w.heap.size w w'

/-- The five blocks that Read begins with. -/
def r5 (w : World) (len : Int) (A : Option Addr) (n c : Nat) (p : Int) : World := ((((w.alloc (.cells #[.int .i64 len, .slice A n c] 25)).alloc (.cells #[.int .i64 p] 3)).alloc (.cells #[.int .u64 0] 22)).alloc (.cells #[.int .i64 0] 3)).alloc (.cells #[.int .i64 0] 27)
theorem r5_facts (w : World) (len : Int) (A : Option Addr) (n c : Nat) (p : Int) : (r5 w len A n c p).heap.size = w.heap.size + 5 ∧ Below w.heap.size w (r5 w len A n c p) ∧
    (r5 w len A n c p).heap[w.heap.size + 1]? = some (.cells #[.int .i64 p] 3) ∧ (r5 w len A n c p).heap[w.heap.size + 2]? = some (.cells #[.int .u64 0] 22) ∧ (r5 w len A n c p).heap[w.heap.size + 3]? = some (.cells #[.int .i64 0] 3) ∧ (r5 w len A n c p).heap[w.heap.size + 4]? = some (.cells #[.int .i64 0] 27) := by
  unfold r5
  obtain ⟨h0, _, h2, h3, h4⟩ := five w (.cells #[.int .i64 len, .slice A n c] 25) (.cells #[.int .i64 p] 3) (.cells #[.int .u64 0] 22) (.cells #[.int .i64 0] 3) (.cells #[.int .i64 0] 27)
  refine ⟨h0, ((up2 w _ _).alloc (by simp only [World.size_alloc]; omega) _).alloc (by simp only [World.size_alloc]; omega) _ |>.alloc (by simp only [World.size_alloc]; omega) _, ?_, h2, h3, h4⟩
  have n1 := World.alloc_heap_new (w.alloc (.cells #[.int .i64 len, .slice A n c] 25)) (.cells #[.int .i64 p] 3)
  simp only [World.size_alloc] at n1
  rw [Below.heap_alloc _ _ _ (by simp only [World.size_alloc]; omega), Below.heap_alloc _ _ _ (by simp only [World.size_alloc]; omega), Below.heap_alloc _ _ _ (by simp only [World.size_alloc]; omega)]
  exact n1

theorem check_r5 (len : Int) (A : Option Addr) (c : Nat) (bs : List Nat) (p : Int) (w : World) (hb : ∀ b ∈ bs, b < 256) (h : Rd w w.heap.size A bs) :
    Calls Try.prog 43 #[.agg #[.int .i64 len, .slice A bs.length c]] (r5 w len A bs.length c p) fun e w' => e = .returned (.int .i64 (chk len bs)) ∧ Below (w.heap.size + 5) (r5 w len A bs.length c p) w' := by
  obtain ⟨hz, hl, _⟩ := r5_facts w len A bs.length c p
  have := check_any len A c bs (r5 w len A bs.length c p) hb (h.below hl hl.size)
  rwa [hz] at this

theorem read_zero {w w1 : World} (hq : Below w.heap.size w w1) (err : Int) (v : Value) (hv : v = .tuple #[.int .u64 0, .int .i64 0, .int .i64 err]) :
    ReadP w 0 0 err (.returned v) (((w1.setCell ⟨w.heap.size + 1 + 1, 0, none⟩ (.int .u64 0)).setCell ⟨w.heap.size + 1 + 1 + 1, 0, none⟩ (.int .i64 0)).setCell ⟨w.heap.size + 1 + 1 + 1 + 1, 0, none⟩ (.int .i64 err)) :=
  ⟨by rw [hv]; rfl, ((hq.setCell (p := ⟨w.heap.size + 1 + 1, 0, none⟩) (by simp only; omega) _).setCell (p := ⟨w.heap.size + 1 + 1 + 1, 0, none⟩) (by simp only; omega) _).setCell (p := ⟨w.heap.size + 1 + 1 + 1 + 1, 0, none⟩) (by simp only; omega) _⟩

set_option maxHeartbeats 400000 in
theorem read_bad (len : Int) (A : Option Addr) (c : Nat) (bs : List Nat) (p : Int) (w : World) (hb : ∀ b ∈ bs, b < 256) (h : Rd w w.heap.size A bs) (hc : chk len bs ≠ 0) :
    Calls Try.prog 16 #[.agg #[.int .i64 len, .slice A bs.length c], .int .i64 p] w (ReadP w 0 0 (chk len bs)) := by
  have HC := Lib.hid (check_r5 len A c bs p w hb h)
  have HF := Lib.hid (r5_facts w len A bs.length c p)
  have hcb : (chk len bs != 0) = true := by simpa using hc
  clear hc hb h
  generalize chk len bs = e0 at *
  generalize bs.length = nn at *
  go_enter Try.func16, Try.ntmps16
  go_wp2_with (go_at_call 43; refine HC.out.mono ?_; rintro e w1 ⟨rfl, hq⟩; unfold r5 at hq; obtain ⟨hc1, hf1⟩ := old_cells hq)
  exact bodyPost_ret (v := .tuple #[.int .u64 0, .int .i64 0, .int .i64 e0]) (by simp [results, Try.results16, go_sem, hc1]) rfl (read_zero (HF.out.2.1.trans (hq.mono (by omega))) e0 _ rfl)

set_option maxHeartbeats 400000 in
theorem read_range (l : List Bool) (hl : l.length ≤ 8192) (A : Option Addr) (c : Nat) (p : Int) (w : World) (h : Rd w w.heap.size A (pack l)) (hp : p < 0 ∨ (l.length : Int) < p) :
    Calls Try.prog 16 #[.agg #[.int .i64 (l.length : Int), .slice A (pack l).length c], .int .i64 p] w (ReadP w 0 0 3) := by
  have hc0 := check_r5 (l.length : Int) A c (pack l) p w (pack_lt l) h
  rw [chk_pack l hl] at hc0
  have HC := Lib.hid hc0; clear hc0 h
  have HF := Lib.hid (r5_facts w (l.length : Int) A (pack l).length c p)
  generalize (pack l).length = nn at *
  generalize l.length = ln at *
  have hp2 : p < 0 ∨ (0 ≤ p ∧ (ln : Int) < p) := by omega
  clear hp
  rcases hp2 with hp | ⟨hp0, hp⟩
  · have t1 : decide (p < 0) = true := by simp; omega
    go_enter Try.func16, Try.ntmps16
    go_wp2_with (go_at_call 43; refine HC.out.mono ?_; rintro e w1 ⟨rfl, hq⟩; unfold r5 at hq; obtain ⟨hc1, hf1⟩ := old_cells hq)
    exact bodyPost_ret (v := .tuple #[.int .u64 0, .int .i64 0, .int .i64 3]) (by simp [results, Try.results16, go_sem, hc1]) rfl (read_zero (HF.out.2.1.trans (hq.mono (by omega))) 3 _ rfl)
  · have t1 : decide (p < 0) = false := by simp; omega
    have t2 : decide ((ln : Int) < p) = true := by simp; omega
    go_enter Try.func16, Try.ntmps16
    go_wp2_with (go_at_call 43; refine HC.out.mono ?_; rintro e w1 ⟨rfl, hq⟩; unfold r5 at hq; obtain ⟨hc1, hf1⟩ := old_cells hq)
    exact bodyPost_ret (v := .tuple #[.int .u64 0, .int .i64 0, .int .i64 3]) (by simp [results, Try.results16, go_sem, hc1]) rfl (read_zero (HF.out.2.1.trans (hq.mono (by omega))) 3 _ rfl)

/-- The blocks that Read's visit keeps: s: the heap's size where Read began; N: where the visit began. -/
def rkept (s N : Nat) (k : Nat) : Prop := k < s + 2 ∨ k = N ∨ k = N + 1 ∨ k = N + 3

set_option maxRecDepth 100000 in
set_option maxHeartbeats 2000000 in
theorem read_in (l : List Bool) (hl : l.length ≤ 8192) (A : Option Addr) (c : Nat) (p : Nat) (w : World) (h : Rd w w.heap.size A (pack l)) (hp : p ≤ l.length) (rn rt : Nat) (re : Int)
    (hr : (pos p (l.drop p) = [] ∧ rn = 0 ∧ rt = 0 ∧ re = 7) ∨ (∃ x xs, pos p (l.drop p) = x :: xs ∧ rn = x - p ∧ rt = x + 1 ∧ re = 0)) :
    Calls Try.prog 16 #[.agg #[.int .i64 (l.length : Int), .slice A (pack l).length c], .int .i64 (p : Int)] w (ReadP w rn rt re) := by
  have hc0 := check_r5 (l.length : Int) A c (pack l) (p : Int) w (pack_lt l) h
  rw [chk_pack l hl] at hc0
  have HC := Lib.hid hc0; clear hc0
  have HF := Lib.hid (r5_facts w (l.length : Int) A (pack l).length c (p : Int))
  have HR := Lib.hid h; clear h
  rw [← vis_all l p l.length rfl] at hr
  have HP := Lib.hid hr; clear hr
  have t1 : decide ((p : Int) < 0) = false := by simp
  have t2 : decide ((l.length : Int) < (p : Int)) = false := by simp; omega
  refine (callsIn_wide (n := 4)).1 ?_
  refine callsIn_of_wp_marks Try.func16 rfl trivial ?_ rfl
  simp only [Try.ntmps16, List.size_toArray, List.length_cons, List.length_nil, Nat.reduceAdd, Nat.reduceSub, Array.replicate_succ, Array.replicate_zero, List.push_toArray, List.append_toArray, List.nil_append, List.cons_append]
  gi_wp2_with (first | (refine ⟨trivial, ?_⟩; gi_at_call 53; refine (of_in 3 _ _ _ _ _ _ _ _).mono ?_; rintro e w' ⟨rfl, rfl⟩) | (refine ⟨trivial, ?_⟩; gi_at_call 43; refine (callsIn_wide.2 HC.out).mono ?_; rintro e w1 ⟨rfl, hq⟩; unfold r5 at hq; obtain ⟨hc1, hf1⟩ := old_cells hq; have hs1 : w.heap.size + 5 ≤ w1.heap.size := (by have := hq.size; rw [show (((((w.alloc _).alloc _).alloc _).alloc _).alloc _).heap.size = w.heap.size + 5 from (r5_facts w (l.length : Int) A (pack l).length c (p : Int)).1] at this; exact this); have hs2 : w.heap.size + 1 < w1.heap.size := (by omega)))
  simp only [Nat.add_assoc, Nat.reduceAdd]
  obtain ⟨hz0, hl0, k1, k2, k3, k4⟩ := HF.out
  have hw0 : Below w.heap.size w w1 := hl0.trans (hq.mono (by omega))
  have b1 := (hq.block (w.heap.size + 1) (by omega)).trans k1
  have b2 := (hq.block (w.heap.size + 2) (by omega)).trans k2
  have b3 := (hq.block (w.heap.size + 3) (by omega)).trans k3
  have b4 := (hq.block (w.heap.size + 4) (by omega)).trans k4
  clear hz0 hl0 k1 k2 k3 k4 hc1 hf1 HF hq
  obtain ⟨hz, a0, a1, a2, a3⟩ := four w1 (.cells #[.int .i64 (l.length : Int), .slice A (pack l).length c] 25) (.cells #[.int .u64 1] 22) (.cells #[.int .i64 (p : Int)] 3) (.cells #[.int .i64 (l.length : Int)] 3)
  have hup : Below w1.heap.size w1 ((((w1.alloc (.cells #[.int .i64 (l.length : Int), .slice A (pack l).length c] 25)).alloc (.cells #[.int .u64 1] 22)).alloc (.cells #[.int .i64 (p : Int)] 3)).alloc (.cells #[.int .i64 (l.length : Int)] 3)) := ((up2 w1 _ _).alloc (by simp only [World.size_alloc]; omega) _).alloc (by simp only [World.size_alloc]; omega) _
  generalize ((((w1.alloc (.cells #[.int .i64 (l.length : Int), .slice A (pack l).length c] 25)).alloc (.cells #[.int .u64 1] 22)).alloc (.cells #[.int .i64 (p : Int)] 3)).alloc (.cells #[.int .i64 (l.length : Int)] 3)) = w5 at *
  replace b1 := (hup.block _ (by omega)).trans b1
  replace b2 := (hup.block _ (by omega)).trans b2
  replace b3 := (hup.block _ (by omega)).trans b3
  replace b4 := (hup.block _ (by omega)).trans b4
  have hlow : Below w.heap.size w w5 := hw0.trans (hup.mono (by omega))
  clear hup hw0
  have hvis : ∀ k, rkept w.heap.size w1.heap.size k → k < w5.heap.size := by rintro k (h | h | h | h) <;> omega
  refine wpIn_rangeFunc_ownG rfl (by decide) (gf := 83) (lb := #[.pointer (some ⟨w1.heap.size + 2, 0, none⟩), .pointer (some ⟨w1.heap.size + 3, 0, none⟩), .pointer (some ⟨w1.heap.size, 0, none⟩), .pointer (some ⟨w1.heap.size + 1, 0, none⟩)]) rfl trivial (enters_of Try.func83 (by kernel_rfl) rfl)
    (of_stops 3 (by decide) (w1.heap.size + 2) (w1.heap.size + 3) w1.heap.size (w1.heap.size + 1) w.heap.size c A (rkept w.heap.size w1.heap.size) l hl true p l.length hp (Nat.le_refl _) (.inr (.inr (.inr rfl))) (.inr (.inl rfl)) (.inr (.inr (.inl rfl))) (fun k hk => .inl (by omega)) w5 hvis (by omega) (by omega)
      (box_cell a2) (box_cell a3) (box_cell a1) (blk_cells a0).1 (blk_cells a0).2.1 (HR.out.below hlow (Nat.le_refl _)))
    (fun h k => keepS_t h k) (keepS_b hvis) (Below.refl _ _) (fun _ => rfl)
    (fun pre X => (pre = [] ∧ Boxed X (w.heap.size + 2) 22 (.int .u64 0) ∧ Boxed X (w.heap.size + 3) 3 (.int .i64 0) ∧ Boxed X (w.heap.size + 4) 27 (.int .i64 0)) ∧ (Fr (rkept w.heap.size w1.heap.size) w5 X ∧ w5.heap.size ≤ X.heap.size))
    (fun cd pre X => (cd = .ret ∧ ∃ x, pre = [x] ∧ Boxed X (w.heap.size + 2) 22 (.int .u64 ((clamp p x - p : Nat) : Int)) ∧ Boxed X (w.heap.size + 3) 3 (.int .i64 ((clamp p x + 1 : Nat) : Int)) ∧ Boxed X (w.heap.size + 4) 27 (.int .i64 0)) ∧ (Fr (rkept w.heap.size w1.heap.size) w5 X ∧ w5.heap.size ≤ X.heap.size))
    (OwnFrom.and (Own.from (fun s X Y row hs hg hr => ⟨hs.1, box_own _ 22 (fun _ : Unit => .int .u64 0) () X Y row hs.2.1 hg hr, box_own _ 3 (fun _ : Unit => .int .i64 0) () X Y row hs.2.2.1 hg hr, box_own _ 27 (fun _ : Unit => .int .i64 0) () X Y row hs.2.2.2 hg hr⟩) _) (fr_own _ w5 w5.heap.size (Nat.le_refl _) hvis))
    (fun cd => OwnFrom.and (Own.from (fun s X Y row hs hg hr => by
      obtain ⟨h1, x, h2, h3, h4, h5⟩ := hs
      exact ⟨h1, x, h2, box_own _ 22 (fun _ : Unit => _) () X Y row h3 hg hr, box_own _ 3 (fun _ : Unit => _) () X Y row h4 hg hr, box_own _ 27 (fun _ : Unit => _) () X Y row h5 hg hr⟩) _) (fr_own _ w5 w5.heap.size (Nat.le_refl _) hvis))
    ⟨⟨rfl, b2, b3, b4⟩, Fr.refl _ _, Nat.le_refl _⟩
    ?a1 ?assign ?body ?done ?stop
  case assign =>
    intro lp x X K hK
    gi_wp2
    exact hK
  case body =>
    rintro lp pre x X ⟨⟨rfl, h2, h3, h4⟩, hfr, hzz⟩ hlt
    have ca : X.cell? ⟨w.heap.size + 1, 0, none⟩ = some (.int .i64 (p : Int)) := box_cell ((hfr.block _ (.inl (by omega))).trans b1)
    have c2 := h2.cell
    have c3 := h3.cell
    have c4 := h4.cell
    have f2 := h2.frozen
    have f3 := h3.frozen
    have f4 := h4.frozen
    have hcl : p ≤ clamp p x ∧ clamp p x ≤ 8192 := by unfold clamp; omega
    obtain ⟨q1, q2⟩ := hcl
    generalize hcx : clamp p x = cx at *
    have HCX := Lib.hid hcx; clear hcx
    gi_wp2
    rw [show ((cx : Int) - (p : Int)) = ((cx - p : Nat) : Int) from by omega, show (cx : Int) + 1 = ((cx + 1 : Nat) : Int) from by omega]
    have n2 : ¬ rkept w.heap.size w1.heap.size (w.heap.size + 2) := by rintro (h | h | h | h) <;> omega
    have n3 : ¬ rkept w.heap.size w1.heap.size (w.heap.size + 3) := by rintro (h | h | h | h) <;> omega
    have n4 : ¬ rkept w.heap.size w1.heap.size (w.heap.size + 4) := by rintro (h | h | h | h) <;> omega
    have hfr2 := ((hfr.setCell (p := ⟨w.heap.size + 2, 0, none⟩) n2 (.int .u64 ((cx - p : Nat) : Int))).setCell (p := ⟨w.heap.size + 3, 0, none⟩) n3 (.int .i64 ((cx + 1 : Nat) : Int))).setCell (p := ⟨w.heap.size + 4, 0, none⟩) n4 (.int .i64 0)
    have g2 := (((h2.set (.int .u64 ((cx - p : Nat) : Int))).kept (grownBy_setCell' _ (w.heap.size + 3) (.int .i64 ((cx + 1 : Nat) : Int))) (by simp)).kept (grownBy_setCell' _ (w.heap.size + 4) (.int .i64 0)) (by simp))
    have g3 := (((h3.kept (grownBy_setCell' _ (w.heap.size + 2) (.int .u64 ((cx - p : Nat) : Int))) (by simp)).set (.int .i64 ((cx + 1 : Nat) : Int))).kept (grownBy_setCell' _ (w.heap.size + 4) (.int .i64 0)) (by simp))
    have g4 := (((h4.kept (grownBy_setCell' _ (w.heap.size + 2) (.int .u64 ((cx - p : Nat) : Int))) (by simp)).kept (grownBy_setCell' _ (w.heap.size + 3) (.int .i64 ((cx + 1 : Nat) : Int))) (by simp)).set (.int .i64 0))
    refine ⟨(((KeepsOthers.setCell _ _ _).trans (KeepsOthers.setCell _ _ _)).trans (KeepsOthers.setCell _ _ _)).from _, ⟨rfl, x, rfl, ?_, ?_, g4⟩, hfr2, by simpa [World.setCell] using hzz⟩
    · rw [HCX.out]; exact g2
    · rw [HCX.out]; exact g3
  case done =>
    rintro D ys X hD rfl ⟨⟨he, h2, h3, h4⟩, hfr, hzz⟩ hK
    obtain ⟨rfl, rfl, rfl⟩ : rn = 0 ∧ rt = 0 ∧ re = 7 := by
      rcases HP.out with ⟨_, h⟩ | ⟨x, xs, h, _⟩
      · exact h
      · rw [he] at h; cases h
    have c2 := h2.cell
    have c3 := h3.cell
    have c4 := h4.cell
    have f2 := h2.frozen
    have f3 := h3.frozen
    have f4 := h4.frozen
    have HL : Hid (Below w.heap.size w X) := hlow.trans (hfr.below (fun j hj => .inl (by omega)))
    clear he
    gi_wp2
    have hK' := (((KeepsOthers.setCell X ⟨w.heap.size + 2, 0, none⟩ (.int .u64 0)).trans (KeepsOthers.setCell _ ⟨w.heap.size + 3, 0, none⟩ (.int .i64 0))).trans (KeepsOthers.setCell _ ⟨w.heap.size + 4, 0, none⟩ (.int .i64 7))).same D _ hK rfl
    refine ⟨by simp, .inl ⟨_, _, rfl, run_takeDeferred hK', ?_⟩⟩
    have g2 := ((((h2.set (.int .u64 0)).kept (grownBy_setCell' _ (w.heap.size + 3) (.int .i64 0)) (by simp)).kept (grownBy_setCell' _ (w.heap.size + 4) (.int .i64 7)) (by simp)).kept (grownBy_putObj' _ D (.deferred none)) (by simp; omega)).cell
    have g3 := ((((h3.kept (grownBy_setCell' _ (w.heap.size + 2) (.int .u64 0)) (by simp)).set (.int .i64 0)).kept (grownBy_setCell' _ (w.heap.size + 4) (.int .i64 7)) (by simp)).kept (grownBy_putObj' _ D (.deferred none)) (by simp; omega)).cell
    have g4 := ((((h4.kept (grownBy_setCell' _ (w.heap.size + 2) (.int .u64 0)) (by simp)).kept (grownBy_setCell' _ (w.heap.size + 3) (.int .i64 0)) (by simp)).set (.int .i64 7)).kept (grownBy_putObj' _ D (.deferred none)) (by simp; omega)).cell
    refine ⟨.tuple #[.int .u64 0, .int .i64 0, .int .i64 7], ?_, rfl, (((HL.out.setCell (p := ⟨w.heap.size + 2, 0, none⟩) (by simp only; omega) _).setCell (p := ⟨w.heap.size + 3, 0, none⟩) (by simp only; omega) _).setCell (p := ⟨w.heap.size + 4, 0, none⟩) (by simp only; omega) _).trans (belowK_b (w := w) (Nat.le_refl _) _ D _ _ (by omega) hK' rfl rfl)⟩
    simp [results, Try.results16, go_sem, g2, g3, g4]
  case stop =>
    rintro D cd pre X hD hpre ⟨⟨rfl, x, rfl, h2, h3, h4⟩, hfr, hzz⟩ hK
    obtain ⟨rfl, rfl, rfl⟩ : rn = clamp p x - p ∧ rt = clamp p x + 1 ∧ re = 0 := by
      rcases HP.out with ⟨h, _⟩ | ⟨y, ys, h, h2, h3, h4⟩
      · rw [h] at hpre; simp at hpre
      · rw [h] at hpre
        obtain rfl : x = y := by simpa using hpre
        have hb := vis_bound true l p l.length x (by rw [h]; simp)
        rw [clamp_of p x hb.1 (by omega)]
        exact ⟨h2, h3, h4⟩
    have HL : Hid (Below w.heap.size w X) := hlow.trans (hfr.below (fun j hj => .inl (by omega)))
    gi_wp2
    refine ⟨by simp, .inl ⟨_, _, rfl, run_takeDeferred hK, ?_⟩⟩
    have g2 := (h2.kept (grownBy_putObj' _ D (.deferred none)) (by simp; omega)).cell
    have g3 := (h3.kept (grownBy_putObj' _ D (.deferred none)) (by simp; omega)).cell
    have g4 := (h4.kept (grownBy_putObj' _ D (.deferred none)) (by simp; omega)).cell
    refine ⟨.tuple #[.int .u64 ((clamp p x - p : Nat) : Int), .int .i64 ((clamp p x + 1 : Nat) : Int), .int .i64 0], ?_, rfl, HL.out.trans (belowK_b (w := w) (Nat.le_refl _) _ D _ _ (by omega) hK rfl rfl)⟩
    generalize clamp p x = cx at *
    simp [results, Try.results16, go_sem, g2, g3, g4]
end Go.Proofs.Ytgibbokhdfblmaa
