/- Texts of this proof, one behind the other (URead, UAllA, UAll, UPureA, UPure, EPure); each fact names its conditions. -/
import Derived.Test.YtkbelhclcpepaaaJY2
namespace Go.Proofs.Ytkbelhclcpepaaa

section
open Go.RowKit Go.Shelf

attribute [local go_sem] Oper.semAt_some

/-- A number, a position and an error come back. -/
def ReadP (w : World) (n to : Nat) (err : Int) (e : Ending) (w' : World) : Prop := e = .returned (.tuple #[.int .u64 (n : Int), .int .i64 (to : Int), .int .i64 err]) ∧ Below w.heap.size w w'

/-- The five blocks that Read begins with. -/
def r5 (w : World) (len : Int) (A : Option Addr) (n c : Nat) (p : Int) : World := ((((w.alloc (.cells #[.int .i64 len, .slice A n c] 25)).alloc (.cells #[.int .i64 p] 3)).alloc (.cells #[.int .u64 0] 22)).alloc (.cells #[.int .i64 0] 3)).alloc (.cells #[.int .i64 0] 27)
theorem r5_facts (w : World) (len : Int) (A : Option Addr) (n c : Nat) (p : Int) : (r5 w len A n c p).heap.size = w.heap.size + 5 ∧ Below w.heap.size w (r5 w len A n c p) ∧
    (r5 w len A n c p).heap[w.heap.size + 1]? = some (.cells #[.int .i64 p] 3) ∧ (r5 w len A n c p).heap[w.heap.size + 2]? = some (.cells #[.int .u64 0] 22) ∧ (r5 w len A n c p).heap[w.heap.size + 3]? = some (.cells #[.int .i64 0] 3) ∧ (r5 w len A n c p).heap[w.heap.size + 4]? = some (.cells #[.int .i64 0] 27) := by
  unfold r5
  obtain ⟨h0, _, h2, h3, h4⟩ := five w (.cells #[.int .i64 len, .slice A n c] 25) (.cells #[.int .i64 p] 3) (.cells #[.int .u64 0] 22) (.cells #[.int .i64 0] 3) (.cells #[.int .i64 0] 27)
  refine ⟨h0, ((up2 w _ _).alloc (by simp only [World.size_alloc]; omega) _).alloc (by simp only [World.size_alloc]; omega) _ |>.alloc (by simp only [World.size_alloc]; omega) _, ?_, h2, h3, h4⟩
  have n1 := World.alloc_heap_new (w.alloc (.cells #[.int .i64 len, .slice A n c] 25)) (.cells #[.int .i64 p] 3)
  simp only [World.size_alloc] at n1
  rw [Below.heap_alloc _ _ _ (by simp only [World.size_alloc]; omega), Below.heap_alloc _ _ _ (by simp only [World.size_alloc]; omega), Below.heap_alloc _ _ _ (by simp only [World.size_alloc]; omega)]
  exact n1

theorem check_r5 (len : Int) (A : Option Addr) (c : Nat) (bs : List Nat) (p : Int) (w : World) (hb : ∀ b ∈ bs, b < 256) (h : Rd w w.heap.size A bs) :
    Calls Try.prog 48 #[.agg #[.int .i64 len, .slice A bs.length c]] (r5 w len A bs.length c p) fun e w' => e = .returned (.int .i64 (chk len bs)) ∧ Below (w.heap.size + 5) (r5 w len A bs.length c p) w' := by
  obtain ⟨hz, hl, _⟩ := r5_facts w len A bs.length c p
  have := check_any len A c bs (r5 w len A bs.length c p) hb (h.below hl hl.size)
  rwa [hz] at this

theorem read_zero {w w1 : World} (hq : Below w.heap.size w w1) (err : Int) (v : Value) (hv : v = .tuple #[.int .u64 0, .int .i64 0, .int .i64 err]) :
    ReadP w 0 0 err (.returned v) (((w1.setCell ⟨w.heap.size + 1 + 1, 0, none⟩ (.int .u64 0)).setCell ⟨w.heap.size + 1 + 1 + 1, 0, none⟩ (.int .i64 0)).setCell ⟨w.heap.size + 1 + 1 + 1 + 1, 0, none⟩ (.int .i64 err)) :=
  ⟨by rw [hv]; rfl, ((hq.setCell (p := ⟨w.heap.size + 1 + 1, 0, none⟩) (by simp only; omega) _).setCell (p := ⟨w.heap.size + 1 + 1 + 1, 0, none⟩) (by simp only; omega) _).setCell (p := ⟨w.heap.size + 1 + 1 + 1 + 1, 0, none⟩) (by simp only; omega) _⟩

set_option maxHeartbeats 400000 in
theorem read_bad (len : Int) (A : Option Addr) (c : Nat) (bs : List Nat) (p : Int) (w : World) (hb : ∀ b ∈ bs, b < 256) (h : Rd w w.heap.size A bs) (hc : chk len bs ≠ 0) :
    Calls Try.prog 20 #[.agg #[.int .i64 len, .slice A bs.length c], .int .i64 p] w (ReadP w 0 0 (chk len bs)) := by
  have HC := Lib.hid (check_r5 len A c bs p w hb h)
  have HF := Lib.hid (r5_facts w len A bs.length c p)
  have hcb : (chk len bs != 0) = true := by simpa using hc
  clear hc hb h
  generalize chk len bs = e0 at *
  generalize bs.length = nn at *
  go_enter Try.func20, Try.ntmps20
  go_wp2_with (go_at_call 48; refine HC.out.mono ?_; rintro e w1 ⟨rfl, hq⟩; unfold r5 at hq; obtain ⟨hc1, hf1⟩ := old_cells hq)
  exact bodyPost_ret (v := .tuple #[.int .u64 0, .int .i64 0, .int .i64 e0]) (by simp [results, Try.results20, go_sem, hc1]) rfl (read_zero (HF.out.2.1.trans (hq.mono (by omega))) e0 _ rfl)

set_option maxHeartbeats 400000 in
theorem read_range (l : List Bool) (hl : l.length ≤ 8192) (A : Option Addr) (c : Nat) (p : Int) (w : World) (h : Rd w w.heap.size A (pack l)) (hp : p < 0 ∨ (l.length : Int) < p) :
    Calls Try.prog 20 #[.agg #[.int .i64 (l.length : Int), .slice A (pack l).length c], .int .i64 p] w (ReadP w 0 0 3) := by
  have hc0 := check_r5 (l.length : Int) A c (pack l) p w (pack_lt l) h
  rw [chk_pack l hl] at hc0
  have HC := Lib.hid hc0; clear hc0 h
  have HF := Lib.hid (r5_facts w (l.length : Int) A (pack l).length c p)
  generalize (pack l).length = nn at *
  generalize l.length = ln at *
  have hp2 : p < 0 ∨ (0 ≤ p ∧ (ln : Int) < p) := by omega
  clear hp
  rcases hp2 with hp | ⟨hp0, hp⟩
  · have t1 : decide (p < 0) = true := by simp; omega
    go_enter Try.func20, Try.ntmps20
    go_wp2_with (go_at_call 48; refine HC.out.mono ?_; rintro e w1 ⟨rfl, hq⟩; unfold r5 at hq; obtain ⟨hc1, hf1⟩ := old_cells hq)
    exact bodyPost_ret (v := .tuple #[.int .u64 0, .int .i64 0, .int .i64 3]) (by simp [results, Try.results20, go_sem, hc1]) rfl (read_zero (HF.out.2.1.trans (hq.mono (by omega))) 3 _ rfl)
  · have t1 : decide (p < 0) = false := by simp; omega
    have t2 : decide ((ln : Int) < p) = true := by simp; omega
    go_enter Try.func20, Try.ntmps20
    go_wp2_with (go_at_call 48; refine HC.out.mono ?_; rintro e w1 ⟨rfl, hq⟩; unfold r5 at hq; obtain ⟨hc1, hf1⟩ := old_cells hq)
    exact bodyPost_ret (v := .tuple #[.int .u64 0, .int .i64 0, .int .i64 3]) (by simp [results, Try.results20, go_sem, hc1]) rfl (read_zero (HF.out.2.1.trans (hq.mono (by omega))) 3 _ rfl)

/-- The blocks that Read's visit keeps: s: the heap's size where Read began; N: where the visit began. -/
def rkept (s N : Nat) (k : Nat) : Prop := k < s + 2 ∨ k = N ∨ k = N + 1 ∨ k = N + 3

set_option maxRecDepth 100000 in
set_option maxHeartbeats 2000000 in
theorem read_in (l : List Bool) (hl : l.length ≤ 8192) (A : Option Addr) (c : Nat) (p : Nat) (w : World) (h : Rd w w.heap.size A (pack l)) (hp : p ≤ l.length) (rn rt : Nat) (re : Int)
    (hr : (pos p (l.drop p) = [] ∧ rn = 0 ∧ rt = 0 ∧ re = 7) ∨ (∃ x xs, pos p (l.drop p) = x :: xs ∧ rn = x - p ∧ rt = x + 1 ∧ re = 0)) :
    Calls Try.prog 20 #[.agg #[.int .i64 (l.length : Int), .slice A (pack l).length c], .int .i64 (p : Int)] w (ReadP w rn rt re) := by
  have hc0 := check_r5 (l.length : Int) A c (pack l) (p : Int) w (pack_lt l) h
  rw [chk_pack l hl] at hc0
  have HC := Lib.hid hc0; clear hc0
  have HF := Lib.hid (r5_facts w (l.length : Int) A (pack l).length c (p : Int))
  have HR := Lib.hid h; clear h
  rw [← vis_all l p l.length rfl] at hr
  have HP := Lib.hid hr; clear hr
  have t1 : decide ((p : Int) < 0) = false := by simp
  have t2 : decide ((l.length : Int) < (p : Int)) = false := by simp; omega
  refine (callsIn_wide (n := 4)).1 ?_
  refine callsIn_of_wp_marks Try.func20 rfl trivial ?_ rfl
  simp only [Try.ntmps20, List.size_toArray, List.length_cons, List.length_nil, Nat.reduceAdd, Nat.reduceSub, Array.replicate_succ, Array.replicate_zero, List.push_toArray, List.append_toArray, List.nil_append, List.cons_append]
  gi_wp2_with (first | (refine ⟨trivial, ?_⟩; gi_at_call 58; refine (of_in 3 _ _ _ _ _ _ _ _).mono ?_; rintro e w' ⟨rfl, rfl⟩) | (refine ⟨trivial, ?_⟩; gi_at_call 48; refine (callsIn_wide.2 HC.out).mono ?_; rintro e w1 ⟨rfl, hq⟩; unfold r5 at hq; obtain ⟨hc1, hf1⟩ := old_cells hq; have hs1 : w.heap.size + 5 ≤ w1.heap.size := (by have := hq.size; rw [show (((((w.alloc _).alloc _).alloc _).alloc _).alloc _).heap.size = w.heap.size + 5 from (r5_facts w (l.length : Int) A (pack l).length c (p : Int)).1] at this; exact this); have hs2 : w.heap.size + 1 < w1.heap.size := (by omega)))
  simp only [Nat.add_assoc, Nat.reduceAdd]
  obtain ⟨hz0, hl0, k1, k2, k3, k4⟩ := HF.out
  have hw0 : Below w.heap.size w w1 := hl0.trans (hq.mono (by omega))
  have b1 := (hq.block (w.heap.size + 1) (by omega)).trans k1
  have b2 := (hq.block (w.heap.size + 2) (by omega)).trans k2
  have b3 := (hq.block (w.heap.size + 3) (by omega)).trans k3
  have b4 := (hq.block (w.heap.size + 4) (by omega)).trans k4
  clear hz0 hl0 k1 k2 k3 k4 hc1 hf1 HF hq
  obtain ⟨hz, a0, a1, a2, a3⟩ := four w1 (.cells #[.int .i64 (l.length : Int), .slice A (pack l).length c] 25) (.cells #[.int .u64 1] 22) (.cells #[.int .i64 (p : Int)] 3) (.cells #[.int .i64 (l.length : Int)] 3)
  have hup : Below w1.heap.size w1 ((((w1.alloc (.cells #[.int .i64 (l.length : Int), .slice A (pack l).length c] 25)).alloc (.cells #[.int .u64 1] 22)).alloc (.cells #[.int .i64 (p : Int)] 3)).alloc (.cells #[.int .i64 (l.length : Int)] 3)) := ((up2 w1 _ _).alloc (by simp only [World.size_alloc]; omega) _).alloc (by simp only [World.size_alloc]; omega) _
  generalize ((((w1.alloc (.cells #[.int .i64 (l.length : Int), .slice A (pack l).length c] 25)).alloc (.cells #[.int .u64 1] 22)).alloc (.cells #[.int .i64 (p : Int)] 3)).alloc (.cells #[.int .i64 (l.length : Int)] 3)) = w5 at *
  replace b1 := (hup.block _ (by omega)).trans b1
  replace b2 := (hup.block _ (by omega)).trans b2
  replace b3 := (hup.block _ (by omega)).trans b3
  replace b4 := (hup.block _ (by omega)).trans b4
  have hlow : Below w.heap.size w w5 := hw0.trans (hup.mono (by omega))
  clear hup hw0
  have hvis : ∀ k, rkept w.heap.size w1.heap.size k → k < w5.heap.size := by rintro k (h | h | h | h) <;> omega
  refine wpIn_rangeFunc_ownG rfl (by decide) (gf := 87) (lb := #[.pointer (some ⟨w1.heap.size + 2, 0, none⟩), .pointer (some ⟨w1.heap.size + 3, 0, none⟩), .pointer (some ⟨w1.heap.size, 0, none⟩), .pointer (some ⟨w1.heap.size + 1, 0, none⟩)]) rfl trivial (enters_of Try.func87 (by kernel_rfl) rfl)
    (of_stops 3 (by decide) (w1.heap.size + 2) (w1.heap.size + 3) w1.heap.size (w1.heap.size + 1) w.heap.size c A (rkept w.heap.size w1.heap.size) l hl true p l.length hp (Nat.le_refl _) (.inr (.inr (.inr rfl))) (.inr (.inl rfl)) (.inr (.inr (.inl rfl))) (fun k hk => .inl (by omega)) w5 hvis (by omega) (by omega)
      (box_cell a2) (box_cell a3) (box_cell a1) (blk_cells a0).1 (blk_cells a0).2.1 (HR.out.below hlow (Nat.le_refl _)))
    (fun h k => keepS_t h k) (keepS_b hvis) (Below.refl _ _) (fun _ => rfl)
    (fun pre X => (pre = [] ∧ Boxed X (w.heap.size + 2) 22 (.int .u64 0) ∧ Boxed X (w.heap.size + 3) 3 (.int .i64 0) ∧ Boxed X (w.heap.size + 4) 27 (.int .i64 0)) ∧ (Fr (rkept w.heap.size w1.heap.size) w5 X ∧ w5.heap.size ≤ X.heap.size))
    (fun cd pre X => (cd = .ret ∧ ∃ x, pre = [x] ∧ Boxed X (w.heap.size + 2) 22 (.int .u64 ((clamp p x - p : Nat) : Int)) ∧ Boxed X (w.heap.size + 3) 3 (.int .i64 ((clamp p x + 1 : Nat) : Int)) ∧ Boxed X (w.heap.size + 4) 27 (.int .i64 0)) ∧ (Fr (rkept w.heap.size w1.heap.size) w5 X ∧ w5.heap.size ≤ X.heap.size))
    (OwnFrom.and (Own.from (fun s X Y row hs hg hr => ⟨hs.1, box_own _ 22 (fun _ : Unit => .int .u64 0) () X Y row hs.2.1 hg hr, box_own _ 3 (fun _ : Unit => .int .i64 0) () X Y row hs.2.2.1 hg hr, box_own _ 27 (fun _ : Unit => .int .i64 0) () X Y row hs.2.2.2 hg hr⟩) _) (fr_own _ w5 w5.heap.size (Nat.le_refl _) hvis))
    (fun cd => OwnFrom.and (Own.from (fun s X Y row hs hg hr => by
      obtain ⟨h1, x, h2, h3, h4, h5⟩ := hs
      exact ⟨h1, x, h2, box_own _ 22 (fun _ : Unit => _) () X Y row h3 hg hr, box_own _ 3 (fun _ : Unit => _) () X Y row h4 hg hr, box_own _ 27 (fun _ : Unit => _) () X Y row h5 hg hr⟩) _) (fr_own _ w5 w5.heap.size (Nat.le_refl _) hvis))
    ⟨⟨rfl, b2, b3, b4⟩, Fr.refl _ _, Nat.le_refl _⟩
    ?a1 ?assign ?body ?done ?stop
  case assign =>
    intro lp x X K hK
    gi_wp2
    exact hK
  case body =>
    rintro lp pre x X ⟨⟨rfl, h2, h3, h4⟩, hfr, hzz⟩ hlt
    have ca : X.cell? ⟨w.heap.size + 1, 0, none⟩ = some (.int .i64 (p : Int)) := box_cell ((hfr.block _ (.inl (by omega))).trans b1)
    have c2 := h2.cell
    have c3 := h3.cell
    have c4 := h4.cell
    have f2 := h2.frozen
    have f3 := h3.frozen
    have f4 := h4.frozen
    have hcl : p ≤ clamp p x ∧ clamp p x ≤ 8192 := by unfold clamp; omega
    obtain ⟨q1, q2⟩ := hcl
    generalize hcx : clamp p x = cx at *
    have HCX := Lib.hid hcx; clear hcx
    gi_wp2
    rw [show ((cx : Int) - (p : Int)) = ((cx - p : Nat) : Int) from by omega, show (cx : Int) + 1 = ((cx + 1 : Nat) : Int) from by omega]
    have n2 : ¬ rkept w.heap.size w1.heap.size (w.heap.size + 2) := by rintro (h | h | h | h) <;> omega
    have n3 : ¬ rkept w.heap.size w1.heap.size (w.heap.size + 3) := by rintro (h | h | h | h) <;> omega
    have n4 : ¬ rkept w.heap.size w1.heap.size (w.heap.size + 4) := by rintro (h | h | h | h) <;> omega
    have hfr2 := ((hfr.setCell (p := ⟨w.heap.size + 2, 0, none⟩) n2 (.int .u64 ((cx - p : Nat) : Int))).setCell (p := ⟨w.heap.size + 3, 0, none⟩) n3 (.int .i64 ((cx + 1 : Nat) : Int))).setCell (p := ⟨w.heap.size + 4, 0, none⟩) n4 (.int .i64 0)
    have g2 := (((h2.set (.int .u64 ((cx - p : Nat) : Int))).kept (grownBy_setCell' _ (w.heap.size + 3) (.int .i64 ((cx + 1 : Nat) : Int))) (by simp)).kept (grownBy_setCell' _ (w.heap.size + 4) (.int .i64 0)) (by simp))
    have g3 := (((h3.kept (grownBy_setCell' _ (w.heap.size + 2) (.int .u64 ((cx - p : Nat) : Int))) (by simp)).set (.int .i64 ((cx + 1 : Nat) : Int))).kept (grownBy_setCell' _ (w.heap.size + 4) (.int .i64 0)) (by simp))
    have g4 := (((h4.kept (grownBy_setCell' _ (w.heap.size + 2) (.int .u64 ((cx - p : Nat) : Int))) (by simp)).kept (grownBy_setCell' _ (w.heap.size + 3) (.int .i64 ((cx + 1 : Nat) : Int))) (by simp)).set (.int .i64 0))
    refine ⟨(((KeepsOthers.setCell _ _ _).trans (KeepsOthers.setCell _ _ _)).trans (KeepsOthers.setCell _ _ _)).from _, ⟨rfl, x, rfl, ?_, ?_, g4⟩, hfr2, by simpa [World.setCell] using hzz⟩
    · rw [HCX.out]; exact g2
    · rw [HCX.out]; exact g3
  case done =>
    rintro D ys X hD rfl ⟨⟨he, h2, h3, h4⟩, hfr, hzz⟩ hK
    obtain ⟨rfl, rfl, rfl⟩ : rn = 0 ∧ rt = 0 ∧ re = 7 := by
      rcases HP.out with ⟨_, h⟩ | ⟨x, xs, h, _⟩
      · exact h
      · rw [he] at h; cases h
    have c2 := h2.cell
    have c3 := h3.cell
    have c4 := h4.cell
    have f2 := h2.frozen
    have f3 := h3.frozen
    have f4 := h4.frozen
    have HL : Hid (Below w.heap.size w X) := hlow.trans (hfr.below (fun j hj => .inl (by omega)))
    clear he
    gi_wp2
    have hK' := (((KeepsOthers.setCell X ⟨w.heap.size + 2, 0, none⟩ (.int .u64 0)).trans (KeepsOthers.setCell _ ⟨w.heap.size + 3, 0, none⟩ (.int .i64 0))).trans (KeepsOthers.setCell _ ⟨w.heap.size + 4, 0, none⟩ (.int .i64 7))).same D _ hK rfl
    refine ⟨by simp, .inl ⟨_, _, rfl, run_takeDeferred hK', ?_⟩⟩
    have g2 := ((((h2.set (.int .u64 0)).kept (grownBy_setCell' _ (w.heap.size + 3) (.int .i64 0)) (by simp)).kept (grownBy_setCell' _ (w.heap.size + 4) (.int .i64 7)) (by simp)).kept (grownBy_putObj' _ D (.deferred none)) (by simp; omega)).cell
    have g3 := ((((h3.kept (grownBy_setCell' _ (w.heap.size + 2) (.int .u64 0)) (by simp)).set (.int .i64 0)).kept (grownBy_setCell' _ (w.heap.size + 4) (.int .i64 7)) (by simp)).kept (grownBy_putObj' _ D (.deferred none)) (by simp; omega)).cell
    have g4 := ((((h4.kept (grownBy_setCell' _ (w.heap.size + 2) (.int .u64 0)) (by simp)).kept (grownBy_setCell' _ (w.heap.size + 3) (.int .i64 0)) (by simp)).set (.int .i64 7)).kept (grownBy_putObj' _ D (.deferred none)) (by simp; omega)).cell
    refine ⟨.tuple #[.int .u64 0, .int .i64 0, .int .i64 7], ?_, rfl, (((HL.out.setCell (p := ⟨w.heap.size + 2, 0, none⟩) (by simp only; omega) _).setCell (p := ⟨w.heap.size + 3, 0, none⟩) (by simp only; omega) _).setCell (p := ⟨w.heap.size + 4, 0, none⟩) (by simp only; omega) _).trans (belowK_b (w := w) (Nat.le_refl _) _ D _ _ (by omega) hK' rfl rfl)⟩
    simp [results, Try.results20, go_sem, g2, g3, g4]
  case stop =>
    rintro D cd pre X hD hpre ⟨⟨rfl, x, rfl, h2, h3, h4⟩, hfr, hzz⟩ hK
    obtain ⟨rfl, rfl, rfl⟩ : rn = clamp p x - p ∧ rt = clamp p x + 1 ∧ re = 0 := by
      rcases HP.out with ⟨h, _⟩ | ⟨y, ys, h, h2, h3, h4⟩
      · rw [h] at hpre; simp at hpre
      · rw [h] at hpre
        obtain rfl : x = y := by simpa using hpre
        have hb := vis_bound true l p l.length x (by rw [h]; simp)
        rw [clamp_of p x hb.1 (by omega)]
        exact ⟨h2, h3, h4⟩
    have HL : Hid (Below w.heap.size w X) := hlow.trans (hfr.below (fun j hj => .inl (by omega)))
    gi_wp2
    refine ⟨by simp, .inl ⟨_, _, rfl, run_takeDeferred hK, ?_⟩⟩
    have g2 := (h2.kept (grownBy_putObj' _ D (.deferred none)) (by simp; omega)).cell
    have g3 := (h3.kept (grownBy_putObj' _ D (.deferred none)) (by simp; omega)).cell
    have g4 := (h4.kept (grownBy_putObj' _ D (.deferred none)) (by simp; omega)).cell
    refine ⟨.tuple #[.int .u64 ((clamp p x - p : Nat) : Int), .int .i64 ((clamp p x + 1 : Nat) : Int), .int .i64 0], ?_, rfl, HL.out.trans (belowK_b (w := w) (Nat.le_refl _) _ D _ _ (by omega) hK rfl rfl)⟩
    generalize clamp p x = cx at *
    simp [results, Try.results20, go_sem, g2, g3, g4]
end

section
open Go.RowKit Go.Shelf

attribute [local go_sem] Oper.semAt_some

/-- How far it is from the position after the last code to a 1 bit, as a number of 64 bits. -/
def gap (a x : Nat) : Nat := if a ≤ x then x - a else 18446744073709551616 - (a - x)
/-- The position after the last one. -/
def aft (pre : List Nat) : Nat := match pre.getLast? with | none => 0 | some x => clamp 0 x + 1
def gaps : Nat → List Nat → List Nat
  | _, [] => []
  | a, x :: xs => gap a (clamp 0 x) :: gaps (clamp 0 x + 1) xs
theorem gaps_length : ∀ (xs : List Nat) (a : Nat), (gaps a xs).length = xs.length
  | [], _ => rfl
  | x :: xs, a => by simp [gaps, gaps_length xs]
theorem aft_snoc (pre : List Nat) (x : Nat) : aft (pre ++ [x]) = clamp 0 x + 1 := by simp [aft]
theorem gaps_snoc (xs : List Nat) (x : Nat) : ∀ a, gaps a (xs ++ [x]) = gaps a xs ++ [gap (match xs.getLast? with | none => a | some y => clamp 0 y + 1) (clamp 0 x)] := by
  induction xs with
  | nil => intro a; simp [gaps]
  | cons y ys ih =>
    intro a
    simp only [List.cons_append, gaps, ih]
    congr 3
    cases ys with
    | nil => simp
    | cons z zs =>
      rw [List.getLast?_cons_cons]
      cases hq : (z :: zs).getLast? with
      | none => simp at hq
      | some q => rfl
theorem gaps_snoc0 (xs : List Nat) (x : Nat) : gaps 0 (xs ++ [x]) = gaps 0 xs ++ [gap (aft xs) (clamp 0 x)] := by rw [gaps_snoc]; rfl
theorem aft_le (xs : List Nat) : aft xs ≤ 8192 := by
  unfold aft
  split
  · omega
  · unfold clamp; omega
theorem clamp0_le (x : Nat) : clamp 0 x ≤ 8191 := by unfold clamp; omega

/-- Numbers, a position and an error come back. -/
def AllP (w : World) (ns : List Nat) (to : Nat) (err : Int) (e : Ending) (w' : World) : Prop :=
  ∃ A c, e = .returned (.tuple #[.slice A ns.length c, .int .i64 (to : Int), .int .i64 err]) ∧ RdV w' w'.heap.size A (nc ns) ∧ Below w.heap.size w w'

theorem check_two (len : Int) (A : Option Addr) (c : Nat) (bs : List Nat) (p : Int) (w : World) (hb : ∀ b ∈ bs, b < 256) (h : Rd w w.heap.size A bs) :
    Calls Try.prog 48 #[.agg #[.int .i64 len, .slice A bs.length c]] ((w.alloc (.cells #[.int .i64 len, .slice A bs.length c] 25)).alloc (.cells #[.int .i64 p] 3)) fun e w' => e = .returned (.int .i64 (chk len bs)) ∧ Below (w.heap.size + 2) ((w.alloc (.cells #[.int .i64 len, .slice A bs.length c] 25)).alloc (.cells #[.int .i64 p] 3)) w' := by
  have hu := up2 w (.cells #[.int .i64 len, .slice A bs.length c] 25) (.cells #[.int .i64 p] 3)
  have hz : ((w.alloc (.cells #[.int .i64 len, .slice A bs.length c] 25)).alloc (.cells #[.int .i64 p] 3)).heap.size = w.heap.size + 2 := two_size w _ _
  have := check_any len A c bs _ hb (h.below hu hu.size)
  rwa [hz] at this

theorem own_slice25 {w : World} {base : Nat} {v : Value} {n : Nat} {xs : List Value} (h : w.ownsRow base 22 1 v n xs) : ∃ A c, v = .slice A n c := by
  rcases h.2 with ⟨rfl, rfl⟩ | ⟨g, cap, cur, rfl, _⟩
  · exact ⟨none, 0, rfl⟩
  · exact ⟨_, cap, rfl⟩

theorem info25 : (Try.prog.info? 22).map (fun i => (i.zero, i.size, i.bytes)) = some (some (.int .u64 0), 1, 8) := by kernel_rfl

/-- The blocks that All's visit keeps: s: the heap's size where All began; N: where it laid its own boxes. -/
def akept (N : Nat) (k : Nat) : Prop := k < N ∨ k = N + 2 ∨ k = N + 3 ∨ k = N + 5

/-- The list so far, in its box. -/
def ARow (X : World) (N : Nat) (pre : List Nat) : Prop :=
  ∃ v, Boxed X N 26 v ∧ X.ownsRow (N + 6) 22 1 v pre.length (nc (gaps 0 pre))
theorem aRow_own (N : Nat) : Own (fun (pre : List Nat) X => ARow X N pre) := by
  rintro pre X Y row ⟨v, hb, ho⟩ hg hr
  refine ⟨v, box_own N 26 (fun _ : Unit => v) () X Y row hb hg hr, ho.kept hg ?_⟩
  rcases ho.2 with ⟨rfl, _⟩ | ⟨g, cap, cur, rfl, _, hgb, _⟩
  · exact .inl rfl
  · refine .inr fun e' => ?_
    obtain ⟨o, h1, h2⟩ := hr g (by simpa [Value.ownBlock] using e'.symm)
    rw [hgb] at h1; cases h1; cases h2

theorem own_rdv {w : World} {base : Nat} {e : TypeId} {A : Option Addr} {n c : Nat} {vs : List Value} (h : w.ownsRow base e 1 (.slice A n c) n vs) : RdV w w.heap.size A vs := by
  rcases h.2 with ⟨_, h0⟩ | ⟨g, cap, cur, he, _, hg, _⟩
  · have := h.1
    rw [h0] at this
    exact .inl (List.eq_nil_of_length_eq_zero (by omega))
  · simp only [Value.slice.injEq] at he
    obtain ⟨rfl, _, _⟩ := he
    refine .inr ⟨g, 0, rfl, (Array.getElem?_eq_some_iff.1 hg).1, fun i v hi => ?_⟩
    have hh := h.cells (g := g) rfl i v hi
    have ha : (⟨g, 0, none⟩ : Addr).add i = ⟨g, 0 + i, none⟩ := by unfold Addr.add; split <;> simp_all
    rw [ha] at hh
    exact hh

theorem gap_wrap (pa cx : Nat) (h1 : pa ≤ 8192) (h2 : cx ≤ 8191) : ∃ g : Nat, IntKind.u64.wrap ((cx : Int) - (pa : Int)) = (g : Int) ∧ gap pa cx = g := by
  refine ⟨gap pa cx, ?_, rfl⟩
  rw [IntKind.wrap_u64]
  unfold gap
  split <;> omega

theorem row_ne25 {w : World} {W : Nat} {t : TypeId} {cs : Array Value} {base : Nat} (hW : w.heap[W]? = some (.cells cs t (0, 0))) (ht : t ≠ 22) {v : Value} {n : Nat} {xs : List Value} (h : w.ownsRow base 22 1 v n xs) : ∀ g, v.ownBlock = some g → g ≠ W := by
  rintro g hg rfl
  rcases h.2 with ⟨rfl, _⟩ | ⟨g', cap, cur, rfl, _, hh, _⟩
  · simp [Value.ownBlock] at hg
  · have : g' = g := by simpa [Value.ownBlock] using hg
    subst this
    rw [hW] at hh
    simp at hh
    exact ht hh.2

/-- One number more: behind the append, and behind the two stores. -/
theorem all_step {X w3 w5 : World} {N k g' cap' cx : Nat} {Av : Option Addr} {cv : Nat} {xs ys : List Value} {tmp : Obj} {b0 : Int}
    (hbv : Boxed X N 26 (.slice Av k cv)) (hba : Boxed X (N + 1) 3 (.int .i64 b0)) (hrow : X.ownsRow (N + 6) 22 1 (.slice Av k cv) k xs)
    (hgrow : (X.alloc tmp).grownBy w3 (Value.slice Av k cv).ownBlock) (hown' : w3.ownsRow (N + 6) 22 1 (.slice (some ⟨g', 0, none⟩) (k + 1) cap') (k + 1) ys)
    (hXs : N ≤ X.heap.size) (hz : N + 6 ≤ w5.heap.size) (hzz : w5.heap.size ≤ X.heap.size) :
    w3.cell? ⟨N, 0, none⟩ = some (.slice Av k cv) ∧ w3.frozen? ⟨N, 0, none⟩ = false ∧ w3.cell? ⟨N + 1, 0, none⟩ = some (.int .i64 b0) ∧ w3.frozen? ⟨N + 1, 0, none⟩ = false ∧
    Hid (Boxed ((w3.setCell ⟨N, 0, none⟩ (.slice (some ⟨g', 0, none⟩) (k + 1) cap')).setCell ⟨N + 1, 0, none⟩ (.int .i64 ((cx : Int) + 1))) N 26 (.slice (some ⟨g', 0, none⟩) (k + 1) cap') ∧
      ((w3.setCell ⟨N, 0, none⟩ (.slice (some ⟨g', 0, none⟩) (k + 1) cap')).setCell ⟨N + 1, 0, none⟩ (.int .i64 ((cx : Int) + 1))).ownsRow (N + 6) 22 1 (.slice (some ⟨g', 0, none⟩) (k + 1) cap') (k + 1) ys ∧
      Boxed ((w3.setCell ⟨N, 0, none⟩ (.slice (some ⟨g', 0, none⟩) (k + 1) cap')).setCell ⟨N + 1, 0, none⟩ (.int .i64 ((cx : Int) + 1))) (N + 1) 3 (.int .i64 ((cx : Int) + 1)) ∧
      Fr (akept N) X ((w3.setCell ⟨N, 0, none⟩ (.slice (some ⟨g', 0, none⟩) (k + 1) cap')).setCell ⟨N + 1, 0, none⟩ (.int .i64 ((cx : Int) + 1)))) := by
  have hv1 : Boxed w3 N 26 (.slice Av k cv) := (hbv.alloc tmp).kept hgrow (hbv.not_row (by decide) hrow)
  have ha1 : Boxed w3 (N + 1) 3 (.int .i64 b0) := (hba.alloc tmp).kept hgrow (hba.not_row (by decide) hrow)
  have hne : some N ≠ (Value.slice (some ⟨g', 0, none⟩) (k + 1) cap').ownBlock := hv1.not_row (by decide) hown'
  have hne2 : some (N + 1) ≠ (Value.slice (some ⟨g', 0, none⟩) (k + 1) cap').ownBlock := ha1.not_row (by decide) hown'
  refine ⟨hv1.cell, hv1.frozen, ha1.cell, ha1.frozen, (hv1.set _).other (by omega) _, ?_, ((ha1.other (by omega) _).set _), ?_⟩
  · exact (hown'.kept (grownBy_setCell' w3 N _) (.inr hne.symm)).kept (grownBy_setCell' _ (N + 1) _) (.inr hne2.symm)
  · have nN : ¬ akept N N := by rintro (h | h | h | h) <;> omega
    have nN1 : ¬ akept N (N + 1) := by rintro (h | h | h | h) <;> omega
    refine ((((Fr.refl (akept N) X).alloc ?_ tmp).grown hgrow ?_ ?_ ?_).setCell (p := ⟨N, 0, none⟩) nN _).setCell (p := ⟨N + 1, 0, none⟩) nN1 _
    · rintro j (h | h | h | h) <;> omega
    · rintro j (h | h | h | h) <;> simp <;> omega
    · intro j hj hk
      have := (hrow.lt j hj).1
      rcases hk with h | h | h | h <;> omega
    · intro j o hj ho
      exact own_cells (hrow.alloc tmp) j o hj ho
end

section
open Go.RowKit Go.Shelf

attribute [local go_sem] Oper.semAt_some

set_option maxHeartbeats 400000 in
theorem all_bad (len : Int) (A : Option Addr) (c : Nat) (bs : List Nat) (p : Int) (w : World) (hb : ∀ b ∈ bs, b < 256) (h : Rd w w.heap.size A bs) (hc : chk len bs ≠ 0) :
    Calls Try.prog 22 #[.agg #[.int .i64 len, .slice A bs.length c], .int .i64 p] w (AllP w [] 0 (chk len bs)) := by
  have HC := Lib.hid (check_two len A c bs p w hb h)
  have HU := Lib.hid (up2 w (.cells #[.int .i64 len, .slice A bs.length c] 25) (.cells #[.int .i64 p] 3))
  have hcb : (chk len bs != 0) = true := by simpa using hc
  clear hc hb h
  generalize chk len bs = e0 at *
  generalize bs.length = nn at *
  go_enter Try.func22, Try.ntmps22
  go_wp2_with (go_at_call 48; refine HC.out.mono ?_; rintro e w1 ⟨rfl, hq⟩; obtain ⟨hc1, hf1⟩ := old_cells hq)
  go_ret3
  exact ⟨none, 0, rfl, .inl rfl, HU.out.trans (hq.mono (by omega))⟩

set_option maxHeartbeats 400000 in
theorem all_range (l : List Bool) (hl : l.length ≤ 8192) (A : Option Addr) (c : Nat) (p : Int) (w : World) (h : Rd w w.heap.size A (pack l)) (hp : p < 0 ∨ 8192 < p) :
    Calls Try.prog 22 #[.agg #[.int .i64 (l.length : Int), .slice A (pack l).length c], .int .i64 p] w (AllP w [] 0 3) := by
  have hc0 := check_two (l.length : Int) A c (pack l) p w (pack_lt l) h
  rw [chk_pack l hl] at hc0
  have HC := Lib.hid hc0; clear hc0 h
  have HU := Lib.hid (up2 w (.cells #[.int .i64 (l.length : Int), .slice A (pack l).length c] 25) (.cells #[.int .i64 p] 3))
  generalize (pack l).length = nn at *
  generalize l.length = ln at *
  have hp2 : p < 0 ∨ (0 ≤ p ∧ 8192 < p) := by omega
  clear hp
  rcases hp2 with hp | ⟨hp0, hp⟩
  · have t1 : decide (p < 0) = true := by simp; omega
    go_enter Try.func22, Try.ntmps22
    go_wp2_with (go_at_call 48; refine HC.out.mono ?_; rintro e w1 ⟨rfl, hq⟩; obtain ⟨hc1, hf1⟩ := old_cells hq)
    go_ret3
    exact ⟨none, 0, rfl, .inl rfl, HU.out.trans (hq.mono (by omega))⟩
  · have t1 : decide (p < 0) = false := by simp; omega
    have t2 : decide (8192 < p) = true := by simp; omega
    go_enter Try.func22, Try.ntmps22
    go_wp2_with (go_at_call 48; refine HC.out.mono ?_; rintro e w1 ⟨rfl, hq⟩; obtain ⟨hc1, hf1⟩ := old_cells hq)
    go_ret3
    exact ⟨none, 0, rfl, .inl rfl, HU.out.trans (hq.mono (by omega))⟩

set_option maxRecDepth 100000 in
set_option maxHeartbeats 2000000 in
theorem all_in (l : List Bool) (hl : l.length ≤ 8192) (A : Option Addr) (c : Nat) (m : Nat) (w : World) (h : Rd w w.heap.size A (pack l)) (hm : m ≤ 8192) (rn : List Nat) (rt : Nat) (re : Int)
    (hr : ((pos 0 l).length < m ∧ rn = [] ∧ rt = 0 ∧ re = 7) ∨ (m ≤ (pos 0 l).length ∧ rn = gaps 0 ((pos 0 l).take m) ∧ rt = aft ((pos 0 l).take m) ∧ re = 0)) :
    Calls Try.prog 22 #[.agg #[.int .i64 (l.length : Int), .slice A (pack l).length c], .int .i64 (m : Int)] w (AllP w rn rt re) := by
  have hc0 := check_two (l.length : Int) A c (pack l) (m : Int) w (pack_lt l) h
  rw [chk_pack l hl] at hc0
  have HC := Lib.hid hc0; clear hc0
  have HU := Lib.hid (up2 w (.cells #[.int .i64 (l.length : Int), .slice A (pack l).length c] 25) (.cells #[.int .i64 (m : Int)] 3))
  have HM : Hid (((w.alloc (.cells #[.int .i64 (l.length : Int), .slice A (pack l).length c] 25)).alloc (.cells #[.int .i64 (m : Int)] 3)).heap[w.heap.size + 1]? = some (.cells #[.int .i64 (m : Int)] 3)) := two_new w _ _
  have HR := Lib.hid h; clear h
  have HP := Lib.hid hr; clear hr
  obtain ⟨i0, hi, hz0, hz1, hz2⟩ := info_parts info25
  have t1 : decide ((m : Int) < 0) = false := by simp
  have t2 : decide (8192 < (m : Int)) = false := by simp; omega
  refine (callsIn_wide (n := 4)).1 ?_
  refine callsIn_of_wp_marks Try.func22 rfl trivial ?_ rfl
  simp only [Try.ntmps22, List.size_toArray, List.length_cons, List.length_nil, Nat.reduceAdd, Nat.reduceSub, Array.replicate_succ, Array.replicate_zero, List.push_toArray, List.append_toArray, List.nil_append, List.cons_append]
  gi_wp2_with (first | (refine ⟨trivial, ?_⟩; gi_at_call 58; refine (of_in 3 _ _ _ _ _ _ _ _).mono ?_; rintro e w' ⟨rfl, rfl⟩) | (refine ⟨trivial, ?_⟩; gi_at_call 48; refine (callsIn_wide.2 HC.out).mono ?_; rintro e w1 ⟨rfl, hq⟩; obtain ⟨hc1, hf1⟩ := old_cells hq; have hs1 : w.heap.size + 2 ≤ w1.heap.size := (by have := hq.size; rw [show ((w.alloc _).alloc _).heap.size = w.heap.size + 2 from two_size w _ _] at this; exact this); have hs2 : w.heap.size + 1 < w1.heap.size := (by omega); have hs3 : w.heap.size < w1.heap.size := (by omega)))
  simp only [Nat.add_assoc, Nat.reduceAdd]
  have hw0 : Below w.heap.size w w1 := HU.out.trans (hq.mono (by omega))
  have bm := (hq.block (w.heap.size + 1) (by omega)).trans HM.out
  clear hc1 hf1 HU HM hq
  obtain ⟨hz, a0, a1, a2, a3, a4, a5⟩ := six w1 (.cells #[.slice none 0 0] 26) (.cells #[.int .i64 0] 3) (.cells #[.int .i64 (l.length : Int), .slice A (pack l).length c] 25) (.cells #[.int .u64 1] 22) (.cells #[.int .i64 0] 3) (.cells #[.int .i64 (l.length : Int)] 3)
  have hup : Below w1.heap.size w1 ((((((w1.alloc (.cells #[.slice none 0 0] 26)).alloc (.cells #[.int .i64 0] 3)).alloc (.cells #[.int .i64 (l.length : Int), .slice A (pack l).length c] 25)).alloc (.cells #[.int .u64 1] 22)).alloc (.cells #[.int .i64 0] 3)).alloc (.cells #[.int .i64 (l.length : Int)] 3)) := ((((up2 w1 _ _).alloc (by simp only [World.size_alloc]; omega) _).alloc (by simp only [World.size_alloc]; omega) _).alloc (by simp only [World.size_alloc]; omega) _).alloc (by simp only [World.size_alloc]; omega) _
  generalize ((((((w1.alloc (.cells #[.slice none 0 0] 26)).alloc (.cells #[.int .i64 0] 3)).alloc (.cells #[.int .i64 (l.length : Int), .slice A (pack l).length c] 25)).alloc (.cells #[.int .u64 1] 22)).alloc (.cells #[.int .i64 0] 3)).alloc (.cells #[.int .i64 (l.length : Int)] 3)) = w5 at *
  replace bm := (hup.block _ (by omega)).trans bm
  have hlow : Below w.heap.size w w5 := hw0.trans (hup.mono (by omega))
  clear hup hw0
  have hvis : ∀ k, akept w1.heap.size k → k < w5.heap.size := by rintro k (h | h | h | h) <;> omega
  refine wpIn_rangeFunc_ownG rfl (by decide) (gf := 87) (lb := #[.pointer (some ⟨w1.heap.size + 4, 0, none⟩), .pointer (some ⟨w1.heap.size + 5, 0, none⟩), .pointer (some ⟨w1.heap.size + 2, 0, none⟩), .pointer (some ⟨w1.heap.size + 3, 0, none⟩)]) rfl trivial (enters_of Try.func87 (by kernel_rfl) rfl)
    (of_stops 3 (by decide) (w1.heap.size + 4) (w1.heap.size + 5) (w1.heap.size + 2) (w1.heap.size + 3) w.heap.size c A (akept w1.heap.size) l hl true 0 l.length (Nat.zero_le _) (Nat.le_refl _) (.inr (.inr (.inr rfl))) (.inr (.inl rfl)) (.inr (.inr (.inl rfl))) (fun k hk => .inl (by omega)) w5 hvis (by omega) (by omega)
      (box_cell a4) (box_cell a5) (box_cell a3) (blk_cells a2).1 (blk_cells a2).2.1 (HR.out.below hlow (Nat.le_refl _)))
    (fun h k => keepS_t h k) (keepS_b hvis) (Below.refl _ _) (fun _ => rfl)
    (fun pre X => (pre.length ≤ m ∧ ARow X w1.heap.size pre ∧ Boxed X (w1.heap.size + 1) 3 (.int .i64 (aft pre : Int))) ∧ (Fr (akept w1.heap.size) w5 X ∧ w5.heap.size ≤ X.heap.size))
    (fun cd pre X => (cd = .exit 0 ∧ ∃ p0 x, pre = p0 ++ [x] ∧ p0.length = m ∧ ARow X w1.heap.size p0 ∧ Boxed X (w1.heap.size + 1) 3 (.int .i64 (aft p0 : Int))) ∧ (Fr (akept w1.heap.size) w5 X ∧ w5.heap.size ≤ X.heap.size))
    (OwnFrom.and (Own.from (fun s X Y row hs hg hr => ⟨hs.1, aRow_own _ s X Y row hs.2.1 hg hr, box_own _ 3 (fun s : List Nat => .int .i64 (aft s : Int)) s X Y row hs.2.2 hg hr⟩) _) (fr_own _ w5 w5.heap.size (Nat.le_refl _) hvis))
    (fun cd => OwnFrom.and (Own.from (fun s X Y row hs hg hr => by
      obtain ⟨h1, p0, x, h2, h3, h4, h5⟩ := hs
      exact ⟨h1, p0, x, h2, h3, aRow_own _ p0 X Y row h4 hg hr, box_own _ 3 (fun s : List Nat => .int .i64 (aft s : Int)) p0 X Y row h5 hg hr⟩) _) (fr_own _ w5 w5.heap.size (Nat.le_refl _) hvis))
    ⟨⟨Nat.zero_le _, ⟨.slice none 0 0, a0, ⟨rfl, .inl ⟨rfl, rfl⟩⟩⟩, a1⟩, Fr.refl _ _, Nat.le_refl _⟩
    ?a1 ?assign ?body ?done ?stop
  case assign =>
    intro lp x X K hK
    gi_wp2
    exact hK
  case body =>
    rintro lp pre x X ⟨⟨hpm, ⟨v, hbv, hrow⟩, hba⟩, hfr, hzz⟩ hlt
    obtain ⟨Av, cv, rfl⟩ := own_slice25 hrow
    have cm : X.cell? ⟨w.heap.size + 1, 0, none⟩ = some (.int .i64 (m : Int)) := box_cell ((hfr.block _ (.inl (by omega))).trans bm)
    have cv1 := hbv.cell
    have fv1 := hbv.frozen
    have ca1 := hba.cell
    have fa1 := hba.frozen
    have hal := aft_le pre
    have hcl := clamp0_le x
    by_cases hfull : pre.length = m
    · have t3 : ((pre.length : Int) == (m : Int)) = true := by simp; omega
      have HFU := Lib.hid hfull; clear hfull
      gi_wp2
      exact ⟨KeepsFrom.refl _ _, ⟨rfl, pre, x, rfl, HFU.out, ⟨_, hbv, hrow⟩, hba⟩, hfr, hzz⟩
    · have t3 : ((pre.length : Int) == (m : Int)) = false := by simp; omega
      have hlm : pre.length < m := by omega
      clear hfull
      have HSN := Lib.hid (gaps_snoc0 pre x)
      have HAS := Lib.hid (aft_snoc pre x)
      generalize hcx : clamp 0 x = cx at *
      generalize hpa : aft pre = pa at *
      have HCX := Lib.hid hcx; clear hcx
      have HPA := Lib.hid hpa; clear hpa
      obtain ⟨g, hgw, hgg⟩ := gap_wrap pa cx hal hcl
      have HGG := Lib.hid hgg; clear hgg
      have hXs : w1.heap.size ≤ X.heap.size := by omega
      gi_wp2_with (gi_at_builtin; refine wpListIn_append_own _ rfl _ _ 26 rfl (w1.heap.size + 6) 22 i0 (.int .u64 0) 1 8 Try.underlying26 hi hz0 hz1 hz2 rfl (by decide) _ _ _ rfl (hrow.alloc _) ⟨X.heap.size, 0, none⟩ 1 1 [.int .u64 (g : Int)] rfl rfl (cell_one_new _ _ _) (by simp [Value.oneCell']) (by unfold maxLen; omega) (by omega) (by simp; omega) ?_; intro v' w3 hown' hgrow _; obtain ⟨g', cap', rfl⟩ := ownsRow_succ hown'; obtain ⟨e1, e2, e3, e4, HE⟩ := all_step (cx := cx) hbv hba hrow hgrow hown' hXs (by omega) hzz; clear hgrow)
      obtain ⟨E1, E2, E3, E4⟩ := HE.out
      refine ⟨E4.others.from _, ⟨E4.block, E4.size⟩, ⟨by simp; omega, ⟨_, E1, ?_⟩, ?_⟩, hfr.trans E4, Nat.le_trans hzz E4.size⟩
      · rw [HSN.out, HGG.out, nc_append, List.length_append]
        exact E2
      · rw [HAS.out]
        exact E3
  case done =>
    rintro D ys X hD rfl ⟨⟨hpm, ⟨v, hbv, hrow⟩, hba⟩, hfr, hzz⟩ hK
    rw [vis_all l 0 l.length rfl, List.drop_zero] at hpm hrow hba
    obtain ⟨Av, cv, rfl⟩ := own_slice25 hrow
    have HR3 : Hid (RdV (X.putObj D (.deferred none)) (X.putObj D (.deferred none)).heap.size Av (nc (gaps 0 (pos 0 l)))) := own_rdv (ownsRow_putObj hrow _ hK rfl)
    have HL : Hid (Below w.heap.size w (X.putObj D (.deferred none))) := (hlow.trans (hfr.below (fun j hj => .inl (by omega)))).trans (belowK_b (w := w) (Nat.le_refl _) _ D _ _ (by omega) hK rfl rfl)
    have cm : X.cell? ⟨w.heap.size + 1, 0, none⟩ = some (.int .i64 (m : Int)) := box_cell ((hfr.block _ (.inl (by omega))).trans bm)
    have cv1 := hbv.cell
    have ca1 := hba.cell
    rcases HP.out with ⟨h, rfl, rfl, rfl⟩ | ⟨h, rfl, rfl, rfl⟩
    · have t3 : decide (((pos 0 l).length : Int) < (m : Int)) = true := by simp; omega
      clear hpm hrow
      gi_wp2
      refine ⟨by simp, .inl ⟨_, _, rfl, run_takeDeferred hK, ?_⟩⟩
      refine ⟨.tuple #[.slice none 0 0, .int .i64 0, .int .i64 7], ?_, none, 0, rfl, .inl rfl, HL.out⟩
      simp [results, Try.results22, go_sem]
    · have t3 : decide (((pos 0 l).length : Int) < (m : Int)) = false := by simp; omega
      have HTK : Hid ((pos 0 l).take m = pos 0 l) := List.take_of_length_le (by omega)
      have hgl := gaps_length (pos 0 l) 0
      have HGL := Lib.hid hgl; clear hgl hpm hrow
      gi_wp2
      gi_region
      gi_wp2
      refine ⟨by simp, .inl ⟨_, _, rfl, run_takeDeferred (w := X.drew) hK, ?_⟩⟩
      rw [HTK.out]
      refine ⟨.tuple #[.slice Av (gaps 0 (pos 0 l)).length cv, .int .i64 (aft (pos 0 l) : Int), .int .i64 0], ?_, Av, cv, rfl, HR3.out, ⟨HL.out.os, HL.out.tape, HL.out.output, HL.out.size, HL.out.block⟩⟩
      rw [HGL.out]
      simp [results, Try.results22, go_sem]
  case stop =>
    rintro D cd pre X hD hpre ⟨⟨rfl, p0, x, rfl, hp0, ⟨v, hbv, hrow⟩, hba⟩, hfr, hzz⟩ hK
    rw [vis_all l 0 l.length rfl, List.drop_zero] at hpre
    have hp1 : p0 <+: pos 0 l := (List.prefix_append p0 [x]).trans hpre
    have hpe : p0 = (pos 0 l).take m := by rw [List.prefix_iff_eq_take.1 hp1, hp0]
    have hpl : m ≤ (pos 0 l).length := by rw [← hp0]; exact hp1.length_le
    obtain ⟨Av, cv, rfl⟩ := own_slice25 hrow
    have HR3 : Hid (RdV (X.putObj D (.deferred none)) (X.putObj D (.deferred none)).heap.size Av (nc (gaps 0 p0))) := own_rdv (ownsRow_putObj hrow _ hK rfl)
    have HL : Hid (Below w.heap.size w (X.putObj D (.deferred none))) := (hlow.trans (hfr.below (fun j hj => .inl (by omega)))).trans (belowK_b (w := w) (Nat.le_refl _) _ D _ _ (by omega) hK rfl rfl)
    have cm : X.cell? ⟨w.heap.size + 1, 0, none⟩ = some (.int .i64 (m : Int)) := box_cell ((hfr.block _ (.inl (by omega))).trans bm)
    have cv1 := hbv.cell
    have ca1 := hba.cell
    rcases HP.out with ⟨h, _⟩ | ⟨h, rfl, rfl, rfl⟩
    · omega
    · have t3 : decide ((p0.length : Int) < (m : Int)) = false := by simp; omega
      have HPE := Lib.hid hpe
      have hgl := gaps_length p0 0
      have hge : m ≤ p0.length := by omega
      have HGL := Lib.hid hgl; clear hgl hpe hpl hp1 hpre hrow hp0
      gi_wp2
      gi_region
      gi_wp2
      refine ⟨by simp, .inl ⟨_, _, rfl, run_takeDeferred (w := X.drew) hK, ?_⟩⟩
      rw [← HPE.out]
      refine ⟨.tuple #[.slice Av (gaps 0 p0).length cv, .int .i64 (aft p0 : Int), .int .i64 0], ?_, Av, cv, rfl, HR3.out, ⟨HL.out.os, HL.out.tape, HL.out.output, HL.out.size, HL.out.block⟩⟩
      rw [HGL.out]
      simp [results, Try.results22, go_sem]
end

section
open Go.RowKit

/-- The numbers whose codes stand in bits, z noughts having come. -/
def prs : Nat → List Bool → List Nat
  | _, [] => []
  | z, true :: l => z :: prs 0 l
  | z, false :: l => prs (z + 1) l

theorem clamp0_of (x : Nat) (h : x < 8192) : clamp 0 x = x := clamp_of 0 x (Nat.zero_le _) h
theorem gaps_pos (l : List Bool) : ∀ a o, a ≤ o → o + l.length ≤ 8192 → gaps a (pos o l) = prs (o - a) l := by
  induction l with
  | nil => intro a o _ _; rfl
  | cons b l ih =>
    intro a o h1 h2
    rw [List.length_cons] at h2
    cases b
    · simp only [pos, prs]
      rw [ih a (o + 1) (by omega) (by omega)]
      congr 1; omega
    · simp only [pos, prs, gaps]
      rw [clamp0_of o (by omega), ih (o + 1) (o + 1) (by omega) (by omega)]
      unfold gap
      rw [if_pos h1, Nat.sub_self]
theorem gaps_take (xs : List Nat) : ∀ a m, gaps a (xs.take m) = (gaps a xs).take m := by
  induction xs with
  | nil => intro a m; simp [gaps]
  | cons x xs ih =>
    intro a m
    cases m with
    | zero => simp [gaps]
    | succ m => simp [gaps, ih]
theorem pos_prs_length (l : List Bool) : ∀ o z, (pos o l).length = (prs z l).length := by
  induction l with
  | nil => intro o z; rfl
  | cons b l ih =>
    intro o z
    cases b
    · simp only [pos, prs]; exact ih _ _
    · simp only [pos, prs, List.length_cons]; rw [ih _ 0]

def aftF (a : Nat) (xs : List Nat) : Nat := match xs.getLast? with | none => a | some x => clamp 0 x + 1
theorem aftF_cons (a x : Nat) (xs : List Nat) : aftF a (x :: xs) = aftF (clamp 0 x + 1) xs := by
  unfold aftF
  cases xs with
  | nil => rfl
  | cons y ys =>
    rw [List.getLast?_cons_cons]
    cases h : (y :: ys).getLast? with
    | none => simp at h
    | some q => rfl
theorem aft_eq (xs : List Nat) : aft xs = aftF 0 xs := rfl
theorem aft_pos (l : List Bool) : ∀ a o m, a ≤ o → o + l.length ≤ 8192 → aftF a ((pos o l).take m) = a + (ucs ((prs (o - a) l).take m)).length := by
  induction l with
  | nil => intro a o m _ _; simp [pos, prs, aftF, ucs]
  | cons b l ih =>
    intro a o m h1 h2
    rw [List.length_cons] at h2
    cases b
    · simp only [pos, prs]
      rw [ih a (o + 1) m (by omega) (by omega), show o + 1 - a = o - a + 1 from by omega]
    · simp only [pos, prs]
      cases m with
      | zero => simp [aftF, ucs]
      | succ m =>
        rw [List.take_succ_cons, List.take_succ_cons, aftF_cons, clamp0_of o (by omega), ih (o + 1) (o + 1) m (by omega) (by omega), Nat.sub_self]
        have e : ucs ((o - a) :: (prs 0 l).take m) = uc (o - a) ++ ucs ((prs 0 l).take m) := rfl
        rw [e, List.length_append, uc_length]
        omega

theorem prs_zeros (n : Nat) (t : List Bool) : ∀ z, prs z (List.replicate n false ++ t) = prs (z + n) t := by
  induction n with
  | zero => intro z; simp
  | succ n ih => intro z; rw [List.replicate_succ, List.cons_append, prs, ih]; congr 1; omega
theorem prs_uc (n : Nat) (t : List Bool) : prs 0 (uc n ++ t) = n :: prs 0 t := by
  unfold uc
  rw [List.append_assoc, prs_zeros, Nat.zero_add]
  rfl
theorem prs_ucs (ns : List Nat) (t : List Bool) : prs 0 (ucs ns ++ t) = ns ++ prs 0 t := by
  induction ns with
  | nil => rfl
  | cons n ns ih =>
    have e : ucs (n :: ns) = uc n ++ ucs ns := rfl
    rw [e, List.append_assoc, prs_uc, ih]
    rfl
theorem parse (l : List Bool) : ∀ z, ∃ k, List.replicate z false ++ l = ucs (prs z l) ++ List.replicate k false := by
  induction l with
  | nil => intro z; exact ⟨z, by simp [prs, ucs]⟩
  | cons b l ih =>
    intro z
    cases b
    · obtain ⟨k, hk⟩ := ih (z + 1)
      refine ⟨k, ?_⟩
      rw [prs, ← hk, List.replicate_succ']
      simp
    · obtain ⟨k, hk⟩ := ih 0
      refine ⟨k, ?_⟩
      have e : ucs (z :: prs 0 l) = uc z ++ ucs (prs 0 l) := rfl
      rw [List.replicate_zero, List.nil_append] at hk
      rw [prs, e, List.append_assoc, ← hk]
      simp [uc]
/-- Bits begin with the codes of what is read of them. -/
theorem parse_take (l : List Bool) (m : Nat) : l.take (ucs ((prs 0 l).take m)).length = ucs ((prs 0 l).take m) ∧ (ucs ((prs 0 l).take m)).length ≤ l.length := by
  obtain ⟨k, hk⟩ := parse l 0
  rw [List.replicate_zero, List.nil_append] at hk
  have e : prs 0 l = (prs 0 l).take m ++ (prs 0 l).drop m := (List.take_append_drop m _).symm
  have e2 : l = ucs ((prs 0 l).take m) ++ (ucs ((prs 0 l).drop m) ++ List.replicate k false) := by
    rw [← List.append_assoc, ← ucs_append, ← e]; exact hk
  generalize ucs ((prs 0 l).drop m) ++ List.replicate k false = r at e2
  generalize ucs ((prs 0 l).take m) = q at *
  subst e2
  exact ⟨List.take_left, by rw [List.length_append]; omega⟩

theorem pos_zeros (n : Nat) : ∀ o, pos o (List.replicate n false) = [] := by
  induction n with
  | zero => intro o; rfl
  | succ n ih => intro o; rw [List.replicate_succ, pos]; exact ih _
theorem pos_uc (n : Nat) (o : Nat) : pos o (uc n) = [o + n] := by
  unfold uc
  rw [pos_append, pos_zeros, List.length_replicate]
  rfl
/-- Where the codes of numbers have room each number fits. -/
theorem manyE_of_len (ns : List Nat) (h : (ucs ns).length ≤ 8192) : manyE ns = 0 := by
  unfold manyE
  have ha : ns.any (fun n => decide (8192 ≤ n)) = false := by
    rw [List.any_eq_false]
    intro x hx
    have : (uc x).length ≤ (ucs ns).length := by
      unfold ucs
      obtain ⟨s, t, rfl⟩ := List.append_of_mem hx
      rw [List.flatMap_append, List.length_append, List.flatMap_cons, List.length_append]
      omega
    rw [uc_length] at this
    simp; omega
  rw [ha, if_neg (by decide), if_neg (by omega)]
theorem manyE_zero (ns : List Nat) (h : manyE ns = 0) : (ucs ns).length ≤ 8192 := by
  unfold manyE at h
  split at h
  · omega
  · split at h
    · omega
    · omega
theorem ucs_len_ge (ns : List Nat) : ns.length ≤ (ucs ns).length := by
  induction ns with
  | nil => simp
  | cons n ns ih =>
    have e : ucs (n :: ns) = uc n ++ ucs ns := rfl
    rw [e, List.length_append, uc_length, List.length_cons]
    omega

theorem read_l (l : List Bool) (hl : l.length ≤ 8192) (A : Option Addr) (c p : Nat) (hp : p ≤ l.length) (x : Nat) (xs : List Nat) (hx : pos p (l.drop p) = x :: xs) (rn rt : Nat) (h1 : rn = x - p) (h2 : rt = x + 1) (w : World) (h : Rd w w.heap.size A (pack l)) :
    Calls Try.prog 20 #[.agg #[.int .i64 (l.length : Int), .slice A (pack l).length c], .int .i64 (p : Int)] w (ReadP w rn rt 0) :=
  read_in l hl A c p w h hp rn rt 0 (.inr ⟨x, xs, hx, h1, h2, rfl⟩)
theorem read_none (l : List Bool) (hl : l.length ≤ 8192) (A : Option Addr) (c p : Nat) (hp : p ≤ l.length) (hx : pos p (l.drop p) = []) (w : World) (h : Rd w w.heap.size A (pack l)) :
    Calls Try.prog 20 #[.agg #[.int .i64 (l.length : Int), .slice A (pack l).length c], .int .i64 (p : Int)] w (ReadP w 0 0 7) :=
  read_in l hl A c p w h hp 0 0 7 (.inl ⟨hx, rfl, rfl, rfl⟩)
end

section
open Go.RowKit

/-- What All answers, in the codes' own words. -/
theorem all_l (l : List Bool) (hl : l.length ≤ 8192) (A : Option Addr) (c m : Nat) (hm : m ≤ 8192) (ns : List Nat) (to : Nat) (hlen : m ≤ (prs 0 l).length) (hns : ns = (prs 0 l).take m) (hto : to = (ucs ns).length) (w : World) (h : Rd w w.heap.size A (pack l)) :
    Calls Try.prog 22 #[.agg #[.int .i64 (l.length : Int), .slice A (pack l).length c], .int .i64 (m : Int)] w (AllP w ns to 0) := by
  refine all_in l hl A c m w h hm ns to 0 (.inr ⟨by rw [pos_prs_length l 0 0]; exact hlen, ?_, ?_, rfl⟩)
  · rw [gaps_take, gaps_pos l 0 0 (Nat.le_refl _) (by omega), Nat.sub_zero]; exact hns
  · rw [aft_eq, aft_pos l 0 0 m (Nat.le_refl _) (by omega), Nat.zero_add, Nat.sub_zero, hto, hns]
theorem all_short (l : List Bool) (hl : l.length ≤ 8192) (A : Option Addr) (c m : Nat) (hm : m ≤ 8192) (hlen : (prs 0 l).length < m) (w : World) (h : Rd w w.heap.size A (pack l)) :
    Calls Try.prog 22 #[.agg #[.int .i64 (l.length : Int), .slice A (pack l).length c], .int .i64 (m : Int)] w (AllP w [] 0 7) :=
  all_in l hl A c m w h hm [] 0 7 (.inl ⟨by rw [pos_prs_length l 0 0]; exact hlen, rfl, rfl, rfl⟩)
end

section
set_option maxRecDepth 100000
set_option linter.unusedVariables false

/-- How many bits are behind the highest 1 of n + 1. -/
def lg (n : Nat) : Nat := Nat.log2 (n + 1)
theorem lg_le (n : Nat) : 2 ^ lg n ≤ n + 1 := Nat.log2_self_le (by omega)
theorem lg_lt (n : Nat) : n + 1 < 2 ^ (lg n + 1) := Nat.lt_log2_self
theorem pow_inj_le {a b : Nat} (h : 2 ^ a < 2 ^ b) : a < b := (Nat.pow_lt_pow_iff_right (by omega)).1 h
theorem lg_of (n k : Nat) (h1 : 2 ^ k ≤ n + 1) (h2 : n + 1 < 2 ^ (k + 1)) : lg n = k := by
  have a := pow_inj_le (Nat.lt_of_le_of_lt h1 (lg_lt n))
  have b := pow_inj_le (Nat.lt_of_le_of_lt (lg_le n) h2)
  omega
theorem lg_lt_of (n k : Nat) (h : n + 1 < 2 ^ k) : lg n < k := pow_inj_le (Nat.lt_of_le_of_lt (lg_le n) h)
theorem lg_mono {a b : Nat} (h : a ≤ b) : lg a ≤ lg b := by
  have := pow_inj_le (a := lg a) (b := lg b + 1) (by have := lg_le a; have := lg_lt b; omega)
  omega

theorem nb_succ (n k : Nat) : nb n (k + 1) = (n / 2 ^ k % 2 == 1) :: nb n k := by
  apply List.ext_getElem
  · simp [nb_length]
  · intro i h1 h2
    rcases i with _ | i
    · simp [nb]
    · simp only [nb, List.getElem_map, List.getElem_range, List.getElem_cons_succ]
      rw [show k + 1 - 1 - (i + 1) = k - 1 - i by omega]
theorem nb_mod (k : Nat) : ∀ n, nb (n % 2 ^ k) k = nb n k := by
  intro n
  apply List.ext_getElem
  · simp [nb_length]
  · intro i h1 h2
    rw [nb_length] at h1
    simp only [nb, List.getElem_map, List.getElem_range]
    congr 1
    have e : 2 ^ k = 2 ^ (k - 1 - i) * 2 ^ (i + 1) := by rw [← Nat.pow_add]; congr 1; omega
    rw [e, Nat.mod_mul_right_div_self, Nat.pow_succ, Nat.mul_comm (2 ^ i) 2, Nat.mod_mul_right_mod]
theorem nb_sub (m k : Nat) (h1 : 2 ^ k ≤ m) (h2 : m < 2 ^ (k + 1)) : nb (m - 2 ^ k) k = nb m k := by
  rw [← nb_mod k m, Nat.mod_eq_sub_mod h1, Nat.mod_eq_of_lt (by rw [Nat.pow_succ] at h2; omega)]
theorem nb_top (m k : Nat) (h1 : 2 ^ k ≤ m) (h2 : m < 2 ^ (k + 1)) : nb m (k + 1) = true :: nb m k := by
  rw [nb_succ]
  have : m / 2 ^ k = 1 := by
    rw [Nat.pow_succ] at h2
    have := Nat.two_pow_pos k
    exact Nat.div_eq_of_lt_le (by omega) (by omega)
  rw [this]; rfl
theorem fold_num (l : List Bool) : ∀ a, l.foldl (fun n b => 2 * n + b.toNat) a = a * 2 ^ l.length + num l := by
  induction l with
  | nil => intro a; simp [num]
  | cons b l ih =>
    intro a
    rw [List.foldl_cons, ih, List.length_cons, Nat.pow_succ]
    have e : num (b :: l) = l.foldl (fun n b => 2 * n + b.toNat) (2 * 0 + b.toNat) := rfl
    rw [e, ih, Nat.add_mul, Nat.add_assoc, Nat.mul_comm (2 ^ l.length) 2, ← Nat.mul_assoc, Nat.mul_comm a 2]
    simp
theorem num_append (a b : List Bool) : num (a ++ b) = num a * 2 ^ b.length + num b := by
  unfold num
  rw [List.foldl_append, fold_num]; rfl
theorem num_cons (b : Bool) (l : List Bool) : num (b :: l) = b.toNat * 2 ^ l.length + num l := by
  have := num_append [b] l
  have e : num [b] = b.toNat := by simp [num]
  rw [e] at this
  exact this
theorem nb_num (l : List Bool) : nb (num l) l.length = l := by
  induction l with
  | nil => rfl
  | cons b l ih =>
    rw [List.length_cons, nb_succ, num_cons]
    have hl := num_lt l
    have hp := Nat.two_pow_pos l.length
    have e1 : (b.toNat * 2 ^ l.length + num l) / 2 ^ l.length = b.toNat := by
      rw [Nat.mul_comm, Nat.mul_add_div hp, Nat.div_eq_of_lt hl]; rfl
    rw [e1]
    congr 1
    · cases b <;> rfl
    · rw [← nb_mod, Nat.mul_comm, Nat.mul_add_mod, nb_mod, ih]

/-- The codes. -/
def gam (n : Nat) : List Bool := uc (lg n) ++ nb (n + 1) (lg n)
def del (n : Nat) : List Bool := gam (lg n) ++ nb (n + 1) (lg n)
theorem gam_length (n : Nat) : (gam n).length = 2 * lg n + 1 := by simp [gam, uc_length, nb_length]; omega
theorem del_length (n : Nat) : (del n).length = 2 * lg (lg n) + 1 + lg n := by simp [del, gam_length, nb_length]

/-- What is read of bits from a place on: a number, the place behind, an error. -/
def uR (l : List Bool) (s : Nat) : Nat × Nat × Int := match pos s (l.drop s) with | [] => (0, 0, 7) | x :: _ => (x - s, x + 1, 0)
def restR (l : List Bool) (s k : Nat) : Nat × Nat × Int :=
  if 63 < k then (0, 0, 3) else if l.length < s + k then (0, 0, 7) else if 1099511627776 < 2 ^ k + num ((l.drop s).take k) - 1 then (0, 0, 3) else (2 ^ k + num ((l.drop s).take k) - 1, s + k, 0)
/-- A length is read first, and what is behind it. -/
def thenR (l : List Bool) (r : Nat × Nat × Int) : Nat × Nat × Int := if r.2.2 = 0 then restR l r.2.1 r.1 else (0, 0, r.2.2)
def gamR (l : List Bool) (s : Nat) : Nat × Nat × Int := thenR l (uR l s)
def delR (l : List Bool) (s : Nat) : Nat × Nat × Int := thenR l (gamR l s)

theorem pos_ge (l : List Bool) : ∀ o, ∀ x ∈ pos o l, o ≤ x ∧ x < o + l.length := by
  induction l with
  | nil => intro o x h; simp [pos] at h
  | cons b l ih =>
    intro o x h
    cases b
    · simp only [pos] at h
      have := ih _ x h
      rw [List.length_cons]; omega
    · simp only [pos, List.mem_cons] at h
      rcases h with rfl | h
      · rw [List.length_cons]; omega
      · have := ih _ x h
        rw [List.length_cons]; omega
theorem uR_bound (l : List Bool) (s : Nat) (hs : s ≤ l.length) : (uR l s).1 ≤ l.length ∧ (uR l s).2.1 ≤ l.length ∧ ((uR l s).2.2 = 0 ∨ (uR l s).2.2 = 7) := by
  unfold uR
  split
  · simp
  · rename_i x xs e
    have := pos_ge (l.drop s) s x (by rw [e]; simp)
    rw [List.length_drop] at this
    exact ⟨by simp only; omega, by simp only; omega, .inl rfl⟩
theorem restR_bound (l : List Bool) (s k : Nat) : (restR l s k).2.1 ≤ l.length ∧ (restR l s k).1 ≤ 1099511627776 ∧ ((restR l s k).2.2 = 0 ∨ (restR l s k).2.2 = 3 ∨ (restR l s k).2.2 = 7) := by
  unfold restR
  split
  · simp
  · split
    · simp
    · split
      · simp
      · exact ⟨by simp only; omega, by simp only; omega, .inl rfl⟩
theorem thenR_bound (l : List Bool) (r : Nat × Nat × Int) : (thenR l r).2.1 ≤ l.length ∧ (thenR l r).1 ≤ 1099511627776 := by
  unfold thenR
  split
  · exact ⟨(restR_bound l _ _).1, (restR_bound l _ _).2.1⟩
  · simp

theorem uR_uc (p t : List Bool) (n : Nat) : uR (p ++ (uc n ++ t)) p.length = (n, p.length + n + 1, 0) := by
  unfold uR
  rw [List.drop_left]
  unfold uc
  rw [pos_append, pos_append, pos_zeros, List.length_replicate]
  simp [pos]
theorem restR_nb (p t : List Bool) (n : Nat) (hn : n ≤ 1099511627776) : restR (p ++ (nb (n + 1) (lg n) ++ t)) p.length (lg n) = (n, p.length + lg n, 0) := by
  have h40 := lg_lt_of n 41 (by omega)
  have e : ((p ++ (nb (n + 1) (lg n) ++ t)).drop p.length).take (lg n) = nb (n + 1) (lg n) := by
    rw [List.drop_left]
    have := List.take_left (l₁ := nb (n + 1) (lg n)) (l₂ := t)
    rwa [nb_length] at this
  unfold restR
  have h1 := lg_le n
  have h2 := lg_lt n
  rw [e, ← nb_sub (n + 1) (lg n) h1 h2, num_nb_small _ _ (Nat.div_eq_of_lt (by rw [Nat.pow_succ] at h2; omega))]
  rw [if_neg (by omega), if_neg (by rw [List.length_append, List.length_append, nb_length]; omega), if_neg (by omega)]
  congr 1
  omega
theorem gamR_gam (p t : List Bool) (n : Nat) (hn : n ≤ 1099511627776) : gamR (p ++ (gam n ++ t)) p.length = (n, p.length + (gam n).length, 0) := by
  unfold gamR gam thenR
  rw [List.append_assoc, uR_uc, if_pos rfl]
  have := restR_nb (p ++ uc (lg n)) t n hn
  rw [List.length_append, uc_length, List.append_assoc] at this
  rw [Nat.add_assoc] at this ⊢
  rw [this, List.length_append, uc_length, nb_length]
theorem delR_del (p t : List Bool) (n : Nat) (hn : n ≤ 1099511627776) : delR (p ++ (del n ++ t)) p.length = (n, p.length + (del n).length, 0) := by
  unfold delR del thenR
  have h40 := lg_lt_of n 41 (by omega)
  rw [List.append_assoc, gamR_gam p _ (lg n) (by omega), if_pos rfl]
  have := restR_nb (p ++ gam (lg n)) t n hn
  rw [List.length_append, List.append_assoc] at this
  rw [this, List.length_append, nb_length]
  congr 2
  omega
end
end Go.Proofs.Ytkbelhclcpepaaa
