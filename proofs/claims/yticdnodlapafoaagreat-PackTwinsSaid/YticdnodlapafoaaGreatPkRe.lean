/- Are bits the same; are they those that are written for a graph; what a packed graph must be; Read. -/
import Derived.Test.YticdnodlapafoaaGreatPkUp
import Derived.Test.YticdnodlapafoaaGreatJSSEq
namespace Go.Proofs.YticdnodlapafoaaGreat
set_option maxRecDepth 100000
set_option linter.unusedVariables false
open Go.RowKit Go.Shelf

theorem bits2 (w : World) (l1 l2 : Int) (A1 A2 : Option Addr) (n1 c1 n2 c2 : Nat) : ∃ w2, (w.alloc (.cells #[.int .i64 l1, .slice A1 n1 c1] 27)).alloc (.cells #[.int .i64 l2, .slice A2 n2 c2] 27) = w2 ∧ Below w.heap.size w w2 ∧
    (w2.cell? ⟨w.heap.size, 0, none⟩ = some (.int .i64 l1) ∧ w2.cell? ⟨w.heap.size, 1, none⟩ = some (.slice A1 n1 c1)) ∧ (w2.cell? ⟨w.heap.size + 1, 0, none⟩ = some (.int .i64 l2) ∧ w2.cell? ⟨w.heap.size + 1, 1, none⟩ = some (.slice A2 n2 c2)) := by
  have h1 := World.alloc_heap_new w (.cells #[.int .i64 l1, .slice A1 n1 c1] 27)
  have h2 := World.alloc_heap_new (w.alloc (.cells #[.int .i64 l1, .slice A1 n1 c1] 27)) (.cells #[.int .i64 l2, .slice A2 n2 c2] 27)
  have b1 := one_below w (.cells #[.int .i64 l1, .slice A1 n1 c1] 27)
  have b2 := one_below (w.alloc (.cells #[.int .i64 l1, .slice A1 n1 c1] 27)) (.cells #[.int .i64 l2, .slice A2 n2 c2] 27)
  rw [World.size_alloc] at h2 b2
  have h1' := (b2.block _ (by omega)).trans h1
  exact ⟨_, rfl, b1.trans (b2.mono (by omega)), ⟨(cell_at h1' 0).trans rfl, (cell_at h1' 1).trans rfl⟩, ⟨(cell_at h2 0).trans rfl, (cell_at h2 1).trans rfl⟩⟩
set_option maxHeartbeats 4000000 in
theorem csame_any (l1 l2 : Int) (b1 b2 : List Nat) (n1 n2 : Nat) (h1 : b1.length = n1) (h2 : b2.length = n2) (hb1 : ∀ x ∈ b1, x < 256) (hb2 : ∀ x ∈ b2, x < 256) (A1 A2 : Option Addr) (c1 c2 : Nat) (w : World) (r1 : Rd w w.heap.size A1 b1) (r2 : Rd w w.heap.size A2 b2) :
    Calls Tryz.prog 95 #[.agg #[.int .i64 l1, .slice A1 n1 c1], .agg #[.int .i64 l2, .slice A2 n2 c2]] w fun e w' => e = .returned (.bool (decide (l1 = l2) && decide (b1 = b2))) ∧ Below w.heap.size w w' := by
  obtain ⟨w2, ew, hb, ⟨p1, p2⟩, p3, p4⟩ := bits2 w l1 l2 A1 A2 n1 c1 n2 c2
  have HB := Lib.hid hb
  have HE := Lib.hid (beq_any b1 b2 n1 n2 h1 h2 hb1 hb2 A1 A2 c1 c2 w2 w2.heap.size w2.heap.size (r1.on hb) (r2.on hb))
  clear hb h1 h2 hb1 hb2 r1 r2
  by_cases hl : l1 = l2
  · have t1 : (l1 == l2) = true := by simpa using hl
    rw [decide_eq_true hl, Bool.true_and]
    clear hl
    generalize decide (b1 = b2) = q at *
    go_enter Tryz.func95, Tryz.ntmps95
    go_wp2_with fail
    try rw [ew]
    refine HE.out.mono ?_
    rintro e w3 ⟨rfl, hw⟩
    subst hw
    clear ew
    go_wp2
    go_ret
    exact ⟨rfl, HB.out⟩
  · have t1 : (l1 == l2) = false := by simpa using hl
    rw [decide_eq_false hl, Bool.false_and]
    clear hl HE
    go_enter Tryz.func95, Tryz.ntmps95
    go_wp2
    try rw [ew]
    go_ret
    exact ⟨rfl, by first | exact HB.out | (rw [ew]; exact HB.out)⟩
/-- What is wrong with a packed graph. -/
def pkdE (N B ls k len : Int) (bs : List Nat) : Int := if rgE 0 [decide (0 ≤ N), decide (N ≤ 100)] ≠ 0 then rgE 0 [decide (0 ≤ N), decide (N ≤ 100)] else if hck B ls k ≠ 0 then hck B ls k else chk len bs
set_option maxHeartbeats 4000000 in
theorem ckp_any (N B ls k len : Int) (bs : List Nat) (n : Nat) (hn : bs.length = n) (hbs : ∀ x ∈ bs, x < 256) (A : Option Addr) (c : Nat) (w : World) (h : Rd w w.heap.size A bs) :
    Calls Tryz.prog 64 #[.agg #[.int .i64 N, .int .i64 B, .int .i64 ls, .int .i64 k, .int .i64 len, .slice A n c]] w fun e w' => e = .returned (.int .i64 (pkdE N B ls k len bs)) ∧ Below w.heap.size w w' := by
  obtain ⟨w1, ew1, hb1, hs1, hk1⟩ := pbox w (.int .i64 N) (.int .i64 B) (.int .i64 ls) (.int .i64 k) (.int .i64 len) (.slice A n c)
  have HB1 := Lib.hid hb1
  have HK : Hid (∀ V, Below w1.heap.size w1 V → V.cell? ⟨w.heap.size, 0, none⟩ = some (.int .i64 N) ∧ (V.cell? ⟨w.heap.size, 1, none⟩ = some (.int .i64 B) ∧ V.cell? ⟨w.heap.size, 2, none⟩ = some (.int .i64 ls) ∧ V.cell? ⟨w.heap.size, 3, none⟩ = some (.int .i64 k)) ∧ V.cell? ⟨w.heap.size, 4, none⟩ = some (.int .i64 len) ∧ V.cell? ⟨w.heap.size, 5, none⟩ = some (.slice A n c)) := fun V hV => ⟨(cell_at (hk1 V hV) 0).trans rfl, six_at (hk1 V hV)⟩
  have HRg := Lib.hid (range2 0 (decide (0 ≤ N)) (decide (N ≤ 100)) _ rfl)
  have HSc := Lib.hid (scheck_any B ls k)
  have HCk : Hid (∀ V, Below w.heap.size w V → Calls Tryz.prog 46 #[.agg #[.int .i64 len, .slice A n c]] V fun e w' => e = .returned (.int .i64 (chk len bs)) ∧ Below V.heap.size V w') := fun V hV => by rw [← hn]; exact check_any len A c bs V hbs (h.on hV)
  obtain ⟨c0, ⟨c1, c2, c3⟩, c4, c5⟩ := HK.out w1 (Below.refl _ _)
  unfold pkdE
  generalize rgE 0 [decide (0 ≤ N), decide (N ≤ 100)] = e1 at *
  generalize hck B ls k = e2 at *
  generalize chk len bs = e3 at *
  obtain ⟨r, hr⟩ : ∃ r, (if e1 ≠ 0 then e1 else if e2 ≠ 0 then e2 else e3) = r := ⟨_, rfl⟩
  rw [hr]
  have HR := Lib.hid hr
  obtain ⟨q1, hq1⟩ : ∃ q1, decide (0 ≤ N) = q1 := ⟨_, rfl⟩
  obtain ⟨q2, hq2⟩ : ∃ q2, decide (N ≤ 100) = q2 := ⟨_, rfl⟩
  rw [hq1, hq2] at HRg
  clear hr hb1 hs1 hk1 h hn hbs
  go_enter Tryz.func64, Tryz.ntmps64
  go_wp2_with fail
  try rw [ew1]
  refine (HRg.out w1 _ rfl).mono ?_
  rintro e w2 ⟨rfl, q2'⟩
  have HB2 := Lib.hid q2'
  clear q2' ew1 c0 c1 c2 c3 c4 c5 hq1 hq2
  by_cases h1 : e1 = 0
  · subst h1
    obtain ⟨c0, ⟨c1, c2, c3⟩, c4, c5⟩ := HK.out w2 HB2.out
    go_wp2_with fail
    refine (HSc.out w2).mono ?_
    rintro e w3 ⟨rfl, q3⟩
    have HB3 : Hid (Below w1.heap.size w1 w3) := HB2.out.trans (q3.mono HB2.out.size)
    clear q3 c0 c1 c2 c3 c4 c5
    by_cases h2 : e2 = 0
    · subst h2
      obtain ⟨c0, ⟨c1, c2, c3⟩, c4, c5⟩ := HK.out w3 HB3.out
      go_wp2_with fail
      refine (HCk.out w3 (HB1.out.trans (HB3.out.mono HB1.out.size))).mono ?_
      rintro e w4 ⟨rfl, q4⟩
      have HB4 := Lib.hid (HB3.out.trans (q4.mono HB3.out.size))
      have he : e3 = r := by rw [← HR.out]; simp
      have HE := Lib.hid he
      clear q4 he c0 c1 c2 c3 c4 c5 HR
      go_wp2
      go_ret
      exact ⟨ret_i64 HE.out, HB1.out.trans (HB4.out.mono HB1.out.size)⟩
    · have t : (e2 != 0) = true := by simpa using h2
      have he : e2 = r := by rw [← HR.out]; simp [h2]
      have HE := Lib.hid he
      clear he h2 HR
      go_wp2
      go_ret
      exact ⟨ret_i64 HE.out, HB1.out.trans (HB3.out.mono HB1.out.size)⟩
  · have t : (e1 != 0) = true := by simpa using h1
    have he : e1 = r := by rw [← HR.out]; simp [h1]
    have HE := Lib.hid he
    clear he h1 HR
    go_wp2
    go_ret
    exact ⟨ret_i64 HE.out, HB1.out.trans (HB2.out.mono HB1.out.size)⟩
theorem pd_new (w2 : World) (vs : List Value) (hl : vs.length = 6) : ∃ X, (w2.alloc (.cells #[.int .i64 0, .int .i64 0, .int .i64 0, .int .i64 0, .int .i64 0, .slice none 0 0] 54)).setCells w2.heap.size 0 vs = X ∧ (w2.alloc (.cells #[.int .i64 0, .int .i64 0, .int .i64 0, .int .i64 0, .int .i64 0, .slice none 0 0] 54)).there w2.heap.size 0 6 ∧ X.heap[w2.heap.size]? = some (.cells vs.toArray 54 (0, 0)) ∧ Below w2.heap.size w2 X ∧ w2.heap.size < X.heap.size := by
  have hz := World.alloc_heap_new w2 (.cells #[.int .i64 0, .int .i64 0, .int .i64 0, .int .i64 0, .int .i64 0, .slice none 0 0] 54)
  obtain ⟨h8, -, hs, hb⟩ := stored_all vs hz (by rw [hl]; rfl)
  exact ⟨_, rfl, there_all hz rfl, h8, (one_below w2 _).trans (hb _ (Nat.le_refl _)), by rw [hs, World.size_alloc]; omega⟩
theorem isf_at (w : World) (a b c d e f : Value) (g : Value) : ∃ w2, (w.alloc (.cells #[a, b, c, d, e, f] 54)).alloc (.cells #[g] 52) = w2 ∧ Below w.heap.size w w2 ∧ w2.heap.size = w.heap.size + 2 ∧ (∀ V, Below w2.heap.size w2 V → V.heap[w.heap.size]? = some (.cells #[a, b, c, d, e, f] 54 (0, 0))) ∧ w2.heap[w.heap.size + 1]? = some (.cells #[g] 52 (0, 0)) := by
  have h1 := World.alloc_heap_new w (.cells #[a, b, c, d, e, f] 54)
  have h2 := World.alloc_heap_new (w.alloc (.cells #[a, b, c, d, e, f] 54)) (.cells #[g] 52)
  have b1 := one_below w (.cells #[a, b, c, d, e, f] 54)
  have b2 := one_below (w.alloc (.cells #[a, b, c, d, e, f] 54)) (.cells #[g] 52)
  rw [World.size_alloc] at h2 b2
  exact ⟨_, rfl, b1.trans (b2.mono (by omega)), by simp [World.size_alloc], fun V hV => (hV.block _ (by simp [World.size_alloc]; omega)).trans ((b2.block _ (by omega)).trans h1), h2⟩
set_option maxHeartbeats 8000000 in
theorem isfor_l (N B ls k len : Int) (n c : Nat) (A : Option Addr) (NG cG : Nat) (AG : Option Addr) (N' B' ls' k' len' : Int) (n' : Nat) (bs' : List Nat) (er : Int) (q q' : Bool) (hq' : (decide (er = 0) && q) = q') (w : World)
    (HW : Hid (∀ V, Below w.heap.size w V → Calls Tryz.prog 30 #[.agg #[.slice AG NG cG], .agg #[.int .i64 B, .int .i64 ls, .int .i64 k]] V (PwP V N' B' ls' k' len' n' bs' er)))
    (HS : Hid (∀ A' c' V, Below w.heap.size w V → Rd V V.heap.size A' bs' → Calls Tryz.prog 95 #[.agg #[.int .i64 len', .slice A' n' c'], .agg #[.int .i64 len, .slice A n c]] V fun e w' => e = .returned (.bool q) ∧ Below V.heap.size V w')) :
    Calls Tryz.prog 66 #[.agg #[.int .i64 N, .int .i64 B, .int .i64 ls, .int .i64 k, .int .i64 len, .slice A n c], .agg #[.slice AG NG cG]] w fun e w' => e = .returned (.bool q') ∧ Below w.heap.size w w' := by
  have HQ := Lib.hid hq'
  clear hq'
  obtain ⟨w1, ew1, hb1, hs1, hk1, hg1⟩ := isf_at w (.int .i64 N) (.int .i64 B) (.int .i64 ls) (.int .i64 k) (.int .i64 len) (.slice A n c) (.slice AG NG cG)
  have k0 := box_cell hg1
  obtain ⟨⟨c1, c2, c3⟩, c4, c5⟩ := six_at (hk1 w1 (Below.refl _ _))
  have HB1 := Lib.hid hb1
  have HK := Lib.hid hk1
  clear hb1 hs1 hk1 hg1
  go_enter Tryz.func66, Tryz.ntmps66
  go_wp2_with fail
  try rw [ew1]
  refine (HW.out w1 HB1.out).mono ?_
  rintro e w2 ⟨A', c', rfl, r2, q2⟩
  obtain ⟨X, hX, hth, hx, hbX, hzX⟩ := pd_new w2 [.int .i64 N', .int .i64 B', .int .i64 ls', .int .i64 k', .int .i64 len', .slice A' n' c'] rfl
  have HB2 : Hid (Below w1.heap.size w1 X) := q2.trans (hbX.mono q2.size)
  have HLw : Hid (Below w.heap.size w X) := HB1.out.trans (HB2.out.mono HB1.out.size)
  have HRx := Lib.hid (r2.on hbX)
  have y4 : X.cell? ⟨w2.heap.size, 4, none⟩ = some (.int .i64 len') := (cell_at hx 4).trans rfl
  have y5 : X.cell? ⟨w2.heap.size, 5, none⟩ = some (.slice A' n' c') := (cell_at hx 5).trans rfl
  clear q2 r2 ew1 k0 c1 c2 c3 c4 c5 hx hbX hzX
  obtain ⟨-, c4, c5⟩ := six_at (HK.out X HB2.out)
  by_cases he : er = 0
  · subst he
    go_wp2_with (refine wpList_store_mid rfl 54 _ _ rfl w2.heap.size 0 #[.int .i64 N', .int .i64 B', .int .i64 ls', .int .i64 k', .int .i64 len', .slice A' n' c'] rfl rfl hth info_pd (by simp [Value.oneCell']) ?_; rw [hX]; clear hX hth)
    refine (HS.out A' c' X HLw.out HRx.out).mono ?_
    rintro e w3 ⟨rfl, q3⟩
    have HB3 := Lib.hid q3
    have HE : Hid (q = q') := by have h := HQ.out; simp at h; exact Lib.hid h
    clear q3 y4 y5 c4 c5
    go_wp2
    go_ret
    exact ⟨ret_bool HE.out, HLw.out.trans (HB3.out.mono HLw.out.size)⟩
  · have t : (er == 0) = false := by simpa using he
    have HE : Hid (false = q') := by have h := HQ.out; rw [decide_eq_false he, Bool.false_and] at h; exact Lib.hid h
    clear he HS
    go_wp2_with (refine wpList_store_mid rfl 54 _ _ rfl w2.heap.size 0 #[.int .i64 N', .int .i64 B', .int .i64 ls', .int .i64 k', .int .i64 len', .slice A' n' c'] rfl rfl hth info_pd (by simp [Value.oneCell']) ?_; rw [hX]; clear hX hth)
    go_ret
    exact ⟨ret_bool HE.out, HLw.out⟩
end Go.Proofs.YticdnodlapafoaaGreat
