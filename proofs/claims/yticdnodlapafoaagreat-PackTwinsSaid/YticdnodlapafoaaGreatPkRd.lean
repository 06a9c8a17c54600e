/- How the bits of one node are read: by which one its list is told (entry.readBack), and the list (entry.Read): just rdN. -/
import Derived.Test.YticdnodlapafoaaGreatPkWr
import Derived.Test.YticdnodlapafoaaGreatJSNRead
namespace Go.Proofs.YticdnodlapafoaaGreat
set_option maxRecDepth 100000
set_option linter.unusedVariables false
open Go.RowKit Go.Shelf

def rbV (L : List Bool) (B i s : Nat) : Nat × Nat × Int :=
  if B = 0 then (0, s, 0) else if (gamR L s).2.2 = 0 ∧ (gamR L s).1 ≤ min B i then ((gamR L s).1, (gamR L s).2.1, 0) else (0, 0, if (gamR L s).2.2 = 0 then 3 else (gamR L s).2.2)
def RbP (w : World) (r s : Nat) (er : Int) (e : Ending) (w' : World) : Prop := e = .returned (.tuple #[.int .i64 (r : Int), .int .i64 (s : Int), .int .i64 er]) ∧ Below w.heap.size w w'
theorem six_at {w V : World} {a b c d e f : Value} (h : V.heap[w.heap.size]? = some (.cells #[a, b, c, d, e, f] 54 (0, 0))) :
    (V.cell? ⟨w.heap.size, 1, none⟩ = some b ∧ V.cell? ⟨w.heap.size, 2, none⟩ = some c ∧ V.cell? ⟨w.heap.size, 3, none⟩ = some d) ∧ V.cell? ⟨w.heap.size, 4, none⟩ = some e ∧ V.cell? ⟨w.heap.size, 5, none⟩ = some f :=
  ⟨⟨(cell_at h 1).trans rfl, (cell_at h 2).trans rfl, (cell_at h 3).trans rfl⟩, (cell_at h 4).trans rfl, (cell_at h 5).trans rfl⟩
set_option maxHeartbeats 4000000 in
theorem rb_zero (N ls k len : Int) (n c : Nat) (A : Option Addr) (s i : Nat) (w : World) :
    Calls Tryz.prog 146 #[.agg #[.int .i64 N, .int .i64 0, .int .i64 ls, .int .i64 k, .int .i64 len, .slice A n c], .int .i64 (s : Int), .int .i64 (i : Int)] w (RbP w 0 s 0) := by
  have hb := World.alloc_heap_new w (.cells #[.int .i64 N, .int .i64 0, .int .i64 ls, .int .i64 k, .int .i64 len, .slice A n c] 54)
  have c1 := (cell_at hb 1).trans rfl
  simp only [List.getElem?_toArray, List.getElem?_cons_zero, List.getElem?_cons_succ] at c1
  clear hb
  go_enter Tryz.func146, Tryz.ntmps146
  go_wp2
  go_ret3
  exact ⟨rfl, one_below _ _⟩
set_option maxHeartbeats 4000000 in
theorem rb_l (N ls k len : Int) (B n c : Nat) (A : Option Addr) (s i m : Nat) (hB : B ≤ 7) (t0 : ((B : Int) == 0) = false) (hm : min B i = m) (v to : Nat) (hv : v ≤ 1099511627776) (e0 r : Int) (q : Bool) (hq : decide (v ≤ m) = q) (hr : rgE e0 [q] = r) (v2 to2 : Nat) (hv2 : Hid (v2 = if r = 0 then v else 0)) (hto2 : Hid (to2 = if r = 0 then to else 0)) (w : World)
    (HG : Hid (∀ V, Below w.heap.size w V → Calls Tryz.prog 131 #[.agg #[.int .i64 len, .slice A n c], .int .i64 (s : Int)] V (ReadP V v to e0))) :
    Calls Tryz.prog 146 #[.agg #[.int .i64 N, .int .i64 (B : Int), .int .i64 ls, .int .i64 k, .int .i64 len, .slice A n c], .int .i64 (s : Int), .int .i64 (i : Int)] w (RbP w v2 to2 r) := by
  have hb := World.alloc_heap_new w (.cells #[.int .i64 N, .int .i64 (B : Int), .int .i64 ls, .int .i64 k, .int .i64 len, .slice A n c] 54)
  have hbel := one_below w (.cells #[.int .i64 N, .int .i64 (B : Int), .int .i64 ls, .int .i64 k, .int .i64 len, .slice A n c] 54)
  have hsz : (w.alloc (.cells #[.int .i64 N, .int .i64 (B : Int), .int .i64 ls, .int .i64 k, .int .i64 len, .slice A n c] 54)).heap.size = w.heap.size + 1 := World.size_alloc _ _
  obtain ⟨w1, ew1⟩ : ∃ w1, w.alloc (.cells #[.int .i64 N, .int .i64 (B : Int), .int .i64 ls, .int .i64 k, .int .i64 len, .slice A n c] 54) = w1 := ⟨_, rfl⟩
  rw [ew1] at hb hbel hsz
  have HK : Hid (∀ V, Below w1.heap.size w1 V → V.heap[w.heap.size]? = some (.cells #[.int .i64 N, .int .i64 (B : Int), .int .i64 ls, .int .i64 k, .int .i64 len, .slice A n c] 54 (0, 0))) := fun V hV => (hV.block _ (by omega)).trans hb
  have HB1 := Lib.hid hbel
  have HF : Hid (∀ V, Calls Tryz.prog 145 #[.agg #[.int .i64 (B : Int), .int .i64 ls, .int .i64 k], .int .i64 (i : Int)] V fun e w' => e = .returned (.int .i64 (m : Int)) ∧ Below V.heap.size V w') := fun V => by
    have := farthest_any (B : Int) ls k (i : Int) V
    rwa [show min (B : Int) (i : Int) = (m : Int) by omega] at this
  have hm7 : m ≤ 7 := by omega
  have t1 : IntKind.u64.wrap (m : Int) = (m : Int) := by rw [IntKind.wrap_u64]; omega
  have t2 : decide ((v : Int) ≤ (m : Int)) = q := by rw [← hq]; simp
  have HRg := Lib.hid (range1 e0 q r hr)
  have HR0 : Hid (r = 0 → v ≤ 7) := fun h => by
    have h1 : q = true := by
      cases q with
      | true => rfl
      | false =>
        rw [h] at hr
        unfold rgE at hr
        by_cases h2 : e0 = 0
        · rw [if_pos ⟨h2, by simp⟩] at hr; omega
        · rw [if_neg (fun x => h2 x.1)] at hr; exact absurd hr h2
    rw [h1] at hq
    have := of_decide_eq_true hq
    omega
  obtain ⟨⟨c1, c2, c3⟩, c4, c5⟩ := six_at hb
  have hB0 : ¬ B = 0 := by simpa using t0
  have hBi : ¬ (B : Int) = 0 := by omega
  clear hm hr hb hbel hsz
  go_enter Tryz.func146, Tryz.ntmps146
  go_wp2_with fail
  try rw [ew1]
  refine (HG.out w1 HB1.out).mono ?_
  rintro e w2 ⟨rfl, q2⟩
  have HB2 := Lib.hid q2
  clear q2 ew1 c1 c2 c3 c4 c5 t0
  obtain ⟨⟨c1, c2, c3⟩, c4, c5⟩ := six_at (HK.out w2 HB2.out)
  go_wp2_with fail
  refine (HF.out w2).mono ?_
  rintro e w3 ⟨rfl, q3⟩
  have HB3 : Hid (Below w1.heap.size w1 w3) := HB2.out.trans (q3.mono HB2.out.size)
  clear q3 c1 c2 c3 c4 c5
  go_wp2_with fail
  refine (HRg.out _ _ rfl).mono ?_
  rintro e w4 ⟨rfl, q4⟩
  have HB4 : Hid (Below w1.heap.size w1 w4) := HB3.out.trans (q4.mono HB3.out.size)
  clear q4 t1 t2 hq
  by_cases hr0 : r = 0
  · have hv7 := HR0.out hr0
    have e1 := hv2.out
    have e2 := hto2.out
    rw [if_pos hr0] at e1 e2
    subst hr0
    have HE := Lib.hid (And.intro e1 e2)
    clear e1 e2 HR0
    go_wp2
    go_ret3
    exact ⟨by { obtain ⟨h1, h2⟩ := HE.out; subst h1; subst h2; rfl }, HB1.out.trans (HB4.out.mono HB1.out.size)⟩
  · have t3 : (r != 0) = true := by simpa using hr0
    have e1 := hv2.out
    have e2 := hto2.out
    rw [if_neg hr0] at e1 e2
    have HE := Lib.hid (And.intro e1 e2)
    clear e1 e2 HR0 hr0
    go_wp2
    go_ret3
    exact ⟨by { obtain ⟨h1, h2⟩ := HE.out; subst h1; subst h2; rfl }, HB1.out.trans (HB4.out.mono HB1.out.size)⟩
theorem rb_ok (N ls k : Int) (B : Nat) (hB : B ≤ 7) (L : List Bool) (hL : L.length ≤ 8192) (c : Nat) (A : Option Addr) (s i : Nat) (hs : s ≤ L.length) (w : World) (h : Rd w w.heap.size A (pack L)) :
    Calls Tryz.prog 146 #[.agg #[.int .i64 N, .int .i64 (B : Int), .int .i64 ls, .int .i64 k, .int .i64 (L.length : Int), .slice A (pack L).length c], .int .i64 (s : Int), .int .i64 (i : Int)] w (RbP w (rbV L B i s).1 (rbV L B i s).2.1 (rbV L B i s).2.2) := by
  by_cases h0 : B = 0
  · subst h0
    exact rb_zero N ls k _ _ c A s i w
  · have hb := thenR_bound L (uR L s)
    have := rb_l N ls k (L.length : Int) B (pack L).length c A s i (min B i) hB (by simp; omega) rfl (gamR L s).1 (gamR L s).2.1 hb.2 (gamR L s).2.2 _ (decide ((gamR L s).1 ≤ min B i)) rfl rfl _ _ (Lib.hid rfl) (Lib.hid rfl) w (Lib.hid fun V hV => rgamma_l L hL A c s hs V (h.on hV))
    have e1 : rgE (gamR L s).2.2 [decide ((gamR L s).1 ≤ min B i)] = (rbV L B i s).2.2 := by
      unfold rbV rgE
      rw [if_neg h0]
      by_cases q1 : (gamR L s).2.2 = 0
      · by_cases q2 : (gamR L s).1 ≤ min B i
        · rw [if_neg (by rw [decide_eq_true q2]; simp), if_pos ⟨q1, q2⟩]; exact q1
        · rw [if_pos ⟨q1, by rw [decide_eq_false q2]; simp⟩, if_neg (fun x => q2 x.2), if_pos q1]
      · rw [if_neg (fun x => q1 x.1), if_neg (fun x => q1 x.1), if_neg q1]
    rw [e1] at this
    have e2 : (if (rbV L B i s).2.2 = 0 then (gamR L s).1 else 0) = (rbV L B i s).1 ∧ (if (rbV L B i s).2.2 = 0 then (gamR L s).2.1 else 0) = (rbV L B i s).2.1 := by
      unfold rbV
      rw [if_neg h0]
      by_cases q1 : (gamR L s).2.2 = 0 ∧ (gamR L s).1 ≤ min B i
      · rw [if_pos q1]; exact ⟨rfl, rfl⟩
      · rw [if_neg q1]
        have h3 : ¬ (if (gamR L s).2.2 = 0 then (3 : Int) else (gamR L s).2.2) = 0 := by split <;> omega
        rw [if_neg h3, if_neg h3]; exact ⟨rfl, rfl⟩
    rw [e2.1, e2.2] at this
    exact this
end Go.Proofs.YticdnodlapafoaaGreat
