/- The errors of runs, one by one, and what checkRuns answers. -/
import Derived.Test.YtfcmjjmlijidcaaJQSortI
import Derived.Test.YtfcmjjmlijidcaaJQRN3
import Derived.Deep.RegionHeld3
namespace Go.Proofs.Ytfcmjjmlijidcaa
section
set_option maxRecDepth 100000
set_option linter.unusedVariables false
open Go.RowKit Go.Shelf

/-- Cells of runs. -/
abbrev Ri := Int × Int
def rcs (r : List Ri) : List Value := r.flatMap fun p => [.int .i64 p.1, .int .i64 p.2]
theorem rcs_nil : rcs [] = [] := rfl
theorem rcs_cons (p : Ri) (r : List Ri) : rcs (p :: r) = .int .i64 p.1 :: .int .i64 p.2 :: rcs r := rfl
theorem rcs_append (a b : List Ri) : rcs (a ++ b) = rcs a ++ rcs b := by simp [rcs]
theorem rcs_length : ∀ r : List Ri, (rcs r).length = r.length * 2
  | [] => rfl
  | p :: r => by rw [rcs_cons]; simp [rcs_length r]; omega
theorem rcs_at : ∀ (r : List Ri) (i : Nat), i < r.length → (rcs r)[i * 2]? = some (.int .i64 (r[i]?.getD (0, 0)).1) ∧ (rcs r)[i * 2 + 1]? = some (.int .i64 (r[i]?.getD (0, 0)).2)
  | [], i, h => by simp at h
  | p :: r, 0, h => by rw [rcs_cons]; simp
  | p :: r, i + 1, h => by
    have := rcs_at r i (by simpa using h)
    rw [rcs_cons, show (i + 1) * 2 = i * 2 + 1 + 1 by omega]
    simpa using this
theorem rcs_one (r : List Ri) : ∀ u ∈ rcs r, u.oneCell' = true := by
  intro u hu
  simp only [rcs, List.mem_flatMap] at hu
  obtain ⟨x, _, hx⟩ := hu
  simp at hx
  rcases hx with rfl | rfl <;> rfl
theorem drop_atP (xs : List Ri) (i : Nat) (h : i < xs.length) : xs.drop i = xs[i]?.getD (0, 0) :: xs.drop (i + 1) := by
  rw [List.drop_eq_getElem_cons h, List.getElem?_eq_getElem h]; rfl

/-- The first error, each run asked with a number that the one before it left. -/
def eachP (f : Int → Ri → Int) (nx : Ri → Int) : Int → List Ri → Int
  | _, [] => 0
  | v, x :: t => if f v x = 0 then eachP f nx (nx x) t else f v x
theorem eachP_cons (f : Int → Ri → Int) (nx : Ri → Int) (v : Int) (x : Ri) (t : List Ri) : eachP f nx v (x :: t) = if f v x = 0 then eachP f nx (nx x) t else f v x := rfl
def EbxP (f : Int → Ri → Int) (nx : Ri → Int) (B : Nat) (v0 : Int) (xs : List Ri) (w : World) (p : Value) (wr : World) : Prop :=
  ∃ (i : Nat) (v : Int), i ≤ xs.length ∧ p = .int .i64 (i : Int) ∧ eachP f nx v0 xs = eachP f nx v (xs.drop i) ∧ wr.heap[B]? = some (.cells #[.int .i64 v] 3 (0, 0)) ∧ Below B w wr
set_option maxHeartbeats 1000000 in
theorem each_run (g : Nat) (B : Nat) (cb : Array Value) (f : Int → Ri → Int) (nx : Ri → Int) (xs : List Ri) (n : Nat) (hn : xs.length = n) (hn2 : n ≤ 9223372036854775807) (A : Option Addr) (c : Nat) (v0 : Int) (w : World) (h : RdV w B A (rcs xs)) (hb : w.heap[B]? = some (.cells #[.int .i64 v0] 3 (0, 0)))
    (eg : ∀ args w, (callFunc g args).run Try.prog w = .ok (.enter g args) w)
    (hg : ∀ (x : Ri) (v : Int) (V : World), V.heap[B]? = some (.cells #[.int .i64 v] 3 (0, 0)) → Calls Try.prog g (#[.agg #[.int .i64 x.1, .int .i64 x.2]] ++ cb) V fun e w' => e = .returned (.int .i64 (f v x)) ∧ Below B V w' ∧ (f v x = 0 → w'.heap[B]? = some (.cells #[.int .i64 (nx x)] 3 (0, 0)))) :
    Calls Try.prog 100 #[.slice A n c, .func (.func g) #[] cb] w fun e w' => e = .returned (.int .i64 (eachP f nx v0 xs)) ∧ Below B w w' := by
  have hBw : B < w.heap.size := (Array.getElem?_eq_some_iff.1 hb).1
  have HR := Lib.hid h; clear h
  have HN := Lib.hid hn; clear hn
  have HG := Lib.hid hg; clear hg
  have HB0 := Lib.hid hb; clear hb
  go_enter Try.func100, Try.ntmps100
  go_wp2
  go_loopw [10] (fun p wr => EbxP f nx B v0 xs w p wr) (fun p _ => n - (intOf p).toNat)
  case atStart => exact ⟨0, v0, Nat.zero_le _, rfl, rfl, HB0.out, Below.refl _ _⟩
  case round =>
    obtain ⟨i, v, hi, rfl, ht, hbox, hbel⟩ := hrel
    rw [HN.out] at hi
    by_cases hlt : i < n
    · have hin : i < xs.length := by rw [HN.out]; exact hlt
      have hR := HR.out.below hbel (Nat.le_refl _)
      obtain ⟨r0, r1⟩ := rcs_at xs i hin
      obtain ⟨b, off, rfl, hb, k0⟩ := hR.at_ r0
      obtain ⟨b2, off2, hA2, hb2, k1⟩ := hR.at_ r1
      simp only [Option.some.injEq, Addr.mk.injEq, and_true] at hA2
      obtain ⟨rfl, rfl⟩ := hA2
      rw [← Nat.add_assoc] at k1
      rw [drop_atP xs i hin, eachP_cons] at ht
      clear r0 r1 hR
      generalize xs[i]?.getD (0, 0) = x at *
      have hbox2 : (wr.alloc (.cells #[.int .i64 x.1, .int .i64 x.2] 89)).heap[B]? = some (.cells #[.int .i64 v] 3 (0, 0)) := (Below.heap_alloc _ _ _ (by have := hbel.size; omega)).trans hbox
      have HC := Lib.hid (HG.out x v _ hbox2)
      have HB : Hid (Below B w (wr.alloc (.cells #[.int .i64 x.1, .int .i64 x.2] 89))) := hbel.alloc (by have := hbel.size; omega) _
      clear hbel hbox hbox2
      obtain ⟨x1, x2⟩ := x
      simp only at k0 k1 HC HB
      by_cases hf : f v (x1, x2) = 0
      · rw [if_pos hf] at ht
        have HT := Lib.hid ht
        rw [hf] at HC
        clear hf ht
        go_wp2_with fail
        refine HC.out.mono ?_
        rintro e w1 ⟨rfl, b1, k1⟩
        have HB1 := Lib.hid b1; have HK1 := Lib.hid (k1 (by simp)); clear b1 k1
        go_wp2
        go_roundw
        case rel => exact ⟨i + 1, nx (x1, x2), by rw [HN.out]; omega, by go_num, HT.out, HK1.out, HB.out.trans HB1.out⟩
        case measure => simp [intOf]; omega
      · rw [if_neg hf] at ht
        have HE := Lib.hid ht
        have t0 : (f v (x1, x2) == 0) = false := by simpa using hf
        clear ht
        generalize f v (x1, x2) = y at *
        go_wp2_with fail
        refine HC.out.mono ?_
        rintro e w1 ⟨rfl, b1, -⟩
        have HB1 := Lib.hid b1; clear b1
        go_wp2
        go_ret
        exact ⟨ret_i64 HE.out.symm, HB.out.trans HB1.out⟩
    · have HT : Hid (eachP f nx v0 xs = 0) := by
        show _ = _
        rw [ht, List.drop_of_length_le (by rw [HN.out]; omega)]; rfl
      clear ht hbox
      have HB := Lib.hid hbel; clear hbel
      go_wp2
      go_ret
      exact ⟨ret_i64 HT.out.symm, HB.out⟩
end

section
set_option maxRecDepth 100000
set_option linter.unusedVariables false
open Go.RowKit Go.Shelf

theorem range4 (e : Int) (a b c d : Bool) (r : Int) (hr : rgE e [a, b, c, d] = r) (w : World) (B : Nat) (hB : w.heap.size = B) :
    Calls Try.prog 59 #[.int .i64 e, .slice (some ⟨B, 0, none⟩) 4 4] (w.alloc (.cells #[.bool a, .bool b, .bool c, .bool d] 4)) fun x w' => x = .returned (.int .i64 r) ∧ Below w.heap.size w w' :=
  hB ▸ range_on e [a, b, c, d] 4 rfl (by decide) r hr w
/-- What is asked of one run. -/
def rk1 (v : Int) (p : Ri) : Int := if p.1 < 0 ∨ 1048576 < p.1 ∨ p.2 < 1 ∨ 300 < p.2 ∨ 1048576 < p.1 + p.2 - 1 then 3 else if p.1 ≤ v then 4 else 0
def rkn (p : Ri) : Int := IntKind.i64.wrap (p.1 + p.2)
theorem rk_each : ∀ (xs : List Ri) (v : Int), eachP rk1 rkn v xs = rk v xs
  | [], _ => rfl
  | p :: t, v => by
    rw [eachP_cons]
    unfold rk1 rk
    by_cases h1 : p.1 < 0 ∨ 1048576 < p.1 ∨ p.2 < 1 ∨ 300 < p.2 ∨ 1048576 < p.1 + p.2 - 1
    · rw [if_pos h1, if_pos h1, if_neg (by omega)]
    · rw [if_neg h1, if_neg h1]
      by_cases h2 : p.1 ≤ v
      · rw [if_pos h2, if_pos h2, if_neg (by omega)]
      · rw [if_neg h2, if_neg h2, if_pos rfl]
        have : rkn p = p.1 + p.2 := IntWalk.i64_in _ (by omega)
        rw [this]
        exact rk_each t _
/-- The error of a run's numbers, as they are asked. -/
theorem rk1_rg (v : Int) (p : Ri) : rgE 0 [okN p.1, decide (1 ≤ p.2), decide (p.2 ≤ 300), okN (IntKind.i64.wrap (rkn p - 1))] = if p.1 < 0 ∨ 1048576 < p.1 ∨ p.2 < 1 ∨ 300 < p.2 ∨ 1048576 < p.1 + p.2 - 1 then 3 else 0 := by
  have key : ∀ b : Bool, rgE 0 [okN p.1, decide (1 ≤ p.2), decide (p.2 ≤ 300), b] = if (p.1 < 0 ∨ 1048576 < p.1 ∨ p.2 < 1 ∨ 300 < p.2) ∨ b = false then 3 else 0 := by
    intro b
    unfold rgE okN
    have : ((0 : Int) = 0 ∧ [decide (0 ≤ p.1 ∧ p.1 ≤ 1048576), decide (1 ≤ p.2), decide (p.2 ≤ 300), b].contains false = true) ↔ ((p.1 < 0 ∨ 1048576 < p.1 ∨ p.2 < 1 ∨ 300 < p.2) ∨ b = false) := by
      cases b <;> simp <;> omega
    by_cases h : ((p.1 < 0 ∨ 1048576 < p.1 ∨ p.2 < 1 ∨ 300 < p.2) ∨ b = false)
    · rw [if_pos h, if_pos (this.2 h)]
    · rw [if_neg h, if_neg (fun q => h (this.1 q))]
  rw [key]
  by_cases h0 : p.1 < 0 ∨ 1048576 < p.1 ∨ p.2 < 1 ∨ 300 < p.2
  · rw [if_pos (.inl h0), if_pos (by omega)]
  · have e1 : rkn p = p.1 + p.2 := IntWalk.i64_in _ (by omega)
    have e2 : IntKind.i64.wrap (rkn p - 1) = p.1 + p.2 - 1 := by rw [e1]; exact IntWalk.i64_in _ (by omega)
    rw [e2]
    by_cases h1 : 1048576 < p.1 + p.2 - 1
    · have : okN (p.1 + p.2 - 1) = false := by unfold okN; simp; omega
      rw [if_pos (.inr this), if_pos (by omega)]
    · have : okN (p.1 + p.2 - 1) = true := by unfold okN; simp; omega
      rw [this]
      have n1 : ¬ ((p.1 < 0 ∨ 1048576 < p.1 ∨ p.2 < 1 ∨ 300 < p.2) ∨ true = false) := by simp; omega
      have n2 : ¬ (p.1 < 0 ∨ 1048576 < p.1 ∨ p.2 < 1 ∨ 300 < p.2 ∨ 1048576 < p.1 + p.2 - 1) := by omega
      simp only [if_neg n1, if_neg n2]
theorem run_at {w V : World} {a b : Value} (h : Below (w.heap.size + 1) (w.alloc (.cells #[a, b] 89)) V) : V.cell? ⟨w.heap.size, 0, none⟩ = some a ∧ V.cell? ⟨w.heap.size, 1, none⟩ = some b := by
  have e := (h.block w.heap.size (by omega)).trans (World.alloc_heap_new w (.cells #[a, b] 89))
  exact ⟨(blk_cells e).1, (blk_cells e).2.1⟩
set_option maxHeartbeats 1000000 in
theorem runOne (x : Ri) (v : Int) (B : Nat) (w : World) (hb : w.heap[B]? = some (.cells #[.int .i64 v] 3 (0, 0))) :
    Calls Try.prog 101 (#[.agg #[.int .i64 x.1, .int .i64 x.2]] ++ #[.pointer (some ⟨B, 0, none⟩)]) w fun e w' => e = .returned (.int .i64 (rk1 v x)) ∧ Below B w w' ∧ (rk1 v x = 0 → w'.heap[B]? = some (.cells #[.int .i64 (rkn x)] 3 (0, 0))) := by
  show Calls Try.prog 101 #[.agg #[.int .i64 x.1, .int .i64 x.2], .pointer (some ⟨B, 0, none⟩)] w _
  have hBw : B < w.heap.size := (Array.getElem?_eq_some_iff.1 hb).1
  have hrg := rk1_rg v x
  have hk : rk1 v x = if (if x.1 < 0 ∨ 1048576 < x.1 ∨ x.2 < 1 ∨ 300 < x.2 ∨ 1048576 < x.1 + x.2 - 1 then (3 : Int) else 0) = 3 then 3 else if x.1 ≤ v then 4 else 0 := by
    unfold rk1
    by_cases h : x.1 < 0 ∨ 1048576 < x.1 ∨ x.2 < 1 ∨ 300 < x.2 ∨ 1048576 < x.1 + x.2 - 1
    · rw [if_pos h, if_pos h, if_pos rfl]
    · simp only [if_neg h]; simp
  have h03 : (if x.1 < 0 ∨ 1048576 < x.1 ∨ x.2 < 1 ∨ 300 < x.2 ∨ 1048576 < x.1 + x.2 - 1 then (3 : Int) else 0) = 3 ∨ (if x.1 < 0 ∨ 1048576 < x.1 ∨ x.2 < 1 ∨ 300 < x.2 ∨ 1048576 < x.1 + x.2 - 1 then (3 : Int) else 0) = 0 := by split <;> simp
  generalize (if x.1 < 0 ∨ 1048576 < x.1 ∨ x.2 < 1 ∨ 300 < x.2 ∨ 1048576 < x.1 + x.2 - 1 then (3 : Int) else 0) = rr at *
  rw [hk]
  clear hk
  obtain ⟨f, m⟩ := x
  simp only at *
  have hQ : (rr = 3 → (if rr = 3 then (3 : Int) else if f ≤ v then 4 else 0) = 3) ∧ (rr = 0 → f ≤ v → (if rr = 3 then (3 : Int) else if f ≤ v then 4 else 0) = 4) ∧ (rr = 0 → ¬ f ≤ v → (if rr = 3 then (3 : Int) else if f ≤ v then 4 else 0) = 0) := by
    refine ⟨fun h => by rw [if_pos h], fun h h2 => by rw [if_neg (by omega), if_pos h2], fun h h2 => by rw [if_neg (by omega), if_neg h2]⟩
  generalize (if rr = 3 then (3 : Int) else if f ≤ v then 4 else 0) = R0 at *
  have HQ := Lib.hid hQ; clear hQ
  have tw1 : IntKind.i64.wrap (f + m) = rkn (f, m) := rfl
  generalize rkn (f, m) = u at *
  generalize tw2 : IntKind.i64.wrap (u - 1) = u2 at *
  have HN1 := Lib.hid (node_any f)
  have HN2 := Lib.hid (node_any u2)
  generalize okN f = o1 at *
  generalize okN u2 = o2 at *
  have HR := Lib.hid (range4 0 o1 (decide (1 ≤ m)) (decide (m ≤ 300)) o2 rr hrg)
  have HBox := Lib.hid hb
  clear hrg hb
  go_enter Try.func101, Try.ntmps101
  go_wp2_with fail
  generalize hV : w.alloc (.cells #[.int .i64 f, .int .i64 m] 89) = V0
  have HV : Hid (Below w.heap.size w V0) := hV ▸ one_below _ _
  have HK : Hid (∀ w' : World, Below V0.heap.size V0 w' → w'.cell? ⟨w.heap.size, 0, none⟩ = some (.int .i64 f) ∧ w'.cell? ⟨w.heap.size, 1, none⟩ = some (.int .i64 m)) := by
    subst hV
    exact fun w' h => run_at (by rwa [World.size_alloc] at h)
  clear hV
  go_region_held3 (fun w' => w'.cell? ⟨w.heap.size, 0, none⟩ = some (.int .i64 f) ∧ w'.cell? ⟨w.heap.size, 1, none⟩ = some (.int .i64 m))
    ((refine HK.out _ ?_; first | exact hk2.out | exact hk1.out.trans ((one_below _ _).mono hk1.out.size) | exact hk1.out | exact (Below.refl _ _).drew))
    (first
      | (go_at_call 59; have hx := hk1.out; refine (HR.out w1 _ rfl).mono ?_; rintro e w2 ⟨rfl, B2⟩; have hk2 : Hid (Below V0.heap.size V0 w2) := hx.trans (B2.mono hx.size); clear B2 hx)
      | (go_at_call 60; have hx := hk1.out; refine (HN2.out w1).mono ?_; rintro e _ ⟨rfl, rfl⟩; clear hx)
      | (go_at_call 60; refine (HN1.out V0.drew).mono ?_; rintro e w1 ⟨rfl, hw1⟩; have hk1 : Hid (Below V0.heap.size V0 w1) := hw1 ▸ (Below.refl _ V0).drew; clear hw1))
  obtain ⟨p1, q1⟩ := HK.out w2 hk2.out
  have HB2 : Hid (Below w.heap.size w w2) := HV.out.trans (hk2.out.mono HV.out.size)
  have hb2 := (HB2.out.block B hBw).trans HBox.out
  have c2 : w2.cell? ⟨B, 0, none⟩ = some (.int .i64 v) := (cell_at hb2 _).trans rfl
  have f2 := frz_at hb2 0
  have HX : Hid ((w2.setCell ⟨B, 0, none⟩ (.int .i64 u)).heap[B]? = some (.cells #[.int .i64 u] 3 (0, 0))) := by
    show _ = _
    rw [heap_set_same _ _ _ _ _ _ hb2]; simp
  clear HK hk1 hk2 hb2 HN1 HN2 HR
  rcases h03 with rfl | rfl
  · have HE := Lib.hid (HQ.out.1 rfl)
    clear HQ
    go_wp2
    go_ret
    exact ⟨ret_i64 HE.out.symm, HB2.out.mono (by omega), fun h => by have := HE.out; omega⟩
  · by_cases hv : f ≤ v
    · have HE := Lib.hid (HQ.out.2.1 rfl hv)
      have t0 : decide (f ≤ v) = true := by simpa using hv
      clear hv HQ
      go_wp2
      go_ret
      exact ⟨ret_i64 HE.out.symm, HB2.out.mono (by omega), fun h => by have := HE.out; omega⟩
    · have HE := Lib.hid (HQ.out.2.2 rfl (by omega))
      have t0 : decide (f ≤ v) = false := by simpa using hv
      clear hv HQ
      go_wp2
      go_ret
      exact ⟨ret_i64 HE.out.symm, (HB2.out.mono (show B ≤ w.heap.size by omega)).setCell (p := ⟨B, 0, none⟩) (Nat.le_refl _) _, fun _ => HX.out⟩
theorem entersRun1 : ∀ args w, (callFunc 101 args).run Try.prog w = .ok (.enter 101 args) w := enters_of Try.func101 (by kernel_rfl) rfl
set_option maxHeartbeats 400000 in
theorem rnck_any (xs : List Ri) (n : Nat) (hn : xs.length = n) (hn2 : n ≤ 9223372036854775807) (A : Option Addr) (c : Nat) (w : World) (h : RdV w w.heap.size A (rcs xs)) :
    Calls Try.prog 75 #[.slice A n c] w fun e w' => e = .returned (.int .i64 (rkchk xs)) ∧ Below w.heap.size w w' := by
  unfold rkchk
  rw [hn]
  by_cases h300 : 300 < n
  · rw [if_pos h300]
    go_enter Try.func75, Try.ntmps75
    go_wp2
    go_ret
    exact ⟨rfl, Below.refl _ _⟩
  · rw [if_neg h300]
    have HC : Hid (∀ V, Below w.heap.size w V → V.heap[w.heap.size]? = some (.cells #[.int .i64 (-1)] 3 (0, 0)) → Calls Try.prog 100 #[.slice A n c, .func (.func 101) #[] #[.pointer (some ⟨w.heap.size, 0, none⟩)]] V fun e w' => e = .returned (.int .i64 (rk (-1) xs)) ∧ Below w.heap.size V w') := by
      intro V hV hb
      rw [← rk_each]
      exact each_run 101 w.heap.size #[.pointer (some ⟨w.heap.size, 0, none⟩)] rk1 rkn xs n hn hn2 A c (-1) V (h.below hV (Nat.le_refl _)) hb entersRun1 (fun x v V hV => runOne x v w.heap.size V hV)
    generalize rk (-1) xs = r at *
    have hnew := World.alloc_heap_new w (.cells #[.int .i64 (-1)] 3)
    have HA : Hid (Below w.heap.size w (w.alloc (.cells #[.int .i64 (-1)] 3))) := one_below w _
    have HNw := Lib.hid hnew
    clear hn h hnew
    go_enter Try.func75, Try.ntmps75
    go_wp2_with fail
    refine (HC.out _ HA.out HNw.out).mono ?_
    rintro e w1 ⟨rfl, B1⟩
    have HB1 := Lib.hid (HA.out.trans B1); clear B1
    go_wp2
    go_ret
    exact ⟨rfl, HB1.out⟩
end
end Go.Proofs.Ytfcmjjmlijidcaa
