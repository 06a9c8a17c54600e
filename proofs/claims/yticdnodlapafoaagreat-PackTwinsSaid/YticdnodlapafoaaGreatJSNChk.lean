/- The errors of the numbers of a list, each asked with what was before it; and what gaps.Check answers, for whatever list it is handed. -/
import Derived.Test.YticdnodlapafoaaGreatJSNMem
namespace Go.Proofs.YticdnodlapafoaaGreat
set_option maxRecDepth 100000
set_option linter.unusedVariables false
open Go.RowKit Go.Shelf

/-- The first error, each number asked with a number that the one before it left. -/
def eachS (f : Int → Int → Int) (nx : Int → Int) : Int → List Int → Int
  | _, [] => 0
  | v, x :: t => if f v x = 0 then eachS f nx (nx x) t else f v x
theorem eachS_cons (f : Int → Int → Int) (nx : Int → Int) (v x : Int) (t : List Int) : eachS f nx v (x :: t) = if f v x = 0 then eachS f nx (nx x) t else f v x := rfl
theorem drop_at (xs : List Int) (i : Nat) (h : i < xs.length) : xs.drop i = xs[i]?.getD 0 :: xs.drop (i + 1) := by
  rw [List.drop_eq_getElem_cons h, List.getElem?_eq_getElem h]; rfl
/-- At each round's head: what is left decides, and the box holds what was left. -/
def EbxRel (f : Int → Int → Int) (nx : Int → Int) (Pv : Int → Prop) (B : Nat) (v0 : Int) (xs : List Int) (w : World) (p : Value) (wr : World) : Prop :=
  ∃ (i : Nat) (v : Int), i ≤ xs.length ∧ p = .int .i64 (i : Int) ∧ eachS f nx v0 xs = eachS f nx v (xs.drop i) ∧ Pv v ∧ wr.heap[B]? = some (.cells #[.int .i64 v] 3 (0, 0)) ∧ Below B w wr

set_option maxHeartbeats 1000000 in
theorem each_box (g : Nat) (B : Nat) (cb : Array Value) (f : Int → Int → Int) (nx : Int → Int) (Pv : Int → Prop) (hPn : ∀ v x, Pv v → f v x = 0 → Pv (nx x)) (xs : List Int) (n : Nat) (hn : xs.length = n) (hn2 : n ≤ 9223372036854775807) (A : Option Addr) (c : Nat) (v0 : Int) (hP0 : Pv v0) (w : World) (h : RdV w B A (zc xs)) (hb : w.heap[B]? = some (.cells #[.int .i64 v0] 3 (0, 0)))
    (eg : ∀ args w, (callFunc g args).run Tryz.prog w = .ok (.enter g args) w)
    (hg : ∀ (x v : Int) (V : World), Pv v → Below B w V → V.heap[B]? = some (.cells #[.int .i64 v] 3 (0, 0)) → Calls Tryz.prog g (#[.int .i64 x] ++ cb) V fun e w' => e = .returned (.int .i64 (f v x)) ∧ Below B V w' ∧ (f v x = 0 → w'.heap[B]? = some (.cells #[.int .i64 (nx x)] 3 (0, 0)))) :
    Calls Tryz.prog 122 #[.slice A n c, .func (.func g) #[] cb] w fun e w' => e = .returned (.int .i64 (eachS f nx v0 xs)) ∧ Below B w w' := by
  have HR := Lib.hid h; clear h
  have HN := Lib.hid hn; clear hn
  have HG := Lib.hid hg; clear hg
  have HB0 := Lib.hid hb; clear hb
  have HP0 := Lib.hid hP0; clear hP0
  have HPn := Lib.hid hPn; clear hPn
  go_enter Tryz.func122, Tryz.ntmps122
  go_wp2
  go_loopw [10] (fun p wr => EbxRel f nx Pv B v0 xs w p wr) (fun p _ => n - (intOf p).toNat)
  case atStart => exact ⟨0, v0, Nat.zero_le _, rfl, rfl, HP0.out, HB0.out, Below.refl _ _⟩
  case round =>
    obtain ⟨i, v, hi, rfl, ht, hpv, hbox, hbel⟩ := hrel
    rw [HN.out] at hi
    by_cases hlt : i < n
    · have hin : i < xs.length := by rw [HN.out]; exact hlt
      have hR := HR.out.below hbel (Nat.le_refl _)
      obtain ⟨b, off, rfl, hb, hc⟩ := hR.at_ (zc_get xs i hin)
      rw [drop_at xs i hin, eachS_cons] at ht
      generalize xs[i]?.getD 0 = x at *
      have HC := Lib.hid (HG.out x v wr hpv hbel hbox)
      have HPV := Lib.hid (HPn.out v x hpv); clear hpv
      have HB := Lib.hid hbel; clear hbel hR hbox
      by_cases hf : f v x = 0
      · rw [if_pos hf] at ht
        have HT := Lib.hid ht
        rw [hf] at HC
        have HPV2 := Lib.hid (HPV.out hf)
        clear hf ht
        go_wp2_with fail
        refine HC.out.mono ?_
        rintro e w1 ⟨rfl, b1, k1⟩
        have HB1 := Lib.hid b1; have HK1 := Lib.hid (k1 (by simp)); clear b1 k1
        go_wp2
        go_roundw
        case rel => exact ⟨i + 1, nx x, by rw [HN.out]; omega, by go_num, HT.out, HPV2.out, HK1.out, HB.out.trans HB1.out⟩
        case measure => simp [intOf]; omega
      · rw [if_neg hf] at ht
        have HE := Lib.hid ht
        have t0 : (f v x == 0) = false := by simpa using hf
        clear ht
        generalize f v x = y at *
        go_wp2_with fail
        refine HC.out.mono ?_
        rintro e w1 ⟨rfl, b1, -⟩
        have HB1 := Lib.hid b1; clear b1
        go_wp2
        go_ret
        exact ⟨ret_i64 HE.out.symm, HB.out.trans HB1.out⟩
    · have HT : Hid (eachS f nx v0 xs = 0) := by
        show _ = _
        rw [ht, List.drop_of_length_le (by rw [HN.out]; omega)]; rfl
      clear ht hbox hpv
      have HB := Lib.hid hbel; clear hbel
      go_wp2
      go_ret
      exact ⟨ret_i64 HT.out.symm, HB.out⟩

/-- Is a number from 0 to the greatest node? -/
def okN (n : Int) : Bool := decide (0 ≤ n ∧ n ≤ 1048576)
set_option maxHeartbeats 400000 in
theorem node_any (k : Int) (w : World) : Calls Tryz.prog 42 #[.int .i64 k] w fun e w' => e = .returned (.bool (okN k)) ∧ w = w' := by
  by_cases h1 : 0 ≤ k
  · by_cases h2 : k ≤ 1048576
    · have e : okN k = true := by unfold okN; simp; omega
      have t1 : decide ((0 : Int) ≤ k) = true := by simp; omega
      have t2 : decide (k ≤ 1048576) = true := by simp; omega
      rw [e]
      go_enter Tryz.func42, Tryz.ntmps42
      go_wp2
      go_ret
      exact ⟨rfl, rfl⟩
    · have e : okN k = false := by unfold okN; simp; omega
      have t1 : decide ((0 : Int) ≤ k) = true := by simp; omega
      have t2 : decide (k ≤ 1048576) = false := by simp; omega
      rw [e]
      go_enter Tryz.func42, Tryz.ntmps42
      go_wp2
      go_ret
      exact ⟨rfl, rfl⟩
  · have e : okN k = false := by unfold okN; simp; omega
    have t1 : decide ((0 : Int) ≤ k) = false := by simp; omega
    rw [e]
    go_enter Tryz.func42, Tryz.ntmps42
    go_wp2
    go_ret
    exact ⟨rfl, rfl⟩
theorem okN_nat (n : Nat) (h : n ≤ 1048576) : okN (n : Int) = true := by unfold okN; simp; omega
/-- What is asked of one number. -/
def ck1 (v x : Int) : Int := if okN x = false then 3 else if x ≤ v then 4 else 0
theorem ck1_eq (v x : Int) : ck1 v x = if x < 0 ∨ 1048576 < x then 3 else if x ≤ v then 4 else 0 := by
  unfold ck1
  by_cases h1 : x < 0 ∨ 1048576 < x
  · have : okN x = false := by unfold okN; simp; omega
    rw [if_pos this, if_pos h1]
  · have : okN x = true := by unfold okN; simp; omega
    rw [if_neg h1, this]; simp
theorem rck_each : ∀ (xs : List Int) (v : Int), eachS ck1 id v xs = rck v xs
  | [], _ => rfl
  | x :: t, v => by
    rw [eachS_cons, ck1_eq]
    unfold rck
    by_cases h1 : x < 0 ∨ 1048576 < x
    · rw [if_pos h1, if_pos h1, if_neg (by omega)]
    · rw [if_neg h1, if_neg h1]
      by_cases h2 : x ≤ v
      · rw [if_pos h2, if_pos h2, if_neg (by omega)]
      · rw [if_neg h2, if_neg h2, if_pos rfl]
        exact rck_each t x
/-- What is asked of one number, whichever may stand: so much more than the one ahead, or more. -/
def ckS (ok : Int → Bool) (st v x : Int) : Int := if ok x = false then 3 else if x < v + st then 4 else 0
/-- What is asked of one number of a list that rises. -/
def ckO (ok : Int → Bool) (v x : Int) : Int := if ok x = false then 3 else if x ≤ v then 4 else 0
theorem ckS_one (ok : Int → Bool) : ckS ok 1 = ckO ok := by
  funext v x
  unfold ckS ckO
  by_cases h1 : ok x = false
  · rw [if_pos h1, if_pos h1]
  · rw [if_neg h1, if_neg h1]
    by_cases h2 : x ≤ v
    · rw [if_pos h2, if_pos (by omega)]
    · rw [if_neg h2, if_neg (by omega)]
/-- Numbers that a step can be added to. -/
def Small (v : Int) : Prop := -1 ≤ v ∧ v ≤ 4611686018427387904
set_option maxHeartbeats 400000 in
theorem checkOne (g : Nat) (mc : Array Value) (ok : Int → Bool) (st x v : Int) (hst : 0 ≤ st ∧ st ≤ 1) (hv : Small v) (M B S : Nat) (w : World) (hM : w.heap[M]? = some (.cells #[.func (.func g) #[] mc] 75 (0, 0))) (hS : w.heap[S]? = some (.cells #[.int .i64 st] 3 (0, 0))) (hb : w.heap[B]? = some (.cells #[.int .i64 v] 3 (0, 0)))
    (eg : ∀ args w, (callFunc g args).run Tryz.prog w = .ok (.enter g args) w) (hg : Calls Tryz.prog g (#[.int .i64 x] ++ mc) w fun e w' => e = .returned (.bool (ok x)) ∧ w = w') :
    Calls Tryz.prog 123 (#[.int .i64 x] ++ #[.pointer (some ⟨M, 0, none⟩), .pointer (some ⟨B, 0, none⟩), .pointer (some ⟨S, 0, none⟩)]) w fun e w' => e = .returned (.int .i64 (ckS ok st v x)) ∧ Below B w w' ∧ (ckS ok st v x = 0 → w'.heap[B]? = some (.cells #[.int .i64 (id x)] 3 (0, 0))) := by
  show Calls Tryz.prog 123 #[.int .i64 x, .pointer (some ⟨M, 0, none⟩), .pointer (some ⟨B, 0, none⟩), .pointer (some ⟨S, 0, none⟩)] w _
  have HN := Lib.hid hg
  have hm : w.cell? ⟨M, 0, none⟩ = some (.func (.func g) #[] mc) := (cell_at hM _).trans rfl
  have hs : w.cell? ⟨S, 0, none⟩ = some (.int .i64 st) := (cell_at hS _).trans rfl
  have hc : w.cell? ⟨B, 0, none⟩ = some (.int .i64 v) := (cell_at hb _).trans rfl
  have hf := frz_at hb 0
  have HB := Lib.hid hb; clear hb hM hS hg
  have hw : wrap64 (v + st) = v + st := by obtain ⟨h1, h2⟩ := hv; unfold wrap64; omega
  unfold ckS
  clear hv
  by_cases h1 : ok x = false
  · rw [if_pos h1]
    rw [h1] at HN
    clear h1
    go_enter Tryz.func123, Tryz.ntmps123
    go_wp2_with fail
    refine HN.out.mono ?_
    rintro e w1 ⟨rfl, rfl⟩
    go_wp2
    go_ret
    exact ⟨rfl, Below.refl _ _, fun h => by cases h⟩
  · rw [if_neg h1]
    have h1' : ok x = true := by simpa using h1
    rw [h1'] at HN
    clear h1 h1'
    by_cases h2 : x < v + st
    · rw [if_pos h2]
      have t0 : decide (x < v + st) = true := by simpa using h2
      clear h2
      go_enter Tryz.func123, Tryz.ntmps123
      go_wp2_with fail
      refine HN.out.mono ?_
      rintro e w1 ⟨rfl, rfl⟩
      go_wp2
      go_ret
      exact ⟨rfl, Below.refl _ _, fun h => by cases h⟩
    · rw [if_neg h2]
      have t0 : decide (x < v + st) = false := by simpa using h2
      clear h2
      have HX : Hid ((w.setCell ⟨B, 0, none⟩ (.int .i64 x)).heap[B]? = some (.cells #[.int .i64 x] 3 (0, 0))) := by
        show _ = _
        rw [heap_set_same _ _ _ _ _ _ HB.out]; simp
      go_enter Tryz.func123, Tryz.ntmps123
      go_wp2_with fail
      refine HN.out.mono ?_
      rintro e w1 ⟨rfl, rfl⟩
      go_wp2
      go_ret
      exact ⟨rfl, (Below.refl _ _).setCell (p := ⟨B, 0, none⟩) (Nat.le_refl _) _, fun _ => HX.out⟩
theorem entersCheck1 : ∀ args w, (callFunc 123 args).run Tryz.prog w = .ok (.enter 123 args) w := enters_of Tryz.func123 (by kernel_rfl) rfl
theorem entersNode : ∀ args w, (callFunc 42 args).run Tryz.prog w = .ok (.enter 42 args) w := enters_of Tryz.func42 (by kernel_rfl) rfl
set_option maxHeartbeats 400000 in
/-- A list that rises by steps, of numbers that may stand. -/
theorem insteps_any (g : Nat) (mc : Array Value) (ok : Int → Bool) (hok : ∀ x, ok x = true → 0 ≤ x ∧ x ≤ 4611686018427387904) (st : Int) (hst : 0 ≤ st ∧ st ≤ 1) (xs : List Int) (n : Nat) (hn : xs.length = n) (hn2 : n ≤ 9223372036854775807) (A : Option Addr) (c : Nat) (w : World) (h : RdV w w.heap.size A (zc xs))
    (eg : ∀ args w, (callFunc g args).run Tryz.prog w = .ok (.enter g args) w) (hg : ∀ x V, Below w.heap.size w V → Calls Tryz.prog g (#[.int .i64 x] ++ mc) V fun e w' => e = .returned (.bool (ok x)) ∧ V = w') :
    Calls Tryz.prog 99 #[.slice A n c, .int .i64 st, .func (.func g) #[] mc] w fun e w' => e = .returned (.int .i64 (eachS (ckS ok st) id (-1) xs)) ∧ Below w.heap.size w w' := by
  obtain ⟨V0, hV0⟩ : ∃ V0, ((w.alloc (.cells #[.int .i64 st] 3)).alloc (.cells #[.func (.func g) #[] mc] 75)).alloc (.cells #[.int .i64 (-1)] 3) = V0 := ⟨_, rfl⟩
  have hs1 : (w.alloc (.cells #[.int .i64 st] 3)).heap.size = w.heap.size + 1 := World.size_alloc _ _
  have hs2 : ((w.alloc (.cells #[.int .i64 st] 3)).alloc (.cells #[.func (.func g) #[] mc] 75)).heap.size = w.heap.size + 1 + 1 := by rw [World.size_alloc, hs1]
  have hs : V0.heap.size = w.heap.size + 1 + 1 + 1 := by rw [← hV0, World.size_alloc, hs2]
  have hB0 : Below w.heap.size w V0 := hV0 ▸ (one_below w _).trans (((one_below _ _).mono (by omega)).trans ((one_below _ _).mono (by omega)))
  have hS0 : V0.heap[w.heap.size]? = some (.cells #[.int .i64 st] 3 (0, 0)) := by
    rw [← hV0, (one_below _ _).block _ (by omega), (one_below _ _).block _ (by omega)]; exact World.alloc_heap_new w _
  have hM0 : V0.heap[w.heap.size + 1]? = some (.cells #[.func (.func g) #[] mc] 75 (0, 0)) := by
    rw [← hV0, (one_below _ _).block _ (by omega), ← hs1]; exact World.alloc_heap_new _ _
  have hV : V0.heap[w.heap.size + 1 + 1]? = some (.cells #[.int .i64 (-1)] 3 (0, 0)) := by
    rw [← hV0, ← hs2]; exact World.alloc_heap_new _ _
  have HC : Hid (Calls Tryz.prog 122 #[.slice A n c, .func (.func 123) #[] #[.pointer (some ⟨w.heap.size + 1, 0, none⟩), .pointer (some ⟨w.heap.size + 1 + 1, 0, none⟩), .pointer (some ⟨w.heap.size, 0, none⟩)]] V0 fun e w' => e = .returned (.int .i64 (eachS (ckS ok st) id (-1) xs)) ∧ Below (w.heap.size + 1 + 1) V0 w') := by
    refine each_box 123 (w.heap.size + 1 + 1) #[.pointer (some ⟨w.heap.size + 1, 0, none⟩), .pointer (some ⟨w.heap.size + 1 + 1, 0, none⟩), .pointer (some ⟨w.heap.size, 0, none⟩)] (ckS ok st) id Small ?_ xs n hn hn2 A c (-1) ⟨by omega, by omega⟩ V0 ?_ hV entersCheck1 (fun x v V hpv hb hx => ?_)
    · intro v x _ h0
      have : ok x = true := by
        cases e : ok x
        · unfold ckS at h0; rw [if_pos e] at h0; cases h0
        · rfl
      have := hok x this
      exact ⟨by simp only [id]; omega, this.2⟩
    · rcases h with h | ⟨b, off, e, hb, hc⟩
      · exact .inl h
      · exact .inr ⟨b, off, e, by omega, fun i v hi => (hB0.cell (p := ⟨b, off + i, none⟩) hb).trans (hc i v hi)⟩
    · exact checkOne g mc ok st x v hst hpv (w.heap.size + 1) (w.heap.size + 1 + 1) w.heap.size V ((hb.block _ (by omega)).trans hM0) ((hb.block _ (by omega)).trans hS0) hx eg (hg x V (hB0.trans (hb.mono (by omega))))
  generalize eachS (ckS ok st) id (-1) xs = r at *
  have HB0 := Lib.hid hB0
  clear hn h hM0 hV hs hB0 hg hs1 hs2 hS0 hok hst
  go_enter Tryz.func99, Tryz.ntmps99
  go_wp2_with fail
  refine HC.out.mono ?_
  rintro e w1 ⟨rfl, B1⟩
  have HB1 := Lib.hid (HB0.out.trans (B1.mono (by omega))); clear B1
  go_wp2
  go_ret
  exact ⟨rfl, HB1.out⟩
set_option maxHeartbeats 400000 in
/-- A list that rises, of numbers that may stand. -/
theorem crising_any (g : Nat) (mc : Array Value) (ok : Int → Bool) (hok : ∀ x, ok x = true → 0 ≤ x ∧ x ≤ 4611686018427387904) (xs : List Int) (n : Nat) (hn : xs.length = n) (hn2 : n ≤ 9223372036854775807) (A : Option Addr) (c : Nat) (w : World) (h : RdV w w.heap.size A (zc xs))
    (eg : ∀ args w, (callFunc g args).run Tryz.prog w = .ok (.enter g args) w) (hg : ∀ x V, Below w.heap.size w V → Calls Tryz.prog g (#[.int .i64 x] ++ mc) V fun e w' => e = .returned (.bool (ok x)) ∧ V = w') :
    Calls Tryz.prog 73 #[.slice A n c, .func (.func g) #[] mc] w fun e w' => e = .returned (.int .i64 (eachS (ckO ok) id (-1) xs)) ∧ Below w.heap.size w w' := by
  have HC := Lib.hid (insteps_any g mc ok hok 1 (by omega) xs n hn hn2 A c w h eg hg)
  rw [ckS_one] at HC
  generalize eachS (ckO ok) id (-1) xs = r at *
  clear hn h hg hok
  go_enter Tryz.func73, Tryz.ntmps73
  go_wp2_with fail
  refine HC.out.mono ?_
  rintro e w1 ⟨rfl, B1⟩
  go_wp2
  go_ret
  exact ⟨rfl, B1⟩
set_option maxHeartbeats 400000 in
theorem gcheck_any (xs : List Int) (n : Nat) (hn : xs.length = n) (hn2 : n ≤ 9223372036854775807) (A : Option Addr) (c : Nat) (w : World) (h : RdV w w.heap.size A (zc xs)) :
    Calls Tryz.prog 43 #[.slice A n c] w fun e w' => e = .returned (.int .i64 (rchk xs)) ∧ Below w.heap.size w w' := by
  unfold rchk
  rw [hn]
  by_cases h300 : 300 < n
  · rw [if_pos h300]
    go_enter Tryz.func43, Tryz.ntmps43
    go_wp2
    go_ret
    exact ⟨rfl, Below.refl _ _⟩
  · rw [if_neg h300]
    have HC0 := crising_any 42 #[] okN (fun x h => by unfold okN at h; simp at h; omega) xs n hn hn2 A c w h entersNode (fun x V _ => (node_any x V).mono fun _ _ q => q)
    rw [show eachS (ckO okN) id (-1) xs = rck (-1) xs from rck_each xs (-1)] at HC0
    have HC := Lib.hid HC0
    generalize rck (-1) xs = r at *
    clear hn h HC0
    go_enter Tryz.func43, Tryz.ntmps43
    go_wp2_with fail
    refine HC.out.mono ?_
    rintro e w1 ⟨rfl, B1⟩
    have HB1 := Lib.hid B1; clear B1
    go_wp2
    go_ret
    exact ⟨rfl, HB1.out⟩
end Go.Proofs.YticdnodlapafoaaGreat
