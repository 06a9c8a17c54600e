/- Graphs in memory: a slice of slices of whole numbers; and what graph.Check answers, for whatever it is handed. -/
import Derived.Test.YticdnodlapafoaaGreatJSNChk
import Derived.Test.YticdnodlapafoaaGreatJSWPure
namespace Go.Proofs.YticdnodlapafoaaGreat
set_option maxRecDepth 100000
set_option linter.unusedVariables false
open Go.RowKit Go.Shelf

/-- A list of a graph: where it lies, how much room it has, its numbers. -/
abbrev Rw := Option Addr × Nat × List Int
def sl (r : Rw) : Value := .slice r.1 r.2.2.length r.2.1
def rcl (R : List Rw) : List Value := R.map sl
def gs (R : List Rw) : List (List Int) := R.map (·.2.2)
theorem rcl_length (R : List Rw) : (rcl R).length = R.length := by simp [rcl]
theorem gs_length (R : List Rw) : (gs R).length = R.length := by simp [gs]
theorem rcl_get (R : List Rw) (i : Nat) (h : i < R.length) : (rcl R)[i]? = some (sl (R[i]?.getD (none, 0, []))) := by
  simp [rcl, List.getElem?_map, List.getElem?_eq_getElem h]
theorem rw_mem (R : List Rw) (i : Nat) (h : i < R.length) : R[i]?.getD (none, 0, []) ∈ R := by rw [List.getElem?_eq_getElem h]; exact List.getElem_mem h
theorem drop_rw (R : List Rw) (i : Nat) (h : i < R.length) : R.drop i = R[i]?.getD (none, 0, []) :: R.drop (i + 1) := by
  rw [List.drop_eq_getElem_cons h, List.getElem?_eq_getElem h]; rfl
/-- A slice that reads as a graph, below a block. -/
def RdG (w : World) (B : Nat) (A : Option Addr) (R : List Rw) : Prop :=
  RdV w B A (rcl R) ∧ ∀ r ∈ R, RdV w B r.1 (zc r.2.2) ∧ r.2.2.length ≤ 140737488355328
theorem RdG.keep {w w' : World} {B B' : Nat} {A : Option Addr} {R : List Rw} (h : RdG w B A R) (hB : B ≤ B') (hk : ∀ k, k < B → w'.heap[k]? = w.heap[k]?) : RdG w' B' A R :=
  ⟨h.1.keep hB hk, fun r hr => ⟨(h.2 r hr).1.keep hB hk, (h.2 r hr).2⟩⟩
theorem RdG.below {w w' : World} {B B' : Nat} {A : Option Addr} {R : List Rw} (h : RdG w B A R) (hb : Below B w w') (hB : B ≤ B') : RdG w' B' A R := h.keep hB hb.block
theorem RdG.on {w V : World} {A : Option Addr} {R : List Rw} (h : RdG w w.heap.size A R) (hb : Below w.heap.size w V) : RdG V V.heap.size A R := h.below hb hb.size

/-- Is it a node? -/
def okG (n : Int) (x : Int) : Bool := decide (0 ≤ x ∧ x < n)
set_option maxHeartbeats 400000 in
theorem isnode1 (n x : Int) (B : Nat) (w : World) (hb : w.heap[B]? = some (.cells #[.int .i64 n] 3 (0, 0))) : Calls Tryz.prog 143 #[.int .i64 x, .pointer (some ⟨B, 0, none⟩)] w fun e w' => e = .returned (.bool (okG n x)) ∧ w = w' := by
  have hc : w.cell? ⟨B, 0, none⟩ = some (.int .i64 n) := (cell_at hb _).trans rfl
  clear hb
  by_cases h1 : 0 ≤ x
  · by_cases h2 : x < n
    · have e : okG n x = true := by unfold okG; simp; omega
      have t1 : decide ((0 : Int) ≤ x) = true := by simp; omega
      have t2 : decide (x < n) = true := by simp; omega
      rw [e]
      go_enter Tryz.func143, Tryz.ntmps143
      go_wp2
      go_ret
      exact ⟨rfl, rfl⟩
    · have e : okG n x = false := by unfold okG; simp; omega
      have t1 : decide ((0 : Int) ≤ x) = true := by simp; omega
      have t2 : decide (x < n) = false := by simp; omega
      rw [e]
      go_enter Tryz.func143, Tryz.ntmps143
      go_wp2
      go_ret
      exact ⟨rfl, rfl⟩
  · have e : okG n x = false := by unfold okG; simp; omega
    have t1 : decide ((0 : Int) ≤ x) = false := by simp; omega
    rw [e]
    go_enter Tryz.func143, Tryz.ntmps143
    go_wp2
    go_ret
    exact ⟨rfl, rfl⟩
theorem isnodeof_any (n : Int) (w : World) : Calls Tryz.prog 117 #[.int .i64 n] w fun e w' => e = .returned (.func (.func 143) #[] #[.pointer (some ⟨w.heap.size, 0, none⟩)]) ∧ w' = w.alloc (.cells #[.int .i64 n] 3) := by
  go_enter Tryz.func117, Tryz.ntmps117
  go_wp2
  go_ret
  exact ⟨rfl, rfl⟩
theorem entersNode1 : ∀ args w, (callFunc 143 args).run Tryz.prog w = .ok (.enter 143 args) w := enters_of Tryz.func143 (by kernel_rfl) rfl
theorem entersChk1 : ∀ args w, (callFunc 116 args).run Tryz.prog w = .ok (.enter 116 args) w := enters_of Tryz.func116 (by kernel_rfl) rfl
/-- The error of a list of a graph of n nodes. -/
def rsE (n : Int) (xs : List Int) : Int := eachS (ckO (okG n)) id (-1) xs
theorem okG_bd (n : Int) (hn : n ≤ 100) : ∀ x, okG n x = true → 0 ≤ x ∧ x ≤ 4611686018427387904 := fun x h => by unfold okG at h; simp at h; omega

set_option maxHeartbeats 1000000 in
/-- One list is looked at. -/
theorem chk1_any (N : Nat) (hN : N ≤ 100) (xs : List Int) (n : Nat) (hn : xs.length = n) (hn2 : n ≤ 140737488355328) (A : Option Addr) (c : Nat) (m : Nat) (hm : m ≤ 14073748835532800) (Bm Bg : Nat) (hlt : Bg < Bm) (AG : Option Addr) (cG : Nat) (w : World) (hbm : w.heap[Bm]? = some (.cells #[.int .i64 (m : Int)] 3 (0, 0))) (hbg : w.heap[Bg]? = some (.cells #[.slice AG N cG] 52 (0, 0))) (h : RdV w Bm A (zc xs)) :
    Calls Tryz.prog 116 (#[.slice A n c] ++ #[.pointer (some ⟨Bm, 0, none⟩), .pointer (some ⟨Bg, 0, none⟩)]) w fun e w' => e = .returned (.int .i64 (rsE (N : Int) xs)) ∧ Below Bm w w' ∧ w'.heap[Bm]? = some (.cells #[.int .i64 ((m + n : Nat) : Int)] 3 (0, 0)) := by
  show Calls Tryz.prog 116 #[.slice A n c, .pointer (some ⟨Bm, 0, none⟩), .pointer (some ⟨Bg, 0, none⟩)] w _
  have hcm : w.cell? ⟨Bm, 0, none⟩ = some (.int .i64 (m : Int)) := (cell_at hbm _).trans rfl
  have hfm := frz_at hbm 0
  have hcg : w.cell? ⟨Bg, 0, none⟩ = some (.slice AG N cG) := (cell_at hbg _).trans rfl
  have hw1 : wrap64 ((m : Int) + (n : Int)) = ((m + n : Nat) : Int) := by unfold wrap64; omega
  have hw2 : IntKind.i64.wrap ((m : Int) + (n : Int)) = ((m + n : Nat) : Int) := by rw [IntKind.wrap_i64]; omega
  obtain ⟨mm, hmm⟩ : ∃ mm, m + n = mm := ⟨_, rfl⟩
  rw [hmm] at hw1 hw2 ⊢
  have HX : Hid ((w.setCell ⟨Bm, 0, none⟩ (.int .i64 (mm : Int))).heap[Bm]? = some (.cells #[.int .i64 (mm : Int)] 3 (0, 0)) ∧ Below Bm w (w.setCell ⟨Bm, 0, none⟩ (.int .i64 (mm : Int))) ∧ Bm < (w.setCell ⟨Bm, 0, none⟩ (.int .i64 (mm : Int))).heap.size ∧ (w.setCell ⟨Bm, 0, none⟩ (.int .i64 (mm : Int))).cell? ⟨Bg, 0, none⟩ = some (.slice AG N cG)) := by
    have hb := (Below.refl Bm w).setCell (p := ⟨Bm, 0, none⟩) (Nat.le_refl _) (.int .i64 (mm : Int))
    have h1 := heap_set_same _ Bm 0 (.int .i64 (mm : Int)) _ _ hbm
    refine ⟨by rw [h1]; simp, hb, (Array.getElem?_eq_some_iff.1 h1).1, (hb.cell (p := ⟨Bg, 0, none⟩) hlt).trans hcg⟩
  have HR := Lib.hid h
  clear hmm hm hbm hbg h
  go_enter Tryz.func116, Tryz.ntmps116
  go_wp2_with fail
  generalize w.setCell ⟨Bm, 0, none⟩ (.int .i64 (mm : Int)) = V at *
  have kg := HX.out.2.2.2
  go_wp2_with fail
  refine (isnodeof_any (N : Int) V).mono ?_
  rintro e w1 ⟨rfl, rfl⟩
  have hn1 := World.alloc_heap_new V (.cells #[.int .i64 (N : Int)] 3)
  have HB1 : Hid (Below V.heap.size V (V.alloc (.cells #[.int .i64 (N : Int)] 3))) := one_below _ _
  have HC := Lib.hid (crising_any 143 #[.pointer (some ⟨V.heap.size, 0, none⟩)] (okG (N : Int)) (okG_bd _ (by omega)) xs n hn (by omega) A c (V.alloc (.cells #[.int .i64 (N : Int)] 3))
    ((HR.out.below HX.out.2.1 (Nat.le_of_lt HX.out.2.2.1)).on HB1.out) entersNode1 (fun x W hW => isnode1 (N : Int) x V.heap.size W ((hW.block _ (by rw [World.size_alloc]; omega)).trans hn1)))
  generalize hE : eachS (ckO (okG (N : Int))) id (-1) xs = r at *
  have HE := Lib.hid hE
  have HN1 := Lib.hid hn1
  clear hE hn1 hn
  go_wp2_with fail
  refine HC.out.mono ?_
  rintro e w2 ⟨rfl, b2⟩
  have HB2 : Hid (Below V.heap.size V w2) := HB1.out.trans (b2.mono HB1.out.size)
  clear b2
  go_wp2
  go_ret
  exact ⟨by rw [← HE.out]; rfl, HX.out.2.1.trans (HB2.out.mono (Nat.le_of_lt HX.out.2.2.1)), (HB2.out.block Bm HX.out.2.2.1).trans HX.out.1⟩

/-- The first error. -/
def firstE (f : List Int → Int) : List (List Int) → Int
  | [] => 0
  | x :: t => if f x = 0 then firstE f t else f x
theorem firstE_cons (f : List Int → Int) (x : List Int) (t : List (List Int)) : firstE f (x :: t) = if f x = 0 then firstE f t else f x := rfl
/-- How many numbers there are. -/
def sumL (g : List (List Int)) : Nat := (g.map List.length).sum
theorem sumL_cons (x : List Int) (t : List (List Int)) : sumL (x :: t) = x.length + sumL t := by simp [sumL]
def ErwRel (f : List Int → Int) (B : Nat) (R : List Rw) (w : World) (p : Value) (wr : World) : Prop :=
  ∃ (i m : Nat), i ≤ R.length ∧ p = .int .i64 (i : Int) ∧ firstE f (gs R) = firstE f (gs (R.drop i)) ∧ m + sumL (gs (R.drop i)) = sumL (gs R) ∧ wr.heap[B]? = some (.cells #[.int .i64 (m : Int)] 3 (0, 0)) ∧ Below B w wr
theorem sumL_bd : ∀ (R : List Rw), (∀ r ∈ R, r.2.2.length ≤ 140737488355328) → sumL (gs R) ≤ R.length * 140737488355328
  | [], _ => by simp [sumL, gs]
  | r :: t, h => by
    have h1 := sumL_bd t (fun x hx => h x (by simp [hx]))
    have h2 := h r (by simp)
    have : gs (r :: t) = r.2.2 :: gs t := rfl
    rw [this, sumL_cons, List.length_cons]; omega
set_option maxHeartbeats 1000000 in
theorem each_rows (g : Nat) (B : Nat) (cb : Array Value) (f : List Int → Int) (R : List Rw) (n : Nat) (hn : R.length = n) (hn2 : n ≤ 100) (A : Option Addr) (c : Nat) (w : World) (h : RdG w B A R) (hb : w.heap[B]? = some (.cells #[.int .i64 0] 3 (0, 0)))
    (eg : ∀ args w, (callFunc g args).run Tryz.prog w = .ok (.enter g args) w)
    (hg : ∀ (r : Rw) (m : Nat) (V : World), r ∈ R → m ≤ 14073748835532800 → Below B w V → V.heap[B]? = some (.cells #[.int .i64 (m : Int)] 3 (0, 0)) → Calls Tryz.prog g (#[sl r] ++ cb) V fun e w' => e = .returned (.int .i64 (f r.2.2)) ∧ Below B V w' ∧ w'.heap[B]? = some (.cells #[.int .i64 ((m + r.2.2.length : Nat) : Int)] 3 (0, 0))) :
    Calls Tryz.prog 115 #[.slice A n c, .func (.func g) #[] cb] w fun e w' => e = .returned (.int .i64 (firstE f (gs R))) ∧ Below B w w' ∧ ∃ m : Nat, w'.heap[B]? = some (.cells #[.int .i64 (m : Int)] 3 (0, 0)) ∧ (firstE f (gs R) = 0 → m = sumL (gs R)) := by
  have HBd := Lib.hid (sumL_bd R (fun r hr => (h.2 r hr).2))
  have HR := Lib.hid h; clear h
  have HN := Lib.hid hn; clear hn
  have HG := Lib.hid hg; clear hg
  have HB0 := Lib.hid hb; clear hb
  go_enter Tryz.func115, Tryz.ntmps115
  go_wp2
  go_loopw [10] (fun p wr => ErwRel f B R w p wr) (fun p _ => n - (intOf p).toNat)
  case atStart => exact ⟨0, 0, Nat.zero_le _, rfl, rfl, by simp, HB0.out, Below.refl _ _⟩
  case round =>
    obtain ⟨i, m, hi, rfl, ht, hs, hbox, hbel⟩ := hrel
    rw [HN.out] at hi
    by_cases hlt : i < n
    · have hin : i < R.length := by rw [HN.out]; exact hlt
      have hR := HR.out.below hbel (Nat.le_refl _)
      obtain ⟨b, off, rfl, hb, hc⟩ := hR.1.at_ (rcl_get R i hin)
      have hmem := rw_mem R i hin
      rw [drop_rw R i hin, show gs (R[i]?.getD (none, 0, []) :: R.drop (i + 1)) = (R[i]?.getD (none, 0, [])).2.2 :: gs (R.drop (i + 1)) from rfl] at ht hs
      rw [firstE_cons] at ht
      rw [sumL_cons] at hs
      generalize R[i]?.getD (none, 0, []) = r at *
      have HC := Lib.hid (HG.out r m wr hmem (by have := HBd.out; rw [HN.out] at this; omega) hbel hbox)
      have HB := Lib.hid hbel; clear hbel hR hbox hmem
      obtain ⟨A1, c1, xs⟩ := r
      simp only [sl] at hc HC ht hs
      have HS := Lib.hid hs; clear hs
      generalize hln : xs.length = ln at *
      by_cases hf : f xs = 0
      · rw [if_pos hf] at ht
        have HT := Lib.hid ht
        rw [hf] at HC
        clear hf ht hln
        go_wp2_with fail
        refine HC.out.mono ?_
        rintro e w1 ⟨rfl, b1, k1⟩
        have HB1 := Lib.hid b1; have HK1 := Lib.hid k1; clear b1 k1
        go_wp2
        go_roundw
        case rel => exact ⟨i + 1, m + ln, by rw [HN.out]; omega, by go_num, HT.out, by rw [← HS.out]; omega, HK1.out, HB.out.trans HB1.out⟩
        case measure => simp [intOf]; omega
      · rw [if_neg hf] at ht
        have HE := Lib.hid ht
        have HF := Lib.hid hf
        have t0 : (f xs == 0) = false := by simpa using hf
        clear ht hf hln
        generalize f xs = y at *
        go_wp2_with fail
        refine HC.out.mono ?_
        rintro e w1 ⟨rfl, b1, k1⟩
        have HB1 := Lib.hid b1; have HK1 := Lib.hid k1; clear b1 k1
        go_wp2
        go_ret
        exact ⟨ret_i64 HE.out.symm, HB.out.trans HB1.out, _, HK1.out, fun h => absurd (HE.out.symm.trans h) HF.out⟩
    · have HT : Hid (firstE f (gs R) = 0 ∧ m = sumL (gs R)) := by
        rw [List.drop_of_length_le (by rw [HN.out]; omega)] at ht hs
        exact ⟨ht, by simpa [gs, sumL] using hs⟩
      have HK := Lib.hid hbox
      clear ht hbox hs
      have HB := Lib.hid hbel; clear hbel
      go_wp2
      go_ret
      exact ⟨ret_i64 HT.out.1.symm, HB.out, _, HK.out, fun _ => HT.out.2⟩

/-- What graph.Check answers. -/
def grE (g : List (List Int)) : Int := if 100 < g.length then 2 else if firstE (rsE (g.length : Int)) g = 0 ∧ 600 < sumL g then 2 else firstE (rsE (g.length : Int)) g
set_option maxHeartbeats 1000000 in
theorem gchk_any (R : List Rw) (n : Nat) (hn : R.length = n) (hn2 : n ≤ 140737488355328) (A : Option Addr) (c : Nat) (w : World) (h : RdG w w.heap.size A R) :
    Calls Tryz.prog 92 #[.agg #[.slice A n c]] w fun e w' => e = .returned (.int .i64 (grE (gs R))) ∧ Below w.heap.size w w' := by
  unfold grE
  rw [gs_length, hn]
  by_cases h100 : 100 < n
  · rw [if_pos h100]
    have t1 : decide ((100 : Int) < (n : Int)) = true := by simp; omega
    go_enter Tryz.func92, Tryz.ntmps92
    go_wp2
    go_ret
    exact ⟨rfl, one_below _ _⟩
  · rw [if_neg h100]
    obtain ⟨V, hV⟩ : ∃ V, (w.alloc (.cells #[.slice A n c] 52)).alloc (.cells #[.int .i64 0] 3) = V := ⟨_, rfl⟩
    have hs1 : (w.alloc (.cells #[.slice A n c] 52)).heap.size = w.heap.size + 1 := World.size_alloc _ _
    have hB0 : Below w.heap.size w V := hV ▸ (one_below w _).trans ((one_below _ _).mono (by omega))
    have hg0 : V.heap[w.heap.size]? = some (.cells #[.slice A n c] 52 (0, 0)) := by
      rw [← hV, (one_below _ _).block _ (by omega)]; exact World.alloc_heap_new w _
    have hm0 : V.heap[w.heap.size + 1]? = some (.cells #[.int .i64 0] 3 (0, 0)) := by
      rw [← hV, ← hs1]; exact World.alloc_heap_new _ _
    have hsV : w.heap.size + 1 < V.heap.size := (Array.getElem?_eq_some_iff.1 hm0).1
    have hRV : RdG V (w.heap.size + 1) A R := h.below hB0 (by omega)
    have HC := Lib.hid (each_rows 116 (w.heap.size + 1) #[.pointer (some ⟨w.heap.size + 1, 0, none⟩), .pointer (some ⟨w.heap.size, 0, none⟩)] (rsE (n : Int)) R n hn (by omega) A c V hRV hm0 entersChk1 (fun r m W hr hm hW hbx =>
      chk1_any n (by omega) r.2.2 _ rfl (h.2 r hr).2 r.1 r.2.1 m hm (w.heap.size + 1) w.heap.size (by omega) A c W hbx ((hW.block _ (by omega)).trans hg0) ((hRV.2 r hr).1.below hW (Nat.le_refl _))))
    have kg : V.cell? ⟨w.heap.size, 0, none⟩ = some (.slice A n c) := (cell_at hg0 _).trans rfl
    have HB0 := Lib.hid hB0
    have HS := Lib.hid hsV
    generalize hE : firstE (rsE (n : Int)) (gs R) = r at *
    generalize sumL (gs R) = sm at *
    have t1 : decide ((100 : Int) < (n : Int)) = false := by simp; omega
    have HV := Lib.hid hV
    obtain ⟨q, hq⟩ : ∃ q : Int, (if r = 0 ∧ 600 < sm then 2 else r) = q := ⟨_, rfl⟩
    rw [hq]
    have HQ := Lib.hid hq
    clear hq
    clear hn hn2 h hs1 hB0 hg0 hm0 hsV hRV hE hV kg
    go_enter Tryz.func92, Tryz.ntmps92
    go_wp2_with fail
    rw [HV.out]
    refine HC.out.mono ?_
    rintro e w1 ⟨rfl, b1, m, k1, hm⟩
    have km : w1.cell? ⟨w.heap.size + 1, 0, none⟩ = some (.int .i64 (m : Int)) := (cell_at k1 _).trans rfl
    have HB1 : Hid (Below w.heap.size w w1) := HB0.out.trans (b1.mono (by omega))
    clear b1 k1
    by_cases h0 : r = 0
    · obtain rfl := hm h0
      subst h0
      clear hm
      by_cases h6 : 600 < m
      · have HQ2 : Hid (q = 2) := by show _ = _; rw [← HQ.out, if_pos ⟨rfl, h6⟩]
        have t2 : decide ((600 : Int) < (m : Int)) = true := by simp; omega
        go_wp2
        go_ret
        exact ⟨ret_i64 HQ2.out.symm, HB1.out⟩
      · have HQ2 : Hid (q = 0) := by show _ = _; rw [← HQ.out, if_neg (fun q => h6 q.2)]
        have t2 : decide ((600 : Int) < (m : Int)) = false := by simp; omega
        go_wp2
        go_ret
        exact ⟨ret_i64 HQ2.out.symm, HB1.out⟩
    · have HQ2 : Hid (q = r) := by show _ = _; rw [← HQ.out, if_neg (fun q => h0 q.1)]
      have t0 : (r == 0) = false := by simpa using h0
      clear hm h0
      go_wp2
      go_ret
      exact ⟨ret_i64 HQ2.out.symm, HB1.out⟩
end Go.Proofs.YticdnodlapafoaaGreat
