/- Texts of this proof, one behind the other; each fact names its conditions. -/
import Derived.Test.YtbddcokjkdoaaaaGreatSO24
import Derived.Test.YtbddcokjkdoaaaaGreatSO7
import Derived.Laws.StructEq
import Derived.Deep.RegionHeld3
namespace Go.Proofs.YtbddcokjkdoaaaaGreat
section
set_option maxRecDepth 100000
set_option linter.unusedVariables false
open Go.RowKit Go.Shelf
def SameRelL (w : World) (R S : List Rw) (p : Value) (wr : World) : Prop := ∃ i : Nat, i ≤ R.length ∧ p = .int .i64 (i : Int) ∧ (gs R).take i = (gs S).take i ∧ Below w.heap.size w wr
theorem take_succ_sameL (xs ys : List (List Int)) (i : Nat) (h1 : i < xs.length) (h2 : i < ys.length) (h : xs.take i = ys.take i) (he : xs[i]?.getD [] = ys[i]?.getD []) : xs.take (i + 1) = ys.take (i + 1) := by
  rw [List.take_succ_eq_append_getElem h1, List.take_succ_eq_append_getElem h2, h]
  rw [List.getElem?_eq_getElem h1, List.getElem?_eq_getElem h2] at he
  simp only [Option.getD_some] at he
  rw [he]
theorem gs_at (R : List Rw) (i : Nat) (h : i < R.length) : (gs R)[i]?.getD [] = (R[i]?.getD (none, 0, [])).2.2 := by
  unfold gs; rw [List.getElem?_map, List.getElem?_eq_getElem h]; rfl
set_option maxHeartbeats 400000 in
theorem sameL_len (w : World) (A B : Option Addr) (n m c d : Nat) (hl : n ≠ m) :
    Calls Tryz.prog 78 #[.slice A n c, .slice B m d] w fun e w' => e = .returned (.bool false) ∧ Below w.heap.size w w' := by
  have h1 : ((n : Int) != (m : Int)) = true := by simp; omega
  clear hl
  go_enter Tryz.func78, Tryz.ntmps78
  go_wp2
  go_ret
  exact ⟨rfl, Below.refl _ _⟩
set_option maxHeartbeats 2000000 in
theorem same_lists (w : World) (A B : Option Addr) (c d : Nat) (R S : List Rw) (n : Nat) (hn : R.length = n) (hm : S.length = n) (h2 : n ≤ 9223372036854775807) (hA : RdG w w.heap.size A R) (hB : RdG w w.heap.size B S) :
    Calls Tryz.prog 78 #[.slice A n c, .slice B n d] w fun e w' => e = .returned (.bool (decide (gs R = gs S))) ∧ Below w.heap.size w w' := by
  have HA := Lib.hid hA; clear hA
  have HB := Lib.hid hB; clear hB
  have HN := Lib.hid hn; clear hn
  have HM := Lib.hid hm; clear hm
  have t0 : ((n : Int) != (n : Int)) = false := by simp
  go_enter Tryz.func78, Tryz.ntmps78
  go_wp2
  go_loopw [5] (fun p wr => SameRelL w R S p wr) (fun p _ => n - (intOf p).toNat)
  case atStart => exact ⟨0, Nat.zero_le _, rfl, rfl, Below.refl _ _⟩
  case round =>
    obtain ⟨i, hi, hp, ht, hb⟩ := hrel
    subst hp
    rw [HN.out] at hi
    by_cases hlt : i < n
    · have hi1 : i < R.length := by rw [HN.out]; exact hlt
      have hi2 : i < S.length := by rw [HM.out]; exact hlt
      obtain ⟨b1, o1, rfl, hb1, hc1⟩ := HA.out.1.at_ (rcl_get R i hi1)
      obtain ⟨b2, o2, rfl, hb2, hc2⟩ := HB.out.1.at_ (rcl_get S i hi2)
      have e1 := (hb.cell (p := ⟨b1, o1 + i, none⟩) hb1).trans hc1
      have e2 := (hb.cell (p := ⟨b2, o2 + i, none⟩) hb2).trans hc2
      have hr1 := HA.out.2 _ (rw_mem R i hi1)
      have hr2 := HB.out.2 _ (rw_mem S i hi2)
      have hstep := fun he => take_succ_sameL (gs R) (gs S) i (by rw [gs_length]; exact hi1) (by rw [gs_length]; exact hi2) ht he
      rw [gs_at R i hi1, gs_at S i hi2] at hstep
      have hno : (R[i]?.getD (none, 0, [])).2.2 ≠ (S[i]?.getD (none, 0, [])).2.2 → ¬ gs R = gs S := fun hne he => hne (by rw [← gs_at R i hi1, ← gs_at S i hi2, he])
      clear hc1 hc2 ht
      generalize R[i]?.getD (none, 0, []) = x at *
      generalize S[i]?.getD (none, 0, []) = y at *
      obtain ⟨A1, c1, xs⟩ := x
      obtain ⟨A2, c2, ys⟩ := y
      unfold sl at e1 e2
      simp only at e1 e2 hr1 hr2 hstep hno
      have hbd := hb.drew
      have HC := Lib.hid (sameI_any wr.drew A1 A2 c1 c2 xs ys (by omega) (hr1.1.below hbd hbd.size) (hr2.1.below hbd hbd.size))
      have HBd := Lib.hid hbd
      generalize xs.length = l1 at *
      generalize ys.length = l2 at *
      clear hr1 hr2 hb hbd
      by_cases hxy : xs = ys
      · have HT := Lib.hid (hstep hxy)
        rw [decide_eq_true hxy] at HC
        clear hstep hno hxy
        go_wp2_with fail
        go_region_held3 (fun w' => w'.cell? ⟨b1, o1 + i, none⟩ = some (.slice A1 l1 c1) ∧ w'.cell? ⟨b2, o2 + i, none⟩ = some (.slice A2 l2 c2))
          (first | exact ⟨e1, e2⟩ | exact ⟨HQ.out.1, HQ.out.2.1⟩)
          (first | (go_at_call 21; refine HC.out.mono ?_; rintro e wq ⟨rfl, bq⟩; have HQ : Hid (wq.cell? ⟨b1, o1 + i, none⟩ = some (.slice A1 l1 c1) ∧ wq.cell? ⟨b2, o2 + i, none⟩ = some (.slice A2 l2 c2) ∧ Below w.heap.size w wq) := ⟨(bq.cell (p := ⟨b1, o1 + i, none⟩) (World.block_lt_of_cell? wr.drew _ e1)).trans e1, (bq.cell (p := ⟨b2, o2 + i, none⟩) (World.block_lt_of_cell? wr.drew _ e2)).trans e2, HBd.out.trans (bq.mono HBd.out.size)⟩; clear bq))
        all_goals (
          go_wp2
          go_roundw
          case rel => exact ⟨i + 1, by rw [HN.out]; omega, by go_num, HT.out, HQ.out.2.2⟩
          case measure => simp [intOf]; omega)
      · have HT := Lib.hid (hno hxy)
        rw [decide_eq_false hxy] at HC
        clear hstep hno hxy
        go_wp2_with fail
        go_region_held3 (fun w' => w'.cell? ⟨b1, o1 + i, none⟩ = some (.slice A1 l1 c1) ∧ w'.cell? ⟨b2, o2 + i, none⟩ = some (.slice A2 l2 c2))
          (first | exact ⟨e1, e2⟩ | exact ⟨HQ.out.1, HQ.out.2.1⟩)
          (first | (go_at_call 21; refine HC.out.mono ?_; rintro e wq ⟨rfl, bq⟩; have HQ : Hid (wq.cell? ⟨b1, o1 + i, none⟩ = some (.slice A1 l1 c1) ∧ wq.cell? ⟨b2, o2 + i, none⟩ = some (.slice A2 l2 c2) ∧ Below w.heap.size w wq) := ⟨(bq.cell (p := ⟨b1, o1 + i, none⟩) (World.block_lt_of_cell? wr.drew _ e1)).trans e1, (bq.cell (p := ⟨b2, o2 + i, none⟩) (World.block_lt_of_cell? wr.drew _ e2)).trans e2, HBd.out.trans (bq.mono HBd.out.size)⟩; clear bq))
        all_goals (
          go_wp2
          go_ret
          exact ⟨by rw [decide_eq_false HT.out]; rfl, HQ.out.2.2⟩)
    · have HT : Hid (gs R = gs S) := by
        have e : i = n := by omega
        rw [e, List.take_of_length_le (by rw [gs_length, HN.out]; omega), List.take_of_length_le (by rw [gs_length, HM.out]; omega)] at ht
        exact ht
      clear ht
      go_wp2
      go_ret
      exact ⟨by rw [decide_eq_true HT.out]; rfl, hb⟩
theorem sameL_any (w : World) (A B : Option Addr) (c d : Nat) (R S : List Rw) (n m : Nat) (hn : R.length = n) (hm : S.length = m) (h2 : n ≤ 9223372036854775807) (hA : RdG w w.heap.size A R) (hB : RdG w w.heap.size B S) :
    Calls Tryz.prog 78 #[.slice A n c, .slice B m d] w fun e w' => e = .returned (.bool (decide (gs R = gs S))) ∧ Below w.heap.size w w' := by
  by_cases h : n = m
  · subst h; exact same_lists w A B c d R S n hn hm h2 hA hB
  · have e : decide (gs R = gs S) = false := by rw [decide_eq_false_iff_not]; intro he; have := congrArg List.length he; rw [gs_length, gs_length] at this; omega
    rw [e]
    exact sameL_len w A B _ _ c d h
set_option maxHeartbeats 1000000 in
/-- Are two graphs the same? -/
theorem sameG_any (w : World) (A B : Option Addr) (c d : Nat) (R S : List Rw) (n m : Nat) (hn : R.length = n) (hm : S.length = m) (h2 : n ≤ 9223372036854775807) (hA : RdG w w.heap.size A R) (hB : RdG w w.heap.size B S) :
    Calls Tryz.prog 32 #[.agg #[.slice A n c], .agg #[.slice B m d]] w fun e w' => e = .returned (.bool (decide (gs R = gs S))) ∧ Below w.heap.size w w' := by
  have hb : Below w.heap.size w ((w.alloc (.cells #[.slice A n c] 42)).alloc (.cells #[.slice B m d] 42)) := (one_below w _).trans ((one_below _ _).mono (by simp))
  have HB := Lib.hid hb
  have HC := Lib.hid (sameL_any _ A B c d R S n m hn hm h2 (hA.on hb) (hB.on hb))
  obtain ⟨r, hr⟩ : ∃ r, decide (gs R = gs S) = r := ⟨_, rfl⟩
  rw [hr] at HC ⊢
  clear hr hA hB hb hn hm
  go_enter Tryz.func32, Tryz.ntmps32
  go_wp2_with fail
  refine HC.out.mono ?_
  rintro e w1 ⟨rfl, b1⟩
  have HQ := Lib.hid (HB.out.trans (b1.mono HB.out.size))
  clear b1
  go_wp2
  go_ret
  exact ⟨rfl, HQ.out⟩
theorem eqh_run (a b c d e f : Int) (w : World) : (binOp .eql 24 (.agg #[.int .i64 a, .int .i64 b, .int .i64 c]) (.agg #[.int .i64 d, .int .i64 e, .int .i64 f])).run Tryz.prog w = .ok (.bool (a == d && (b == e && c == f))) w := by
  have h60 := Tryz.underlying24
  have h3 := Tryz.underlying3
  by_cases h1 : a = d <;> by_cases h2 : b = e <;> by_cases h4 : c = f <;> simp [go_sem, h60, h3, h1, h2, h4]
theorem pd2 (w : World) (a b : List Value) : ∃ w2, (w.alloc (.cells a.toArray 44)).alloc (.cells b.toArray 44) = w2 ∧ Below w.heap.size w w2 ∧ w2.heap.size = w.heap.size + 2 ∧
    (∀ V, Below w2.heap.size w2 V → V.heap[w.heap.size]? = some (.cells a.toArray 44 (0, 0)) ∧ V.heap[w.heap.size + 1]? = some (.cells b.toArray 44 (0, 0))) := by
  have h1 := World.alloc_heap_new w (.cells a.toArray 44)
  have h2 := World.alloc_heap_new (w.alloc (.cells a.toArray 44)) (.cells b.toArray 44)
  have b1 := one_below w (.cells a.toArray 44)
  have b2 := one_below (w.alloc (.cells a.toArray 44)) (.cells b.toArray 44)
  rw [World.size_alloc] at h2 b2
  exact ⟨_, rfl, b1.trans (b2.mono (by omega)), by simp [World.size_alloc], fun V hV => ⟨(hV.block _ (by simp [World.size_alloc]; omega)).trans ((b2.block _ (by omega)).trans h1), (hV.block _ (by simp [World.size_alloc])).trans h2⟩⟩
set_option maxHeartbeats 8000000 in
theorem samep_true (N B ls k len : Int) (A1 A2 : Option Addr) (n c1 c2 : Nat) (w : World)
    (HS : Hid (∀ V, Below w.heap.size w V → Calls Tryz.prog 20 #[.agg #[.int .i64 len, .slice A1 n c1], .agg #[.int .i64 len, .slice A2 n c2]] V fun e w' => e = .returned (.bool true) ∧ Below V.heap.size V w')) :
    Calls Tryz.prog 31 #[.agg #[.int .i64 N, .int .i64 B, .int .i64 ls, .int .i64 k, .int .i64 len, .slice A1 n c1], .agg #[.int .i64 N, .int .i64 B, .int .i64 ls, .int .i64 k, .int .i64 len, .slice A2 n c2]] w fun e w' => e = .returned (.bool true) ∧ Below w.heap.size w w' := by
  obtain ⟨w1, ew1, hb1, hs1, hk1⟩ := pd2 w [.int .i64 N, .int .i64 B, .int .i64 ls, .int .i64 k, .int .i64 len, .slice A1 n c1] [.int .i64 N, .int .i64 B, .int .i64 ls, .int .i64 k, .int .i64 len, .slice A2 n c2]
  have HB1 := Lib.hid hb1
  obtain ⟨ha, hb⟩ := hk1 w1 (Below.refl _ _)
  have a0 : w1.cell? ⟨w.heap.size, 0, none⟩ = some (.int .i64 N) := (cell_at ha 0).trans rfl
  have a1 : w1.cell? ⟨w.heap.size, 1, none⟩ = some (.int .i64 B) := (cell_at ha 1).trans rfl
  have a2 : w1.cell? ⟨w.heap.size, 2, none⟩ = some (.int .i64 ls) := (cell_at ha 2).trans rfl
  have a3 : w1.cell? ⟨w.heap.size, 3, none⟩ = some (.int .i64 k) := (cell_at ha 3).trans rfl
  have a4 : w1.cell? ⟨w.heap.size, 4, none⟩ = some (.int .i64 len) := (cell_at ha 4).trans rfl
  have a5 : w1.cell? ⟨w.heap.size, 5, none⟩ = some (.slice A1 n c1) := (cell_at ha 5).trans rfl
  have b0 : w1.cell? ⟨w.heap.size + 1, 0, none⟩ = some (.int .i64 N) := (cell_at hb 0).trans rfl
  have b1 : w1.cell? ⟨w.heap.size + 1, 1, none⟩ = some (.int .i64 B) := (cell_at hb 1).trans rfl
  have b2 : w1.cell? ⟨w.heap.size + 1, 2, none⟩ = some (.int .i64 ls) := (cell_at hb 2).trans rfl
  have b3 : w1.cell? ⟨w.heap.size + 1, 3, none⟩ = some (.int .i64 k) := (cell_at hb 3).trans rfl
  have b4 : w1.cell? ⟨w.heap.size + 1, 4, none⟩ = some (.int .i64 len) := (cell_at hb 4).trans rfl
  have b5 : w1.cell? ⟨w.heap.size + 1, 5, none⟩ = some (.slice A2 n c2) := (cell_at hb 5).trans rfl
  have he : ∀ w : World, (binOp .eql 24 (.agg #[.int .i64 B, .int .i64 ls, .int .i64 k]) (.agg #[.int .i64 B, .int .i64 ls, .int .i64 k])).run Tryz.prog w = .ok (.bool true) w := fun w => by rw [eqh_run]; simp
  clear hb1 hs1 hk1 ha hb
  go_enter Tryz.func31, Tryz.ntmps31
  go_wp2_with fail
  try rw [ew1]
  refine (HS.out w1 HB1.out).mono ?_
  rintro e w2 ⟨rfl, q2⟩
  have HB2 := Lib.hid q2
  clear q2 ew1 a0 a1 a2 a3 a4 a5 b0 b1 b2 b3 b4 b5
  go_wp2
  go_ret
  exact ⟨rfl, HB1.out.trans (HB2.out.mono HB1.out.size)⟩
def sgG : List (List Nat) := [[1, 2, 3, 5], [1, 2, 3, 5], [0, 1, 2, 3, 5], [], [4], [1, 2, 3]]
def SgP (w : World) (e : Ending) (w' : World) : Prop :=
  ∃ A c R, e = .returned (.agg #[.slice A 6 c]) ∧ gs R = sgG.map ns ∧ (∀ r ∈ R, r.2.2.length ≤ r.2.1) ∧ RdK w.heap.size w' A R ∧ Below w.heap.size w w'
theorem sg_ok : GOk sgG := by
  obtain ⟨g, hg, hok⟩ := grE_zero (sgG.map ns) (by decide +kernel)
  rw [mapns_inj _ _ hg]; exact hok
theorem rdz_at {W : World} {b : Nat} {l : List Nat} {t : TypeId} (h : W.heap[b]? = some (.cells (zc (ns l)).toArray t (0, 0))) : RdV W W.heap.size (some ⟨b, 0, none⟩) (zc (ns l)) :=
  .inr ⟨b, 0, rfl, (Array.getElem?_eq_some_iff.1 h).1, fun i v hi => by rw [Nat.zero_add, cell_at h]; simpa using hi⟩
theorem sg_rd {W : World} {b : Nat} (h1 : W.heap[b + 1]? = some (.cells #[.int .i64 1, .int .i64 2, .int .i64 3, .int .i64 5] 3 (0, 0))) (h2 : W.heap[b + 2]? = some (.cells #[.int .i64 1, .int .i64 2, .int .i64 3, .int .i64 5] 3 (0, 0))) (h3 : W.heap[b + 3]? = some (.cells #[.int .i64 0, .int .i64 1, .int .i64 2, .int .i64 3, .int .i64 5] 3 (0, 0))) (h4 : W.heap[b + 4]? = some (.cells #[.int .i64 4] 3 (0, 0))) (h5 : W.heap[b + 5]? = some (.cells #[.int .i64 1, .int .i64 2, .int .i64 3] 3 (0, 0)))
    (h6 : W.heap[b + 6]? = some (.cells #[.slice (some ⟨b + 1, 0, none⟩) 4 4, .slice (some ⟨b + 2, 0, none⟩) 4 4, .slice (some ⟨b + 3, 0, none⟩) 5 5, .slice none 0 0, .slice (some ⟨b + 4, 0, none⟩) 1 1, .slice (some ⟨b + 5, 0, none⟩) 3 3] 22 (0, 0))) :
    RdG W W.heap.size (some ⟨b + 6, 0, none⟩) [(some ⟨b + 1, 0, none⟩, 4, ns [1, 2, 3, 5]), (some ⟨b + 2, 0, none⟩, 4, ns [1, 2, 3, 5]), (some ⟨b + 3, 0, none⟩, 5, ns [0, 1, 2, 3, 5]), (none, 0, ns []), (some ⟨b + 4, 0, none⟩, 1, ns [4]), (some ⟨b + 5, 0, none⟩, 3, ns [1, 2, 3])] := by
  refine ⟨.inr ⟨b + 6, 0, rfl, (Array.getElem?_eq_some_iff.1 h6).1, fun i v hi => by rw [Nat.zero_add, cell_at h6]; simpa [rcl, sl, ns] using hi⟩, fun r hr => ?_⟩
  simp only [List.mem_cons, List.not_mem_nil, or_false] at hr
  rcases hr with rfl | rfl | rfl | rfl | rfl | rfl
  · exact ⟨rdz_at (l := [1, 2, 3, 5]) h1, by simp [ns]⟩
  · exact ⟨rdz_at (l := [1, 2, 3, 5]) h2, by simp [ns]⟩
  · exact ⟨rdz_at (l := [0, 1, 2, 3, 5]) h3, by simp [ns]⟩
  · exact ⟨.inl rfl, by simp [ns]⟩
  · exact ⟨rdz_at (l := [4]) h4, by simp [ns]⟩
  · exact ⟨rdz_at (l := [1, 2, 3]) h5, by simp [ns]⟩
theorem seven_at (w : World) (o0 o1 o2 o3 o4 o5 o6 : Obj) : ∃ W, (((((((w.alloc o0).alloc o1).alloc o2).alloc o3).alloc o4).alloc o5).alloc o6) = W ∧ Below w.heap.size w W ∧ W.heap[w.heap.size]? = some o0 ∧ W.heap[w.heap.size + 1]? = some o1 ∧ W.heap[w.heap.size + 2]? = some o2 ∧ W.heap[w.heap.size + 3]? = some o3 ∧ W.heap[w.heap.size + 4]? = some o4 ∧ W.heap[w.heap.size + 5]? = some o5 ∧ W.heap[w.heap.size + 6]? = some o6 ∧ W.heap.size = w.heap.size + 7 := by
  have st : ∀ (V : World) (o : Obj) (n : Nat), V.heap.size = n → (V.alloc o).heap.size = n + 1 ∧ (V.alloc o).heap[n]? = some o ∧ ∀ i x, V.heap[i]? = some x → (V.alloc o).heap[i]? = some x := fun V o n hn => ⟨by rw [World.size_alloc, hn], by rw [← hn]; exact World.alloc_heap_new V o, fun i x h => (Below.heap_alloc _ _ _ (Array.getElem?_eq_some_iff.1 h).1).trans h⟩
  obtain ⟨s0, g0, k0⟩ := st w o0 _ rfl
  obtain ⟨s1, g1, k1⟩ := st _ o1 _ s0
  obtain ⟨s2, g2, k2⟩ := st _ o2 _ s1
  obtain ⟨s3, g3, k3⟩ := st _ o3 _ s2
  obtain ⟨s4, g4, k4⟩ := st _ o4 _ s3
  obtain ⟨s5, g5, k5⟩ := st _ o5 _ s4
  obtain ⟨s6, g6, k6⟩ := st _ o6 _ s5
  refine ⟨_, rfl, ?_, k6 _ _ (k5 _ _ (k4 _ _ (k3 _ _ (k2 _ _ (k1 _ _ g0))))), k6 _ _ (k5 _ _ (k4 _ _ (k3 _ _ (k2 _ _ g1)))), k6 _ _ (k5 _ _ (k4 _ _ (k3 _ _ g2))), k6 _ _ (k5 _ _ (k4 _ _ g3)), k6 _ _ (k5 _ _ g4), k6 _ _ g5, g6, s6⟩
  exact (((((((Below.refl _ w).alloc (Nat.le_refl _) _).alloc (by omega) _).alloc (by omega) _).alloc (by omega) _).alloc (by omega) _).alloc (by omega) _).alloc (by omega) _
set_option maxHeartbeats 4000000 in
theorem some_ok (w : World) : Calls Tryz.prog 77 #[] w (SgP w) := by
  go_enter Tryz.func77, Tryz.ntmps77
  go_wp2
  obtain ⟨W, hW, hb, g0, g1, g2, g3, g4, g5, g6, hs⟩ := seven_at w (.cells #[.slice (some ⟨w.heap.size + 6, 0, none⟩) 6 6] 42) (.cells #[.int .i64 1, .int .i64 2, .int .i64 3, .int .i64 5] 3) (.cells #[.int .i64 1, .int .i64 2, .int .i64 3, .int .i64 5] 3) (.cells #[.int .i64 0, .int .i64 1, .int .i64 2, .int .i64 3, .int .i64 5] 3) (.cells #[.int .i64 4] 3) (.cells #[.int .i64 1, .int .i64 2, .int .i64 3] 3)
    (.cells #[.slice (some ⟨w.heap.size + 1, 0, none⟩) 4 4, .slice (some ⟨w.heap.size + 2, 0, none⟩) 4 4, .slice (some ⟨w.heap.size + 3, 0, none⟩) 5 5, .slice none 0 0, .slice (some ⟨w.heap.size + 4, 0, none⟩) 1 1, .slice (some ⟨w.heap.size + 5, 0, none⟩) 3 3] 22)
  simp only [Nat.add_assoc, Nat.reduceAdd]
  rw [hW]
  have m0 : W.cell? ⟨w.heap.size, 0, none⟩ = some (.slice (some ⟨w.heap.size + 6, 0, none⟩) 6 6) := (cell_at g0 0).trans rfl
  refine bodyPost_ret (v := .agg #[.slice (some ⟨w.heap.size + 6, 0, none⟩) 6 6]) (by simp [results, Tryz.results77, go_sem, m0]) rfl ⟨_, _, [(some ⟨w.heap.size + 1, 0, none⟩, 4, ns [1, 2, 3, 5]), (some ⟨w.heap.size + 2, 0, none⟩, 4, ns [1, 2, 3, 5]), (some ⟨w.heap.size + 3, 0, none⟩, 5, ns [0, 1, 2, 3, 5]), (none, 0, ns []), (some ⟨w.heap.size + 4, 0, none⟩, 1, ns [4]), (some ⟨w.heap.size + 5, 0, none⟩, 3, ns [1, 2, 3])], rfl, rfl, fun r hr => ?_, fun X hk hz => ?_, hb⟩
  · simp only [List.mem_cons, List.not_mem_nil, or_false] at hr
    rcases hr with rfl | rfl | rfl | rfl | rfl | rfl <;> simp [ns]
  · exact sg_rd ((hk _ (by omega) (by omega)).trans g1) ((hk _ (by omega) (by omega)).trans g2) ((hk _ (by omega) (by omega)).trans g3) ((hk _ (by omega) (by omega)).trans g4) ((hk _ (by omega) (by omega)).trans g5) ((hk _ (by omega) (by omega)).trans g6)
end
section
set_option maxRecDepth 100000
set_option linter.unusedVariables false
open Go.RowKit Go.Shelf
def sgL : List Bool := pkB 3 3 2 sgG 6
theorem sg_fits : sgL.length ≤ 8192 := by decide +kernel
theorem sg_backs : ∃ t, pkA 3 3 2 sgG 6 = 0 :: 1 :: t ∧ t.length = 4 := ⟨(pkA 3 3 2 sgG 6).drop 2, by decide +kernel, by decide +kernel⟩
theorem sg_starts : ∃ t, pkS 3 3 2 sgG 6 = 0 :: t ∧ t.length = 5 := ⟨(pkS 3 3 2 sgG 6).drop 1, by decide +kernel, by decide +kernel⟩
theorem sg_pack {A : Option Addr} {R : List Rw} (hR : GrR sgG R) (c : Nat) (V : World) (hG : RdG V V.heap.size A R) :
    Calls Tryz.prog 69 #[.agg #[.slice A 6 c], .agg #[.int .i64 3, .int .i64 3, .int .i64 2]] V (PaP V 6 3 3 2 (sgL.length : Int) (pack sgL).length (pack sgL) 6 (ns (pkA 3 3 2 sgG 6)) 6 (ns (pkS 3 3 2 sgG 6)) 0) :=
  (pack_ok hR 6 (by rw [hR.len]; rfl) 3 3 2 (by omega) (by omega) (by omega) (by omega) A c V hG).mono fun e w' h => by
    unfold PakP at h
    have hs : (pkB 3 3 2 sgG 6).length ≤ 8192 := sg_fits
    rw [if_pos hs] at h
    exact h
theorem sg_write {A : Option Addr} {R : List Rw} (h1 : gs R = sgG.map ns) (h2 : ∀ r ∈ R, r.2.2.length ≤ r.2.1) (c : Nat) (V : World) (hG : RdG V V.heap.size A R) :
    Calls Tryz.prog 24 #[.agg #[.slice A 6 c], .agg #[.int .i64 3, .int .i64 3, .int .i64 2]] V (PwP V 6 3 3 2 (sgL.length : Int) (pack sgL).length (pack sgL) 0) :=
  write_l 6 3 3 2 A c 6 3 3 2 _ _ _ 6 _ 6 _ 0 V (Lib.hid fun W hW => sg_pack ⟨sg_ok, h1, h2⟩ c W (hG.on hW))
theorem sg_told {A : Option Addr} {R : List Rw} (h1 : gs R = sgG.map ns) (h2 : ∀ r ∈ R, r.2.2.length ≤ r.2.1) (c : Nat) (V : World) (hG : RdG V V.heap.size A R) :
    Calls Tryz.prog 26 #[.agg #[.slice A 6 c], .agg #[.int .i64 3, .int .i64 3, .int .i64 2]] V (PtP V 6 (ns (pkA 3 3 2 sgG 6)) 6 (ns (pkS 3 3 2 sgG 6)) 0) :=
  told_l 6 3 3 2 A c 6 3 3 2 (sgL.length : Int) _ (pack sgL) 6 _ 6 _ 0 V (Lib.hid fun W hW => sg_pack ⟨sg_ok, h1, h2⟩ c W (hG.on hW))
theorem sg_read {A : Option Addr} (c : Nat) (V : World) (h : Rd V V.heap.size A (pack sgL)) :
    Calls Tryz.prog 25 #[.agg #[.int .i64 6, .int .i64 3, .int .i64 3, .int .i64 2, .int .i64 (sgL.length : Int), .slice A (pack sgL).length c]] V (PrG V sgG 6) := by
  have hg : sgG.length = 6 := rfl
  have e6 : pkB 3 3 2 sgG sgG.length = sgL := rfl
  rcases read_ways 6 3 3 2 (sgL.length : Int) (pack sgL) _ rfl (pack_lt sgL) A c V h with ⟨er, -, -, -, hno, -⟩ | ⟨g, B', ls', k', a1, a2, a3, b1, b2, b3, b4, hok, a4, a5, hf, hp, HR⟩
  · have hno2 := hno sgG 3 3 2 rfl rfl rfl (by omega) (by omega) (by omega) (by omega) sg_ok (by rw [hg]; rfl) (by rw [e6]) (by rw [e6]; exact sg_fits)
    rw [e6] at hno2
    exact absurd rfl hno2
  · obtain rfl : B' = 3 := by omega
    obtain rfl : ls' = 3 := by omega
    obtain rfl : k' = 2 := by omega
    have hgl : g.length = 6 := by omega
    have e : pkB 3 3 2 g 6 = sgL := by
      rw [hgl] at a5 hp
      have hl : sgL.length = (pkB 3 3 2 g 6).length := by omega
      rw [← unpack_pack (pkB 3 3 2 g 6), ← hp, ← hl, unpack_pack]
    have q1 := rdA_all 3 3 2 (by omega) (by omega) g (gok_rows hok) (by omega)
    have q2 := rdA_all 3 3 2 (by omega) (by omega) sgG (gok_rows sg_ok) (by rw [hg]; omega)
    rw [hgl, e] at q1
    rw [hg] at q2
    have e2 : some (g, sgL.length) = some (sgG, (pkB 3 3 2 sgG 6).length) := by rw [← q1]; exact q2
    have e3 : g = sgG := by injection e2 with e2; injection e2
    subst e3
    rw [hg] at HR
    exact HR.out V (Below.refl _ V)
theorem none_read (c : Nat) (V : World) :
    Calls Tryz.prog 25 #[.agg #[.int .i64 1, .int .i64 3, .int .i64 3, .int .i64 2, .int .i64 0, .slice none 0 c]] V (PrE V 1) := by
  rcases read_ways 1 3 3 2 0 [] 0 rfl (by simp) none c V (Rd.nil _ _ _) with ⟨er, -, h0, -, -, HR⟩ | ⟨g, B', ls', k', a1, a2, a3, b1, b2, b3, b4, hok, a4, a5, hf, hp, HR⟩
  · obtain rfl := h0 (by decide +kernel)
    exact HR.out V (Below.refl _ V)
  · exfalso
    have hgl : g.length = 1 := by omega
    have hb : B' ≠ 0 := by omega
    rw [hgl, pkB_succ] at a5
    simp only [List.length_append, ndB, if_neg hb, gam_length] at a5
    omega
end
section
set_option maxRecDepth 100000
set_option linter.unusedVariables false
open Go.RowKit Go.Shelf
theorem six_z {V : World} {b : Nat} (h : V.heap[b]? = some (.cells #[.int .i64 0, .int .i64 0, .int .i64 0, .int .i64 0, .int .i64 0, .slice none 0 0] 44 (0, 0))) :
    (V.cell? ⟨b, 0, none⟩ = some (.int .i64 0) ∧ V.cell? ⟨b, 1, none⟩ = some (.int .i64 0) ∧ V.cell? ⟨b, 2, none⟩ = some (.int .i64 0) ∧ V.cell? ⟨b, 3, none⟩ = some (.int .i64 0) ∧ V.cell? ⟨b, 4, none⟩ = some (.int .i64 0) ∧ V.cell? ⟨b, 5, none⟩ = some (.slice none 0 0)) ∧
    V.frozen? ⟨b, 0, none⟩ = false ∧ V.frozen? ⟨b, 1, none⟩ = false ∧ V.frozen? ⟨b, 2, none⟩ = false ∧ V.frozen? ⟨b, 3, none⟩ = false ∧ V.frozen? ⟨b, 4, none⟩ = false ∧ V.frozen? ⟨b, 5, none⟩ = false :=
  ⟨⟨(cell_at h 0).trans rfl, (cell_at h 1).trans rfl, (cell_at h 2).trans rfl, (cell_at h 3).trans rfl, (cell_at h 4).trans rfl, (cell_at h 5).trans rfl⟩, frz_at h 0, frz_at h 1, frz_at h 2, frz_at h 3, frz_at h 4, frz_at h 5⟩
theorem six_put {V : World} {b : Nat} (h : V.heap[b]? = some (.cells #[.int .i64 0, .int .i64 0, .int .i64 0, .int .i64 0, .int .i64 0, .slice none 0 0] 44 (0, 0))) (v0 v1 v2 v3 v4 v5 : Value) (A : Option Addr) (bs : List Nat) (R : Rd V V.heap.size A bs) :
    ∃ X, (((((V.setCell ⟨b, 0, none⟩ v0).setCell ⟨b, 1, none⟩ v1).setCell ⟨b, 2, none⟩ v2).setCell ⟨b, 3, none⟩ v3).setCell ⟨b, 4, none⟩ v4).setCell ⟨b, 5, none⟩ v5 = X ∧ X.heap[b]? = some (.cells #[v0, v1, v2, v3, v4, v5] 44 (0, 0)) ∧ Rd X X.heap.size A bs ∧ ∀ B, B ≤ b → Below B V X := by
  obtain ⟨h6, hk6, hs6, hB6⟩ := stored_all [v0, v1, v2, v3, v4, v5] (cs := [.int .i64 0, .int .i64 0, .int .i64 0, .int .i64 0, .int .i64 0, .slice none 0 0]) h rfl
  refine ⟨V.setCells b 0 [v0, v1, v2, v3, v4, v5], rfl, h6, ?_, hB6⟩
  rcases R with h1 | ⟨g, off, rfl, hg, hc⟩
  · exact .inl h1
  · by_cases h0 : bs = []
    · exact .inl h0
    · refine .inr ⟨g, off, rfl, by rw [hs6]; exact hg, fun i hi => ?_⟩
      have h1 := hc i hi
      have hne : g ≠ b := by
        rintro rfl
        simp only [World.cell?, h] at h1
        rcases hoi : off + i with _ | _ | _ | _ | _ | _ | m <;> rw [hoi] at h1 <;> simp at h1
      unfold World.cell? at h1 ⊢
      simp only at h1 ⊢
      rw [hk6 g hne]; exact h1
def BgS (w W : World) (b : Nat) (A : Option Addr) (c : Nat) : Prop :=
  Below w.heap.size w W ∧ W.heap[w.heap.size]? = some (.cells #[.int .i64 3, .int .i64 3, .int .i64 2] 24 (0, 0)) ∧ W.heap[b]? = some (.cells #[.int .i64 6, .int .i64 3, .int .i64 3, .int .i64 2, .int .i64 (sgL.length : Int), .slice A (pack sgL).length c] 44 (0, 0)) ∧ Rd W W.heap.size A (pack sgL)
theorem BgS.on {w W X : World} {b : Nat} {A : Option Addr} {c : Nat} (h : BgS w W b A c) (hb : Below W.heap.size W X) : BgS w X b A c :=
  ⟨h.1.trans (hb.mono h.1.size), (hb.block _ (Array.getElem?_eq_some_iff.1 h.2.1).1).trans h.2.1, (hb.block _ (Array.getElem?_eq_some_iff.1 h.2.2.1).1).trans h.2.2.1, h.2.2.2.on hb⟩
def BgG (W : World) (g : Nat) (A : Option Addr) (c : Nat) (R : List Rw) : Prop := W.heap[g]? = some (.cells #[.slice A 6 c] 42 (0, 0)) ∧ RdG W W.heap.size A R
theorem BgG.on {W X : World} {g : Nat} {A : Option Addr} {c : Nat} {R : List Rw} (h : BgG W g A c R) (hb : Below W.heap.size W X) : BgG X g A c R :=
  ⟨(hb.block _ (Array.getElem?_eq_some_iff.1 h.1).1).trans h.1, h.2.on hb⟩
theorem run_build_one (a b c : Int) (w : World) : (Instr.build 44 #[(0, .int .i64 1), (1, .agg #[.int .i64 a, .int .i64 b, .int .i64 c])]).run Tryz.prog w = .ok (.agg #[.int .i64 1, .int .i64 a, .int .i64 b, .int .i64 c, .int .i64 0, .slice none 0 0]) w := by kernel_rfl
theorem sg_same {W V : World} {g : Nat} {A B : Option Addr} {c d : Nat} {R S : List Rw} (hG : BgG W g A c R) (h1 : gs R = sgG.map ns ∧ R.length = 6) (hV : Below W.heap.size W V) (h2 : gs S = sgG.map ns) (hS : RdG V V.heap.size B S) :
    Calls Tryz.prog 32 #[.agg #[.slice A 6 c], .agg #[.slice B 6 d]] V fun e w' => e = .returned (.bool true) ∧ Below V.heap.size V w' := by
  have hl : S.length = 6 := by have := congrArg List.length h2; rw [gs_length] at this; rw [this]; rfl
  have := sameG_any V A B c d R S 6 6 h1.2 hl (by omega) ((hG.on hV).2) hS
  rw [h1.1, h2] at this
  simpa using this
set_option maxHeartbeats 8000000 in
theorem packbegun_ok (w : World) :
    Calls Tryz.prog 30 #[] w fun e w' => e = .returned (.bool true) ∧ Below w.heap.size w w' := by
  obtain ⟨V1, hV1⟩ : ∃ V1, w.alloc (.cells #[.int .i64 3, .int .i64 3, .int .i64 2] 24) = V1 := ⟨_, rfl⟩
  have hh := World.alloc_heap_new w (.cells #[.int .i64 3, .int .i64 3, .int .i64 2] 24)
  rw [hV1] at hh
  have hw1 : Below w.heap.size w V1 := by rw [← hV1]; exact one_below w _
  have HHb : Hid (∀ V, Below V1.heap.size V1 V → V.heap[w.heap.size]? = some (.cells #[.int .i64 3, .int .i64 3, .int .i64 2] 24 (0, 0))) := fun V hV => (hV.block _ (Array.getElem?_eq_some_iff.1 hh).1).trans hh
  have HH : Hid (∀ V, Below V1.heap.size V1 V → V.cell? ⟨w.heap.size, 0, none⟩ = some (.int .i64 3) ∧ V.cell? ⟨w.heap.size, 1, none⟩ = some (.int .i64 3) ∧ V.cell? ⟨w.heap.size, 2, none⟩ = some (.int .i64 2)) := fun V hV => how_at (HHb.out V hV)
  have HW1 : Hid (w.heap.size < V1.heap.size ∧ Below w.heap.size w V1) := ⟨(Array.getElem?_eq_some_iff.1 hh).1, hw1⟩
  have HD : Hid (Below V1.heap.size V1 V1.drew) := (Below.refl _ _).drew
  have HDz : Hid (Below V1.heap.size V1 (V1.alloc (.cells #[.int .i64 0, .int .i64 0, .int .i64 0, .int .i64 0, .int .i64 0, .slice none 0 0] 44)).drew) := (one_below V1 _).drew
  have HDz2 : Hid (Below V1.heap.size V1 (V1.drew.alloc (.cells #[.int .i64 0, .int .i64 0, .int .i64 0, .int .i64 0, .int .i64 0, .slice none 0 0] 44))) := HD.out.trans (one_below V1.drew _)
  clear hh hw1
  go_enter Tryz.func30, Tryz.ntmps30
  go_wp2
  try rw [hV1]
  go_region_held3 (fun V => V.cell? ⟨w.heap.size, 0, none⟩ = some (.int .i64 3) ∧ V.cell? ⟨w.heap.size, 1, none⟩ = some (.int .i64 3) ∧ V.cell? ⟨w.heap.size, 2, none⟩ = some (.int .i64 2))
    ((first | exact HH.out _ HB6.out | exact HH.out _ HBbz.out | exact HH.out _ HBb.out | exact HH.out _ HBaz.out | exact HH.out _ HBa.out | exact HH.out _ HDz.out | exact HH.out _ HDz2.out | exact HH.out _ HD.out))
    ((first
      | (go_at_call 24; first
          | (refine (sg_write g1 g2 c1 (wa.alloc (.cells #[.int .i64 0, .int .i64 0, .int .i64 0, .int .i64 0, .int .i64 0, .slice none 0 0] 44)) (g3.on (one_below wa _)).here).mono ?_; rintro e wb ⟨A2, c2, rfl, r2, bq⟩; have hzb : wb.heap[wa.heap.size]? = some (.cells #[.int .i64 0, .int .i64 0, .int .i64 0, .int .i64 0, .int .i64 0, .slice none 0 0] 44 (0, 0)) := (bq.block _ (by rw [World.size_alloc]; exact Nat.lt_succ_self _)).trans (World.alloc_heap_new wa _); have HBb : Hid (Below V1.heap.size V1 wb) := HBaz.out.trans (bq.mono HBaz.out.size); obtain ⟨⟨y0, y1, y2, y3, y4, y5⟩, f0, f1, f2, f3, f4, f5⟩ := six_z hzb; obtain ⟨W6, hW6, hp6, r6, b6⟩ := six_put hzb (.int .i64 6) (.int .i64 3) (.int .i64 3) (.int .i64 2) (.int .i64 (sgL.length : Int)) (.slice A2 (pack sgL).length c2) A2 _ r2; have HB6 : Hid (Below V1.heap.size V1 W6) := HBb.out.trans (b6 _ HBa.out.size); have HS6 : Hid (BgS w W6 wa.heap.size A2 c2) := ⟨HW1.out.2.trans (HB6.out.mono HW1.out.2.size), HHb.out _ HB6.out, hp6, r6⟩; clear bq r2 hzb hp6 r6 b6)
          | (refine (sg_write g1 g2 c1 wa g3.here).mono ?_; rintro e wb ⟨A2, c2, rfl, r2, bq⟩; have HBb : Hid (Below V1.heap.size V1 wb) := HBa.out.trans (bq.mono HBa.out.size); first
              | (have hzb : wb.heap[V1.heap.size]? = some (.cells #[.int .i64 0, .int .i64 0, .int .i64 0, .int .i64 0, .int .i64 0, .slice none 0 0] 44 (0, 0)) := (bq.block _ (Array.getElem?_eq_some_iff.1 hz1).1).trans hz1; obtain ⟨⟨y0, y1, y2, y3, y4, y5⟩, f0, f1, f2, f3, f4, f5⟩ := six_z hzb; obtain ⟨W6, hW6, hp6, r6, b6⟩ := six_put hzb (.int .i64 6) (.int .i64 3) (.int .i64 3) (.int .i64 2) (.int .i64 (sgL.length : Int)) (.slice A2 (pack sgL).length c2) A2 _ r2; have HB6 : Hid (Below V1.heap.size V1 W6) := HBb.out.trans (b6 _ (Nat.le_refl _)); have HS6 : Hid (BgS w W6 V1.heap.size A2 c2) := ⟨HW1.out.2.trans (HB6.out.mono HW1.out.2.size), HHb.out _ HB6.out, hp6, r6⟩; clear bq r2 hzb hp6 r6 b6)
              | (have HBbz : Hid (Below V1.heap.size V1 (wb.alloc (.cells #[.int .i64 0, .int .i64 0, .int .i64 0, .int .i64 0, .int .i64 0, .slice none 0 0] 44))) := HBb.out.trans ((one_below wb _).mono HBb.out.size); obtain ⟨W6, hW6⟩ : ∃ W6, wb.alloc (.cells #[.int .i64 6, .int .i64 3, .int .i64 3, .int .i64 2, .int .i64 (sgL.length : Int), .slice A2 (pack sgL).length c2] 44) = W6 := ⟨_, rfl⟩; have hb6 : Below wb.heap.size wb W6 := by { rw [← hW6]; exact one_below wb _ }; have HB6 : Hid (Below V1.heap.size V1 W6) := HBb.out.trans (hb6.mono HBb.out.size); have HS6 : Hid (BgS w W6 wb.heap.size A2 c2) := ⟨HW1.out.2.trans (HB6.out.mono HW1.out.2.size), HHb.out _ HB6.out, by { rw [← hW6]; exact World.alloc_heap_new wb _ }, r2.on hb6⟩; clear bq r2 hb6)))
      | (go_at_call 77; refine (some_ok _).mono ?_; rintro e wa ⟨A1, c1, R1, rfl, g1, g2, g3, bq1⟩; have HBa : Hid (Below V1.heap.size V1 wa) := by { first | exact HD.out.trans (bq1.mono HD.out.size) | exact HDz.out.trans (bq1.mono HDz.out.size) }; have HBaz : Hid (Below V1.heap.size V1 (wa.alloc (.cells #[.int .i64 0, .int .i64 0, .int .i64 0, .int .i64 0, .int .i64 0, .slice none 0 0] 44))) := HBa.out.trans ((one_below wa _).mono HBa.out.size); first | (have hz1 : wa.heap[V1.heap.size]? = some (.cells #[.int .i64 0, .int .i64 0, .int .i64 0, .int .i64 0, .int .i64 0, .slice none 0 0] 44 (0, 0)) := (bq1.block _ (by show V1.heap.size < (V1.alloc _).heap.size; rw [World.size_alloc]; exact Nat.lt_succ_self _)).trans (World.alloc_heap_new V1 _); clear bq1) | clear bq1)))
  all_goals (
    clear HH HHb HW1 HD HDz HDz2 HB6 hV1 hW6
    try clear HBbz
    try clear HBaz
    try clear HBb
    try clear HBa
    try clear hz1
    try clear g1 g2 g3
    first
      | (obtain ⟨b9, hb9⟩ : ∃ b9, wb.heap.size = b9 := ⟨_, rfl⟩; rw [hb9] at HS6 ⊢)
      | (obtain ⟨b9, hb9⟩ : ∃ b9, wa.heap.size = b9 := ⟨_, rfl⟩; rw [hb9] at HS6 ⊢)
      | (obtain ⟨b9, hb9⟩ : ∃ b9, V1.heap.size = b9 := ⟨_, rfl⟩; rw [hb9] at HS6 ⊢)
    clear hb9
    have hrg := range_all (cs := [.int .i64 6, .int .i64 3, .int .i64 3, .int .i64 2, .int .i64 (sgL.length : Int), .slice A2 (pack sgL).length c2]) HS6.out.2.2.1
    go_wp2_with (refine wpList_load_mid rfl 44 _ rfl _ 0 rfl [.int .i64 6, .int .i64 3, .int .i64 3, .int .i64 2, .int .i64 (sgL.length : Int), .slice A2 (pack sgL).length c2] _ hrg Tryz.underlying44 rfl info_pd ?_)
    refine (sg_read c2 W6 HS6.out.2.2.2).mono ?_
    rintro e w3 ⟨AG, cG, RG, rfl, k1, k2, k3, bq3⟩
    clear hrg
    have hb4 : Below W6.heap.size W6 (w3.alloc (.cells #[.slice AG 6 cG] 42)) := bq3.trans ((one_below w3 _).mono bq3.size)
    have HS4 := Lib.hid (HS6.out.on hb4)
    have HG4 : Hid (BgG (w3.alloc (.cells #[.slice AG 6 cG] 42)) w3.heap.size AG cG RG) := ⟨World.alloc_heap_new w3 _, (k3.on (one_below w3 _)).here⟩
    have HRG : Hid (gs RG = sgG.map ns ∧ RG.length = 6) := ⟨k1, by have := congrArg List.length k1; rw [gs_length] at this; rw [this]; rfl⟩
    obtain ⟨b4, hb4e⟩ : ∃ b4, w3.heap.size = b4 := ⟨_, rfl⟩
    rw [hb4e] at HG4
    obtain ⟨W4, hW4⟩ : ∃ W4, w3.alloc (.cells #[.slice AG 6 cG] 42) = W4 := ⟨_, rfl⟩
    rw [hW4] at HS4 HG4
    clear hb4 k1 k2 k3 bq3 HS6
    go_wp2
    try rw [hb4e]
    try rw [hW4]
    clear hb4e hW4
    have HK4 : Hid (∀ V, Below W4.heap.size W4 V → V.cell? ⟨w.heap.size, 0, none⟩ = some (.int .i64 3) ∧ V.cell? ⟨w.heap.size, 1, none⟩ = some (.int .i64 3) ∧ V.cell? ⟨w.heap.size, 2, none⟩ = some (.int .i64 2)) := fun V hV => how_at (HS4.out.on hV).2.1
    have HD4 : Hid (Below W4.heap.size W4 W4.drew) := (Below.refl _ _).drew
    go_region_held3 (fun V => V.cell? ⟨w.heap.size, 0, none⟩ = some (.int .i64 3) ∧ V.cell? ⟨w.heap.size, 1, none⟩ = some (.int .i64 3) ∧ V.cell? ⟨w.heap.size, 2, none⟩ = some (.int .i64 2))
      ((first | exact HK4.out _ HY.out | exact HK4.out _ HX.out | exact HK4.out _ HD4.out))
      ((first
        | (go_at_call 26; refine (sg_told g1 g2 c5 wx g3.here).mono ?_; rintro e wy ⟨A6, c6, A7, c7, rfl, r6, r7, bq⟩; have HY : Hid (Below W4.heap.size W4 wy) := HX.out.trans (bq.mono HX.out.size); have HV6 : Hid (RdV wy wy.heap.size A6 (zc (ns (pkA 3 3 2 sgG 6))) ∧ RdV wy wy.heap.size A7 (zc (ns (pkS 3 3 2 sgG 6)))) := ⟨r6, r7⟩; clear r6 r7 bq)
        | (go_at_call 77; refine (some_ok _).mono ?_; rintro e wx ⟨A5, c5, R5, rfl, g1, g2, g3, bq1⟩; have HX : Hid (Below W4.heap.size W4 wx) := HD4.out.trans (bq1.mono HD4.out.size); clear bq1)))
    have HS5 := Lib.hid (HS4.out.on HY.out)
    have HG5 := Lib.hid (HG4.out.on HY.out)
    obtain ⟨h0, h1, h2⟩ := how_at HS5.out.2.1
    clear HK4 HD4 HY HX HS4 HG4 g1 g2 g3
    go_wp2_with (refine wpList_build rfl _ _ rfl #[(0, .int .i64 1), (1, .agg #[.int .i64 3, .int .i64 3, .int .i64 2])] (by kernel_rfl) _ (run_build_one _ _ _ _) ?_)
    refine (none_read 0 wy).mono ?_
    rintro e w6 ⟨rfl, bq6⟩
    clear h0 h1 h2
    go_wp2
    have hb7 : Below wy.heap.size wy (w6.alloc (.cells #[.slice none 0 0] 42)) := bq6.trans ((one_below w6 _).mono bq6.size)
    obtain ⟨W7, hW7⟩ : ∃ W7, w6.alloc (.cells #[.slice none 0 0] 42) = W7 := ⟨_, rfl⟩
    rw [hW7] at hb7
    have HS7 := Lib.hid (HS5.out.on hb7)
    have HG7 := Lib.hid (HG5.out.on hb7)
    obtain ⟨t6, e6, -⟩ := sg_backs
    obtain ⟨t7, e7, -⟩ := sg_starts
    obtain ⟨x6, y6, rfl, l6, m6⟩ := (HV6.out.1.on hb7).at_ (i := 0) (v := .int .i64 0) (by rw [e6]; rfl)
    obtain ⟨x6', y6', ex, l6', m6'⟩ := (HV6.out.1.on hb7).at_ (i := 1) (v := .int .i64 1) (by rw [e6]; rfl)
    obtain ⟨x7, y7, rfl, l7, m7⟩ := (HV6.out.2.on hb7).at_ (i := 0) (v := .int .i64 0) (by rw [e7]; rfl)
    obtain ⟨rfl, rfl⟩ : x6' = x6 ∧ y6' = y6 := by { injection ex with ex; injection ex with a b c; exact ⟨a.symm, b.symm⟩ }
    rw [Nat.add_zero] at m6 m7
    have HK7 : Hid (∀ V, Below W7.heap.size W7 V → (V.cell? ⟨w.heap.size, 0, none⟩ = some (.int .i64 3) ∧ V.cell? ⟨w.heap.size, 1, none⟩ = some (.int .i64 3) ∧ V.cell? ⟨w.heap.size, 2, none⟩ = some (.int .i64 2)) ∧ (V.cell? ⟨b9, 0, none⟩ = some (.int .i64 6) ∧ V.cell? ⟨b9, 1, none⟩ = some (.int .i64 3) ∧ V.cell? ⟨b9, 2, none⟩ = some (.int .i64 3) ∧ V.cell? ⟨b9, 3, none⟩ = some (.int .i64 2)) ∧ V.cell? ⟨b4, 0, none⟩ = some (.slice AG 6 cG) ∧ V.cell? ⟨x6', y6', none⟩ = some (.int .i64 0) ∧ V.cell? ⟨x6', y6' + 1, none⟩ = some (.int .i64 1) ∧ V.cell? ⟨x7, y7, none⟩ = some (.int .i64 0)) := fun V hV =>
      have h := HS7.out.on hV
      ⟨how_at h.2.1, ⟨(cell_at h.2.2.1 0).trans rfl, (cell_at h.2.2.1 1).trans rfl, (cell_at h.2.2.1 2).trans rfl, (cell_at h.2.2.1 3).trans rfl⟩, (cell_at (HG7.out.on hV).1 0).trans rfl, (hV.cell (p := ⟨x6', y6', none⟩) l6).trans m6, (hV.cell (p := ⟨x6', y6' + 1, none⟩) l6).trans m6', (hV.cell (p := ⟨x7, y7, none⟩) l7).trans m7⟩
    have HD7 : Hid (Below W7.heap.size W7 W7.drew) := (Below.refl _ _).drew
    have he : ∀ w : World, (binOp .eql 24 (.agg #[.int .i64 3, .int .i64 3, .int .i64 2]) (.agg #[.int .i64 3, .int .i64 3, .int .i64 2])).run Tryz.prog w = .ok (.bool true) w := fun w => by { rw [eqh_run]; simp }
    have HF7 := Lib.hid HS7.out.1
    clear hb7 bq6 HS5 HG5 e6 e7 ex l6 l6' l7 m6 m6' m7 HV6 HS7
    try rw [hW7]
    clear hW7
    go_region_held3 (fun V => (V.cell? ⟨w.heap.size, 0, none⟩ = some (.int .i64 3) ∧ V.cell? ⟨w.heap.size, 1, none⟩ = some (.int .i64 3) ∧ V.cell? ⟨w.heap.size, 2, none⟩ = some (.int .i64 2)) ∧ (V.cell? ⟨b9, 0, none⟩ = some (.int .i64 6) ∧ V.cell? ⟨b9, 1, none⟩ = some (.int .i64 3) ∧ V.cell? ⟨b9, 2, none⟩ = some (.int .i64 3) ∧ V.cell? ⟨b9, 3, none⟩ = some (.int .i64 2)) ∧ V.cell? ⟨b4, 0, none⟩ = some (.slice AG 6 cG) ∧ V.cell? ⟨x6', y6', none⟩ = some (.int .i64 0) ∧ V.cell? ⟨x6', y6' + 1, none⟩ = some (.int .i64 1) ∧ V.cell? ⟨x7, y7, none⟩ = some (.int .i64 0))
      ((first | exact HK7.out _ HY.out | exact HK7.out _ HX.out | exact HK7.out _ HD7.out))
      ((first
        | (go_at_call 32; refine (sg_same HG7.out HRG.out HX.out g1 g3.here).mono ?_; rintro e wy2 ⟨rfl, bq⟩; have HY : Hid (Below W7.heap.size W7 wy2) := HX.out.trans (bq.mono HX.out.size); clear bq)
        | (go_at_call 77; refine (some_ok _).mono ?_; rintro e wx ⟨A5', c5', R5', rfl, g1, g2, g3, bq1⟩; have HX : Hid (Below W7.heap.size W7 wx) := HD7.out.trans (bq1.mono HD7.out.size); clear bq1)))
    all_goals (
      have HFin : Hid (Below w.heap.size w wy2) := HF7.out.trans (HY.out.mono HF7.out.size)
      go_wp2
      go_ret
      exact ⟨rfl, HFin.out⟩))
end
end Go.Proofs.YtbddcokjkdoaaaaGreat
