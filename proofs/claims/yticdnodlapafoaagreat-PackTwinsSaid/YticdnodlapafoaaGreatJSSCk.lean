/- What Check of a way to tell lists answers, and checkReference; no condition. -/
import Derived.Test.YticdnodlapafoaaGreatJS6
import Derived.Test.YticdnodlapafoaaGreatJSNWrite
import Derived.Deep.RegionWith
import Derived.Deep.RegionHeld3
namespace Go.Proofs.YticdnodlapafoaaGreat
set_option maxRecDepth 100000
set_option linter.unusedVariables false
open Go.RowKit Go.Shelf

/-- Operations of a region that draws its order, one by one, by their numbers. -/
theorem of_drop {l : List Oper} {i : Nat} {oi : Oper} {rest : List Oper} (h : l.drop i = oi :: rest) : l.toArray[i]? = some oi := by
  rw [List.getElem?_toArray, ← List.head?_drop, h]; rfl
theorem held_val {P : Program} {md : Region.Mode} {l : List Oper} {Q : Exit → Act → World → Prop} {S : World → Prop} {i : Nat} {oi : Oper} {rest : List Oper} {fuel : Nat} {listed : Array Bool} {a : Act} {w : World} (hi : l.drop i = oi :: rest)
    (hs : Region.noSelect l.toArray = true) (hf : Region.free md l.toArray listed i = true) (hr : (Region.ready md l.toArray listed).contains i = true)
    (hQ : ∀ v c a w, Q (.panic c) (a.put oi.dst v) w → Q (.panic c) a w) (hS : S w) (hw : Region.wanted oi (yielded l.toArray a.tmps) = true)
    (h : ∃ v, (∀ w, S w → (execOp a.eval oi).run P w = .ok (.value v) w) ∧ wpAnyH P md l.toArray Q S fuel (listed.setIfInBounds i true) (a.put oi.dst v) w) : wpAnyH P md l.toArray Q S (fuel + 1) listed a w :=
  let ⟨v, h1, h2⟩ := h
  wpAnyH_take (of_drop hi) hs hf hr (hQ v) (.inl ⟨hw, h1⟩) hS h2
theorem held_skip {P : Program} {md : Region.Mode} {l : List Oper} {Q : Exit → Act → World → Prop} {S : World → Prop} {i : Nat} {oi : Oper} {rest : List Oper} {fuel : Nat} {listed : Array Bool} {a : Act} {w : World} (hi : l.drop i = oi :: rest)
    (hs : Region.noSelect l.toArray = true) (hf : Region.free md l.toArray listed i = true) (hr : (Region.ready md l.toArray listed).contains i = true)
    (hQ : ∀ v c a w, Q (.panic c) (a.put oi.dst v) w → Q (.panic c) a w) (hS : S w) (hw : Region.wanted oi (yielded l.toArray a.tmps) = false)
    (h : wpAnyH P md l.toArray Q S fuel (listed.setIfInBounds i true) (a.put oi.dst undef) w) : wpAnyH P md l.toArray Q S (fuel + 1) listed a w :=
  wpAnyH_take (of_drop hi) hs hf hr (hQ undef) (.inr ⟨hw, rfl⟩) hS h
/-- The error of a way to tell lists. -/
def hck (b s k : Int) : Int := rgE 0 [decide (0 ≤ b), decide (b ≤ 7), (decide (s = 0) || okL s), okK k]
theorem hck_zero (b s k : Int) (h : hck b s k = 0) : (0 ≤ b ∧ b ≤ 7) ∧ (s = 0 ∨ 2 ≤ s ∧ s ≤ 300) ∧ (1 ≤ k ∧ k ≤ 16) := by
  unfold hck rgE at h
  split at h
  · omega
  · rename_i h1
    simp only [true_and, Bool.not_eq_true] at h1
    have h2 : ∀ x ∈ [decide (0 ≤ b), decide (b ≤ 7), (decide (s = 0) || okL s), okK k], x = true := by
      intro x hx
      cases x with
      | true => rfl
      | false =>
        have : [decide (0 ≤ b), decide (b ≤ 7), (decide (s = 0) || okL s), okK k].contains false = true := by
          rw [List.contains_iff_mem]; exact hx
        rw [this] at h1; cases h1
    have a1 := h2 _ (by simp : decide (0 ≤ b) ∈ _)
    have a2 := h2 _ (by simp : decide (b ≤ 7) ∈ [decide (0 ≤ b), decide (b ≤ 7), (decide (s = 0) || okL s), okK k])
    have a3 := h2 _ (by simp : (decide (s = 0) || okL s) ∈ [decide (0 ≤ b), decide (b ≤ 7), (decide (s = 0) || okL s), okK k])
    have a4 := h2 _ (by simp : okK k ∈ [decide (0 ≤ b), decide (b ≤ 7), (decide (s = 0) || okL s), okK k])
    obtain ⟨n, hn, hn1, hn2⟩ := okK_true a4
    refine ⟨⟨by simpa using a1, by simpa using a2⟩, ?_, by omega⟩
    rw [Bool.or_eq_true] at a3
    rcases a3 with h | h
    · left; simpa using h
    · right; unfold okL at h; simpa using h
theorem hck_ok (b s k : Nat) (h1 : b ≤ 7) (h2 : s = 0 ∨ 2 ≤ s ∧ s ≤ 300) (h3 : 1 ≤ k) (h4 : k ≤ 16) : hck (b : Int) (s : Int) (k : Int) = 0 := by
  have a1 : decide ((0 : Int) ≤ (b : Int)) = true := by simp
  have a2 : decide ((b : Int) ≤ 7) = true := by simp; omega
  have a3 : (decide ((s : Int) = 0) || okL (s : Int)) = true := by
    rw [Bool.or_eq_true]
    rcases h2 with h | h
    · left; simp; omega
    · right; unfold okL; simp; omega
  unfold hck
  rw [a1, a2, a3, okK_nat k h3 h4]; rfl
set_option maxHeartbeats 8000000 in
theorem scheck_any (b s k : Int) (w : World) : Calls Tryz.prog 20 #[.agg #[.int .i64 b, .int .i64 s, .int .i64 k]] w fun e w' => e = .returned (.int .i64 (hck b s k)) ∧ Below w.heap.size w w' := by
  have HKK := Lib.hid (isK_any k)
  have HLL := Lib.hid (atleast_any s)
  have HR := Lib.hid (range4 0 (decide (0 ≤ b)) (decide (b ≤ 7)) (decide (s = 0) || okL s) (okK k) (hck b s k) rfl)
  generalize hck b s k = r at *
  generalize okK k = ok at *
  obtain ⟨V0, hV⟩ : ∃ V0, w.alloc (.cells #[.int .i64 b, .int .i64 s, .int .i64 k] 24) = V0 := ⟨_, rfl⟩
  have HV : Hid (Below w.heap.size w V0) := hV ▸ one_below w _
  have HBx : Hid (V0.heap[w.heap.size]? = some (.cells #[.int .i64 b, .int .i64 s, .int .i64 k] 24 (0, 0))) := hV ▸ World.alloc_heap_new w _
  have hz : w.heap.size < V0.heap.size := (Array.getElem?_eq_some_iff.1 HBx.out).1
  have k0 : V0.cell? ⟨w.heap.size, 0, none⟩ = some (.int .i64 b) := (cell_at HBx.out _).trans rfl
  have k1 : V0.cell? ⟨w.heap.size, 1, none⟩ = some (.int .i64 s) := (cell_at HBx.out _).trans rfl
  have k2 : V0.cell? ⟨w.heap.size, 2, none⟩ = some (.int .i64 k) := (cell_at HBx.out _).trans rfl
  have HKe : Hid (∀ V, Below V0.heap.size V0 V → V.cell? ⟨w.heap.size, 0, none⟩ = some (.int .i64 b) ∧ V.cell? ⟨w.heap.size, 1, none⟩ = some (.int .i64 s) ∧ V.cell? ⟨w.heap.size, 2, none⟩ = some (.int .i64 k)) := fun V hV => ⟨(hV.cell (p := ⟨w.heap.size, 0, none⟩) hz).trans k0, (hV.cell (p := ⟨w.heap.size, 1, none⟩) hz).trans k1, (hV.cell (p := ⟨w.heap.size, 2, none⟩) hz).trans k2⟩
  by_cases h0 : s = 0
  · have t0 : (s == 0) = true := by simpa using h0
    rw [decide_eq_true h0, Bool.true_or] at HR
    clear h0
    go_enter Tryz.func20, Tryz.ntmps20
    go_wp2_with fail
    refine wp_region_held_drew (S := fun w' => w'.cell? ⟨w.heap.size, 0, none⟩ = some (.int .i64 b) ∧ w'.cell? ⟨w.heap.size, 1, none⟩ = some (.int .i64 s) ∧ w'.cell? ⟨w.heap.size, 2, none⟩ = some (.int .i64 k)) (by kernel_rfl) (HKe.out _ (Below.refl _ _).drew) (fun hHeld => ?_)
    (refine held_val (i := 0) rfl (by kernel_rfl) (by kernel_rfl) (by kernel_rfl) (fun _ _ _ _ h => h) hHeld (by rfl) ?_; apply Exists.intro; refine ⟨fun wq hSw => ?_, ?_⟩; ((try dsimp only at hSw); obtain ⟨k1, k2, k3⟩ := hSw; go_simp; try rfl); try simp only [Act.put, List.setIfInBounds_toArray, List.set_cons_zero, List.set_cons_succ])
    (refine held_val (i := 1) rfl (by kernel_rfl) (by kernel_rfl) (by kernel_rfl) (fun _ _ _ _ h => h) hHeld (by rfl) ?_; apply Exists.intro; refine ⟨fun wq hSw => ?_, ?_⟩; ((try dsimp only at hSw); obtain ⟨k1, k2, k3⟩ := hSw; go_simp; try rfl); try simp only [Act.put, List.setIfInBounds_toArray, List.set_cons_zero, List.set_cons_succ])
    (refine held_val (i := 2) rfl (by kernel_rfl) (by kernel_rfl) (by kernel_rfl) (fun _ _ _ _ h => h) hHeld (by rfl) ?_; apply Exists.intro; refine ⟨fun wq hSw => ?_, ?_⟩; ((try dsimp only at hSw); obtain ⟨k1, k2, k3⟩ := hSw; go_simp; try rfl); try simp only [Act.put, List.setIfInBounds_toArray, List.set_cons_zero, List.set_cons_succ])
    (refine held_val (i := 3) rfl (by kernel_rfl) (by kernel_rfl) (by kernel_rfl) (fun _ _ _ _ h => h) hHeld (by rfl) ?_; apply Exists.intro; refine ⟨fun wq hSw => ?_, ?_⟩; ((try dsimp only at hSw); obtain ⟨k1, k2, k3⟩ := hSw; go_simp; try rfl); try simp only [Act.put, List.setIfInBounds_toArray, List.set_cons_zero, List.set_cons_succ])
    (refine held_val (i := 4) rfl (by kernel_rfl) (by kernel_rfl) (by kernel_rfl) (fun _ _ _ _ h => h) hHeld (by rfl) ?_; apply Exists.intro; refine ⟨fun wq hSw => ?_, ?_⟩; ((try dsimp only at hSw); obtain ⟨k1, k2, k3⟩ := hSw; go_simp; try rfl); try simp only [Act.put, List.setIfInBounds_toArray, List.set_cons_zero, List.set_cons_succ])
    (refine held_val (i := 5) rfl (by kernel_rfl) (by kernel_rfl) (by kernel_rfl) (fun _ _ _ _ h => h) hHeld (by rfl) ?_; apply Exists.intro; refine ⟨fun wq hSw => ?_, ?_⟩; ((try dsimp only at hSw); obtain ⟨k1, k2, k3⟩ := hSw; go_simp; try rfl); try simp only [Act.put, List.setIfInBounds_toArray, List.set_cons_zero, List.set_cons_succ])
    (refine held_val (i := 6) rfl (by kernel_rfl) (by kernel_rfl) (by kernel_rfl) (fun _ _ _ _ h => h) hHeld (by rfl) ?_; apply Exists.intro; refine ⟨fun wq hSw => ?_, ?_⟩; ((try dsimp only at hSw); obtain ⟨k1, k2, k3⟩ := hSw; go_simp; try rfl); try simp only [Act.put, List.setIfInBounds_toArray, List.set_cons_zero, List.set_cons_succ])
    (refine held_val (i := 7) rfl (by kernel_rfl) (by kernel_rfl) (by kernel_rfl) (fun _ _ _ _ h => h) hHeld (by rfl) ?_; apply Exists.intro; refine ⟨fun wq hSw => ?_, ?_⟩; ((try dsimp only at hSw); obtain ⟨k1, k2, k3⟩ := hSw; go_simp; try rfl); try simp only [Act.put, List.setIfInBounds_toArray, List.set_cons_zero, List.set_cons_succ])
    (refine held_val (i := 8) rfl (by kernel_rfl) (by kernel_rfl) (by kernel_rfl) (fun _ _ _ _ h => h) hHeld (by rfl) ?_; apply Exists.intro; refine ⟨fun wq hSw => ?_, ?_⟩; ((try dsimp only at hSw); obtain ⟨k1, k2, k3⟩ := hSw; go_simp; try rfl); try simp only [Act.put, List.setIfInBounds_toArray, List.set_cons_zero, List.set_cons_succ])
    (refine held_val (i := 9) rfl (by kernel_rfl) (by kernel_rfl) (by kernel_rfl) (fun _ _ _ _ h => h) hHeld (by rfl) ?_; apply Exists.intro; refine ⟨fun wq hSw => ?_, ?_⟩; ((try dsimp only at hSw); obtain ⟨k1, k2, k3⟩ := hSw; go_simp; try rfl); try simp only [Act.put, List.setIfInBounds_toArray, List.set_cons_zero, List.set_cons_succ])
    (refine held_skip (i := 10) rfl (by kernel_rfl) (by kernel_rfl) (by kernel_rfl) (fun _ _ _ _ h => h) hHeld (by rfl) ?_; try simp only [Act.put, List.setIfInBounds_toArray, List.set_cons_zero, List.set_cons_succ])
    (refine held_skip (i := 11) rfl (by kernel_rfl) (by kernel_rfl) (by kernel_rfl) (fun _ _ _ _ h => h) hHeld (by rfl) ?_; try simp only [Act.put, List.setIfInBounds_toArray, List.set_cons_zero, List.set_cons_succ])
    (refine held_skip (i := 12) rfl (by kernel_rfl) (by kernel_rfl) (by kernel_rfl) (fun _ _ _ _ h => h) hHeld (by rfl) ?_; try simp only [Act.put, List.setIfInBounds_toArray, List.set_cons_zero, List.set_cons_succ])
    (refine held_val (i := 13) rfl (by kernel_rfl) (by kernel_rfl) (by kernel_rfl) (fun _ _ _ _ h => h) hHeld (by rfl) ?_; apply Exists.intro; refine ⟨fun wq hSw => ?_, ?_⟩; ((try dsimp only at hSw); obtain ⟨k1, k2, k3⟩ := hSw; go_simp; try rfl); try simp only [Act.put, List.setIfInBounds_toArray, List.set_cons_zero, List.set_cons_succ])
    (refine held_val (i := 14) rfl (by kernel_rfl) (by kernel_rfl) (by kernel_rfl) (fun _ _ _ _ h => h) hHeld (by rfl) ?_; apply Exists.intro; refine ⟨fun wq hSw => ?_, ?_⟩; ((try dsimp only at hSw); obtain ⟨k1, k2, k3⟩ := hSw; go_simp; try rfl); try simp only [Act.put, List.setIfInBounds_toArray, List.set_cons_zero, List.set_cons_succ])
    (refine held_val (i := 15) rfl (by kernel_rfl) (by kernel_rfl) (by kernel_rfl) (fun _ _ _ _ h => h) hHeld (by rfl) ?_; apply Exists.intro; refine ⟨fun wq hSw => ?_, ?_⟩; ((try dsimp only at hSw); obtain ⟨k1, k2, k3⟩ := hSw; go_simp; try rfl); try simp only [Act.put, List.setIfInBounds_toArray, List.set_cons_zero, List.set_cons_succ])
    refine wpAnyH_ready (rs := [16]) (by kernel_rfl) (by simp) ?_
    refine AllReadyH.cons (of_drop rfl) (fun K hK => ?_) AllReadyH.nil
    go_simp
    (refine (HKK.out _).mono ?_; rintro e w' ⟨rfl, rfl⟩)
    go_wp2_with fail
    refine hK.out _ _ (HKe.out _ (Below.refl _ _).drew) (fun hHeld => ?_)
    clear hK K
    try simp only [Act.put, List.setIfInBounds_toArray, List.set_cons_zero, List.set_cons_succ]
    refine wpAnyH_ready (rs := [17]) (by kernel_rfl) (by simp) ?_
    refine AllReadyH.cons (of_drop rfl) (fun K hK => ?_) AllReadyH.nil
    go_simp
    refine hK.out _ _ (HKe.out _ ((Below.refl _ _).drew.trans (one_below V0.drew _))) (fun hHeld => ?_)
    clear hK K
    try simp only [Act.put, List.setIfInBounds_toArray, List.set_cons_zero, List.set_cons_succ]
    refine wpAnyH_ready (rs := [18]) (by kernel_rfl) (by simp) ?_
    refine AllReadyH.cons (of_drop rfl) (fun K hK => ?_) AllReadyH.nil
    go_simp
    (go_at_call 41; refine (HR.out V0.drew _ rfl).mono ?_; rintro e w2 ⟨rfl, B2⟩; have hk2 : Hid (Below V0.heap.size V0 w2) := ((Below.refl _ V0).drew).trans B2; clear B2)
    go_wp2_with fail
    refine hK.out _ _ (HKe.out _ hk2.out) (fun hHeld => ?_)
    clear hK K
    try simp only [Act.put, List.setIfInBounds_toArray, List.set_cons_zero, List.set_cons_succ]
    (refine held_val (i := 19) rfl (by kernel_rfl) (by kernel_rfl) (by kernel_rfl) (fun _ _ _ _ h => h) hHeld (by rfl) ?_; apply Exists.intro; refine ⟨fun wq hSw => ?_, ?_⟩; ((try dsimp only at hSw); obtain ⟨k1, k2, k3⟩ := hSw; go_simp; try rfl); try simp only [Act.put, List.setIfInBounds_toArray, List.set_cons_zero, List.set_cons_succ])
    refine wpAnyH_done (by kernel_rfl) ?_ _
    go_wp2
    go_ret
    exact ⟨rfl, HV.out.trans (hk2.out.mono HV.out.size)⟩
  · have t0 : (s == 0) = false := by simpa using h0
    rw [decide_eq_false h0, Bool.false_or] at HR
    generalize okL s = sl at *
    clear h0
    go_enter Tryz.func20, Tryz.ntmps20
    go_wp2_with fail
    go_region_held3 (fun w' => w'.cell? ⟨w.heap.size, 0, none⟩ = some (.int .i64 b) ∧ w'.cell? ⟨w.heap.size, 1, none⟩ = some (.int .i64 s) ∧ w'.cell? ⟨w.heap.size, 2, none⟩ = some (.int .i64 k))
      ((refine HKe.out _ ?_; first | exact hk2.out | exact (Below.refl _ V0).drew.trans (one_below V0.drew _) | exact (Below.refl _ V0).drew | exact Below.refl _ _))
      (first
        | (go_at_call 41; refine (HR.out V0.drew _ rfl).mono ?_; rintro e w2 ⟨rfl, B2⟩; have hk2 : Hid (Below V0.heap.size V0 w2) := ((Below.refl _ V0).drew).trans B2; clear B2)
        | (go_at_call 56; refine (HKK.out _).mono ?_; rintro e w' ⟨rfl, rfl⟩)
        | (go_at_call 55; refine (HLL.out _).mono ?_; rintro e w' ⟨rfl, rfl⟩))
    all_goals (
      go_wp2
      go_ret
      exact ⟨rfl, HV.out.trans (hk2.out.mono HV.out.size)⟩)
set_option maxHeartbeats 1000000 in
theorem cref_any (b s k : Int) (ys : List Int) (n : Nat) (hn : ys.length = n) (hn2 : n ≤ 9223372036854775807) (A : Option Addr) (c : Nat) (w : World) (h : RdV w w.heap.size A (zc ys)) :
    Calls Tryz.prog 44 #[.slice A n c, .agg #[.int .i64 b, .int .i64 s, .int .i64 k]] w fun e w' => e = .returned (.int .i64 (if b = 0 then 0 else rchk ys)) ∧ Below w.heap.size w w' := by
  have hB := one_below w (.cells #[.int .i64 b, .int .i64 s, .int .i64 k] 24)
  have HB := Lib.hid hB
  by_cases h0 : b = 0
  · have t0 : (b == 0) = true := by simpa using h0
    rw [if_pos h0]
    clear h hn h0 hB
    go_enter Tryz.func44, Tryz.ntmps44
    go_wp2
    go_ret
    exact ⟨rfl, HB.out⟩
  · have t0 : (b == 0) = false := by simpa using h0
    rw [if_neg h0]
    have HC := Lib.hid (gcheck_any ys n hn hn2 A c _ (h.on hB))
    clear h hn h0 hB
    go_enter Tryz.func44, Tryz.ntmps44
    go_wp2_with fail
    refine HC.out.mono ?_
    rintro e w2 ⟨rfl, B2⟩
    have HB2 := Lib.hid (HB.out.trans (B2.mono HB.out.size))
    clear B2
    go_wp2
    go_ret
    exact ⟨rfl, HB2.out⟩
end Go.Proofs.YticdnodlapafoaaGreat
