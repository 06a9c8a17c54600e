/- The law GolombSame: for whatever number it returns true. -/
import Derived.Test.YtcacbekdghlncaaGBegun
import Derived.Test.YtcacbekdghlncaaGRises
import Derived.Test.YtcacbekdghlncaaRefPack
import Derived.Test.YtcacbekdghlncaaRefU
import Derived.Test.YtcacbekdghlncaaOpen
import Derived.Deep.RegionHeld3
namespace Go.Proofs.Ytcacbekdghlncaa
set_option maxRecDepth 100000
set_option linter.unusedVariables false
open Go.RowKit


/-- Operations of a region that draws its order, one by one, by their numbers. -/
theorem of_drop {l : List Oper} {i : Nat} {oi : Oper} {rest : List Oper} (h : l.drop i = oi :: rest) : l.toArray[i]? = some oi := by
  rw [List.getElem?_toArray, ← List.head?_drop, h]; rfl
theorem held_val {P : Program} {md : Region.Mode} {l : List Oper} {Q : Exit → Act → World → Prop} {S : World → Prop} {i : Nat} {oi : Oper} {rest : List Oper} {fuel : Nat} {listed : Array Bool} {a : Act} {w : World} (hi : l.drop i = oi :: rest)
    (hs : Region.noSelect l.toArray = true) (hf : Region.free md l.toArray listed i = true) (hr : (Region.ready md l.toArray listed).contains i = true)
    (hQ : ∀ v c a w, Q (.panic c) (a.put oi.dst v) w → Q (.panic c) a w) (hS : S w) (hw : Region.wanted oi (yielded l.toArray a.tmps) = true)
    (h : ∃ v, (∀ w, S w → (execOp a.eval oi).run P w = .ok (.value v) w) ∧ wpAnyH P md l.toArray Q S fuel (listed.setIfInBounds i true) (a.put oi.dst v) w) : wpAnyH P md l.toArray Q S (fuel + 1) listed a w :=
  let ⟨v, h1, h2⟩ := h
  wpAnyH_take (of_drop hi) hs hf hr (hQ v) (.inl ⟨hw, h1⟩) hS h2
theorem held_skip {P : Program} {md : Region.Mode} {l : List Oper} {Q : Exit → Act → World → Prop} {S : World → Prop} {i : Nat} {oi : Oper} {rest : List Oper} {fuel : Nat} {listed : Array Bool} {a : Act} {w : World} (hi : l.drop i = oi :: rest)
    (hs : Region.noSelect l.toArray = true) (hf : Region.free md l.toArray listed i = true) (hr : (Region.ready md l.toArray listed).contains i = true)
    (hQ : ∀ v c a w, Q (.panic c) (a.put oi.dst v) w → Q (.panic c) a w) (hS : S w) (hw : Region.wanted oi (yielded l.toArray a.tmps) = false)
    (h : wpAnyH P md l.toArray Q S fuel (listed.setIfInBounds i true) (a.put oi.dst undef) w) : wpAnyH P md l.toArray Q S (fuel + 1) listed a w :=
  wpAnyH_take (of_drop hi) hs hf hr (hQ undef) (.inr ⟨hw, rfl⟩) hS h
set_option maxHeartbeats 1000000 in
theorem gsame_e (n : Nat) (lX lZ : Int) (nX nZ nU : Nat) (bX bZ : List Nat) (lU : List Bool) (w : World)
    (HX : Hid (∀ V, Calls Try.prog 44 #[.int .u64 (n : Int), .int .i64 1] V (Gv V lX nX bX 3)))
    (HY : Hid (∀ V, Calls Try.prog 15 #[.int .u64 (n : Int)] V (Gv V lX nX bX 3)))
    (HZ : Hid (∀ V, Calls Try.prog 36 #[.int .u64 (n : Int), .int .u64 1] V (Gv V lZ nZ bZ 3))) :
    Calls Try.prog 11 #[.int .u64 (n : Int)] w fun e w' => e = .returned (.bool true) ∧ Below w.heap.size w w' := by
  go_enter Try.func11, Try.ntmps11
  go_wp2_with fail
  refine (HX.out _).mono ?_
  rintro e w1_ ⟨A1, c1, rfl, Rq, Bq⟩
  have Sq : Below w.heap.size w w1_ := Bq
  have HB : Hid (Below w.heap.size w w1_) := Sq
  clear Bq Sq
  have RX := Lib.hid Rq; clear Rq
  go_wp2_with fail
  refine (HY.out _).mono ?_
  rintro e w2_ ⟨A2, c2, rfl, Rq, Bq⟩
  rw [World.size_alloc] at Bq
  have Sq : Below w1_.heap.size w1_ w2_ := (one_below w1_ _).trans (Bq.mono (by omega))
  have zx : w1_.heap.size < w2_.heap.size := by have := Bq.size; rw [World.size_alloc] at this; omega
  obtain ⟨px, qx⟩ := box_at Bq
  replace RX : Hid (Rd w2_ w2_.heap.size A1 bX) := RX.out.on Sq
  replace HB : Hid (Below w.heap.size w w2_) := HB.out.trans (Sq.mono HB.out.size)
  clear Bq Sq
  have RY := Lib.hid Rq; clear Rq
  go_wp2_with fail
  refine (HZ.out _).mono ?_
  rintro e w3_ ⟨A3, c3, rfl, Rq, Bq⟩
  rw [World.size_alloc] at Bq
  have Sq : Below w2_.heap.size w2_ w3_ := (one_below w2_ _).trans (Bq.mono (by omega))
  have zy : w2_.heap.size < w3_.heap.size := by have := Bq.size; rw [World.size_alloc] at this; omega
  obtain ⟨py, qy⟩ := box_at Bq
  replace px := (Sq.cell (p := ⟨w1_.heap.size, 0, none⟩) zx).trans px
  replace qx := (Sq.cell (p := ⟨w1_.heap.size, 1, none⟩) zx).trans qx
  replace zx : w1_.heap.size < w3_.heap.size := Nat.lt_of_lt_of_le zx Sq.size
  replace RX : Hid (Rd w3_ w3_.heap.size A1 bX) := RX.out.on Sq
  replace RY : Hid (Rd w3_ w3_.heap.size A2 bX) := RY.out.on Sq
  replace HB : Hid (Below w.heap.size w w3_) := HB.out.trans (Sq.mono HB.out.size)
  clear Bq Sq
  have RZ := Lib.hid Rq; clear Rq
  go_wp2_with fail
  refine (gbegun_true _).mono ?_
  rintro e w4_ ⟨rfl, Bq⟩
  rw [World.size_alloc] at Bq
  have Sq : Below w3_.heap.size w3_ w4_ := (one_below w3_ _).trans (Bq.mono (by omega))
  have zz : w3_.heap.size < w4_.heap.size := by have := Bq.size; rw [World.size_alloc] at this; omega
  obtain ⟨pz, qz⟩ := box_at Bq
  replace px := (Sq.cell (p := ⟨w1_.heap.size, 0, none⟩) zx).trans px
  replace qx := (Sq.cell (p := ⟨w1_.heap.size, 1, none⟩) zx).trans qx
  replace zx : w1_.heap.size < w4_.heap.size := Nat.lt_of_lt_of_le zx Sq.size
  replace py := (Sq.cell (p := ⟨w2_.heap.size, 0, none⟩) zy).trans py
  replace qy := (Sq.cell (p := ⟨w2_.heap.size, 1, none⟩) zy).trans qy
  replace zy : w2_.heap.size < w4_.heap.size := Nat.lt_of_lt_of_le zy Sq.size
  replace RX : Hid (Rd w4_ w4_.heap.size A1 bX) := RX.out.on Sq
  replace RY : Hid (Rd w4_ w4_.heap.size A2 bX) := RY.out.on Sq
  replace RZ : Hid (Rd w4_ w4_.heap.size A3 bZ) := RZ.out.on Sq
  replace HB : Hid (Below w.heap.size w w4_) := HB.out.trans (Sq.mono HB.out.size)
  clear Bq Sq
  go_wp2_with fail
  refine (ebegun_true _).mono ?_
  rintro e w5_ ⟨rfl, Bq⟩
  have Sq : Below w4_.heap.size w4_ w5_ := Bq
  replace px := (Sq.cell (p := ⟨w1_.heap.size, 0, none⟩) zx).trans px
  replace qx := (Sq.cell (p := ⟨w1_.heap.size, 1, none⟩) zx).trans qx
  replace zx : w1_.heap.size < w5_.heap.size := Nat.lt_of_lt_of_le zx Sq.size
  replace py := (Sq.cell (p := ⟨w2_.heap.size, 0, none⟩) zy).trans py
  replace qy := (Sq.cell (p := ⟨w2_.heap.size, 1, none⟩) zy).trans qy
  replace zy : w2_.heap.size < w5_.heap.size := Nat.lt_of_lt_of_le zy Sq.size
  replace pz := (Sq.cell (p := ⟨w3_.heap.size, 0, none⟩) zz).trans pz
  replace qz := (Sq.cell (p := ⟨w3_.heap.size, 1, none⟩) zz).trans qz
  replace zz : w3_.heap.size < w5_.heap.size := Nat.lt_of_lt_of_le zz Sq.size
  replace RX : Hid (Rd w5_ w5_.heap.size A1 bX) := RX.out.on Sq
  replace RY : Hid (Rd w5_ w5_.heap.size A2 bX) := RY.out.on Sq
  replace RZ : Hid (Rd w5_ w5_.heap.size A3 bZ) := RZ.out.on Sq
  replace HB : Hid (Below w.heap.size w w5_) := HB.out.trans (Sq.mono HB.out.size)
  clear Bq Sq
  go_wp2
  go_ret
  exact ⟨rfl, HB.out⟩
set_option maxHeartbeats 1000000 in
theorem gsame_b (N : Int) (lX lZ : Int) (nX nZ nU : Nat) (bX bZ : List Nat) (lU : List Bool) (hn : (8128 : Int) ≤ N) (w : World)
    (HX : Hid (∀ V, Calls Try.prog 44 #[.int .u64 N, .int .i64 1] V (Gv V lX nX bX 0)))
    (HY : Hid (∀ V, Calls Try.prog 15 #[.int .u64 N] V (Gv V lX nX bX 0)))
    (HZ : Hid (∀ V, Calls Try.prog 36 #[.int .u64 N, .int .u64 1] V (Gv V lZ nZ bZ 3)))
    (HS : Hid (∀ A B c d V, Rd V V.heap.size A bX → Rd V V.heap.size B bX → Calls Try.prog 28 #[.agg #[.int .i64 lX, .slice A nX c], .agg #[.int .i64 lX, .slice B nX d]] V fun e w' => e = .returned (.bool true) ∧ Below V.heap.size V w')) :
    Calls Try.prog 11 #[.int .u64 N] w fun e w' => e = .returned (.bool true) ∧ Below w.heap.size w w' := by
  have t1 : decide ((8128 : Int) ≤ N) = true := by simp; omega
  clear hn
  go_enter Try.func11, Try.ntmps11
  go_wp2_with fail
  refine (HX.out _).mono ?_
  rintro e w1_ ⟨A1, c1, rfl, Rq, Bq⟩
  have Sq : Below w.heap.size w w1_ := Bq
  have HB : Hid (Below w.heap.size w w1_) := Sq
  clear Bq Sq
  have RX := Lib.hid Rq; clear Rq
  go_wp2_with fail
  refine (HY.out _).mono ?_
  rintro e w2_ ⟨A2, c2, rfl, Rq, Bq⟩
  rw [World.size_alloc] at Bq
  have Sq : Below w1_.heap.size w1_ w2_ := (one_below w1_ _).trans (Bq.mono (by omega))
  have zx : w1_.heap.size < w2_.heap.size := by have := Bq.size; rw [World.size_alloc] at this; omega
  obtain ⟨px, qx⟩ := box_at Bq
  replace RX : Hid (Rd w2_ w2_.heap.size A1 bX) := RX.out.on Sq
  replace HB : Hid (Below w.heap.size w w2_) := HB.out.trans (Sq.mono HB.out.size)
  clear Bq Sq
  have RY := Lib.hid Rq; clear Rq
  go_wp2_with fail
  refine (HZ.out _).mono ?_
  rintro e w3_ ⟨A3, c3, rfl, Rq, Bq⟩
  rw [World.size_alloc] at Bq
  have Sq : Below w2_.heap.size w2_ w3_ := (one_below w2_ _).trans (Bq.mono (by omega))
  have zy : w2_.heap.size < w3_.heap.size := by have := Bq.size; rw [World.size_alloc] at this; omega
  obtain ⟨py, qy⟩ := box_at Bq
  replace px := (Sq.cell (p := ⟨w1_.heap.size, 0, none⟩) zx).trans px
  replace qx := (Sq.cell (p := ⟨w1_.heap.size, 1, none⟩) zx).trans qx
  replace zx : w1_.heap.size < w3_.heap.size := Nat.lt_of_lt_of_le zx Sq.size
  replace RX : Hid (Rd w3_ w3_.heap.size A1 bX) := RX.out.on Sq
  replace RY : Hid (Rd w3_ w3_.heap.size A2 bX) := RY.out.on Sq
  replace HB : Hid (Below w.heap.size w w3_) := HB.out.trans (Sq.mono HB.out.size)
  clear Bq Sq
  have RZ := Lib.hid Rq; clear Rq
  go_wp2_with fail
  refine (gbegun_true _).mono ?_
  rintro e w4_ ⟨rfl, Bq⟩
  rw [World.size_alloc] at Bq
  have Sq : Below w3_.heap.size w3_ w4_ := (one_below w3_ _).trans (Bq.mono (by omega))
  have zz : w3_.heap.size < w4_.heap.size := by have := Bq.size; rw [World.size_alloc] at this; omega
  obtain ⟨pz, qz⟩ := box_at Bq
  replace px := (Sq.cell (p := ⟨w1_.heap.size, 0, none⟩) zx).trans px
  replace qx := (Sq.cell (p := ⟨w1_.heap.size, 1, none⟩) zx).trans qx
  replace zx : w1_.heap.size < w4_.heap.size := Nat.lt_of_lt_of_le zx Sq.size
  replace py := (Sq.cell (p := ⟨w2_.heap.size, 0, none⟩) zy).trans py
  replace qy := (Sq.cell (p := ⟨w2_.heap.size, 1, none⟩) zy).trans qy
  replace zy : w2_.heap.size < w4_.heap.size := Nat.lt_of_lt_of_le zy Sq.size
  replace RX : Hid (Rd w4_ w4_.heap.size A1 bX) := RX.out.on Sq
  replace RY : Hid (Rd w4_ w4_.heap.size A2 bX) := RY.out.on Sq
  replace RZ : Hid (Rd w4_ w4_.heap.size A3 bZ) := RZ.out.on Sq
  replace HB : Hid (Below w.heap.size w w4_) := HB.out.trans (Sq.mono HB.out.size)
  clear Bq Sq
  go_wp2_with fail
  refine (ebegun_true _).mono ?_
  rintro e w5_ ⟨rfl, Bq⟩
  have Sq : Below w4_.heap.size w4_ w5_ := Bq
  replace px := (Sq.cell (p := ⟨w1_.heap.size, 0, none⟩) zx).trans px
  replace qx := (Sq.cell (p := ⟨w1_.heap.size, 1, none⟩) zx).trans qx
  replace zx : w1_.heap.size < w5_.heap.size := Nat.lt_of_lt_of_le zx Sq.size
  replace py := (Sq.cell (p := ⟨w2_.heap.size, 0, none⟩) zy).trans py
  replace qy := (Sq.cell (p := ⟨w2_.heap.size, 1, none⟩) zy).trans qy
  replace zy : w2_.heap.size < w5_.heap.size := Nat.lt_of_lt_of_le zy Sq.size
  replace pz := (Sq.cell (p := ⟨w3_.heap.size, 0, none⟩) zz).trans pz
  replace qz := (Sq.cell (p := ⟨w3_.heap.size, 1, none⟩) zz).trans qz
  replace zz : w3_.heap.size < w5_.heap.size := Nat.lt_of_lt_of_le zz Sq.size
  replace RX : Hid (Rd w5_ w5_.heap.size A1 bX) := RX.out.on Sq
  replace RY : Hid (Rd w5_ w5_.heap.size A2 bX) := RY.out.on Sq
  replace RZ : Hid (Rd w5_ w5_.heap.size A3 bZ) := RZ.out.on Sq
  replace HB : Hid (Below w.heap.size w w5_) := HB.out.trans (Sq.mono HB.out.size)
  clear Bq Sq
  have HKe : Hid (∀ w' : World, Below w5_.heap.size w5_ w' → w'.cell? ⟨w1_.heap.size, 0, none⟩ = some (.int .i64 lX) ∧ w'.cell? ⟨w1_.heap.size, 1, none⟩ = some (.slice A1 nX c1) ∧ w'.cell? ⟨w2_.heap.size, 0, none⟩ = some (.int .i64 lX) ∧ w'.cell? ⟨w2_.heap.size, 1, none⟩ = some (.slice A2 nX c2) ∧ w'.cell? ⟨w3_.heap.size, 0, none⟩ = some (.int .i64 lZ) ∧ w'.cell? ⟨w3_.heap.size, 1, none⟩ = some (.slice A3 nZ c3)) := fun w' h => ⟨(h.cell (p := ⟨w1_.heap.size, 0, none⟩) zx).trans px, (h.cell (p := ⟨w1_.heap.size, 1, none⟩) zx).trans qx, (h.cell (p := ⟨w2_.heap.size, 0, none⟩) zy).trans py, (h.cell (p := ⟨w2_.heap.size, 1, none⟩) zy).trans qy, (h.cell (p := ⟨w3_.heap.size, 0, none⟩) zz).trans pz, (h.cell (p := ⟨w3_.heap.size, 1, none⟩) zz).trans qz⟩
  go_wp2_with fail
  refine wp_region_held_drew (S := fun w' => w'.cell? ⟨w1_.heap.size, 0, none⟩ = some (.int .i64 lX) ∧ w'.cell? ⟨w1_.heap.size, 1, none⟩ = some (.slice A1 nX c1) ∧ w'.cell? ⟨w2_.heap.size, 0, none⟩ = some (.int .i64 lX) ∧ w'.cell? ⟨w2_.heap.size, 1, none⟩ = some (.slice A2 nX c2) ∧ w'.cell? ⟨w3_.heap.size, 0, none⟩ = some (.int .i64 lZ) ∧ w'.cell? ⟨w3_.heap.size, 1, none⟩ = some (.slice A3 nZ c3)) (by kernel_rfl) (HKe.out _ (Below.refl _ _).drew) (fun hHeld => ?_)
  (refine held_val (i := 0) rfl (by kernel_rfl) (by kernel_rfl) (by kernel_rfl) (fun _ _ _ _ h => h) hHeld (by rfl) ?_; apply Exists.intro; refine ⟨fun wq hSw => ?_, ?_⟩; ((try dsimp only at hSw); obtain ⟨k1, k2, k3, k4, k5, k6⟩ := hSw; go_simp; try rfl); try simp only [Act.put, List.setIfInBounds_toArray, List.set_cons_zero, List.set_cons_succ])
  (refine held_val (i := 1) rfl (by kernel_rfl) (by kernel_rfl) (by kernel_rfl) (fun _ _ _ _ h => h) hHeld (by rfl) ?_; apply Exists.intro; refine ⟨fun wq hSw => ?_, ?_⟩; ((try dsimp only at hSw); obtain ⟨k1, k2, k3, k4, k5, k6⟩ := hSw; go_simp; try rfl); try simp only [Act.put, List.setIfInBounds_toArray, List.set_cons_zero, List.set_cons_succ])
  refine wpAnyH_ready (rs := [2]) (by kernel_rfl) (by simp) ?_
  refine AllReadyH.cons (of_drop rfl) (fun K hK => ?_) AllReadyH.nil
  clear hHeld
  go_simp
  (go_at_call 28; refine (HS.out A1 A2 c1 c2 w5_.drew RX.out RY.out).mono ?_; rintro e w7 ⟨rfl, B7⟩; have hk7 : Hid (Below w5_.heap.size w5_ w7) := ((Below.refl _ w5_).drew).trans B7; clear B7)
  go_wp2_with fail
  refine hK.out _ _ (HKe.out _ hk7.out) (fun hHeld => ?_)
  clear hK K
  try simp only [Act.put, List.setIfInBounds_toArray, List.set_cons_zero, List.set_cons_succ]
  (refine held_val (i := 3) rfl (by kernel_rfl) (by kernel_rfl) (by kernel_rfl) (fun _ _ _ _ h => h) hHeld (by rfl) ?_; apply Exists.intro; refine ⟨fun wq hSw => ?_, ?_⟩; ((try dsimp only at hSw); obtain ⟨k1, k2, k3, k4, k5, k6⟩ := hSw; go_simp; try rfl); try simp only [Act.put, List.setIfInBounds_toArray, List.set_cons_zero, List.set_cons_succ])
  (refine held_val (i := 4) rfl (by kernel_rfl) (by kernel_rfl) (by kernel_rfl) (fun _ _ _ _ h => h) hHeld (by rfl) ?_; apply Exists.intro; refine ⟨fun wq hSw => ?_, ?_⟩; ((try dsimp only at hSw); obtain ⟨k1, k2, k3, k4, k5, k6⟩ := hSw; go_simp; try rfl); try simp only [Act.put, List.setIfInBounds_toArray, List.set_cons_zero, List.set_cons_succ])
  (refine held_val (i := 5) rfl (by kernel_rfl) (by kernel_rfl) (by kernel_rfl) (fun _ _ _ _ h => h) hHeld (by rfl) ?_; apply Exists.intro; refine ⟨fun wq hSw => ?_, ?_⟩; ((try dsimp only at hSw); obtain ⟨k1, k2, k3, k4, k5, k6⟩ := hSw; go_simp; try rfl); try simp only [Act.put, List.setIfInBounds_toArray, List.set_cons_zero, List.set_cons_succ])
  (refine held_val (i := 6) rfl (by kernel_rfl) (by kernel_rfl) (by kernel_rfl) (fun _ _ _ _ h => h) hHeld (by rfl) ?_; apply Exists.intro; refine ⟨fun wq hSw => ?_, ?_⟩; ((try dsimp only at hSw); obtain ⟨k1, k2, k3, k4, k5, k6⟩ := hSw; go_simp; try rfl); try simp only [Act.put, List.setIfInBounds_toArray, List.set_cons_zero, List.set_cons_succ])
  (refine held_val (i := 7) rfl (by kernel_rfl) (by kernel_rfl) (by kernel_rfl) (fun _ _ _ _ h => h) hHeld (by rfl) ?_; apply Exists.intro; refine ⟨fun wq hSw => ?_, ?_⟩; ((try dsimp only at hSw); obtain ⟨k1, k2, k3, k4, k5, k6⟩ := hSw; go_simp; try rfl); try simp only [Act.put, List.setIfInBounds_toArray, List.set_cons_zero, List.set_cons_succ])
  (refine held_val (i := 8) rfl (by kernel_rfl) (by kernel_rfl) (by kernel_rfl) (fun _ _ _ _ h => h) hHeld (by rfl) ?_; apply Exists.intro; refine ⟨fun wq hSw => ?_, ?_⟩; ((try dsimp only at hSw); obtain ⟨k1, k2, k3, k4, k5, k6⟩ := hSw; go_simp; try rfl); try simp only [Act.put, List.setIfInBounds_toArray, List.set_cons_zero, List.set_cons_succ])
  (refine held_val (i := 9) rfl (by kernel_rfl) (by kernel_rfl) (by kernel_rfl) (fun _ _ _ _ h => h) hHeld (by rfl) ?_; apply Exists.intro; refine ⟨fun wq hSw => ?_, ?_⟩; ((try dsimp only at hSw); obtain ⟨k1, k2, k3, k4, k5, k6⟩ := hSw; go_simp; try rfl); try simp only [Act.put, List.setIfInBounds_toArray, List.set_cons_zero, List.set_cons_succ])
  (refine held_val (i := 10) rfl (by kernel_rfl) (by kernel_rfl) (by kernel_rfl) (fun _ _ _ _ h => h) hHeld (by rfl) ?_; apply Exists.intro; refine ⟨fun wq hSw => ?_, ?_⟩; ((try dsimp only at hSw); obtain ⟨k1, k2, k3, k4, k5, k6⟩ := hSw; go_simp; try rfl); try simp only [Act.put, List.setIfInBounds_toArray, List.set_cons_zero, List.set_cons_succ])
  (refine held_skip (i := 11) rfl (by kernel_rfl) (by kernel_rfl) (by kernel_rfl) (fun _ _ _ _ h => h) hHeld (by rfl) ?_; try simp only [Act.put, List.setIfInBounds_toArray, List.set_cons_zero, List.set_cons_succ])
  (refine held_skip (i := 12) rfl (by kernel_rfl) (by kernel_rfl) (by kernel_rfl) (fun _ _ _ _ h => h) hHeld (by rfl) ?_; try simp only [Act.put, List.setIfInBounds_toArray, List.set_cons_zero, List.set_cons_succ])
  (refine held_skip (i := 13) rfl (by kernel_rfl) (by kernel_rfl) (by kernel_rfl) (fun _ _ _ _ h => h) hHeld (by rfl) ?_; try simp only [Act.put, List.setIfInBounds_toArray, List.set_cons_zero, List.set_cons_succ])
  (refine held_skip (i := 14) rfl (by kernel_rfl) (by kernel_rfl) (by kernel_rfl) (fun _ _ _ _ h => h) hHeld (by rfl) ?_; try simp only [Act.put, List.setIfInBounds_toArray, List.set_cons_zero, List.set_cons_succ])
  (refine held_skip (i := 15) rfl (by kernel_rfl) (by kernel_rfl) (by kernel_rfl) (fun _ _ _ _ h => h) hHeld (by rfl) ?_; try simp only [Act.put, List.setIfInBounds_toArray, List.set_cons_zero, List.set_cons_succ])
  (refine held_skip (i := 16) rfl (by kernel_rfl) (by kernel_rfl) (by kernel_rfl) (fun _ _ _ _ h => h) hHeld (by rfl) ?_; try simp only [Act.put, List.setIfInBounds_toArray, List.set_cons_zero, List.set_cons_succ])
  (refine held_skip (i := 17) rfl (by kernel_rfl) (by kernel_rfl) (by kernel_rfl) (fun _ _ _ _ h => h) hHeld (by rfl) ?_; try simp only [Act.put, List.setIfInBounds_toArray, List.set_cons_zero, List.set_cons_succ])
  (refine held_skip (i := 18) rfl (by kernel_rfl) (by kernel_rfl) (by kernel_rfl) (fun _ _ _ _ h => h) hHeld (by rfl) ?_; try simp only [Act.put, List.setIfInBounds_toArray, List.set_cons_zero, List.set_cons_succ])
  (refine held_skip (i := 19) rfl (by kernel_rfl) (by kernel_rfl) (by kernel_rfl) (fun _ _ _ _ h => h) hHeld (by rfl) ?_; try simp only [Act.put, List.setIfInBounds_toArray, List.set_cons_zero, List.set_cons_succ])
  (refine held_val (i := 20) rfl (by kernel_rfl) (by kernel_rfl) (by kernel_rfl) (fun _ _ _ _ h => h) hHeld (by rfl) ?_; apply Exists.intro; refine ⟨fun wq hSw => ?_, ?_⟩; ((try dsimp only at hSw); obtain ⟨k1, k2, k3, k4, k5, k6⟩ := hSw; go_simp; try rfl); try simp only [Act.put, List.setIfInBounds_toArray, List.set_cons_zero, List.set_cons_succ])
  (refine held_val (i := 21) rfl (by kernel_rfl) (by kernel_rfl) (by kernel_rfl) (fun _ _ _ _ h => h) hHeld (by rfl) ?_; apply Exists.intro; refine ⟨fun wq hSw => ?_, ?_⟩; ((try dsimp only at hSw); obtain ⟨k1, k2, k3, k4, k5, k6⟩ := hSw; go_simp; try rfl); try simp only [Act.put, List.setIfInBounds_toArray, List.set_cons_zero, List.set_cons_succ])
  (refine held_val (i := 22) rfl (by kernel_rfl) (by kernel_rfl) (by kernel_rfl) (fun _ _ _ _ h => h) hHeld (by rfl) ?_; apply Exists.intro; refine ⟨fun wq hSw => ?_, ?_⟩; ((try dsimp only at hSw); obtain ⟨k1, k2, k3, k4, k5, k6⟩ := hSw; go_simp; try rfl); try simp only [Act.put, List.setIfInBounds_toArray, List.set_cons_zero, List.set_cons_succ])
  refine wpAnyH_done (by kernel_rfl) ?_ _
  go_wp2
  go_ret
  exact ⟨rfl, HB.out.trans (hk7.out.mono HB.out.size)⟩
set_option maxHeartbeats 1000000 in
theorem gsame_s (n : Nat) (lX lZ : Int) (nX nZ nU : Nat) (bX bZ : List Nat) (lU : List Bool) (w : World)
    (HX : Hid (∀ V, Calls Try.prog 44 #[.int .u64 (n : Int), .int .i64 1] V (Gv V lX nX bX 0)))
    (HY : Hid (∀ V, Calls Try.prog 15 #[.int .u64 (n : Int)] V (Gv V lX nX bX 0)))
    (HZ : Hid (∀ V, Calls Try.prog 36 #[.int .u64 (n : Int), .int .u64 1] V (Gv V lZ nZ bZ 0)))
    (HS : Hid (∀ A B c d V, Rd V V.heap.size A bX → Rd V V.heap.size B bX → Calls Try.prog 28 #[.agg #[.int .i64 lX, .slice A nX c], .agg #[.int .i64 lX, .slice B nX d]] V fun e w' => e = .returned (.bool true) ∧ Below V.heap.size V w'))
    (HU : Hid (∀ V, Calls Try.prog 40 #[.int .u64 (n : Int)] V fun e w' => ∃ A c, e = .returned (.slice A nU c) ∧ RdV w' w'.heap.size A (ic lU) ∧ Below V.heap.size V w'))
    (HK : Hid (∀ A c V, RdV V V.heap.size A (ic lU) → Calls Try.prog 20 #[.slice A nU c] V fun e w' => ∃ A c, e = .returned (.agg #[.int .i64 lZ, .slice A nZ c]) ∧ Rd w' w'.heap.size A bZ ∧ Below V.heap.size V w'))
    (HT : Hid (∀ A B c d V, Rd V V.heap.size A bZ → Rd V V.heap.size B bZ → Calls Try.prog 28 #[.agg #[.int .i64 lZ, .slice A nZ c], .agg #[.int .i64 lZ, .slice B nZ d]] V fun e w' => e = .returned (.bool true) ∧ Below V.heap.size V w')) :
    Calls Try.prog 11 #[.int .u64 (n : Int)] w fun e w' => e = .returned (.bool true) ∧ Below w.heap.size w w' := by
  go_enter Try.func11, Try.ntmps11
  go_wp2_with fail
  refine (HX.out _).mono ?_
  rintro e w1_ ⟨A1, c1, rfl, Rq, Bq⟩
  have Sq : Below w.heap.size w w1_ := Bq
  have HB : Hid (Below w.heap.size w w1_) := Sq
  clear Bq Sq
  have RX := Lib.hid Rq; clear Rq
  go_wp2_with fail
  refine (HY.out _).mono ?_
  rintro e w2_ ⟨A2, c2, rfl, Rq, Bq⟩
  rw [World.size_alloc] at Bq
  have Sq : Below w1_.heap.size w1_ w2_ := (one_below w1_ _).trans (Bq.mono (by omega))
  have zx : w1_.heap.size < w2_.heap.size := by have := Bq.size; rw [World.size_alloc] at this; omega
  obtain ⟨px, qx⟩ := box_at Bq
  replace RX : Hid (Rd w2_ w2_.heap.size A1 bX) := RX.out.on Sq
  replace HB : Hid (Below w.heap.size w w2_) := HB.out.trans (Sq.mono HB.out.size)
  clear Bq Sq
  have RY := Lib.hid Rq; clear Rq
  go_wp2_with fail
  refine (HZ.out _).mono ?_
  rintro e w3_ ⟨A3, c3, rfl, Rq, Bq⟩
  rw [World.size_alloc] at Bq
  have Sq : Below w2_.heap.size w2_ w3_ := (one_below w2_ _).trans (Bq.mono (by omega))
  have zy : w2_.heap.size < w3_.heap.size := by have := Bq.size; rw [World.size_alloc] at this; omega
  obtain ⟨py, qy⟩ := box_at Bq
  replace px := (Sq.cell (p := ⟨w1_.heap.size, 0, none⟩) zx).trans px
  replace qx := (Sq.cell (p := ⟨w1_.heap.size, 1, none⟩) zx).trans qx
  replace zx : w1_.heap.size < w3_.heap.size := Nat.lt_of_lt_of_le zx Sq.size
  replace RX : Hid (Rd w3_ w3_.heap.size A1 bX) := RX.out.on Sq
  replace RY : Hid (Rd w3_ w3_.heap.size A2 bX) := RY.out.on Sq
  replace HB : Hid (Below w.heap.size w w3_) := HB.out.trans (Sq.mono HB.out.size)
  clear Bq Sq
  have RZ := Lib.hid Rq; clear Rq
  go_wp2_with fail
  refine (gbegun_true _).mono ?_
  rintro e w4_ ⟨rfl, Bq⟩
  rw [World.size_alloc] at Bq
  have Sq : Below w3_.heap.size w3_ w4_ := (one_below w3_ _).trans (Bq.mono (by omega))
  have zz : w3_.heap.size < w4_.heap.size := by have := Bq.size; rw [World.size_alloc] at this; omega
  obtain ⟨pz, qz⟩ := box_at Bq
  replace px := (Sq.cell (p := ⟨w1_.heap.size, 0, none⟩) zx).trans px
  replace qx := (Sq.cell (p := ⟨w1_.heap.size, 1, none⟩) zx).trans qx
  replace zx : w1_.heap.size < w4_.heap.size := Nat.lt_of_lt_of_le zx Sq.size
  replace py := (Sq.cell (p := ⟨w2_.heap.size, 0, none⟩) zy).trans py
  replace qy := (Sq.cell (p := ⟨w2_.heap.size, 1, none⟩) zy).trans qy
  replace zy : w2_.heap.size < w4_.heap.size := Nat.lt_of_lt_of_le zy Sq.size
  replace RX : Hid (Rd w4_ w4_.heap.size A1 bX) := RX.out.on Sq
  replace RY : Hid (Rd w4_ w4_.heap.size A2 bX) := RY.out.on Sq
  replace RZ : Hid (Rd w4_ w4_.heap.size A3 bZ) := RZ.out.on Sq
  replace HB : Hid (Below w.heap.size w w4_) := HB.out.trans (Sq.mono HB.out.size)
  clear Bq Sq
  go_wp2_with fail
  refine (ebegun_true _).mono ?_
  rintro e w5_ ⟨rfl, Bq⟩
  have Sq : Below w4_.heap.size w4_ w5_ := Bq
  replace px := (Sq.cell (p := ⟨w1_.heap.size, 0, none⟩) zx).trans px
  replace qx := (Sq.cell (p := ⟨w1_.heap.size, 1, none⟩) zx).trans qx
  replace zx : w1_.heap.size < w5_.heap.size := Nat.lt_of_lt_of_le zx Sq.size
  replace py := (Sq.cell (p := ⟨w2_.heap.size, 0, none⟩) zy).trans py
  replace qy := (Sq.cell (p := ⟨w2_.heap.size, 1, none⟩) zy).trans qy
  replace zy : w2_.heap.size < w5_.heap.size := Nat.lt_of_lt_of_le zy Sq.size
  replace pz := (Sq.cell (p := ⟨w3_.heap.size, 0, none⟩) zz).trans pz
  replace qz := (Sq.cell (p := ⟨w3_.heap.size, 1, none⟩) zz).trans qz
  replace zz : w3_.heap.size < w5_.heap.size := Nat.lt_of_lt_of_le zz Sq.size
  replace RX : Hid (Rd w5_ w5_.heap.size A1 bX) := RX.out.on Sq
  replace RY : Hid (Rd w5_ w5_.heap.size A2 bX) := RY.out.on Sq
  replace RZ : Hid (Rd w5_ w5_.heap.size A3 bZ) := RZ.out.on Sq
  replace HB : Hid (Below w.heap.size w w5_) := HB.out.trans (Sq.mono HB.out.size)
  clear Bq Sq
  have HKe : Hid (∀ w' : World, Below w5_.heap.size w5_ w' → w'.cell? ⟨w1_.heap.size, 0, none⟩ = some (.int .i64 lX) ∧ w'.cell? ⟨w1_.heap.size, 1, none⟩ = some (.slice A1 nX c1) ∧ w'.cell? ⟨w2_.heap.size, 0, none⟩ = some (.int .i64 lX) ∧ w'.cell? ⟨w2_.heap.size, 1, none⟩ = some (.slice A2 nX c2) ∧ w'.cell? ⟨w3_.heap.size, 0, none⟩ = some (.int .i64 lZ) ∧ w'.cell? ⟨w3_.heap.size, 1, none⟩ = some (.slice A3 nZ c3)) := fun w' h => ⟨(h.cell (p := ⟨w1_.heap.size, 0, none⟩) zx).trans px, (h.cell (p := ⟨w1_.heap.size, 1, none⟩) zx).trans qx, (h.cell (p := ⟨w2_.heap.size, 0, none⟩) zy).trans py, (h.cell (p := ⟨w2_.heap.size, 1, none⟩) zy).trans qy, (h.cell (p := ⟨w3_.heap.size, 0, none⟩) zz).trans pz, (h.cell (p := ⟨w3_.heap.size, 1, none⟩) zz).trans qz⟩
  go_wp2_with fail
  refine wp_region_held_drew (S := fun w' => w'.cell? ⟨w1_.heap.size, 0, none⟩ = some (.int .i64 lX) ∧ w'.cell? ⟨w1_.heap.size, 1, none⟩ = some (.slice A1 nX c1) ∧ w'.cell? ⟨w2_.heap.size, 0, none⟩ = some (.int .i64 lX) ∧ w'.cell? ⟨w2_.heap.size, 1, none⟩ = some (.slice A2 nX c2) ∧ w'.cell? ⟨w3_.heap.size, 0, none⟩ = some (.int .i64 lZ) ∧ w'.cell? ⟨w3_.heap.size, 1, none⟩ = some (.slice A3 nZ c3)) (by kernel_rfl) (HKe.out _ (Below.refl _ _).drew) (fun hHeld => ?_)
  (refine held_val (i := 0) rfl (by kernel_rfl) (by kernel_rfl) (by kernel_rfl) (fun _ _ _ _ h => h) hHeld (by rfl) ?_; apply Exists.intro; refine ⟨fun wq hSw => ?_, ?_⟩; ((try dsimp only at hSw); obtain ⟨k1, k2, k3, k4, k5, k6⟩ := hSw; go_simp; try rfl); try simp only [Act.put, List.setIfInBounds_toArray, List.set_cons_zero, List.set_cons_succ])
  (refine held_val (i := 1) rfl (by kernel_rfl) (by kernel_rfl) (by kernel_rfl) (fun _ _ _ _ h => h) hHeld (by rfl) ?_; apply Exists.intro; refine ⟨fun wq hSw => ?_, ?_⟩; ((try dsimp only at hSw); obtain ⟨k1, k2, k3, k4, k5, k6⟩ := hSw; go_simp; try rfl); try simp only [Act.put, List.setIfInBounds_toArray, List.set_cons_zero, List.set_cons_succ])
  refine wpAnyH_ready (rs := [2]) (by kernel_rfl) (by simp) ?_
  refine AllReadyH.cons (of_drop rfl) (fun K hK => ?_) AllReadyH.nil
  clear hHeld
  go_simp
  (go_at_call 28; refine (HS.out A1 A2 c1 c2 w5_.drew RX.out RY.out).mono ?_; rintro e w7 ⟨rfl, B7⟩; have hk7 : Hid (Below w5_.heap.size w5_ w7) := ((Below.refl _ w5_).drew).trans B7; clear B7)
  go_wp2_with fail
  refine hK.out _ _ (HKe.out _ hk7.out) (fun hHeld => ?_)
  clear hK K
  try simp only [Act.put, List.setIfInBounds_toArray, List.set_cons_zero, List.set_cons_succ]
  (refine held_val (i := 3) rfl (by kernel_rfl) (by kernel_rfl) (by kernel_rfl) (fun _ _ _ _ h => h) hHeld (by rfl) ?_; apply Exists.intro; refine ⟨fun wq hSw => ?_, ?_⟩; ((try dsimp only at hSw); obtain ⟨k1, k2, k3, k4, k5, k6⟩ := hSw; go_simp; try rfl); try simp only [Act.put, List.setIfInBounds_toArray, List.set_cons_zero, List.set_cons_succ])
  (refine held_val (i := 4) rfl (by kernel_rfl) (by kernel_rfl) (by kernel_rfl) (fun _ _ _ _ h => h) hHeld (by rfl) ?_; apply Exists.intro; refine ⟨fun wq hSw => ?_, ?_⟩; ((try dsimp only at hSw); obtain ⟨k1, k2, k3, k4, k5, k6⟩ := hSw; go_simp; try rfl); try simp only [Act.put, List.setIfInBounds_toArray, List.set_cons_zero, List.set_cons_succ])
  (refine held_val (i := 5) rfl (by kernel_rfl) (by kernel_rfl) (by kernel_rfl) (fun _ _ _ _ h => h) hHeld (by rfl) ?_; apply Exists.intro; refine ⟨fun wq hSw => ?_, ?_⟩; ((try dsimp only at hSw); obtain ⟨k1, k2, k3, k4, k5, k6⟩ := hSw; go_simp; try rfl); try simp only [Act.put, List.setIfInBounds_toArray, List.set_cons_zero, List.set_cons_succ])
  (refine held_val (i := 6) rfl (by kernel_rfl) (by kernel_rfl) (by kernel_rfl) (fun _ _ _ _ h => h) hHeld (by rfl) ?_; apply Exists.intro; refine ⟨fun wq hSw => ?_, ?_⟩; ((try dsimp only at hSw); obtain ⟨k1, k2, k3, k4, k5, k6⟩ := hSw; go_simp; try rfl); try simp only [Act.put, List.setIfInBounds_toArray, List.set_cons_zero, List.set_cons_succ])
  (refine held_skip (i := 7) rfl (by kernel_rfl) (by kernel_rfl) (by kernel_rfl) (fun _ _ _ _ h => h) hHeld (by rfl) ?_; try simp only [Act.put, List.setIfInBounds_toArray, List.set_cons_zero, List.set_cons_succ])
  (refine held_skip (i := 8) rfl (by kernel_rfl) (by kernel_rfl) (by kernel_rfl) (fun _ _ _ _ h => h) hHeld (by rfl) ?_; try simp only [Act.put, List.setIfInBounds_toArray, List.set_cons_zero, List.set_cons_succ])
  (refine held_val (i := 9) rfl (by kernel_rfl) (by kernel_rfl) (by kernel_rfl) (fun _ _ _ _ h => h) hHeld (by rfl) ?_; apply Exists.intro; refine ⟨fun wq hSw => ?_, ?_⟩; ((try dsimp only at hSw); obtain ⟨k1, k2, k3, k4, k5, k6⟩ := hSw; go_simp; try rfl); try simp only [Act.put, List.setIfInBounds_toArray, List.set_cons_zero, List.set_cons_succ])
  (refine held_val (i := 10) rfl (by kernel_rfl) (by kernel_rfl) (by kernel_rfl) (fun _ _ _ _ h => h) hHeld (by rfl) ?_; apply Exists.intro; refine ⟨fun wq hSw => ?_, ?_⟩; ((try dsimp only at hSw); obtain ⟨k1, k2, k3, k4, k5, k6⟩ := hSw; go_simp; try rfl); try simp only [Act.put, List.setIfInBounds_toArray, List.set_cons_zero, List.set_cons_succ])
  (refine held_val (i := 11) rfl (by kernel_rfl) (by kernel_rfl) (by kernel_rfl) (fun _ _ _ _ h => h) hHeld (by rfl) ?_; apply Exists.intro; refine ⟨fun wq hSw => ?_, ?_⟩; ((try dsimp only at hSw); obtain ⟨k1, k2, k3, k4, k5, k6⟩ := hSw; go_simp; try rfl); try simp only [Act.put, List.setIfInBounds_toArray, List.set_cons_zero, List.set_cons_succ])
  (refine held_val (i := 12) rfl (by kernel_rfl) (by kernel_rfl) (by kernel_rfl) (fun _ _ _ _ h => h) hHeld (by rfl) ?_; apply Exists.intro; refine ⟨fun wq hSw => ?_, ?_⟩; ((try dsimp only at hSw); obtain ⟨k1, k2, k3, k4, k5, k6⟩ := hSw; go_simp; try rfl); try simp only [Act.put, List.setIfInBounds_toArray, List.set_cons_zero, List.set_cons_succ])
  (refine held_val (i := 13) rfl (by kernel_rfl) (by kernel_rfl) (by kernel_rfl) (fun _ _ _ _ h => h) hHeld (by rfl) ?_; apply Exists.intro; refine ⟨fun wq hSw => ?_, ?_⟩; ((try dsimp only at hSw); obtain ⟨k1, k2, k3, k4, k5, k6⟩ := hSw; go_simp; try rfl); try simp only [Act.put, List.setIfInBounds_toArray, List.set_cons_zero, List.set_cons_succ])
  (refine held_val (i := 14) rfl (by kernel_rfl) (by kernel_rfl) (by kernel_rfl) (fun _ _ _ _ h => h) hHeld (by rfl) ?_; apply Exists.intro; refine ⟨fun wq hSw => ?_, ?_⟩; ((try dsimp only at hSw); obtain ⟨k1, k2, k3, k4, k5, k6⟩ := hSw; go_simp; try rfl); try simp only [Act.put, List.setIfInBounds_toArray, List.set_cons_zero, List.set_cons_succ])
  (refine held_val (i := 15) rfl (by kernel_rfl) (by kernel_rfl) (by kernel_rfl) (fun _ _ _ _ h => h) hHeld (by rfl) ?_; apply Exists.intro; refine ⟨fun wq hSw => ?_, ?_⟩; ((try dsimp only at hSw); obtain ⟨k1, k2, k3, k4, k5, k6⟩ := hSw; go_simp; try rfl); try simp only [Act.put, List.setIfInBounds_toArray, List.set_cons_zero, List.set_cons_succ])
  refine wpAnyH_ready (rs := [16]) (by kernel_rfl) (by simp) ?_
  refine AllReadyH.cons (of_drop rfl) (fun K hK => ?_) AllReadyH.nil
  clear hHeld
  go_simp
  (go_at_call 40; have hx := hk7.out; refine (HU.out w7).mono ?_; rintro e w8 ⟨A8, c8, rfl, r8, B8⟩; have R8 := Lib.hid r8; have hk8 : Hid (Below w5_.heap.size w5_ w8) := hx.trans (B8.mono hx.size); clear B8 hx r8)
  go_wp2_with fail
  refine hK.out _ _ (HKe.out _ hk8.out) (fun hHeld => ?_)
  clear hK K
  try simp only [Act.put, List.setIfInBounds_toArray, List.set_cons_zero, List.set_cons_succ]
  refine wpAnyH_ready (rs := [17]) (by kernel_rfl) (by simp) ?_
  refine AllReadyH.cons (of_drop rfl) (fun K hK => ?_) AllReadyH.nil
  clear hHeld
  go_simp
  (go_at_call 20; have hx := hk8.out; refine (HK.out A8 c8 w8 R8.out).mono ?_; rintro e w9 ⟨A9, c9, rfl, r9, B9⟩; have R9 := Lib.hid r9; have hk9 : Hid (Below w5_.heap.size w5_ w9) := hx.trans (B9.mono hx.size); clear B9 hx r9)
  go_wp2_with fail
  refine hK.out _ _ (HKe.out _ hk9.out) (fun hHeld => ?_)
  clear hK K
  try simp only [Act.put, List.setIfInBounds_toArray, List.set_cons_zero, List.set_cons_succ]
  refine wpAnyH_ready (rs := [18]) (by kernel_rfl) (by simp) ?_
  refine AllReadyH.cons (of_drop rfl) (fun K hK => ?_) AllReadyH.nil
  clear hHeld
  go_simp
  (go_at_call 28; have hx := hk9.out; refine (HT.out A3 A9 c3 c9 w9 (RZ.out.on hx) R9.out).mono ?_; rintro e wa ⟨rfl, Ba⟩; have hka : Hid (Below w5_.heap.size w5_ wa) := hx.trans (Ba.mono hx.size); clear Ba hx)
  go_wp2_with fail
  refine hK.out _ _ (HKe.out _ hka.out) (fun hHeld => ?_)
  clear hK K
  try simp only [Act.put, List.setIfInBounds_toArray, List.set_cons_zero, List.set_cons_succ]
  (refine held_val (i := 19) rfl (by kernel_rfl) (by kernel_rfl) (by kernel_rfl) (fun _ _ _ _ h => h) hHeld (by rfl) ?_; apply Exists.intro; refine ⟨fun wq hSw => ?_, ?_⟩; ((try dsimp only at hSw); obtain ⟨k1, k2, k3, k4, k5, k6⟩ := hSw; go_simp; try rfl); try simp only [Act.put, List.setIfInBounds_toArray, List.set_cons_zero, List.set_cons_succ])
  (refine held_val (i := 20) rfl (by kernel_rfl) (by kernel_rfl) (by kernel_rfl) (fun _ _ _ _ h => h) hHeld (by rfl) ?_; apply Exists.intro; refine ⟨fun wq hSw => ?_, ?_⟩; ((try dsimp only at hSw); obtain ⟨k1, k2, k3, k4, k5, k6⟩ := hSw; go_simp; try rfl); try simp only [Act.put, List.setIfInBounds_toArray, List.set_cons_zero, List.set_cons_succ])
  (refine held_val (i := 21) rfl (by kernel_rfl) (by kernel_rfl) (by kernel_rfl) (fun _ _ _ _ h => h) hHeld (by rfl) ?_; apply Exists.intro; refine ⟨fun wq hSw => ?_, ?_⟩; ((try dsimp only at hSw); obtain ⟨k1, k2, k3, k4, k5, k6⟩ := hSw; go_simp; try rfl); try simp only [Act.put, List.setIfInBounds_toArray, List.set_cons_zero, List.set_cons_succ])
  (refine held_val (i := 22) rfl (by kernel_rfl) (by kernel_rfl) (by kernel_rfl) (fun _ _ _ _ h => h) hHeld (by rfl) ?_; apply Exists.intro; refine ⟨fun wq hSw => ?_, ?_⟩; ((try dsimp only at hSw); obtain ⟨k1, k2, k3, k4, k5, k6⟩ := hSw; go_simp; try rfl); try simp only [Act.put, List.setIfInBounds_toArray, List.set_cons_zero, List.set_cons_succ])
  refine wpAnyH_done (by kernel_rfl) ?_ _
  go_wp2
  go_ret
  exact ⟨rfl, HB.out.trans (hka.out.mono HB.out.size)⟩

theorem gol_one (n : Nat) : gol n 1 = uc n := by
  unfold gol lst
  rw [Nat.div_one, Nat.mod_one]
  have e : sh 1 = 0 := rfl
  rw [e, if_neg (by omega), sz_one]
  simp [nb]
theorem gsame_law (n : Nat) (w : World) (hn64 : n < 18446744073709551616) : Calls Try.prog 11 #[.int .u64 (n : Int)] w fun e w' => e = .returned (.bool true) ∧ Below w.heap.size w w' := by
  obtain ⟨Z, eZ, cZ, lZ, fZ⟩ := code_both n 1 hn64
  by_cases hn : 1099511627776 < n
  · rcases fZ with ⟨rfl, _, _, z1, _⟩ | ⟨rfl, _⟩
    · omega
    · exact gsame_e n _ _ _ _ 0 _ _ [] w (fun V => zeta_no n 1 (by omega) V) (fun V => gamma_e n hn V) cZ
  · have hz := zet_one n
    have k40 := lg_lt_of n 41 (by omega)
    have hl : (gam n).length ≤ 8192 := by rw [gam_length]; omega
    have hX : Hid (∀ V, Calls Try.prog 44 #[.int .u64 (n : Int), .int .i64 1] V (Gv V ((gam n).length : Int) (pack (gam n)).length (pack (gam n)) 0)) := fun V => zeta_ok n 1 (by omega) (by omega) (by omega) (gam n) hz.symm V
    have hS : Hid (∀ (A1 A2 : Option Addr) (c1 c2 : Nat) (V : World), Rd V V.heap.size A1 (pack (gam n)) → Rd V V.heap.size A2 (pack (gam n)) → Calls Try.prog 28 #[.agg #[.int .i64 ((gam n).length : Int), .slice A1 (pack (gam n)).length c1], .agg #[.int .i64 ((gam n).length : Int), .slice A2 (pack (gam n)).length c2]] V fun e w' => e = .returned (.bool true) ∧ Below V.heap.size V w') := fun A1 A2 c1 c2 V h1 h2 => same_l _ hl A1 A2 c1 c2 V h1 h2
    rcases fZ with ⟨rfl, _, _, _, z2, rfl⟩ | ⟨rfl, rfl, z2⟩
    · rw [gol_one] at cZ lZ
      rw [Nat.div_one] at z2
      refine gsame_s n _ _ _ _ (uc n).length _ _ (uc n) w hX (fun V => gamma_ok n (by omega) _ rfl V) cZ hS (fun V => ?_) (fun A c V h => packBits_any (uc n) _ rfl lZ A c V h) (fun A1 A2 c1 c2 V h1 h2 => same_l _ lZ A1 A2 c1 c2 V h1 h2)
      exact (uList_any n (by omega) _ rfl V).mono fun _ _ ⟨A', c', h1, h2, h3⟩ => ⟨A', c', h1, own_rdv h2, h3⟩
    · have h8 : 8128 ≤ n := by
        rw [Nat.div_one] at z2; omega
      exact gsame_b (n : Int) _ _ _ _ 0 _ _ [] (by omega) w hX (fun V => gamma_ok n (by omega) _ rfl V) cZ hS
end Go.Proofs.Ytcacbekdghlncaa
