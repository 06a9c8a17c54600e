/- The law GolombBack: for whatever numbers, k and bits it returns true. -/
import Derived.Test.YtcacbekdghlncaaGBackC
import Derived.Test.YtcacbekdghlncaaOpen
namespace Go.Proofs.Ytcacbekdghlncaa
set_option maxRecDepth 100000
set_option linter.unusedVariables false
open Go.RowKit

theorem four_boxes {w V : World} {a b c d e : Value} (h : Below ((((w.alloc (.cells #[a] 22)).alloc (.cells #[b] 22)).alloc (.cells #[c] 3)).alloc (.cells #[d, e] 25)).heap.size ((((w.alloc (.cells #[a] 22)).alloc (.cells #[b] 22)).alloc (.cells #[c] 3)).alloc (.cells #[d, e] 25)) V) :
    V.cell? ⟨w.heap.size, 0, none⟩ = some a ∧ V.cell? ⟨(w.heap.size + 1), 0, none⟩ = some b ∧ V.cell? ⟨(w.heap.size + 1 + 1), 0, none⟩ = some c ∧ V.cell? ⟨(w.heap.size + 1 + 1 + 1), 0, none⟩ = some d ∧ V.cell? ⟨(w.heap.size + 1 + 1 + 1), 1, none⟩ = some e ∧ w.heap.size + 3 < V.heap.size ∧ Below w.heap.size w V := by
  have hs := h.size
  have e0 : ((((w.alloc (.cells #[a] 22)).alloc (.cells #[b] 22)).alloc (.cells #[c] 3)).alloc (.cells #[d, e] 25)).heap.size = w.heap.size + 4 := by simp only [World.size_alloc]
  rw [e0] at h hs
  have h1 : V.heap[w.heap.size]? = some (.cells #[a] 22 (0, 0)) := (h.block _ (by omega)).trans ((Below.heap_alloc _ _ _ (by simp only [World.size_alloc]; omega)).trans ((Below.heap_alloc _ _ _ (by simp only [World.size_alloc]; omega)).trans ((Below.heap_alloc _ _ _ (by simp only [World.size_alloc]; omega)).trans (World.alloc_heap_new w _))))
  have h2 : V.heap[w.heap.size + 1]? = some (.cells #[b] 22 (0, 0)) := (h.block _ (by omega)).trans ((Below.heap_alloc _ _ _ (by simp only [World.size_alloc]; omega)).trans ((Below.heap_alloc _ _ _ (by simp only [World.size_alloc]; omega)).trans (by have := World.alloc_heap_new (w.alloc (.cells #[a] 22)) (.cells #[b] 22); rwa [World.size_alloc] at this)))
  have h3 : V.heap[w.heap.size + 1 + 1]? = some (.cells #[c] 3 (0, 0)) := (h.block _ (by omega)).trans ((Below.heap_alloc _ _ _ (by simp only [World.size_alloc]; omega)).trans (by have := World.alloc_heap_new ((w.alloc (.cells #[a] 22)).alloc (.cells #[b] 22)) (.cells #[c] 3); rwa [World.size_alloc, World.size_alloc] at this))
  have h4 : V.heap[w.heap.size + 1 + 1 + 1]? = some (.cells #[d, e] 25 (0, 0)) := (h.block _ (by omega)).trans (by have := World.alloc_heap_new (((w.alloc (.cells #[a] 22)).alloc (.cells #[b] 22)).alloc (.cells #[c] 3)) (.cells #[d, e] 25); rwa [World.size_alloc, World.size_alloc, World.size_alloc] at this)
  refine ⟨box_cell h1, box_cell h2, box_cell h3, (blk_cells h4).1, (blk_cells h4).2.1, by omega, ?_⟩
  exact (((up2 w _ _).trans ((one_below _ _).mono (by simp only [World.size_alloc]; omega))).trans ((one_below _ _).mono (by simp only [World.size_alloc]; omega))).trans (h.mono (by omega))

set_option maxHeartbeats 1000000 in
theorem gback_w (n m : Nat) (k len : Int) (Ab : Option Addr) (d N : Nat) (bs : List Nat) (w : World) (hB : Rd w w.heap.size Ab bs) (lP lQ lS eP eQ eS : Int) (nP nQ nS : Nat) (bP bQ bS : List Nat)
    (HP : Hid (∀ V, Calls Try.prog 35 #[.int .u64 (n : Int), .int .u64 (m : Int)] V (Gv V lP nP bP eP)))
    (HQ : Hid (∀ V, Calls Try.prog 36 #[.int .u64 (n : Int), .int .u64 (m : Int)] V (Gv V lQ nQ bQ eQ)))
    (HS : Hid (∀ V, Calls Try.prog 44 #[.int .u64 (n : Int), .int .i64 k] V (Gv V lS nS bS eS)))
    (K1 : Hid (∀ A c V, Rd V V.heap.size A bP → Rd V V.heap.size Ab bs → V.cell? ⟨(w.heap.size + 1 + 1 + 1), 0, none⟩ = some (.int .i64 len) → V.cell? ⟨(w.heap.size + 1 + 1 + 1), 1, none⟩ = some (.slice Ab N d) → V.cell? ⟨w.heap.size, 0, none⟩ = some (.int .u64 (n : Int)) → V.cell? ⟨(w.heap.size + 1), 0, none⟩ = some (.int .u64 (m : Int)) → (w.heap.size + 1 + 1 + 1) < V.heap.size → w.heap.size < V.heap.size → (w.heap.size + 1) < V.heap.size → Calls Try.prog 48 #[.agg #[.int .i64 lP, .slice A nP c], .int .i64 eP, .func (.func 49) #[] #[.pointer (some ⟨(w.heap.size + 1), 0, none⟩)], .pointer (some ⟨(w.heap.size + 1 + 1 + 1), 0, none⟩), .pointer (some ⟨w.heap.size, 0, none⟩)] V fun e w' => e = .returned (.bool true) ∧ Below V.heap.size V w'))
    (K2 : Hid (∀ A c V, Rd V V.heap.size A bQ → Rd V V.heap.size Ab bs → V.cell? ⟨(w.heap.size + 1 + 1 + 1), 0, none⟩ = some (.int .i64 len) → V.cell? ⟨(w.heap.size + 1 + 1 + 1), 1, none⟩ = some (.slice Ab N d) → V.cell? ⟨w.heap.size, 0, none⟩ = some (.int .u64 (n : Int)) → V.cell? ⟨(w.heap.size + 1), 0, none⟩ = some (.int .u64 (m : Int)) → (w.heap.size + 1 + 1 + 1) < V.heap.size → w.heap.size < V.heap.size → (w.heap.size + 1) < V.heap.size → Calls Try.prog 48 #[.agg #[.int .i64 lQ, .slice A nQ c], .int .i64 eQ, .func (.func 50) #[] #[.pointer (some ⟨(w.heap.size + 1), 0, none⟩)], .pointer (some ⟨(w.heap.size + 1 + 1 + 1), 0, none⟩), .pointer (some ⟨w.heap.size, 0, none⟩)] V fun e w' => e = .returned (.bool true) ∧ Below V.heap.size V w'))
    (K3 : Hid (∀ A c V, Rd V V.heap.size A bS → Rd V V.heap.size Ab bs → V.cell? ⟨(w.heap.size + 1 + 1 + 1), 0, none⟩ = some (.int .i64 len) → V.cell? ⟨(w.heap.size + 1 + 1 + 1), 1, none⟩ = some (.slice Ab N d) → V.cell? ⟨w.heap.size, 0, none⟩ = some (.int .u64 (n : Int)) → V.cell? ⟨(w.heap.size + 1 + 1), 0, none⟩ = some (.int .i64 k) → (w.heap.size + 1 + 1 + 1) < V.heap.size → w.heap.size < V.heap.size → (w.heap.size + 1 + 1) < V.heap.size → Calls Try.prog 48 #[.agg #[.int .i64 lS, .slice A nS c], .int .i64 eS, .func (.func 51) #[] #[.pointer (some ⟨(w.heap.size + 1 + 1), 0, none⟩)], .pointer (some ⟨(w.heap.size + 1 + 1 + 1), 0, none⟩), .pointer (some ⟨w.heap.size, 0, none⟩)] V fun e w' => e = .returned (.bool true) ∧ Below V.heap.size V w')) : Calls Try.prog 10 #[.int .u64 (n : Int), .int .u64 (m : Int), .int .i64 k, .agg #[.int .i64 len, .slice Ab N d]] w fun e w' => e = .returned (.bool true) ∧ Below w.heap.size w w' := by
  have HD := Lib.hid hB; clear hB
  go_enter Try.func10, Try.ntmps10
  go_wp2_with fail
  refine (gbegun_true _).mono ?_
  rintro e w1_ ⟨rfl, B1⟩
  obtain ⟨pn, pm, pk, pb, qb, hz, b1⟩ := four_boxes B1
  have zn : w.heap.size < w1_.heap.size := by omega
  have zm : (w.heap.size + 1) < w1_.heap.size := by omega
  have zk : (w.heap.size + 1 + 1) < w1_.heap.size := by omega
  have zb : (w.heap.size + 1 + 1 + 1) < w1_.heap.size := by omega
  have HB := Lib.hid b1
  replace HD : Hid (Rd w1_ w1_.heap.size Ab bs) := HD.out.on b1
  clear B1 b1 hz
  go_wp2_with fail
  refine (begun_true _).mono ?_
  rintro e w2_ ⟨rfl, Bq⟩
  have Sq : Below w1_.heap.size w1_ w2_ := Bq
  replace pb := (Sq.cell (p := ⟨(w.heap.size + 1 + 1 + 1), 0, none⟩) zb).trans pb
  replace qb := (Sq.cell (p := ⟨(w.heap.size + 1 + 1 + 1), 1, none⟩) zb).trans qb
  replace zb : (w.heap.size + 1 + 1 + 1) < w2_.heap.size := Nat.lt_of_lt_of_le zb Sq.size
  replace pn := (Sq.cell (p := ⟨w.heap.size, 0, none⟩) zn).trans pn
  replace zn : w.heap.size < w2_.heap.size := Nat.lt_of_lt_of_le zn Sq.size
  replace pm := (Sq.cell (p := ⟨(w.heap.size + 1), 0, none⟩) zm).trans pm
  replace zm : (w.heap.size + 1) < w2_.heap.size := Nat.lt_of_lt_of_le zm Sq.size
  replace pk := (Sq.cell (p := ⟨(w.heap.size + 1 + 1), 0, none⟩) zk).trans pk
  replace zk : (w.heap.size + 1 + 1) < w2_.heap.size := Nat.lt_of_lt_of_le zk Sq.size
  replace HD : Hid (Rd w2_ w2_.heap.size Ab bs) := HD.out.on Sq
  replace HB : Hid (Below w.heap.size w w2_) := HB.out.trans (Sq.mono HB.out.size)
  clear Bq Sq
  go_wp2_with fail
  refine (HP.out _).mono ?_
  rintro e w3_ ⟨A0, c0, rfl, Rq, Bq⟩
  have Sq : Below w2_.heap.size w2_ w3_ := Bq
  replace pb := (Sq.cell (p := ⟨(w.heap.size + 1 + 1 + 1), 0, none⟩) zb).trans pb
  replace qb := (Sq.cell (p := ⟨(w.heap.size + 1 + 1 + 1), 1, none⟩) zb).trans qb
  replace zb : (w.heap.size + 1 + 1 + 1) < w3_.heap.size := Nat.lt_of_lt_of_le zb Sq.size
  replace pn := (Sq.cell (p := ⟨w.heap.size, 0, none⟩) zn).trans pn
  replace zn : w.heap.size < w3_.heap.size := Nat.lt_of_lt_of_le zn Sq.size
  replace pm := (Sq.cell (p := ⟨(w.heap.size + 1), 0, none⟩) zm).trans pm
  replace zm : (w.heap.size + 1) < w3_.heap.size := Nat.lt_of_lt_of_le zm Sq.size
  replace pk := (Sq.cell (p := ⟨(w.heap.size + 1 + 1), 0, none⟩) zk).trans pk
  replace zk : (w.heap.size + 1 + 1) < w3_.heap.size := Nat.lt_of_lt_of_le zk Sq.size
  replace HD : Hid (Rd w3_ w3_.heap.size Ab bs) := HD.out.on Sq
  replace HB : Hid (Below w.heap.size w w3_) := HB.out.trans (Sq.mono HB.out.size)
  clear Bq Sq
  have RP := Lib.hid Rq; clear Rq
  go_wp2_with fail
  refine (HQ.out _).mono ?_
  rintro e w4_ ⟨A1, c1, rfl, Rq, Bq⟩
  rw [World.size_alloc] at Bq
  have Sq : Below w3_.heap.size w3_ w4_ := (one_below w3_ _).trans (Bq.mono (by omega))
  have zx : w3_.heap.size < w4_.heap.size := by have := Bq.size; rw [World.size_alloc] at this; omega
  obtain ⟨px, qx⟩ := box_at Bq
  replace pb := (Sq.cell (p := ⟨(w.heap.size + 1 + 1 + 1), 0, none⟩) zb).trans pb
  replace qb := (Sq.cell (p := ⟨(w.heap.size + 1 + 1 + 1), 1, none⟩) zb).trans qb
  replace zb : (w.heap.size + 1 + 1 + 1) < w4_.heap.size := Nat.lt_of_lt_of_le zb Sq.size
  replace pn := (Sq.cell (p := ⟨w.heap.size, 0, none⟩) zn).trans pn
  replace zn : w.heap.size < w4_.heap.size := Nat.lt_of_lt_of_le zn Sq.size
  replace pm := (Sq.cell (p := ⟨(w.heap.size + 1), 0, none⟩) zm).trans pm
  replace zm : (w.heap.size + 1) < w4_.heap.size := Nat.lt_of_lt_of_le zm Sq.size
  replace pk := (Sq.cell (p := ⟨(w.heap.size + 1 + 1), 0, none⟩) zk).trans pk
  replace zk : (w.heap.size + 1 + 1) < w4_.heap.size := Nat.lt_of_lt_of_le zk Sq.size
  replace HD : Hid (Rd w4_ w4_.heap.size Ab bs) := HD.out.on Sq
  replace RP : Hid (Rd w4_ w4_.heap.size A0 bP) := RP.out.on Sq
  replace HB : Hid (Below w.heap.size w w4_) := HB.out.trans (Sq.mono HB.out.size)
  clear Bq Sq
  have RQ := Lib.hid Rq; clear Rq
  go_wp2_with fail
  refine (HS.out _).mono ?_
  rintro e w5_ ⟨A2, c2, rfl, Rq, Bq⟩
  rw [World.size_alloc] at Bq
  have Sq : Below w4_.heap.size w4_ w5_ := (one_below w4_ _).trans (Bq.mono (by omega))
  have zy : w4_.heap.size < w5_.heap.size := by have := Bq.size; rw [World.size_alloc] at this; omega
  obtain ⟨py, qy⟩ := box_at Bq
  replace pb := (Sq.cell (p := ⟨(w.heap.size + 1 + 1 + 1), 0, none⟩) zb).trans pb
  replace qb := (Sq.cell (p := ⟨(w.heap.size + 1 + 1 + 1), 1, none⟩) zb).trans qb
  replace zb : (w.heap.size + 1 + 1 + 1) < w5_.heap.size := Nat.lt_of_lt_of_le zb Sq.size
  replace px := (Sq.cell (p := ⟨w3_.heap.size, 0, none⟩) zx).trans px
  replace qx := (Sq.cell (p := ⟨w3_.heap.size, 1, none⟩) zx).trans qx
  replace zx : w3_.heap.size < w5_.heap.size := Nat.lt_of_lt_of_le zx Sq.size
  replace pn := (Sq.cell (p := ⟨w.heap.size, 0, none⟩) zn).trans pn
  replace zn : w.heap.size < w5_.heap.size := Nat.lt_of_lt_of_le zn Sq.size
  replace pm := (Sq.cell (p := ⟨(w.heap.size + 1), 0, none⟩) zm).trans pm
  replace zm : (w.heap.size + 1) < w5_.heap.size := Nat.lt_of_lt_of_le zm Sq.size
  replace pk := (Sq.cell (p := ⟨(w.heap.size + 1 + 1), 0, none⟩) zk).trans pk
  replace zk : (w.heap.size + 1 + 1) < w5_.heap.size := Nat.lt_of_lt_of_le zk Sq.size
  replace HD : Hid (Rd w5_ w5_.heap.size Ab bs) := HD.out.on Sq
  replace RP : Hid (Rd w5_ w5_.heap.size A0 bP) := RP.out.on Sq
  replace RQ : Hid (Rd w5_ w5_.heap.size A1 bQ) := RQ.out.on Sq
  replace HB : Hid (Below w.heap.size w w5_) := HB.out.trans (Sq.mono HB.out.size)
  clear Bq Sq
  have RS := Lib.hid Rq; clear Rq
  go_wp2_with fail
  refine (K1.out A0 c0 _ (RP.out.on (one_below w5_ _)) (HD.out.on (one_below w5_ _)) (((one_below w5_ _).cell (p := ⟨(w.heap.size + 1 + 1 + 1), 0, none⟩) zb).trans pb) (((one_below w5_ _).cell (p := ⟨(w.heap.size + 1 + 1 + 1), 1, none⟩) zb).trans qb) (((one_below w5_ _).cell (p := ⟨w.heap.size, 0, none⟩) zn).trans pn) (((one_below w5_ _).cell (p := ⟨(w.heap.size + 1), 0, none⟩) zm).trans pm) (Nat.lt_of_lt_of_le zb (one_below w5_ _).size) (Nat.lt_of_lt_of_le zn (one_below w5_ _).size) (Nat.lt_of_lt_of_le zm (one_below w5_ _).size)).mono ?_
  rintro e w6_ ⟨rfl, Bq⟩
  rw [World.size_alloc] at Bq
  have Sq : Below w5_.heap.size w5_ w6_ := (one_below w5_ _).trans (Bq.mono (by omega))
  have zz : w5_.heap.size < w6_.heap.size := by have := Bq.size; rw [World.size_alloc] at this; omega
  obtain ⟨pz, qz⟩ := box_at Bq
  replace pb := (Sq.cell (p := ⟨(w.heap.size + 1 + 1 + 1), 0, none⟩) zb).trans pb
  replace qb := (Sq.cell (p := ⟨(w.heap.size + 1 + 1 + 1), 1, none⟩) zb).trans qb
  replace zb : (w.heap.size + 1 + 1 + 1) < w6_.heap.size := Nat.lt_of_lt_of_le zb Sq.size
  replace px := (Sq.cell (p := ⟨w3_.heap.size, 0, none⟩) zx).trans px
  replace qx := (Sq.cell (p := ⟨w3_.heap.size, 1, none⟩) zx).trans qx
  replace zx : w3_.heap.size < w6_.heap.size := Nat.lt_of_lt_of_le zx Sq.size
  replace py := (Sq.cell (p := ⟨w4_.heap.size, 0, none⟩) zy).trans py
  replace qy := (Sq.cell (p := ⟨w4_.heap.size, 1, none⟩) zy).trans qy
  replace zy : w4_.heap.size < w6_.heap.size := Nat.lt_of_lt_of_le zy Sq.size
  replace pn := (Sq.cell (p := ⟨w.heap.size, 0, none⟩) zn).trans pn
  replace zn : w.heap.size < w6_.heap.size := Nat.lt_of_lt_of_le zn Sq.size
  replace pm := (Sq.cell (p := ⟨(w.heap.size + 1), 0, none⟩) zm).trans pm
  replace zm : (w.heap.size + 1) < w6_.heap.size := Nat.lt_of_lt_of_le zm Sq.size
  replace pk := (Sq.cell (p := ⟨(w.heap.size + 1 + 1), 0, none⟩) zk).trans pk
  replace zk : (w.heap.size + 1 + 1) < w6_.heap.size := Nat.lt_of_lt_of_le zk Sq.size
  replace HD : Hid (Rd w6_ w6_.heap.size Ab bs) := HD.out.on Sq
  replace RP : Hid (Rd w6_ w6_.heap.size A0 bP) := RP.out.on Sq
  replace RQ : Hid (Rd w6_ w6_.heap.size A1 bQ) := RQ.out.on Sq
  replace RS : Hid (Rd w6_ w6_.heap.size A2 bS) := RS.out.on Sq
  replace HB : Hid (Below w.heap.size w w6_) := HB.out.trans (Sq.mono HB.out.size)
  clear Bq Sq
  go_wp2_with fail
  refine (K2.out A1 c1 _ RQ.out HD.out pb qb pn pm zb zn zm).mono ?_
  rintro e w7_ ⟨rfl, Bq⟩
  have Sq : Below w6_.heap.size w6_ w7_ := Bq
  replace pb := (Sq.cell (p := ⟨(w.heap.size + 1 + 1 + 1), 0, none⟩) zb).trans pb
  replace qb := (Sq.cell (p := ⟨(w.heap.size + 1 + 1 + 1), 1, none⟩) zb).trans qb
  replace zb : (w.heap.size + 1 + 1 + 1) < w7_.heap.size := Nat.lt_of_lt_of_le zb Sq.size
  replace px := (Sq.cell (p := ⟨w3_.heap.size, 0, none⟩) zx).trans px
  replace qx := (Sq.cell (p := ⟨w3_.heap.size, 1, none⟩) zx).trans qx
  replace zx : w3_.heap.size < w7_.heap.size := Nat.lt_of_lt_of_le zx Sq.size
  replace py := (Sq.cell (p := ⟨w4_.heap.size, 0, none⟩) zy).trans py
  replace qy := (Sq.cell (p := ⟨w4_.heap.size, 1, none⟩) zy).trans qy
  replace zy : w4_.heap.size < w7_.heap.size := Nat.lt_of_lt_of_le zy Sq.size
  replace pz := (Sq.cell (p := ⟨w5_.heap.size, 0, none⟩) zz).trans pz
  replace qz := (Sq.cell (p := ⟨w5_.heap.size, 1, none⟩) zz).trans qz
  replace zz : w5_.heap.size < w7_.heap.size := Nat.lt_of_lt_of_le zz Sq.size
  replace pn := (Sq.cell (p := ⟨w.heap.size, 0, none⟩) zn).trans pn
  replace zn : w.heap.size < w7_.heap.size := Nat.lt_of_lt_of_le zn Sq.size
  replace pm := (Sq.cell (p := ⟨(w.heap.size + 1), 0, none⟩) zm).trans pm
  replace zm : (w.heap.size + 1) < w7_.heap.size := Nat.lt_of_lt_of_le zm Sq.size
  replace pk := (Sq.cell (p := ⟨(w.heap.size + 1 + 1), 0, none⟩) zk).trans pk
  replace zk : (w.heap.size + 1 + 1) < w7_.heap.size := Nat.lt_of_lt_of_le zk Sq.size
  replace HD : Hid (Rd w7_ w7_.heap.size Ab bs) := HD.out.on Sq
  replace RP : Hid (Rd w7_ w7_.heap.size A0 bP) := RP.out.on Sq
  replace RQ : Hid (Rd w7_ w7_.heap.size A1 bQ) := RQ.out.on Sq
  replace RS : Hid (Rd w7_ w7_.heap.size A2 bS) := RS.out.on Sq
  replace HB : Hid (Below w.heap.size w w7_) := HB.out.trans (Sq.mono HB.out.size)
  clear Bq Sq
  go_wp2_with fail
  refine (K3.out A2 c2 _ RS.out HD.out pb qb pn pk zb zn zk).mono ?_
  rintro e w8_ ⟨rfl, Bq⟩
  have Sq : Below w7_.heap.size w7_ w8_ := Bq
  replace pb := (Sq.cell (p := ⟨(w.heap.size + 1 + 1 + 1), 0, none⟩) zb).trans pb
  replace qb := (Sq.cell (p := ⟨(w.heap.size + 1 + 1 + 1), 1, none⟩) zb).trans qb
  replace zb : (w.heap.size + 1 + 1 + 1) < w8_.heap.size := Nat.lt_of_lt_of_le zb Sq.size
  replace px := (Sq.cell (p := ⟨w3_.heap.size, 0, none⟩) zx).trans px
  replace qx := (Sq.cell (p := ⟨w3_.heap.size, 1, none⟩) zx).trans qx
  replace zx : w3_.heap.size < w8_.heap.size := Nat.lt_of_lt_of_le zx Sq.size
  replace py := (Sq.cell (p := ⟨w4_.heap.size, 0, none⟩) zy).trans py
  replace qy := (Sq.cell (p := ⟨w4_.heap.size, 1, none⟩) zy).trans qy
  replace zy : w4_.heap.size < w8_.heap.size := Nat.lt_of_lt_of_le zy Sq.size
  replace pz := (Sq.cell (p := ⟨w5_.heap.size, 0, none⟩) zz).trans pz
  replace qz := (Sq.cell (p := ⟨w5_.heap.size, 1, none⟩) zz).trans qz
  replace zz : w5_.heap.size < w8_.heap.size := Nat.lt_of_lt_of_le zz Sq.size
  replace pn := (Sq.cell (p := ⟨w.heap.size, 0, none⟩) zn).trans pn
  replace zn : w.heap.size < w8_.heap.size := Nat.lt_of_lt_of_le zn Sq.size
  replace pm := (Sq.cell (p := ⟨(w.heap.size + 1), 0, none⟩) zm).trans pm
  replace zm : (w.heap.size + 1) < w8_.heap.size := Nat.lt_of_lt_of_le zm Sq.size
  replace pk := (Sq.cell (p := ⟨(w.heap.size + 1 + 1), 0, none⟩) zk).trans pk
  replace zk : (w.heap.size + 1 + 1) < w8_.heap.size := Nat.lt_of_lt_of_le zk Sq.size
  replace HD : Hid (Rd w8_ w8_.heap.size Ab bs) := HD.out.on Sq
  replace RP : Hid (Rd w8_ w8_.heap.size A0 bP) := RP.out.on Sq
  replace RQ : Hid (Rd w8_ w8_.heap.size A1 bQ) := RQ.out.on Sq
  replace RS : Hid (Rd w8_ w8_.heap.size A2 bS) := RS.out.on Sq
  replace HB : Hid (Below w.heap.size w w8_) := HB.out.trans (Sq.mono HB.out.size)
  clear Bq Sq
  go_wp2
  go_ret
  exact ⟨rfl, HB.out⟩

theorem gback_law (n m : Nat) (k len : Int) (A : Option Addr) (c : Nat) (bs : List Nat) (w : World) (hn : n < 18446744073709551616) (hm : m < 18446744073709551616) (_ : -9223372036854775808 ≤ k ∧ k ≤ 9223372036854775807) (hb : ∀ b ∈ bs, b < 256) (hA : Rd w w.heap.size A bs) :
    Calls Try.prog 10 #[.int .u64 (n : Int), .int .u64 (m : Int), .int .i64 k, .agg #[.int .i64 len, .slice A bs.length c]] w fun e w' => e = .returned (.bool true) ∧ Below w.heap.size w w' := by
  obtain ⟨lp, ep, p1, p2, p3⟩ := least_both n m
  obtain ⟨lq, eq, q1, q2, q3⟩ := code_both n m hn
  obtain ⟨ls, es, s1, s2, s3⟩ := zeta_both n k
  refine gback_w n m k len A c bs.length bs w hA _ _ _ _ _ _ _ _ _ _ _ _ p1 q1 s1 (fun A1 c1 V hA1 hB b0 b1 n0 m0 zb zn zm => ?_) (fun A1 c1 V hA1 hB b0 b1 n0 m0 zb zn zm => ?_) (fun A1 c1 V hA1 hB b0 b1 n0 m0 zb zn zm => ?_)
  · refine gb1_all2 lp p2 ep (fun h => ?_) len n _ _ _ bs hb A1 A c1 c V hA1 hB b0 b1 n0 zb zn (fun he t ht A c U hU hbel => ?_)
    · rcases p3 with ⟨h', _⟩ | ⟨_, h', _⟩
      · exact absurd h' h
      · exact h'
    · rcases p3 with ⟨_, m1, m2, x1, rfl⟩ | ⟨h', _⟩
      · refine gb_2 _ (m : Int) _ _ _ _ _ _ A c U hU ((hbel.cell (p := ⟨w.heap.size + 1, 0, none⟩) zm).trans m0) (Nat.lt_of_lt_of_le zm hbel.size) (fun V hV => read_to (s := (n, (lst n m).length, 0)) (rleast_l _ ht m m1 m2 A c 0 (Nat.zero_le _) V hV) ?_)
        have := lstR_lst [] t n m x1
        simpa using this
      · omega
  · refine gb1_all3 lq q2 eq (fun h => ?_) len n _ _ _ bs hb A1 A c1 c V hA1 hB b0 b1 n0 zb zn (fun he t ht A c U hU hbel => ?_)
    · rcases q3 with ⟨h', _⟩ | ⟨_, h', _⟩
      · exact absurd h' h
      · exact h'
    · rcases q3 with ⟨_, m1, m2, x1, x2, rfl⟩ | ⟨h', _⟩
      · refine gb_3 _ (m : Int) _ _ _ _ _ _ A c U hU ((hbel.cell (p := ⟨w.heap.size + 1, 0, none⟩) zm).trans m0) (Nat.lt_of_lt_of_le zm hbel.size) (fun V hV => read_to (s := (n, (gol n m).length, 0)) (rcode_l _ ht m m1 m2 A c 0 (Nat.zero_le _) V hV) ?_)
        have := golR_gol [] t n m m1 x1 x2
        simpa using this
      · omega
  · refine gb1_all4 ls s2 es (fun h => ?_) len n _ _ _ bs hb A1 A c1 c V hA1 hB b0 b1 n0 zb zn (fun he t ht A c U hU hbel => ?_)
    · rcases s3 with ⟨h', _⟩ | ⟨_, h', _⟩
      · exact absurd h' h
      · exact h'
    · rcases s3 with ⟨_, x1, j, rfl, j1, j2, rfl⟩ | ⟨h', _⟩
      · refine gb_4 _ (j : Int) _ _ _ _ _ _ A c U hU ((hbel.cell (p := ⟨w.heap.size + 1 + 1, 0, none⟩) zm).trans m0) (Nat.lt_of_lt_of_le zm hbel.size) (fun V hV => read_to (s := (n, (zet n j).length, 0)) (rzeta_l _ ht j j1 j2 A c 0 (Nat.zero_le _) V hV) ?_)
        have := zetR_zet [] t n j j1 x1
        simpa using this
      · omega
end Go.Proofs.Ytcacbekdghlncaa
