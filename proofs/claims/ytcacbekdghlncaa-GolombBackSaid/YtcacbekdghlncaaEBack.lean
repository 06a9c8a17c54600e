/- The law EliasBack: for whatever number and bits it returns true, in letters. -/
import Derived.Test.YtcacbekdghlncaaEBegun
import Derived.Test.YtcacbekdghlncaaEApart
import Derived.Test.YtcacbekdghlncaaOpen
namespace Go.Proofs.Ytcacbekdghlncaa
set_option maxRecDepth 100000
set_option linter.unusedVariables false
open Go.RowKit

set_option maxHeartbeats 600000 in
theorem eback_err (n : Nat) (hn : 1099511627776 < n) (len : Int) (A : Option Addr) (c N : Nat) (w : World) (HX : Hid (∀ V, Calls Try.prog 15 #[.int .u64 (n : Int)] V (Gv V 0 0 [] 3)))
    (HY : Hid (∀ V, Calls Try.prog 16 #[.int .u64 (n : Int)] V (Gv V 0 0 [] 3))) : Calls Try.prog 4 #[.int .u64 (n : Int), .agg #[.int .i64 len, .slice A N c]] w fun e w' => e = .returned (.bool true) ∧ Below w.heap.size w w' := by
  have t1 : decide ((1099511627776 : Int) < (n : Int)) = true := by simp; omega
  go_enter Try.func4, Try.ntmps4
  go_wp2_with fail
  refine (HX.out _).mono ?_
  rintro e w1_ ⟨A1, c1, rfl, Rq, Bq⟩
  rw [World.size_alloc] at Bq
  have Sq : Below w.heap.size w w1_ := (one_below w _).trans (Bq.mono (by omega))
  have zb : w.heap.size < w1_.heap.size := by have := Bq.size; rw [World.size_alloc] at this; omega
  obtain ⟨pb, qb⟩ := box_at Bq
  have HB : Hid (Below w.heap.size w w1_) := Sq
  clear Bq Sq
  have RX := Lib.hid Rq; clear Rq
  go_wp2_with fail
  refine (HY.out _).mono ?_
  rintro e w2_ ⟨A2, c2, rfl, Rq, Bq⟩
  rw [World.size_alloc] at Bq
  have Sq : Below w1_.heap.size w1_ w2_ := (one_below w1_ _).trans (Bq.mono (by omega))
  have zx : w1_.heap.size < w2_.heap.size := by have := Bq.size; rw [World.size_alloc] at this; omega
  obtain ⟨px, qx⟩ := box_at Bq
  replace pb := (Sq.cell (p := ⟨w.heap.size, 0, none⟩) zb).trans pb
  replace qb := (Sq.cell (p := ⟨w.heap.size, 1, none⟩) zb).trans qb
  replace zb : w.heap.size < w2_.heap.size := Nat.lt_of_lt_of_le zb Sq.size
  replace RX : Hid (Rd w2_ w2_.heap.size A1 []) := RX.out.on Sq
  replace HB : Hid (Below w.heap.size w w2_) := HB.out.trans (Sq.mono HB.out.size)
  clear Bq Sq
  have RY := Lib.hid Rq; clear Rq
  go_wp2_with fail
  refine (ebegun_true _).mono ?_
  rintro e w3_ ⟨rfl, Bq⟩
  rw [World.size_alloc] at Bq
  have Sq : Below w2_.heap.size w2_ w3_ := (one_below w2_ _).trans (Bq.mono (by omega))
  have zy : w2_.heap.size < w3_.heap.size := by have := Bq.size; rw [World.size_alloc] at this; omega
  obtain ⟨py, qy⟩ := box_at Bq
  replace pb := (Sq.cell (p := ⟨w.heap.size, 0, none⟩) zb).trans pb
  replace qb := (Sq.cell (p := ⟨w.heap.size, 1, none⟩) zb).trans qb
  replace zb : w.heap.size < w3_.heap.size := Nat.lt_of_lt_of_le zb Sq.size
  replace px := (Sq.cell (p := ⟨w1_.heap.size, 0, none⟩) zx).trans px
  replace qx := (Sq.cell (p := ⟨w1_.heap.size, 1, none⟩) zx).trans qx
  replace zx : w1_.heap.size < w3_.heap.size := Nat.lt_of_lt_of_le zx Sq.size
  replace RX : Hid (Rd w3_ w3_.heap.size A1 []) := RX.out.on Sq
  replace RY : Hid (Rd w3_ w3_.heap.size A2 []) := RY.out.on Sq
  replace HB : Hid (Below w.heap.size w w3_) := HB.out.trans (Sq.mono HB.out.size)
  clear Bq Sq
  go_wp2_with fail
  refine (begun_true _).mono ?_
  rintro e w4_ ⟨rfl, Bq⟩
  have Sq : Below w3_.heap.size w3_ w4_ := Bq
  replace pb := (Sq.cell (p := ⟨w.heap.size, 0, none⟩) zb).trans pb
  replace qb := (Sq.cell (p := ⟨w.heap.size, 1, none⟩) zb).trans qb
  replace zb : w.heap.size < w4_.heap.size := Nat.lt_of_lt_of_le zb Sq.size
  replace px := (Sq.cell (p := ⟨w1_.heap.size, 0, none⟩) zx).trans px
  replace qx := (Sq.cell (p := ⟨w1_.heap.size, 1, none⟩) zx).trans qx
  replace zx : w1_.heap.size < w4_.heap.size := Nat.lt_of_lt_of_le zx Sq.size
  replace py := (Sq.cell (p := ⟨w2_.heap.size, 0, none⟩) zy).trans py
  replace qy := (Sq.cell (p := ⟨w2_.heap.size, 1, none⟩) zy).trans qy
  replace zy : w2_.heap.size < w4_.heap.size := Nat.lt_of_lt_of_le zy Sq.size
  replace RX : Hid (Rd w4_ w4_.heap.size A1 []) := RX.out.on Sq
  replace RY : Hid (Rd w4_ w4_.heap.size A2 []) := RY.out.on Sq
  replace HB : Hid (Below w.heap.size w w4_) := HB.out.trans (Sq.mono HB.out.size)
  clear Bq Sq
  go_wp2
  go_ret
  exact ⟨rfl, HB.out⟩

/-- Four cells, newly laid. -/
theorem four_at {w V : World} {a b c d : Value} (h : Below (w.heap.size + 1) (w.alloc (.cells #[a, b, c, d] 25)) V) :
    V.cell? ⟨w.heap.size, 0, none⟩ = some a ∧ V.cell? ⟨w.heap.size, 1, none⟩ = some b ∧ V.cell? ⟨w.heap.size, 2, none⟩ = some c ∧ V.cell? ⟨w.heap.size, 3, none⟩ = some d := by
  have e := (h.block w.heap.size (by omega)).trans (World.alloc_heap_new w (.cells #[a, b, c, d] 25))
  refine ⟨?_, ?_, ?_, ?_⟩ <;> rw [cell_of_row _ _ _ _ _ _ e] <;> rfl
def EBRel (V : World) (p : Value) (wr : World) : Prop := ∃ i : Nat, i ≤ 2 ∧ p = .int .i64 (i : Int) ∧ Below V.heap.size V wr

set_option maxHeartbeats 2000000 in
theorem eback_ok (n lX lY nX nY r1 r2 nJX nJY : Nat) (lJX lJY r3 len : Int) (sxy : Bool) (A : Option Addr) (c N : Nat) (bX bY bs bJX bJY : List Nat) (w : World) (hA : Rd w w.heap.size A bs)
    (HX : Hid (∀ V, Calls Try.prog 15 #[.int .u64 (n : Int)] V (Gv V (lX : Int) nX bX 0)))
    (HY : Hid (∀ V, Calls Try.prog 16 #[.int .u64 (n : Int)] V (Gv V (lY : Int) nY bY 0)))
    (HJX : Hid ((∃ e0 : Int, e0 ≠ 0 ∧ ∀ A B c d V, Rd V V.heap.size A bX → Rd V V.heap.size B bs → Calls Try.prog 30 #[.agg #[.int .i64 (lX : Int), .slice A nX c], .agg #[.int .i64 len, .slice B N d]] V (Gv V 0 0 [] e0)) ∨ (∀ A B c d V, Rd V V.heap.size A bX → Rd V V.heap.size B bs → Calls Try.prog 30 #[.agg #[.int .i64 (lX : Int), .slice A nX c], .agg #[.int .i64 len, .slice B N d]] V (Gv V lJX nJX bJX 0))))
    (HJY : Hid ((∃ e0 : Int, e0 ≠ 0 ∧ ∀ A B c d V, Rd V V.heap.size A bY → Rd V V.heap.size B bs → Calls Try.prog 30 #[.agg #[.int .i64 (lY : Int), .slice A nY c], .agg #[.int .i64 len, .slice B N d]] V (Gv V 0 0 [] e0)) ∨ (∀ A B c d V, Rd V V.heap.size A bY → Rd V V.heap.size B bs → Calls Try.prog 30 #[.agg #[.int .i64 (lY : Int), .slice A nY c], .agg #[.int .i64 len, .slice B N d]] V (Gv V lJY nJY bJY 0))))
    (HGX : Hid (∀ A c V, Rd V V.heap.size A bJX → Calls Try.prog 17 #[.agg #[.int .i64 lJX, .slice A nJX c], .int .i64 0] V (ReadP V n lX 0)))
    (HGY : Hid (∀ A c V, Rd V V.heap.size A bJY → Calls Try.prog 17 #[.agg #[.int .i64 lJY, .slice A nJY c], .int .i64 0] V (ReadP V r1 r2 r3)))
    (HDY : Hid (∀ A c V, Rd V V.heap.size A bJY → Calls Try.prog 18 #[.agg #[.int .i64 lJY, .slice A nJY c], .int .i64 0] V (ReadP V n lY 0)))
    (HXX : Hid (∀ A B c d V, Rd V V.heap.size A bX → Rd V V.heap.size B bX → Calls Try.prog 28 #[.agg #[.int .i64 (lX : Int), .slice A nX c], .agg #[.int .i64 (lX : Int), .slice B nX d]] V fun e w' => e = .returned (.bool true) ∧ Below V.heap.size V w'))
    (HYY : Hid (∀ A B c d V, Rd V V.heap.size A bY → Rd V V.heap.size B bY → Calls Try.prog 28 #[.agg #[.int .i64 (lY : Int), .slice A nY c], .agg #[.int .i64 (lY : Int), .slice B nY d]] V fun e w' => e = .returned (.bool true) ∧ Below V.heap.size V w'))
    (HXY : Hid (∀ A B c d V, Rd V V.heap.size A bX → Rd V V.heap.size B bY → Calls Try.prog 28 #[.agg #[.int .i64 (lX : Int), .slice A nX c], .agg #[.int .i64 (lY : Int), .slice B nY d]] V fun e w' => e = .returned (.bool sxy) ∧ Below V.heap.size V w'))
    (HYX : Hid (∀ A B c d V, Rd V V.heap.size A bY → Rd V V.heap.size B bX → Calls Try.prog 28 #[.agg #[.int .i64 (lY : Int), .slice A nY c], .agg #[.int .i64 (lX : Int), .slice B nX d]] V fun e w' => e = .returned (.bool sxy) ∧ Below V.heap.size V w'))
    (HQ : Hid (sxy = true → r1 = n ∧ r2 = lY ∧ r3 = 0)) : Calls Try.prog 4 #[.int .u64 (n : Int), .agg #[.int .i64 len, .slice A N c]] w fun e w' => e = .returned (.bool true) ∧ Below w.heap.size w w' := by
  have HA := Lib.hid hA; clear hA
  go_enter Try.func4, Try.ntmps4
  go_wp2_with fail
  refine (HX.out _).mono ?_
  rintro e w1_ ⟨A1, c1, rfl, Rq, Bq⟩
  rw [World.size_alloc] at Bq
  have Sq : Below w.heap.size w w1_ := (one_below w _).trans (Bq.mono (by omega))
  have zb : w.heap.size < w1_.heap.size := by have := Bq.size; rw [World.size_alloc] at this; omega
  obtain ⟨pb, qb⟩ := box_at Bq
  replace HA : Hid (Rd w1_ w1_.heap.size A bs) := HA.out.on Sq
  have HB : Hid (Below w.heap.size w w1_) := Sq
  clear Bq Sq
  have RX := Lib.hid Rq; clear Rq
  go_wp2_with fail
  refine (HY.out _).mono ?_
  rintro e w2_ ⟨A2, c2, rfl, Rq, Bq⟩
  rw [World.size_alloc] at Bq
  have Sq : Below w1_.heap.size w1_ w2_ := (one_below w1_ _).trans (Bq.mono (by omega))
  have zx : w1_.heap.size < w2_.heap.size := by have := Bq.size; rw [World.size_alloc] at this; omega
  obtain ⟨px, qx⟩ := box_at Bq
  replace pb := (Sq.cell (p := ⟨w.heap.size, 0, none⟩) zb).trans pb
  replace qb := (Sq.cell (p := ⟨w.heap.size, 1, none⟩) zb).trans qb
  replace zb : w.heap.size < w2_.heap.size := Nat.lt_of_lt_of_le zb Sq.size
  replace HA : Hid (Rd w2_ w2_.heap.size A bs) := HA.out.on Sq
  replace RX : Hid (Rd w2_ w2_.heap.size A1 bX) := RX.out.on Sq
  replace HB : Hid (Below w.heap.size w w2_) := HB.out.trans (Sq.mono HB.out.size)
  clear Bq Sq
  have RY := Lib.hid Rq; clear Rq
  go_wp2_with fail
  refine (ebegun_true _).mono ?_
  rintro e w3_ ⟨rfl, Bq⟩
  rw [World.size_alloc] at Bq
  have Sq : Below w2_.heap.size w2_ w3_ := (one_below w2_ _).trans (Bq.mono (by omega))
  have zy : w2_.heap.size < w3_.heap.size := by have := Bq.size; rw [World.size_alloc] at this; omega
  obtain ⟨py, qy⟩ := box_at Bq
  replace pb := (Sq.cell (p := ⟨w.heap.size, 0, none⟩) zb).trans pb
  replace qb := (Sq.cell (p := ⟨w.heap.size, 1, none⟩) zb).trans qb
  replace zb : w.heap.size < w3_.heap.size := Nat.lt_of_lt_of_le zb Sq.size
  replace px := (Sq.cell (p := ⟨w1_.heap.size, 0, none⟩) zx).trans px
  replace qx := (Sq.cell (p := ⟨w1_.heap.size, 1, none⟩) zx).trans qx
  replace zx : w1_.heap.size < w3_.heap.size := Nat.lt_of_lt_of_le zx Sq.size
  replace HA : Hid (Rd w3_ w3_.heap.size A bs) := HA.out.on Sq
  replace RX : Hid (Rd w3_ w3_.heap.size A1 bX) := RX.out.on Sq
  replace RY : Hid (Rd w3_ w3_.heap.size A2 bY) := RY.out.on Sq
  replace HB : Hid (Below w.heap.size w w3_) := HB.out.trans (Sq.mono HB.out.size)
  clear Bq Sq
  go_wp2_with fail
  refine (begun_true _).mono ?_
  rintro e w4_ ⟨rfl, Bq⟩
  have Sq : Below w3_.heap.size w3_ w4_ := Bq
  replace pb := (Sq.cell (p := ⟨w.heap.size, 0, none⟩) zb).trans pb
  replace qb := (Sq.cell (p := ⟨w.heap.size, 1, none⟩) zb).trans qb
  replace zb : w.heap.size < w4_.heap.size := Nat.lt_of_lt_of_le zb Sq.size
  replace px := (Sq.cell (p := ⟨w1_.heap.size, 0, none⟩) zx).trans px
  replace qx := (Sq.cell (p := ⟨w1_.heap.size, 1, none⟩) zx).trans qx
  replace zx : w1_.heap.size < w4_.heap.size := Nat.lt_of_lt_of_le zx Sq.size
  replace py := (Sq.cell (p := ⟨w2_.heap.size, 0, none⟩) zy).trans py
  replace qy := (Sq.cell (p := ⟨w2_.heap.size, 1, none⟩) zy).trans qy
  replace zy : w2_.heap.size < w4_.heap.size := Nat.lt_of_lt_of_le zy Sq.size
  replace HA : Hid (Rd w4_ w4_.heap.size A bs) := HA.out.on Sq
  replace RX : Hid (Rd w4_ w4_.heap.size A1 bX) := RX.out.on Sq
  replace RY : Hid (Rd w4_ w4_.heap.size A2 bY) := RY.out.on Sq
  replace HB : Hid (Below w.heap.size w w4_) := HB.out.trans (Sq.mono HB.out.size)
  clear Bq Sq
  go_wp2
  generalize hV : w4_.alloc (.cells #[.int .i64 (lX : Int), .slice A1 nX c1, .int .i64 (lY : Int), .slice A2 nY c2] 25) = V at *
  have HVb : Hid (Below w4_.heap.size w4_ V) := hV ▸ one_below _ _
  have HF : Hid (∀ wr : World, Below V.heap.size V wr → wr.cell? ⟨w4_.heap.size, 0, none⟩ = some (.int .i64 (lX : Int)) ∧ wr.cell? ⟨w4_.heap.size, 1, none⟩ = some (.slice A1 nX c1) ∧ wr.cell? ⟨w4_.heap.size, 2, none⟩ = some (.int .i64 (lY : Int)) ∧ wr.cell? ⟨w4_.heap.size, 3, none⟩ = some (.slice A2 nY c2)) := by
    subst hV; exact fun wr h => four_at (by rwa [World.size_alloc] at h)
  have HVs : Hid (w4_.heap.size < V.heap.size) := by show _ < _; rw [← hV, World.size_alloc]; omega
  clear hV
  go_loopw [49] (fun p wr => EBRel V p wr) (fun p _ => 2 - (intOf p).toNat)
  case atStart => exact ⟨0, by omega, rfl, Below.refl _ _⟩
  case round =>
    obtain ⟨i, hi, rfl, hbel⟩ := hrel
    obtain ⟨f0, f1, f2, f3⟩ := HF.out wr hbel
    have zf : w4_.heap.size < wr.heap.size := Nat.lt_of_lt_of_le HVs.out hbel.size
    have Sq : Below w4_.heap.size w4_ wr := HVb.out.trans (hbel.mono HVb.out.size)
    have HVr := Lib.hid hbel; clear hbel
    replace pb := (Sq.cell (p := ⟨w.heap.size, 0, none⟩) zb).trans pb
    replace qb := (Sq.cell (p := ⟨w.heap.size, 1, none⟩) zb).trans qb
    replace zb : w.heap.size < wr.heap.size := Nat.lt_of_lt_of_le zb Sq.size
    replace px := (Sq.cell (p := ⟨w1_.heap.size, 0, none⟩) zx).trans px
    replace qx := (Sq.cell (p := ⟨w1_.heap.size, 1, none⟩) zx).trans qx
    replace zx : w1_.heap.size < wr.heap.size := Nat.lt_of_lt_of_le zx Sq.size
    replace py := (Sq.cell (p := ⟨w2_.heap.size, 0, none⟩) zy).trans py
    replace qy := (Sq.cell (p := ⟨w2_.heap.size, 1, none⟩) zy).trans qy
    replace zy : w2_.heap.size < wr.heap.size := Nat.lt_of_lt_of_le zy Sq.size
    replace HA : Hid (Rd wr wr.heap.size A bs) := HA.out.on Sq
    replace RX : Hid (Rd wr wr.heap.size A1 bX) := RX.out.on Sq
    replace RY : Hid (Rd wr wr.heap.size A2 bY) := RY.out.on Sq
    replace HB : Hid (Below w.heap.size w wr) := HB.out.trans (Sq.mono HB.out.size)
    clear Sq
    rcases (show i = 0 ∨ i = 1 ∨ i = 2 by omega) with rfl | rfl | rfl
    · rcases HJX.out with ⟨ej, hej, hj⟩ | hj
      · have HJ := Lib.hid hj; clear hj
        have tj : (ej != 0) = true := by simpa using hej
        go_wp2_with fail
        refine (HJ.out A1 A c1 c _ (RX.out.on (one_below wr _)) (HA.out.on (one_below wr _))).mono ?_
        rintro e w11_ ⟨A5, c5, rfl, Rq, Bq⟩
        rw [World.size_alloc] at Bq
        have Sq : Below wr.heap.size wr w11_ := (one_below wr _).trans (Bq.mono (by omega))
        have zc : wr.heap.size < w11_.heap.size := by have := Bq.size; rw [World.size_alloc] at this; omega
        obtain ⟨pc, qc⟩ := box_at Bq
        replace pb := (Sq.cell (p := ⟨w.heap.size, 0, none⟩) zb).trans pb
        replace qb := (Sq.cell (p := ⟨w.heap.size, 1, none⟩) zb).trans qb
        replace zb : w.heap.size < w11_.heap.size := Nat.lt_of_lt_of_le zb Sq.size
        replace px := (Sq.cell (p := ⟨w1_.heap.size, 0, none⟩) zx).trans px
        replace qx := (Sq.cell (p := ⟨w1_.heap.size, 1, none⟩) zx).trans qx
        replace zx : w1_.heap.size < w11_.heap.size := Nat.lt_of_lt_of_le zx Sq.size
        replace py := (Sq.cell (p := ⟨w2_.heap.size, 0, none⟩) zy).trans py
        replace qy := (Sq.cell (p := ⟨w2_.heap.size, 1, none⟩) zy).trans qy
        replace zy : w2_.heap.size < w11_.heap.size := Nat.lt_of_lt_of_le zy Sq.size
        replace HA : Hid (Rd w11_ w11_.heap.size A bs) := HA.out.on Sq
        replace RX : Hid (Rd w11_ w11_.heap.size A1 bX) := RX.out.on Sq
        replace RY : Hid (Rd w11_ w11_.heap.size A2 bY) := RY.out.on Sq
        replace HB : Hid (Below w.heap.size w w11_) := HB.out.trans (Sq.mono HB.out.size)
        replace HVr : Hid (Below V.heap.size V w11_) := HVr.out.trans (Sq.mono HVr.out.size)
        clear Bq Sq
        have RJ := Lib.hid Rq; clear Rq
        go_wp2
        exact ⟨⟨1, by omega, rfl, HVr.out.alloc HVr.out.size _⟩, by simp [intOf]⟩
      · have HJ := Lib.hid hj; clear hj
        cases sxy
        · go_wp2_with fail
          refine (HJ.out A1 A c1 c _ (RX.out.on (one_below wr _)) (HA.out.on (one_below wr _))).mono ?_
          rintro e w11_ ⟨A5, c5, rfl, Rq, Bq⟩
          rw [World.size_alloc] at Bq
          have Sq : Below wr.heap.size wr w11_ := (one_below wr _).trans (Bq.mono (by omega))
          have zc : wr.heap.size < w11_.heap.size := by have := Bq.size; rw [World.size_alloc] at this; omega
          obtain ⟨pc, qc⟩ := box_at Bq
          replace pb := (Sq.cell (p := ⟨w.heap.size, 0, none⟩) zb).trans pb
          replace qb := (Sq.cell (p := ⟨w.heap.size, 1, none⟩) zb).trans qb
          replace zb : w.heap.size < w11_.heap.size := Nat.lt_of_lt_of_le zb Sq.size
          replace px := (Sq.cell (p := ⟨w1_.heap.size, 0, none⟩) zx).trans px
          replace qx := (Sq.cell (p := ⟨w1_.heap.size, 1, none⟩) zx).trans qx
          replace zx : w1_.heap.size < w11_.heap.size := Nat.lt_of_lt_of_le zx Sq.size
          replace py := (Sq.cell (p := ⟨w2_.heap.size, 0, none⟩) zy).trans py
          replace qy := (Sq.cell (p := ⟨w2_.heap.size, 1, none⟩) zy).trans qy
          replace zy : w2_.heap.size < w11_.heap.size := Nat.lt_of_lt_of_le zy Sq.size
          replace HA : Hid (Rd w11_ w11_.heap.size A bs) := HA.out.on Sq
          replace RX : Hid (Rd w11_ w11_.heap.size A1 bX) := RX.out.on Sq
          replace RY : Hid (Rd w11_ w11_.heap.size A2 bY) := RY.out.on Sq
          replace HB : Hid (Below w.heap.size w w11_) := HB.out.trans (Sq.mono HB.out.size)
          replace HVr : Hid (Below V.heap.size V w11_) := HVr.out.trans (Sq.mono HVr.out.size)
          clear Bq Sq
          have RJ := Lib.hid Rq; clear Rq
          go_wp2_with fail
          refine (HGX.out A5 c5 _ (RJ.out.on (one_below w11_ _))).mono ?_
          rintro e w12_ ⟨rfl, Bq⟩
          rw [World.size_alloc] at Bq
          have Sq : Below w11_.heap.size w11_ w12_ := (one_below w11_ _).trans (Bq.mono (by omega))
          have za : w11_.heap.size < w12_.heap.size := by have := Bq.size; rw [World.size_alloc] at this; omega
          obtain ⟨pa, qa⟩ := box_at Bq
          replace pb := (Sq.cell (p := ⟨w.heap.size, 0, none⟩) zb).trans pb
          replace qb := (Sq.cell (p := ⟨w.heap.size, 1, none⟩) zb).trans qb
          replace zb : w.heap.size < w12_.heap.size := Nat.lt_of_lt_of_le zb Sq.size
          replace px := (Sq.cell (p := ⟨w1_.heap.size, 0, none⟩) zx).trans px
          replace qx := (Sq.cell (p := ⟨w1_.heap.size, 1, none⟩) zx).trans qx
          replace zx : w1_.heap.size < w12_.heap.size := Nat.lt_of_lt_of_le zx Sq.size
          replace py := (Sq.cell (p := ⟨w2_.heap.size, 0, none⟩) zy).trans py
          replace qy := (Sq.cell (p := ⟨w2_.heap.size, 1, none⟩) zy).trans qy
          replace zy : w2_.heap.size < w12_.heap.size := Nat.lt_of_lt_of_le zy Sq.size
          replace pc := (Sq.cell (p := ⟨wr.heap.size, 0, none⟩) zc).trans pc
          replace qc := (Sq.cell (p := ⟨wr.heap.size, 1, none⟩) zc).trans qc
          replace zc : wr.heap.size < w12_.heap.size := Nat.lt_of_lt_of_le zc Sq.size
          replace HA : Hid (Rd w12_ w12_.heap.size A bs) := HA.out.on Sq
          replace RX : Hid (Rd w12_ w12_.heap.size A1 bX) := RX.out.on Sq
          replace RY : Hid (Rd w12_ w12_.heap.size A2 bY) := RY.out.on Sq
          replace RJ : Hid (Rd w12_ w12_.heap.size A5 bJX) := RJ.out.on Sq
          replace HB : Hid (Below w.heap.size w w12_) := HB.out.trans (Sq.mono HB.out.size)
          replace HVr : Hid (Below V.heap.size V w12_) := HVr.out.trans (Sq.mono HVr.out.size)
          clear Bq Sq
          go_wp2_with fail
          refine (HXY.out A1 A2 c1 c2 _ RX.out RY.out).mono ?_
          rintro e w13_ ⟨rfl, Bq⟩
          have Sq : Below w12_.heap.size w12_ w13_ := Bq
          replace pb := (Sq.cell (p := ⟨w.heap.size, 0, none⟩) zb).trans pb
          replace qb := (Sq.cell (p := ⟨w.heap.size, 1, none⟩) zb).trans qb
          replace zb : w.heap.size < w13_.heap.size := Nat.lt_of_lt_of_le zb Sq.size
          replace px := (Sq.cell (p := ⟨w1_.heap.size, 0, none⟩) zx).trans px
          replace qx := (Sq.cell (p := ⟨w1_.heap.size, 1, none⟩) zx).trans qx
          replace zx : w1_.heap.size < w13_.heap.size := Nat.lt_of_lt_of_le zx Sq.size
          replace py := (Sq.cell (p := ⟨w2_.heap.size, 0, none⟩) zy).trans py
          replace qy := (Sq.cell (p := ⟨w2_.heap.size, 1, none⟩) zy).trans qy
          replace zy : w2_.heap.size < w13_.heap.size := Nat.lt_of_lt_of_le zy Sq.size
          replace pc := (Sq.cell (p := ⟨wr.heap.size, 0, none⟩) zc).trans pc
          replace qc := (Sq.cell (p := ⟨wr.heap.size, 1, none⟩) zc).trans qc
          replace zc : wr.heap.size < w13_.heap.size := Nat.lt_of_lt_of_le zc Sq.size
          replace pa := (Sq.cell (p := ⟨w11_.heap.size, 0, none⟩) za).trans pa
          replace qa := (Sq.cell (p := ⟨w11_.heap.size, 1, none⟩) za).trans qa
          replace za : w11_.heap.size < w13_.heap.size := Nat.lt_of_lt_of_le za Sq.size
          replace HA : Hid (Rd w13_ w13_.heap.size A bs) := HA.out.on Sq
          replace RX : Hid (Rd w13_ w13_.heap.size A1 bX) := RX.out.on Sq
          replace RY : Hid (Rd w13_ w13_.heap.size A2 bY) := RY.out.on Sq
          replace RJ : Hid (Rd w13_ w13_.heap.size A5 bJX) := RJ.out.on Sq
          replace HB : Hid (Below w.heap.size w w13_) := HB.out.trans (Sq.mono HB.out.size)
          replace HVr : Hid (Below V.heap.size V w13_) := HVr.out.trans (Sq.mono HVr.out.size)
          clear Bq Sq
          go_wp2
          exact ⟨⟨1, by omega, rfl, HVr.out⟩, by simp [intOf]⟩
        · go_wp2_with fail
          refine (HJ.out A1 A c1 c _ (RX.out.on (one_below wr _)) (HA.out.on (one_below wr _))).mono ?_
          rintro e w11_ ⟨A5, c5, rfl, Rq, Bq⟩
          rw [World.size_alloc] at Bq
          have Sq : Below wr.heap.size wr w11_ := (one_below wr _).trans (Bq.mono (by omega))
          have zc : wr.heap.size < w11_.heap.size := by have := Bq.size; rw [World.size_alloc] at this; omega
          obtain ⟨pc, qc⟩ := box_at Bq
          replace pb := (Sq.cell (p := ⟨w.heap.size, 0, none⟩) zb).trans pb
          replace qb := (Sq.cell (p := ⟨w.heap.size, 1, none⟩) zb).trans qb
          replace zb : w.heap.size < w11_.heap.size := Nat.lt_of_lt_of_le zb Sq.size
          replace px := (Sq.cell (p := ⟨w1_.heap.size, 0, none⟩) zx).trans px
          replace qx := (Sq.cell (p := ⟨w1_.heap.size, 1, none⟩) zx).trans qx
          replace zx : w1_.heap.size < w11_.heap.size := Nat.lt_of_lt_of_le zx Sq.size
          replace py := (Sq.cell (p := ⟨w2_.heap.size, 0, none⟩) zy).trans py
          replace qy := (Sq.cell (p := ⟨w2_.heap.size, 1, none⟩) zy).trans qy
          replace zy : w2_.heap.size < w11_.heap.size := Nat.lt_of_lt_of_le zy Sq.size
          replace HA : Hid (Rd w11_ w11_.heap.size A bs) := HA.out.on Sq
          replace RX : Hid (Rd w11_ w11_.heap.size A1 bX) := RX.out.on Sq
          replace RY : Hid (Rd w11_ w11_.heap.size A2 bY) := RY.out.on Sq
          replace HB : Hid (Below w.heap.size w w11_) := HB.out.trans (Sq.mono HB.out.size)
          replace HVr : Hid (Below V.heap.size V w11_) := HVr.out.trans (Sq.mono HVr.out.size)
          clear Bq Sq
          have RJ := Lib.hid Rq; clear Rq
          go_wp2_with fail
          refine (HGX.out A5 c5 _ (RJ.out.on (one_below w11_ _))).mono ?_
          rintro e w12_ ⟨rfl, Bq⟩
          rw [World.size_alloc] at Bq
          have Sq : Below w11_.heap.size w11_ w12_ := (one_below w11_ _).trans (Bq.mono (by omega))
          have za : w11_.heap.size < w12_.heap.size := by have := Bq.size; rw [World.size_alloc] at this; omega
          obtain ⟨pa, qa⟩ := box_at Bq
          replace pb := (Sq.cell (p := ⟨w.heap.size, 0, none⟩) zb).trans pb
          replace qb := (Sq.cell (p := ⟨w.heap.size, 1, none⟩) zb).trans qb
          replace zb : w.heap.size < w12_.heap.size := Nat.lt_of_lt_of_le zb Sq.size
          replace px := (Sq.cell (p := ⟨w1_.heap.size, 0, none⟩) zx).trans px
          replace qx := (Sq.cell (p := ⟨w1_.heap.size, 1, none⟩) zx).trans qx
          replace zx : w1_.heap.size < w12_.heap.size := Nat.lt_of_lt_of_le zx Sq.size
          replace py := (Sq.cell (p := ⟨w2_.heap.size, 0, none⟩) zy).trans py
          replace qy := (Sq.cell (p := ⟨w2_.heap.size, 1, none⟩) zy).trans qy
          replace zy : w2_.heap.size < w12_.heap.size := Nat.lt_of_lt_of_le zy Sq.size
          replace pc := (Sq.cell (p := ⟨wr.heap.size, 0, none⟩) zc).trans pc
          replace qc := (Sq.cell (p := ⟨wr.heap.size, 1, none⟩) zc).trans qc
          replace zc : wr.heap.size < w12_.heap.size := Nat.lt_of_lt_of_le zc Sq.size
          replace HA : Hid (Rd w12_ w12_.heap.size A bs) := HA.out.on Sq
          replace RX : Hid (Rd w12_ w12_.heap.size A1 bX) := RX.out.on Sq
          replace RY : Hid (Rd w12_ w12_.heap.size A2 bY) := RY.out.on Sq
          replace RJ : Hid (Rd w12_ w12_.heap.size A5 bJX) := RJ.out.on Sq
          replace HB : Hid (Below w.heap.size w w12_) := HB.out.trans (Sq.mono HB.out.size)
          replace HVr : Hid (Below V.heap.size V w12_) := HVr.out.trans (Sq.mono HVr.out.size)
          clear Bq Sq
          go_wp2_with fail
          refine (HXY.out A1 A2 c1 c2 _ RX.out RY.out).mono ?_
          rintro e w13_ ⟨rfl, Bq⟩
          have Sq : Below w12_.heap.size w12_ w13_ := Bq
          replace pb := (Sq.cell (p := ⟨w.heap.size, 0, none⟩) zb).trans pb
          replace qb := (Sq.cell (p := ⟨w.heap.size, 1, none⟩) zb).trans qb
          replace zb : w.heap.size < w13_.heap.size := Nat.lt_of_lt_of_le zb Sq.size
          replace px := (Sq.cell (p := ⟨w1_.heap.size, 0, none⟩) zx).trans px
          replace qx := (Sq.cell (p := ⟨w1_.heap.size, 1, none⟩) zx).trans qx
          replace zx : w1_.heap.size < w13_.heap.size := Nat.lt_of_lt_of_le zx Sq.size
          replace py := (Sq.cell (p := ⟨w2_.heap.size, 0, none⟩) zy).trans py
          replace qy := (Sq.cell (p := ⟨w2_.heap.size, 1, none⟩) zy).trans qy
          replace zy : w2_.heap.size < w13_.heap.size := Nat.lt_of_lt_of_le zy Sq.size
          replace pc := (Sq.cell (p := ⟨wr.heap.size, 0, none⟩) zc).trans pc
          replace qc := (Sq.cell (p := ⟨wr.heap.size, 1, none⟩) zc).trans qc
          replace zc : wr.heap.size < w13_.heap.size := Nat.lt_of_lt_of_le zc Sq.size
          replace pa := (Sq.cell (p := ⟨w11_.heap.size, 0, none⟩) za).trans pa
          replace qa := (Sq.cell (p := ⟨w11_.heap.size, 1, none⟩) za).trans qa
          replace za : w11_.heap.size < w13_.heap.size := Nat.lt_of_lt_of_le za Sq.size
          replace HA : Hid (Rd w13_ w13_.heap.size A bs) := HA.out.on Sq
          replace RX : Hid (Rd w13_ w13_.heap.size A1 bX) := RX.out.on Sq
          replace RY : Hid (Rd w13_ w13_.heap.size A2 bY) := RY.out.on Sq
          replace RJ : Hid (Rd w13_ w13_.heap.size A5 bJX) := RJ.out.on Sq
          replace HB : Hid (Below w.heap.size w w13_) := HB.out.trans (Sq.mono HB.out.size)
          replace HVr : Hid (Below V.heap.size V w13_) := HVr.out.trans (Sq.mono HVr.out.size)
          clear Bq Sq
          go_wp2_with fail
          refine (HXX.out A1 A1 c1 c1 _ RX.out RX.out).mono ?_
          rintro e w14_ ⟨rfl, Bq⟩
          have Sq : Below w13_.heap.size w13_ w14_ := Bq
          replace pb := (Sq.cell (p := ⟨w.heap.size, 0, none⟩) zb).trans pb
          replace qb := (Sq.cell (p := ⟨w.heap.size, 1, none⟩) zb).trans qb
          replace zb : w.heap.size < w14_.heap.size := Nat.lt_of_lt_of_le zb Sq.size
          replace px := (Sq.cell (p := ⟨w1_.heap.size, 0, none⟩) zx).trans px
          replace qx := (Sq.cell (p := ⟨w1_.heap.size, 1, none⟩) zx).trans qx
          replace zx : w1_.heap.size < w14_.heap.size := Nat.lt_of_lt_of_le zx Sq.size
          replace py := (Sq.cell (p := ⟨w2_.heap.size, 0, none⟩) zy).trans py
          replace qy := (Sq.cell (p := ⟨w2_.heap.size, 1, none⟩) zy).trans qy
          replace zy : w2_.heap.size < w14_.heap.size := Nat.lt_of_lt_of_le zy Sq.size
          replace pc := (Sq.cell (p := ⟨wr.heap.size, 0, none⟩) zc).trans pc
          replace qc := (Sq.cell (p := ⟨wr.heap.size, 1, none⟩) zc).trans qc
          replace zc : wr.heap.size < w14_.heap.size := Nat.lt_of_lt_of_le zc Sq.size
          replace pa := (Sq.cell (p := ⟨w11_.heap.size, 0, none⟩) za).trans pa
          replace qa := (Sq.cell (p := ⟨w11_.heap.size, 1, none⟩) za).trans qa
          replace za : w11_.heap.size < w14_.heap.size := Nat.lt_of_lt_of_le za Sq.size
          replace HA : Hid (Rd w14_ w14_.heap.size A bs) := HA.out.on Sq
          replace RX : Hid (Rd w14_ w14_.heap.size A1 bX) := RX.out.on Sq
          replace RY : Hid (Rd w14_ w14_.heap.size A2 bY) := RY.out.on Sq
          replace RJ : Hid (Rd w14_ w14_.heap.size A5 bJX) := RJ.out.on Sq
          replace HB : Hid (Below w.heap.size w w14_) := HB.out.trans (Sq.mono HB.out.size)
          replace HVr : Hid (Below V.heap.size V w14_) := HVr.out.trans (Sq.mono HVr.out.size)
          clear Bq Sq
          go_wp2
          exact ⟨⟨1, by omega, rfl, HVr.out⟩, by simp [intOf]⟩
    · rcases HJY.out with ⟨ej, hej, hj⟩ | hj
      · have HJ := Lib.hid hj; clear hj
        have tj : (ej != 0) = true := by simpa using hej
        go_wp2_with fail
        refine (HJ.out A2 A c2 c _ (RY.out.on (one_below wr _)) (HA.out.on (one_below wr _))).mono ?_
        rintro e w11_ ⟨A5, c5, rfl, Rq, Bq⟩
        rw [World.size_alloc] at Bq
        have Sq : Below wr.heap.size wr w11_ := (one_below wr _).trans (Bq.mono (by omega))
        have zc : wr.heap.size < w11_.heap.size := by have := Bq.size; rw [World.size_alloc] at this; omega
        obtain ⟨pc, qc⟩ := box_at Bq
        replace pb := (Sq.cell (p := ⟨w.heap.size, 0, none⟩) zb).trans pb
        replace qb := (Sq.cell (p := ⟨w.heap.size, 1, none⟩) zb).trans qb
        replace zb : w.heap.size < w11_.heap.size := Nat.lt_of_lt_of_le zb Sq.size
        replace px := (Sq.cell (p := ⟨w1_.heap.size, 0, none⟩) zx).trans px
        replace qx := (Sq.cell (p := ⟨w1_.heap.size, 1, none⟩) zx).trans qx
        replace zx : w1_.heap.size < w11_.heap.size := Nat.lt_of_lt_of_le zx Sq.size
        replace py := (Sq.cell (p := ⟨w2_.heap.size, 0, none⟩) zy).trans py
        replace qy := (Sq.cell (p := ⟨w2_.heap.size, 1, none⟩) zy).trans qy
        replace zy : w2_.heap.size < w11_.heap.size := Nat.lt_of_lt_of_le zy Sq.size
        replace HA : Hid (Rd w11_ w11_.heap.size A bs) := HA.out.on Sq
        replace RX : Hid (Rd w11_ w11_.heap.size A1 bX) := RX.out.on Sq
        replace RY : Hid (Rd w11_ w11_.heap.size A2 bY) := RY.out.on Sq
        replace HB : Hid (Below w.heap.size w w11_) := HB.out.trans (Sq.mono HB.out.size)
        replace HVr : Hid (Below V.heap.size V w11_) := HVr.out.trans (Sq.mono HVr.out.size)
        clear Bq Sq
        have RJ := Lib.hid Rq; clear Rq
        go_wp2
        exact ⟨⟨2, by omega, rfl, HVr.out.alloc HVr.out.size _⟩, by simp [intOf]⟩
      · have HJ := Lib.hid hj; clear hj
        cases sxy
        · go_wp2_with fail
          refine (HJ.out A2 A c2 c _ (RY.out.on (one_below wr _)) (HA.out.on (one_below wr _))).mono ?_
          rintro e w11_ ⟨A5, c5, rfl, Rq, Bq⟩
          rw [World.size_alloc] at Bq
          have Sq : Below wr.heap.size wr w11_ := (one_below wr _).trans (Bq.mono (by omega))
          have zc : wr.heap.size < w11_.heap.size := by have := Bq.size; rw [World.size_alloc] at this; omega
          obtain ⟨pc, qc⟩ := box_at Bq
          replace pb := (Sq.cell (p := ⟨w.heap.size, 0, none⟩) zb).trans pb
          replace qb := (Sq.cell (p := ⟨w.heap.size, 1, none⟩) zb).trans qb
          replace zb : w.heap.size < w11_.heap.size := Nat.lt_of_lt_of_le zb Sq.size
          replace px := (Sq.cell (p := ⟨w1_.heap.size, 0, none⟩) zx).trans px
          replace qx := (Sq.cell (p := ⟨w1_.heap.size, 1, none⟩) zx).trans qx
          replace zx : w1_.heap.size < w11_.heap.size := Nat.lt_of_lt_of_le zx Sq.size
          replace py := (Sq.cell (p := ⟨w2_.heap.size, 0, none⟩) zy).trans py
          replace qy := (Sq.cell (p := ⟨w2_.heap.size, 1, none⟩) zy).trans qy
          replace zy : w2_.heap.size < w11_.heap.size := Nat.lt_of_lt_of_le zy Sq.size
          replace HA : Hid (Rd w11_ w11_.heap.size A bs) := HA.out.on Sq
          replace RX : Hid (Rd w11_ w11_.heap.size A1 bX) := RX.out.on Sq
          replace RY : Hid (Rd w11_ w11_.heap.size A2 bY) := RY.out.on Sq
          replace HB : Hid (Below w.heap.size w w11_) := HB.out.trans (Sq.mono HB.out.size)
          replace HVr : Hid (Below V.heap.size V w11_) := HVr.out.trans (Sq.mono HVr.out.size)
          clear Bq Sq
          have RJ := Lib.hid Rq; clear Rq
          go_wp2_with fail
          refine (HGY.out A5 c5 _ (RJ.out.on (one_below w11_ _))).mono ?_
          rintro e w12_ ⟨rfl, Bq⟩
          rw [World.size_alloc] at Bq
          have Sq : Below w11_.heap.size w11_ w12_ := (one_below w11_ _).trans (Bq.mono (by omega))
          have za : w11_.heap.size < w12_.heap.size := by have := Bq.size; rw [World.size_alloc] at this; omega
          obtain ⟨pa, qa⟩ := box_at Bq
          replace pb := (Sq.cell (p := ⟨w.heap.size, 0, none⟩) zb).trans pb
          replace qb := (Sq.cell (p := ⟨w.heap.size, 1, none⟩) zb).trans qb
          replace zb : w.heap.size < w12_.heap.size := Nat.lt_of_lt_of_le zb Sq.size
          replace px := (Sq.cell (p := ⟨w1_.heap.size, 0, none⟩) zx).trans px
          replace qx := (Sq.cell (p := ⟨w1_.heap.size, 1, none⟩) zx).trans qx
          replace zx : w1_.heap.size < w12_.heap.size := Nat.lt_of_lt_of_le zx Sq.size
          replace py := (Sq.cell (p := ⟨w2_.heap.size, 0, none⟩) zy).trans py
          replace qy := (Sq.cell (p := ⟨w2_.heap.size, 1, none⟩) zy).trans qy
          replace zy : w2_.heap.size < w12_.heap.size := Nat.lt_of_lt_of_le zy Sq.size
          replace pc := (Sq.cell (p := ⟨wr.heap.size, 0, none⟩) zc).trans pc
          replace qc := (Sq.cell (p := ⟨wr.heap.size, 1, none⟩) zc).trans qc
          replace zc : wr.heap.size < w12_.heap.size := Nat.lt_of_lt_of_le zc Sq.size
          replace HA : Hid (Rd w12_ w12_.heap.size A bs) := HA.out.on Sq
          replace RX : Hid (Rd w12_ w12_.heap.size A1 bX) := RX.out.on Sq
          replace RY : Hid (Rd w12_ w12_.heap.size A2 bY) := RY.out.on Sq
          replace RJ : Hid (Rd w12_ w12_.heap.size A5 bJY) := RJ.out.on Sq
          replace HB : Hid (Below w.heap.size w w12_) := HB.out.trans (Sq.mono HB.out.size)
          replace HVr : Hid (Below V.heap.size V w12_) := HVr.out.trans (Sq.mono HVr.out.size)
          clear Bq Sq
          go_wp2_with fail
          refine (HYY.out A2 A2 c2 c2 _ RY.out RY.out).mono ?_
          rintro e w13_ ⟨rfl, Bq⟩
          have Sq : Below w12_.heap.size w12_ w13_ := Bq
          replace pb := (Sq.cell (p := ⟨w.heap.size, 0, none⟩) zb).trans pb
          replace qb := (Sq.cell (p := ⟨w.heap.size, 1, none⟩) zb).trans qb
          replace zb : w.heap.size < w13_.heap.size := Nat.lt_of_lt_of_le zb Sq.size
          replace px := (Sq.cell (p := ⟨w1_.heap.size, 0, none⟩) zx).trans px
          replace qx := (Sq.cell (p := ⟨w1_.heap.size, 1, none⟩) zx).trans qx
          replace zx : w1_.heap.size < w13_.heap.size := Nat.lt_of_lt_of_le zx Sq.size
          replace py := (Sq.cell (p := ⟨w2_.heap.size, 0, none⟩) zy).trans py
          replace qy := (Sq.cell (p := ⟨w2_.heap.size, 1, none⟩) zy).trans qy
          replace zy : w2_.heap.size < w13_.heap.size := Nat.lt_of_lt_of_le zy Sq.size
          replace pc := (Sq.cell (p := ⟨wr.heap.size, 0, none⟩) zc).trans pc
          replace qc := (Sq.cell (p := ⟨wr.heap.size, 1, none⟩) zc).trans qc
          replace zc : wr.heap.size < w13_.heap.size := Nat.lt_of_lt_of_le zc Sq.size
          replace pa := (Sq.cell (p := ⟨w11_.heap.size, 0, none⟩) za).trans pa
          replace qa := (Sq.cell (p := ⟨w11_.heap.size, 1, none⟩) za).trans qa
          replace za : w11_.heap.size < w13_.heap.size := Nat.lt_of_lt_of_le za Sq.size
          replace HA : Hid (Rd w13_ w13_.heap.size A bs) := HA.out.on Sq
          replace RX : Hid (Rd w13_ w13_.heap.size A1 bX) := RX.out.on Sq
          replace RY : Hid (Rd w13_ w13_.heap.size A2 bY) := RY.out.on Sq
          replace RJ : Hid (Rd w13_ w13_.heap.size A5 bJY) := RJ.out.on Sq
          replace HB : Hid (Below w.heap.size w w13_) := HB.out.trans (Sq.mono HB.out.size)
          replace HVr : Hid (Below V.heap.size V w13_) := HVr.out.trans (Sq.mono HVr.out.size)
          clear Bq Sq
          go_wp2_with fail
          refine (HYX.out A2 A1 c2 c1 _ RY.out RX.out).mono ?_
          rintro e w14_ ⟨rfl, Bq⟩
          have Sq : Below w13_.heap.size w13_ w14_ := Bq
          replace pb := (Sq.cell (p := ⟨w.heap.size, 0, none⟩) zb).trans pb
          replace qb := (Sq.cell (p := ⟨w.heap.size, 1, none⟩) zb).trans qb
          replace zb : w.heap.size < w14_.heap.size := Nat.lt_of_lt_of_le zb Sq.size
          replace px := (Sq.cell (p := ⟨w1_.heap.size, 0, none⟩) zx).trans px
          replace qx := (Sq.cell (p := ⟨w1_.heap.size, 1, none⟩) zx).trans qx
          replace zx : w1_.heap.size < w14_.heap.size := Nat.lt_of_lt_of_le zx Sq.size
          replace py := (Sq.cell (p := ⟨w2_.heap.size, 0, none⟩) zy).trans py
          replace qy := (Sq.cell (p := ⟨w2_.heap.size, 1, none⟩) zy).trans qy
          replace zy : w2_.heap.size < w14_.heap.size := Nat.lt_of_lt_of_le zy Sq.size
          replace pc := (Sq.cell (p := ⟨wr.heap.size, 0, none⟩) zc).trans pc
          replace qc := (Sq.cell (p := ⟨wr.heap.size, 1, none⟩) zc).trans qc
          replace zc : wr.heap.size < w14_.heap.size := Nat.lt_of_lt_of_le zc Sq.size
          replace pa := (Sq.cell (p := ⟨w11_.heap.size, 0, none⟩) za).trans pa
          replace qa := (Sq.cell (p := ⟨w11_.heap.size, 1, none⟩) za).trans qa
          replace za : w11_.heap.size < w14_.heap.size := Nat.lt_of_lt_of_le za Sq.size
          replace HA : Hid (Rd w14_ w14_.heap.size A bs) := HA.out.on Sq
          replace RX : Hid (Rd w14_ w14_.heap.size A1 bX) := RX.out.on Sq
          replace RY : Hid (Rd w14_ w14_.heap.size A2 bY) := RY.out.on Sq
          replace RJ : Hid (Rd w14_ w14_.heap.size A5 bJY) := RJ.out.on Sq
          replace HB : Hid (Below w.heap.size w w14_) := HB.out.trans (Sq.mono HB.out.size)
          replace HVr : Hid (Below V.heap.size V w14_) := HVr.out.trans (Sq.mono HVr.out.size)
          clear Bq Sq
          go_wp2_with fail
          refine (HDY.out A5 c5 _ RJ.out).mono ?_
          rintro e w15_ ⟨rfl, Bq⟩
          have Sq : Below w14_.heap.size w14_ w15_ := Bq
          replace pb := (Sq.cell (p := ⟨w.heap.size, 0, none⟩) zb).trans pb
          replace qb := (Sq.cell (p := ⟨w.heap.size, 1, none⟩) zb).trans qb
          replace zb : w.heap.size < w15_.heap.size := Nat.lt_of_lt_of_le zb Sq.size
          replace px := (Sq.cell (p := ⟨w1_.heap.size, 0, none⟩) zx).trans px
          replace qx := (Sq.cell (p := ⟨w1_.heap.size, 1, none⟩) zx).trans qx
          replace zx : w1_.heap.size < w15_.heap.size := Nat.lt_of_lt_of_le zx Sq.size
          replace py := (Sq.cell (p := ⟨w2_.heap.size, 0, none⟩) zy).trans py
          replace qy := (Sq.cell (p := ⟨w2_.heap.size, 1, none⟩) zy).trans qy
          replace zy : w2_.heap.size < w15_.heap.size := Nat.lt_of_lt_of_le zy Sq.size
          replace pc := (Sq.cell (p := ⟨wr.heap.size, 0, none⟩) zc).trans pc
          replace qc := (Sq.cell (p := ⟨wr.heap.size, 1, none⟩) zc).trans qc
          replace zc : wr.heap.size < w15_.heap.size := Nat.lt_of_lt_of_le zc Sq.size
          replace pa := (Sq.cell (p := ⟨w11_.heap.size, 0, none⟩) za).trans pa
          replace qa := (Sq.cell (p := ⟨w11_.heap.size, 1, none⟩) za).trans qa
          replace za : w11_.heap.size < w15_.heap.size := Nat.lt_of_lt_of_le za Sq.size
          replace HA : Hid (Rd w15_ w15_.heap.size A bs) := HA.out.on Sq
          replace RX : Hid (Rd w15_ w15_.heap.size A1 bX) := RX.out.on Sq
          replace RY : Hid (Rd w15_ w15_.heap.size A2 bY) := RY.out.on Sq
          replace RJ : Hid (Rd w15_ w15_.heap.size A5 bJY) := RJ.out.on Sq
          replace HB : Hid (Below w.heap.size w w15_) := HB.out.trans (Sq.mono HB.out.size)
          replace HVr : Hid (Below V.heap.size V w15_) := HVr.out.trans (Sq.mono HVr.out.size)
          clear Bq Sq
          go_wp2
          exact ⟨⟨2, by omega, rfl, HVr.out⟩, by simp [intOf]⟩
        · obtain ⟨rfl, rfl, rfl⟩ := HQ.out rfl
          go_wp2_with fail
          refine (HJ.out A2 A c2 c _ (RY.out.on (one_below wr _)) (HA.out.on (one_below wr _))).mono ?_
          rintro e w11_ ⟨A5, c5, rfl, Rq, Bq⟩
          rw [World.size_alloc] at Bq
          have Sq : Below wr.heap.size wr w11_ := (one_below wr _).trans (Bq.mono (by omega))
          have zc : wr.heap.size < w11_.heap.size := by have := Bq.size; rw [World.size_alloc] at this; omega
          obtain ⟨pc, qc⟩ := box_at Bq
          replace pb := (Sq.cell (p := ⟨w.heap.size, 0, none⟩) zb).trans pb
          replace qb := (Sq.cell (p := ⟨w.heap.size, 1, none⟩) zb).trans qb
          replace zb : w.heap.size < w11_.heap.size := Nat.lt_of_lt_of_le zb Sq.size
          replace px := (Sq.cell (p := ⟨w1_.heap.size, 0, none⟩) zx).trans px
          replace qx := (Sq.cell (p := ⟨w1_.heap.size, 1, none⟩) zx).trans qx
          replace zx : w1_.heap.size < w11_.heap.size := Nat.lt_of_lt_of_le zx Sq.size
          replace py := (Sq.cell (p := ⟨w2_.heap.size, 0, none⟩) zy).trans py
          replace qy := (Sq.cell (p := ⟨w2_.heap.size, 1, none⟩) zy).trans qy
          replace zy : w2_.heap.size < w11_.heap.size := Nat.lt_of_lt_of_le zy Sq.size
          replace HA : Hid (Rd w11_ w11_.heap.size A bs) := HA.out.on Sq
          replace RX : Hid (Rd w11_ w11_.heap.size A1 bX) := RX.out.on Sq
          replace RY : Hid (Rd w11_ w11_.heap.size A2 bY) := RY.out.on Sq
          replace HB : Hid (Below w.heap.size w w11_) := HB.out.trans (Sq.mono HB.out.size)
          replace HVr : Hid (Below V.heap.size V w11_) := HVr.out.trans (Sq.mono HVr.out.size)
          clear Bq Sq
          have RJ := Lib.hid Rq; clear Rq
          go_wp2_with fail
          refine (HGY.out A5 c5 _ (RJ.out.on (one_below w11_ _))).mono ?_
          rintro e w12_ ⟨rfl, Bq⟩
          rw [World.size_alloc] at Bq
          have Sq : Below w11_.heap.size w11_ w12_ := (one_below w11_ _).trans (Bq.mono (by omega))
          have za : w11_.heap.size < w12_.heap.size := by have := Bq.size; rw [World.size_alloc] at this; omega
          obtain ⟨pa, qa⟩ := box_at Bq
          replace pb := (Sq.cell (p := ⟨w.heap.size, 0, none⟩) zb).trans pb
          replace qb := (Sq.cell (p := ⟨w.heap.size, 1, none⟩) zb).trans qb
          replace zb : w.heap.size < w12_.heap.size := Nat.lt_of_lt_of_le zb Sq.size
          replace px := (Sq.cell (p := ⟨w1_.heap.size, 0, none⟩) zx).trans px
          replace qx := (Sq.cell (p := ⟨w1_.heap.size, 1, none⟩) zx).trans qx
          replace zx : w1_.heap.size < w12_.heap.size := Nat.lt_of_lt_of_le zx Sq.size
          replace py := (Sq.cell (p := ⟨w2_.heap.size, 0, none⟩) zy).trans py
          replace qy := (Sq.cell (p := ⟨w2_.heap.size, 1, none⟩) zy).trans qy
          replace zy : w2_.heap.size < w12_.heap.size := Nat.lt_of_lt_of_le zy Sq.size
          replace pc := (Sq.cell (p := ⟨wr.heap.size, 0, none⟩) zc).trans pc
          replace qc := (Sq.cell (p := ⟨wr.heap.size, 1, none⟩) zc).trans qc
          replace zc : wr.heap.size < w12_.heap.size := Nat.lt_of_lt_of_le zc Sq.size
          replace HA : Hid (Rd w12_ w12_.heap.size A bs) := HA.out.on Sq
          replace RX : Hid (Rd w12_ w12_.heap.size A1 bX) := RX.out.on Sq
          replace RY : Hid (Rd w12_ w12_.heap.size A2 bY) := RY.out.on Sq
          replace RJ : Hid (Rd w12_ w12_.heap.size A5 bJY) := RJ.out.on Sq
          replace HB : Hid (Below w.heap.size w w12_) := HB.out.trans (Sq.mono HB.out.size)
          replace HVr : Hid (Below V.heap.size V w12_) := HVr.out.trans (Sq.mono HVr.out.size)
          clear Bq Sq
          go_wp2_with fail
          refine (HYY.out A2 A2 c2 c2 _ RY.out RY.out).mono ?_
          rintro e w13_ ⟨rfl, Bq⟩
          have Sq : Below w12_.heap.size w12_ w13_ := Bq
          replace pb := (Sq.cell (p := ⟨w.heap.size, 0, none⟩) zb).trans pb
          replace qb := (Sq.cell (p := ⟨w.heap.size, 1, none⟩) zb).trans qb
          replace zb : w.heap.size < w13_.heap.size := Nat.lt_of_lt_of_le zb Sq.size
          replace px := (Sq.cell (p := ⟨w1_.heap.size, 0, none⟩) zx).trans px
          replace qx := (Sq.cell (p := ⟨w1_.heap.size, 1, none⟩) zx).trans qx
          replace zx : w1_.heap.size < w13_.heap.size := Nat.lt_of_lt_of_le zx Sq.size
          replace py := (Sq.cell (p := ⟨w2_.heap.size, 0, none⟩) zy).trans py
          replace qy := (Sq.cell (p := ⟨w2_.heap.size, 1, none⟩) zy).trans qy
          replace zy : w2_.heap.size < w13_.heap.size := Nat.lt_of_lt_of_le zy Sq.size
          replace pc := (Sq.cell (p := ⟨wr.heap.size, 0, none⟩) zc).trans pc
          replace qc := (Sq.cell (p := ⟨wr.heap.size, 1, none⟩) zc).trans qc
          replace zc : wr.heap.size < w13_.heap.size := Nat.lt_of_lt_of_le zc Sq.size
          replace pa := (Sq.cell (p := ⟨w11_.heap.size, 0, none⟩) za).trans pa
          replace qa := (Sq.cell (p := ⟨w11_.heap.size, 1, none⟩) za).trans qa
          replace za : w11_.heap.size < w13_.heap.size := Nat.lt_of_lt_of_le za Sq.size
          replace HA : Hid (Rd w13_ w13_.heap.size A bs) := HA.out.on Sq
          replace RX : Hid (Rd w13_ w13_.heap.size A1 bX) := RX.out.on Sq
          replace RY : Hid (Rd w13_ w13_.heap.size A2 bY) := RY.out.on Sq
          replace RJ : Hid (Rd w13_ w13_.heap.size A5 bJY) := RJ.out.on Sq
          replace HB : Hid (Below w.heap.size w w13_) := HB.out.trans (Sq.mono HB.out.size)
          replace HVr : Hid (Below V.heap.size V w13_) := HVr.out.trans (Sq.mono HVr.out.size)
          clear Bq Sq
          go_wp2_with fail
          refine (HYX.out A2 A1 c2 c1 _ RY.out RX.out).mono ?_
          rintro e w14_ ⟨rfl, Bq⟩
          have Sq : Below w13_.heap.size w13_ w14_ := Bq
          replace pb := (Sq.cell (p := ⟨w.heap.size, 0, none⟩) zb).trans pb
          replace qb := (Sq.cell (p := ⟨w.heap.size, 1, none⟩) zb).trans qb
          replace zb : w.heap.size < w14_.heap.size := Nat.lt_of_lt_of_le zb Sq.size
          replace px := (Sq.cell (p := ⟨w1_.heap.size, 0, none⟩) zx).trans px
          replace qx := (Sq.cell (p := ⟨w1_.heap.size, 1, none⟩) zx).trans qx
          replace zx : w1_.heap.size < w14_.heap.size := Nat.lt_of_lt_of_le zx Sq.size
          replace py := (Sq.cell (p := ⟨w2_.heap.size, 0, none⟩) zy).trans py
          replace qy := (Sq.cell (p := ⟨w2_.heap.size, 1, none⟩) zy).trans qy
          replace zy : w2_.heap.size < w14_.heap.size := Nat.lt_of_lt_of_le zy Sq.size
          replace pc := (Sq.cell (p := ⟨wr.heap.size, 0, none⟩) zc).trans pc
          replace qc := (Sq.cell (p := ⟨wr.heap.size, 1, none⟩) zc).trans qc
          replace zc : wr.heap.size < w14_.heap.size := Nat.lt_of_lt_of_le zc Sq.size
          replace pa := (Sq.cell (p := ⟨w11_.heap.size, 0, none⟩) za).trans pa
          replace qa := (Sq.cell (p := ⟨w11_.heap.size, 1, none⟩) za).trans qa
          replace za : w11_.heap.size < w14_.heap.size := Nat.lt_of_lt_of_le za Sq.size
          replace HA : Hid (Rd w14_ w14_.heap.size A bs) := HA.out.on Sq
          replace RX : Hid (Rd w14_ w14_.heap.size A1 bX) := RX.out.on Sq
          replace RY : Hid (Rd w14_ w14_.heap.size A2 bY) := RY.out.on Sq
          replace RJ : Hid (Rd w14_ w14_.heap.size A5 bJY) := RJ.out.on Sq
          replace HB : Hid (Below w.heap.size w w14_) := HB.out.trans (Sq.mono HB.out.size)
          replace HVr : Hid (Below V.heap.size V w14_) := HVr.out.trans (Sq.mono HVr.out.size)
          clear Bq Sq
          go_wp2
          exact ⟨⟨2, by omega, rfl, HVr.out⟩, by simp [intOf]⟩
    · go_wp2
      go_ret
      exact ⟨rfl, HB.out⟩
end Go.Proofs.Ytcacbekdghlncaa
