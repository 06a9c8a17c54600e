/- The law GolombRises: for whatever three numbers it returns true. -/
import Derived.Test.YtcacbekdghlncaaGBegun
import Derived.Test.YtcacbekdghlncaaOpen
namespace Go.Proofs.Ytcacbekdghlncaa
set_option maxRecDepth 100000
set_option linter.unusedVariables false
open Go.RowKit

set_option maxHeartbeats 600000 in
theorem grises_ea (a b m lX lY lZ nX nY nZ : Nat) (bX bY bZ : List Nat) (eA eB : Int) (h0 : eA ≠ 0) (w : World)
    (HX : Hid (∀ V, Calls Try.prog 36 #[.int .u64 (a : Int), .int .u64 (m : Int)] V (Gv V (lX : Int) nX bX eA)))
    (HY : Hid (∀ V, Calls Try.prog 36 #[.int .u64 (b : Int), .int .u64 (m : Int)] V (Gv V (lY : Int) nY bY eB))) :
    Calls Try.prog 13 #[.int .u64 (a : Int), .int .u64 (b : Int), .int .u64 (m : Int)] w fun e w' => e = .returned (.bool true) ∧ Below w.heap.size w w' := by
  have t0 : (eA != 0) = true := by simpa using h0
  go_enter Try.func13, Try.ntmps13
  go_wp2_with fail
  refine (HX.out _).mono ?_
  rintro e w1_ ⟨A1, c1, rfl, Rq, Bq⟩
  have Sq : Below w.heap.size w w1_ := Bq
  have HB : Hid (Below w.heap.size w w1_) := Sq
  clear Bq Sq
  have RX := Lib.hid Rq; clear Rq
  go_wp2_with fail
  refine (HY.out _).mono ?_
  rintro e w2_ ⟨A2, c2, rfl, Rq, Bq⟩
  rw [World.size_alloc] at Bq
  have Sq : Below w1_.heap.size w1_ w2_ := (one_below w1_ _).trans (Bq.mono (by omega))
  have zx : w1_.heap.size < w2_.heap.size := by have := Bq.size; rw [World.size_alloc] at this; omega
  obtain ⟨px, qx⟩ := box_at Bq
  replace RX : Hid (Rd w2_ w2_.heap.size A1 bX) := RX.out.on Sq
  replace HB : Hid (Below w.heap.size w w2_) := HB.out.trans (Sq.mono HB.out.size)
  clear Bq Sq
  have RY := Lib.hid Rq; clear Rq
  go_wp2_with fail
  refine (gbegun_true _).mono ?_
  rintro e w3_ ⟨rfl, Bq⟩
  rw [World.size_alloc] at Bq
  have Sq : Below w2_.heap.size w2_ w3_ := (one_below w2_ _).trans (Bq.mono (by omega))
  have zy : w2_.heap.size < w3_.heap.size := by have := Bq.size; rw [World.size_alloc] at this; omega
  obtain ⟨py, qy⟩ := box_at Bq
  replace px := (Sq.cell (p := ⟨w1_.heap.size, 0, none⟩) zx).trans px
  replace qx := (Sq.cell (p := ⟨w1_.heap.size, 1, none⟩) zx).trans qx
  replace zx : w1_.heap.size < w3_.heap.size := Nat.lt_of_lt_of_le zx Sq.size
  replace RX : Hid (Rd w3_ w3_.heap.size A1 bX) := RX.out.on Sq
  replace RY : Hid (Rd w3_ w3_.heap.size A2 bY) := RY.out.on Sq
  replace HB : Hid (Below w.heap.size w w3_) := HB.out.trans (Sq.mono HB.out.size)
  clear Bq Sq
  go_wp2
  go_ret
  exact ⟨rfl, HB.out⟩
set_option maxHeartbeats 600000 in
theorem grises_eb (a b m lX lY lZ nX nY nZ : Nat) (bX bY bZ : List Nat) (eB : Int) (h0 : eB ≠ 0) (w : World)
    (HX : Hid (∀ V, Calls Try.prog 36 #[.int .u64 (a : Int), .int .u64 (m : Int)] V (Gv V (lX : Int) nX bX 0)))
    (HY : Hid (∀ V, Calls Try.prog 36 #[.int .u64 (b : Int), .int .u64 (m : Int)] V (Gv V (lY : Int) nY bY eB))) :
    Calls Try.prog 13 #[.int .u64 (a : Int), .int .u64 (b : Int), .int .u64 (m : Int)] w fun e w' => e = .returned (.bool true) ∧ Below w.heap.size w w' := by
  have t0 : (eB != 0) = true := by simpa using h0
  go_enter Try.func13, Try.ntmps13
  go_wp2_with fail
  refine (HX.out _).mono ?_
  rintro e w1_ ⟨A1, c1, rfl, Rq, Bq⟩
  have Sq : Below w.heap.size w w1_ := Bq
  have HB : Hid (Below w.heap.size w w1_) := Sq
  clear Bq Sq
  have RX := Lib.hid Rq; clear Rq
  go_wp2_with fail
  refine (HY.out _).mono ?_
  rintro e w2_ ⟨A2, c2, rfl, Rq, Bq⟩
  rw [World.size_alloc] at Bq
  have Sq : Below w1_.heap.size w1_ w2_ := (one_below w1_ _).trans (Bq.mono (by omega))
  have zx : w1_.heap.size < w2_.heap.size := by have := Bq.size; rw [World.size_alloc] at this; omega
  obtain ⟨px, qx⟩ := box_at Bq
  replace RX : Hid (Rd w2_ w2_.heap.size A1 bX) := RX.out.on Sq
  replace HB : Hid (Below w.heap.size w w2_) := HB.out.trans (Sq.mono HB.out.size)
  clear Bq Sq
  have RY := Lib.hid Rq; clear Rq
  go_wp2_with fail
  refine (gbegun_true _).mono ?_
  rintro e w3_ ⟨rfl, Bq⟩
  rw [World.size_alloc] at Bq
  have Sq : Below w2_.heap.size w2_ w3_ := (one_below w2_ _).trans (Bq.mono (by omega))
  have zy : w2_.heap.size < w3_.heap.size := by have := Bq.size; rw [World.size_alloc] at this; omega
  obtain ⟨py, qy⟩ := box_at Bq
  replace px := (Sq.cell (p := ⟨w1_.heap.size, 0, none⟩) zx).trans px
  replace qx := (Sq.cell (p := ⟨w1_.heap.size, 1, none⟩) zx).trans qx
  replace zx : w1_.heap.size < w3_.heap.size := Nat.lt_of_lt_of_le zx Sq.size
  replace RX : Hid (Rd w3_ w3_.heap.size A1 bX) := RX.out.on Sq
  replace RY : Hid (Rd w3_ w3_.heap.size A2 bY) := RY.out.on Sq
  replace HB : Hid (Below w.heap.size w w3_) := HB.out.trans (Sq.mono HB.out.size)
  clear Bq Sq
  go_wp2
  go_ret
  exact ⟨rfl, HB.out⟩
set_option maxHeartbeats 600000 in
theorem grises_gt (a b m lX lY lZ nX nY nZ : Nat) (bX bY bZ : List Nat) (h0 : b < a) (w : World)
    (HX : Hid (∀ V, Calls Try.prog 36 #[.int .u64 (a : Int), .int .u64 (m : Int)] V (Gv V (lX : Int) nX bX 0)))
    (HY : Hid (∀ V, Calls Try.prog 36 #[.int .u64 (b : Int), .int .u64 (m : Int)] V (Gv V (lY : Int) nY bY 0))) :
    Calls Try.prog 13 #[.int .u64 (a : Int), .int .u64 (b : Int), .int .u64 (m : Int)] w fun e w' => e = .returned (.bool true) ∧ Below w.heap.size w w' := by
  have t0 : decide ((b : Int) < (a : Int)) = true := by simp; omega
  go_enter Try.func13, Try.ntmps13
  go_wp2_with fail
  refine (HX.out _).mono ?_
  rintro e w1_ ⟨A1, c1, rfl, Rq, Bq⟩
  have Sq : Below w.heap.size w w1_ := Bq
  have HB : Hid (Below w.heap.size w w1_) := Sq
  clear Bq Sq
  have RX := Lib.hid Rq; clear Rq
  go_wp2_with fail
  refine (HY.out _).mono ?_
  rintro e w2_ ⟨A2, c2, rfl, Rq, Bq⟩
  rw [World.size_alloc] at Bq
  have Sq : Below w1_.heap.size w1_ w2_ := (one_below w1_ _).trans (Bq.mono (by omega))
  have zx : w1_.heap.size < w2_.heap.size := by have := Bq.size; rw [World.size_alloc] at this; omega
  obtain ⟨px, qx⟩ := box_at Bq
  replace RX : Hid (Rd w2_ w2_.heap.size A1 bX) := RX.out.on Sq
  replace HB : Hid (Below w.heap.size w w2_) := HB.out.trans (Sq.mono HB.out.size)
  clear Bq Sq
  have RY := Lib.hid Rq; clear Rq
  go_wp2_with fail
  refine (gbegun_true _).mono ?_
  rintro e w3_ ⟨rfl, Bq⟩
  rw [World.size_alloc] at Bq
  have Sq : Below w2_.heap.size w2_ w3_ := (one_below w2_ _).trans (Bq.mono (by omega))
  have zy : w2_.heap.size < w3_.heap.size := by have := Bq.size; rw [World.size_alloc] at this; omega
  obtain ⟨py, qy⟩ := box_at Bq
  replace px := (Sq.cell (p := ⟨w1_.heap.size, 0, none⟩) zx).trans px
  replace qx := (Sq.cell (p := ⟨w1_.heap.size, 1, none⟩) zx).trans qx
  replace zx : w1_.heap.size < w3_.heap.size := Nat.lt_of_lt_of_le zx Sq.size
  replace RX : Hid (Rd w3_ w3_.heap.size A1 bX) := RX.out.on Sq
  replace RY : Hid (Rd w3_ w3_.heap.size A2 bY) := RY.out.on Sq
  replace HB : Hid (Below w.heap.size w w3_) := HB.out.trans (Sq.mono HB.out.size)
  clear Bq Sq
  go_wp2
  go_ret
  exact ⟨rfl, HB.out⟩
set_option maxHeartbeats 600000 in
theorem grises_oe (a b m lX lY lZ nX nY nZ : Nat) (bX bY bZ : List Nat) (h0 : a ≤ b) (ha : a ≤ 1099511627776) (hm : m ≤ 1099511627776) (h1 : lX ≤ lY) (eZ : Int) (h2 : eZ ≠ 0) (w : World)
    (HX : Hid (∀ V, Calls Try.prog 36 #[.int .u64 (a : Int), .int .u64 (m : Int)] V (Gv V (lX : Int) nX bX 0)))
    (HY : Hid (∀ V, Calls Try.prog 36 #[.int .u64 (b : Int), .int .u64 (m : Int)] V (Gv V (lY : Int) nY bY 0)))
    (HZ : Hid (∀ V, Calls Try.prog 36 #[.int .u64 ((a : Int) + (m : Int)), .int .u64 (m : Int)] V (Gv V (lZ : Int) nZ bZ eZ))) :
    Calls Try.prog 13 #[.int .u64 (a : Int), .int .u64 (b : Int), .int .u64 (m : Int)] w fun e w' => e = .returned (.bool true) ∧ Below w.heap.size w w' := by
  have t0 : decide ((b : Int) < (a : Int)) = false := by simp; omega
  have t1 : decide ((lX : Int) ≤ (lY : Int)) = true := by simp; omega
  have t2 : (eZ != 0) = true := by simpa using h2
  go_enter Try.func13, Try.ntmps13
  go_wp2_with fail
  refine (HX.out _).mono ?_
  rintro e w1_ ⟨A1, c1, rfl, Rq, Bq⟩
  have Sq : Below w.heap.size w w1_ := Bq
  have HB : Hid (Below w.heap.size w w1_) := Sq
  clear Bq Sq
  have RX := Lib.hid Rq; clear Rq
  go_wp2_with fail
  refine (HY.out _).mono ?_
  rintro e w2_ ⟨A2, c2, rfl, Rq, Bq⟩
  rw [World.size_alloc] at Bq
  have Sq : Below w1_.heap.size w1_ w2_ := (one_below w1_ _).trans (Bq.mono (by omega))
  have zx : w1_.heap.size < w2_.heap.size := by have := Bq.size; rw [World.size_alloc] at this; omega
  obtain ⟨px, qx⟩ := box_at Bq
  replace RX : Hid (Rd w2_ w2_.heap.size A1 bX) := RX.out.on Sq
  replace HB : Hid (Below w.heap.size w w2_) := HB.out.trans (Sq.mono HB.out.size)
  clear Bq Sq
  have RY := Lib.hid Rq; clear Rq
  go_wp2_with fail
  refine (gbegun_true _).mono ?_
  rintro e w3_ ⟨rfl, Bq⟩
  rw [World.size_alloc] at Bq
  have Sq : Below w2_.heap.size w2_ w3_ := (one_below w2_ _).trans (Bq.mono (by omega))
  have zy : w2_.heap.size < w3_.heap.size := by have := Bq.size; rw [World.size_alloc] at this; omega
  obtain ⟨py, qy⟩ := box_at Bq
  replace px := (Sq.cell (p := ⟨w1_.heap.size, 0, none⟩) zx).trans px
  replace qx := (Sq.cell (p := ⟨w1_.heap.size, 1, none⟩) zx).trans qx
  replace zx : w1_.heap.size < w3_.heap.size := Nat.lt_of_lt_of_le zx Sq.size
  replace RX : Hid (Rd w3_ w3_.heap.size A1 bX) := RX.out.on Sq
  replace RY : Hid (Rd w3_ w3_.heap.size A2 bY) := RY.out.on Sq
  replace HB : Hid (Below w.heap.size w w3_) := HB.out.trans (Sq.mono HB.out.size)
  clear Bq Sq
  go_wp2_with fail
  refine (HZ.out _).mono ?_
  rintro e w4_ ⟨A3, c3, rfl, Rq, Bq⟩
  have Sq : Below w3_.heap.size w3_ w4_ := Bq
  replace px := (Sq.cell (p := ⟨w1_.heap.size, 0, none⟩) zx).trans px
  replace qx := (Sq.cell (p := ⟨w1_.heap.size, 1, none⟩) zx).trans qx
  replace zx : w1_.heap.size < w4_.heap.size := Nat.lt_of_lt_of_le zx Sq.size
  replace py := (Sq.cell (p := ⟨w2_.heap.size, 0, none⟩) zy).trans py
  replace qy := (Sq.cell (p := ⟨w2_.heap.size, 1, none⟩) zy).trans qy
  replace zy : w2_.heap.size < w4_.heap.size := Nat.lt_of_lt_of_le zy Sq.size
  replace RX : Hid (Rd w4_ w4_.heap.size A1 bX) := RX.out.on Sq
  replace RY : Hid (Rd w4_ w4_.heap.size A2 bY) := RY.out.on Sq
  replace HB : Hid (Below w.heap.size w w4_) := HB.out.trans (Sq.mono HB.out.size)
  clear Bq Sq
  have RZ := Lib.hid Rq; clear Rq
  go_wp2
  go_ret
  exact ⟨rfl, HB.out.alloc HB.out.size _⟩
set_option maxHeartbeats 600000 in
theorem grises_ok (a b m lX lY lZ nX nY nZ : Nat) (bX bY bZ : List Nat) (h0 : a ≤ b) (ha : a ≤ 1099511627776) (hm : m ≤ 1099511627776) (h1 : lX ≤ lY) (h2 : lZ = lX + 1) (h3 : lX ≤ 8192) (w : World)
    (HX : Hid (∀ V, Calls Try.prog 36 #[.int .u64 (a : Int), .int .u64 (m : Int)] V (Gv V (lX : Int) nX bX 0)))
    (HY : Hid (∀ V, Calls Try.prog 36 #[.int .u64 (b : Int), .int .u64 (m : Int)] V (Gv V (lY : Int) nY bY 0)))
    (HZ : Hid (∀ V, Calls Try.prog 36 #[.int .u64 ((a : Int) + (m : Int)), .int .u64 (m : Int)] V (Gv V (lZ : Int) nZ bZ 0))) :
    Calls Try.prog 13 #[.int .u64 (a : Int), .int .u64 (b : Int), .int .u64 (m : Int)] w fun e w' => e = .returned (.bool true) ∧ Below w.heap.size w w' := by
  have t0 : decide ((b : Int) < (a : Int)) = false := by simp; omega
  have t1 : decide ((lX : Int) ≤ (lY : Int)) = true := by simp; omega
  subst h2
  go_enter Try.func13, Try.ntmps13
  go_wp2_with fail
  refine (HX.out _).mono ?_
  rintro e w1_ ⟨A1, c1, rfl, Rq, Bq⟩
  have Sq : Below w.heap.size w w1_ := Bq
  have HB : Hid (Below w.heap.size w w1_) := Sq
  clear Bq Sq
  have RX := Lib.hid Rq; clear Rq
  go_wp2_with fail
  refine (HY.out _).mono ?_
  rintro e w2_ ⟨A2, c2, rfl, Rq, Bq⟩
  rw [World.size_alloc] at Bq
  have Sq : Below w1_.heap.size w1_ w2_ := (one_below w1_ _).trans (Bq.mono (by omega))
  have zx : w1_.heap.size < w2_.heap.size := by have := Bq.size; rw [World.size_alloc] at this; omega
  obtain ⟨px, qx⟩ := box_at Bq
  replace RX : Hid (Rd w2_ w2_.heap.size A1 bX) := RX.out.on Sq
  replace HB : Hid (Below w.heap.size w w2_) := HB.out.trans (Sq.mono HB.out.size)
  clear Bq Sq
  have RY := Lib.hid Rq; clear Rq
  go_wp2_with fail
  refine (gbegun_true _).mono ?_
  rintro e w3_ ⟨rfl, Bq⟩
  rw [World.size_alloc] at Bq
  have Sq : Below w2_.heap.size w2_ w3_ := (one_below w2_ _).trans (Bq.mono (by omega))
  have zy : w2_.heap.size < w3_.heap.size := by have := Bq.size; rw [World.size_alloc] at this; omega
  obtain ⟨py, qy⟩ := box_at Bq
  replace px := (Sq.cell (p := ⟨w1_.heap.size, 0, none⟩) zx).trans px
  replace qx := (Sq.cell (p := ⟨w1_.heap.size, 1, none⟩) zx).trans qx
  replace zx : w1_.heap.size < w3_.heap.size := Nat.lt_of_lt_of_le zx Sq.size
  replace RX : Hid (Rd w3_ w3_.heap.size A1 bX) := RX.out.on Sq
  replace RY : Hid (Rd w3_ w3_.heap.size A2 bY) := RY.out.on Sq
  replace HB : Hid (Below w.heap.size w w3_) := HB.out.trans (Sq.mono HB.out.size)
  clear Bq Sq
  go_wp2_with fail
  refine (HZ.out _).mono ?_
  rintro e w4_ ⟨A3, c3, rfl, Rq, Bq⟩
  have Sq : Below w3_.heap.size w3_ w4_ := Bq
  replace px := (Sq.cell (p := ⟨w1_.heap.size, 0, none⟩) zx).trans px
  replace qx := (Sq.cell (p := ⟨w1_.heap.size, 1, none⟩) zx).trans qx
  replace zx : w1_.heap.size < w4_.heap.size := Nat.lt_of_lt_of_le zx Sq.size
  replace py := (Sq.cell (p := ⟨w2_.heap.size, 0, none⟩) zy).trans py
  replace qy := (Sq.cell (p := ⟨w2_.heap.size, 1, none⟩) zy).trans qy
  replace zy : w2_.heap.size < w4_.heap.size := Nat.lt_of_lt_of_le zy Sq.size
  replace RX : Hid (Rd w4_ w4_.heap.size A1 bX) := RX.out.on Sq
  replace RY : Hid (Rd w4_ w4_.heap.size A2 bY) := RY.out.on Sq
  replace HB : Hid (Below w.heap.size w w4_) := HB.out.trans (Sq.mono HB.out.size)
  clear Bq Sq
  have RZ := Lib.hid Rq; clear Rq
  go_wp2
  go_ret
  exact ⟨rfl, HB.out.alloc HB.out.size _⟩

theorem lst_length (n m : Nat) : (lst n m).length = if n < sh m then sz m - 1 else sz m := by unfold lst; split <;> rw [nb_length]
theorem gol_length (n m : Nat) : (gol n m).length = n / m + 1 + (if n % m < sh m then sz m - 1 else sz m) := by unfold gol; rw [List.length_append, uc_length, lst_length]
theorem gol_mono (a b m : Nat) (hm : 1 ≤ m) (h : a ≤ b) : (gol a m).length ≤ (gol b m).length := by
  rw [gol_length, gol_length]
  have h1 := Nat.div_le_div_right (c := m) h
  by_cases he : a / m = b / m
  · have ea := Nat.div_add_mod a m
    have eb := Nat.div_add_mod b m
    rw [he] at ea ⊢
    have : a % m ≤ b % m := by omega
    split <;> split <;> omega
  · split <;> split <;> omega
theorem gol_more (a m : Nat) (hm : 1 ≤ m) : (gol (a + m) m).length = (gol a m).length + 1 := by
  rw [gol_length, gol_length, Nat.add_div_right _ (by omega), Nat.add_mod_right]; omega
theorem gol_len_le (n m : Nat) (hm2 : m ≤ 1099511627776) (hq : n / m < 8128) : (gol n m).length ≤ 8192 := by
  have := sz_le m 40 (by omega)
  rw [gol_length]; split <;> omega
theorem code_both (n m : Nat) (hn : n < 18446744073709551616) : ∃ (L : List Bool) (e0 : Int), (∀ V, Calls Try.prog 36 #[.int .u64 (n : Int), .int .u64 (m : Int)] V (Gv V (L.length : Int) (pack L).length (pack L) e0)) ∧ L.length ≤ 8192 ∧
    (e0 = 0 ∧ 1 ≤ m ∧ m ≤ 1099511627776 ∧ n ≤ 1099511627776 ∧ n / m < 8128 ∧ L = gol n m ∨ e0 = 3 ∧ L = [] ∧ ¬ (1 ≤ m ∧ m ≤ 1099511627776 ∧ n ≤ 1099511627776 ∧ n / m < 8128)) := by
  by_cases h : 1 ≤ m ∧ m ≤ 1099511627776 ∧ n ≤ 1099511627776 ∧ n / m < 8128
  · exact ⟨gol n m, 0, fun V => code_ok n m h.1 h.2.1 h.2.2.1 h.2.2.2 _ rfl V, gol_len_le n m h.2.1 h.2.2.2, .inl ⟨rfl, h.1, h.2.1, h.2.2.1, h.2.2.2, rfl⟩⟩
  · exact ⟨[], 3, fun V => code_no n m hn h V, by simp, .inr ⟨rfl, rfl, h⟩⟩
theorem grises_law (a b m : Nat) (w : World) (ha : a < 18446744073709551616) (hb : b < 18446744073709551616) (hm : m < 18446744073709551616) :
    Calls Try.prog 13 #[.int .u64 (a : Int), .int .u64 (b : Int), .int .u64 (m : Int)] w fun e w' => e = .returned (.bool true) ∧ Below w.heap.size w w' := by
  obtain ⟨X, eX, cX, lX, fX⟩ := code_both a m ha
  obtain ⟨Y, eY, cY, lY, fY⟩ := code_both b m hb
  rcases fX with ⟨rfl, m1, m2, a1, a2, rfl⟩ | ⟨rfl, _⟩
  · rcases fY with ⟨rfl, _, _, b1, b2, rfl⟩ | ⟨rfl, _⟩
    · by_cases hab : b < a
      · exact grises_gt a b m _ _ 0 _ _ 0 _ _ [] hab w cX cY
      · obtain ⟨Z, eZ, cZ, lZ, fZ⟩ := code_both (a + m) m (by omega)
        rcases fZ with ⟨rfl, _, _, z1, z2, rfl⟩ | ⟨rfl, _⟩
        · exact grises_ok a b m _ _ _ _ _ _ _ _ _ (by omega) a1 m2 (gol_mono a b m m1 (by omega)) (gol_more a m m1) lX w cX cY cZ
        · exact grises_oe a b m _ _ _ _ _ _ _ _ _ (by omega) a1 m2 (gol_mono a b m m1 (by omega)) 3 (by decide) w cX cY cZ
    · exact grises_eb a b m _ _ 0 _ _ 0 _ _ [] 3 (by decide) w cX cY
  · exact grises_ea a b m _ _ 0 _ _ 0 _ _ [] 3 _ (by decide) w cX cY
end Go.Proofs.Ytcacbekdghlncaa
