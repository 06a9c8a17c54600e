/- The law BitsNothing: for whatever bits, number and position it returns true and leaves what it was handed as it was. -/
import Derived.Test.YtabmmamaihiljaaOpen
namespace Go.Proofs.Ytabmmamaihiljaa
open Go.RowKit

theorem nb_zero (n : Nat) : nb n 0 = [] := rfl

theorem np_bad (len : Int) (A : Option Addr) (c : Nat) (bs : List Nat) (n : Int) (w : World) (hb : ∀ b ∈ bs, b < 256) (h : Rd w w.heap.size A bs) (hc : (chk len bs != 0) = true) :
    Calls Try.prog 14 #[.agg #[.int .i64 len, .slice A bs.length c], .int .u64 n, .int .i64 0] w (Gv w 0 0 (pack []) (chk len bs)) :=
  put_bad len A c bs n 0 w hb h (by simpa using hc)
theorem ng_bad (len : Int) (A : Option Addr) (c : Nat) (bs : List Nat) (p : Int) (w : World) (hb : ∀ b ∈ bs, b < 256) (h : Rd w w.heap.size A bs) (hc : (chk len bs != 0) = true) :
    Calls Try.prog 15 #[.agg #[.int .i64 len, .slice A bs.length c], .int .i64 p, .int .i64 0] w fun e w' => e = .returned (.tuple #[.int .u64 0, .int .i64 (chk len bs)]) ∧ Below w.heap.size w w' :=
  get_bad len A c bs p 0 w hb h (by simpa using hc)
theorem np_zero (l : List Bool) (hl : l.length ≤ 8192) (A : Option Addr) (c : Nat) (w : World) (h : Rd w w.heap.size A (pack l)) :
    Calls Try.prog 14 #[.agg #[.int .i64 (l.length : Int), .slice A (pack l).length c], .int .u64 0, .int .i64 0] w (Gv w (l.length : Int) (pack l).length (pack l) 0) :=
  put_ok l l A c 0 0 w h (by omega) rfl (by omega) (by omega) (by rw [nb_zero, List.append_nil])
theorem np_pos (l : List Bool) (hl : l.length ≤ 8192) (A : Option Addr) (c : Nat) (n : Nat) (hn : 0 < n) (w : World) (h : Rd w w.heap.size A (pack l)) :
    Calls Try.prog 14 #[.agg #[.int .i64 (l.length : Int), .slice A (pack l).length c], .int .u64 (n : Int), .int .i64 0] w (Gv w 0 0 (pack []) 3) :=
  put_big l hl A c n 0 w h (by omega) (by simp; omega)
theorem ng_in (l : List Bool) (hl : l.length ≤ 8192) (A : Option Addr) (c : Nat) (p : Int) (w : World) (h : Rd w w.heap.size A (pack l)) :
    Calls Try.prog 15 #[.agg #[.int .i64 (l.length : Int), .slice A (pack l).length c], .int .i64 p, .int .i64 0] w fun e w' => e = .returned (.tuple #[.int .u64 0, .int .i64 (if 0 ≤ p ∧ p ≤ (l.length : Int) then 0 else 3)]) ∧ Below w.heap.size w w' := by
  by_cases hp : 0 ≤ p ∧ p ≤ (l.length : Int)
  · rw [if_pos hp]
    obtain ⟨q, rfl⟩ := Int.eq_ofNat_of_zero_le hp.1
    have := get_ok l hl A c q 0 w h (by omega) (by omega)
    rw [List.take_zero] at this
    exact this
  · rw [if_neg hp]
    exact get_range l hl A c p 0 w h (by omega)
theorem check_l (l : List Bool) (hl : l.length ≤ 8192) (A : Option Addr) (c : Nat) (w : World) (h : Rd w w.heap.size A (pack l)) :
    Calls Try.prog 23 #[.agg #[.int .i64 (l.length : Int), .slice A (pack l).length c]] w fun e w' => e = .returned (.int .i64 0) ∧ Below w.heap.size w w' := by
  have := check_any (l.length : Int) A c (pack l) w (pack_lt l) h
  rwa [chk_pack l hl] at this
theorem same_l (l : List Bool) (hl : l.length ≤ 8192) (A B : Option Addr) (c d : Nat) (w : World) (hA : Rd w w.heap.size A (pack l)) (hB : Rd w w.heap.size B (pack l)) :
    Calls Try.prog 25 #[.agg #[.int .i64 (l.length : Int), .slice A (pack l).length c], .agg #[.int .i64 (l.length : Int), .slice B (pack l).length d]] w fun e w' => e = .returned (.bool true) ∧ Below w.heap.size w w' := by
  have h := sameBits_any w (l.length : Int) (l.length : Int) A B c d (pack l) (pack l) (by rw [pack_length]; omega) hA hB
  simpa using h

set_option maxRecDepth 100000 in
set_option maxHeartbeats 1000000 in
theorem nothing_bad (len : Int) (A : Option Addr) (c : Nat) (bs : List Nat) (n p : Int) (w : World) (hb : ∀ b ∈ bs, b < 256) (h : Rd w w.heap.size A bs) (hc : (chk len bs != 0) = true) :
    Calls Try.prog 8 #[.agg #[.int .i64 len, .slice A bs.length c], .int .u64 n, .int .i64 p] w fun e w' => e = .returned (.bool true) ∧ Below w.heap.size w w' := by
  have HA := Lib.hid h; clear h
  go_enter Try.func8, Try.ntmps8
  go_wp2_with fail
  refine (np_bad len A c bs n _ hb (HA.out.on (one_below w _)) hc).mono ?_
  rintro e w1_ ⟨A1, c1, rfl, Rq, Bq⟩
  rw [World.size_alloc] at Bq
  have Sq : Below w.heap.size w w1_ := (one_below w _).trans (Bq.mono (by omega))
  have zb : w.heap.size < w1_.heap.size := by have := Bq.size; rw [World.size_alloc] at this; omega
  obtain ⟨pb, qb⟩ := box_at Bq
  replace HA : Hid (Rd w1_ w1_.heap.size A bs) := HA.out.on Sq
  have HB : Hid (Below w.heap.size w w1_) := Sq
  clear Bq Sq
  have HP := Lib.hid Rq; clear Rq
  go_wp2_with fail
  refine (ng_bad len A c bs p _ hb (HA.out.on (one_below w1_ _)) hc).mono ?_
  rintro e w2_ ⟨rfl, Bq⟩
  rw [World.size_alloc] at Bq
  have Sq : Below w1_.heap.size w1_ w2_ := (one_below w1_ _).trans (Bq.mono (by omega))
  have zp : w1_.heap.size < w2_.heap.size := by have := Bq.size; rw [World.size_alloc] at this; omega
  obtain ⟨pp, qp⟩ := box_at Bq
  replace pb := (Sq.cell (p := ⟨w.heap.size, 0, none⟩) zb).trans pb
  replace qb := (Sq.cell (p := ⟨w.heap.size, 1, none⟩) zb).trans qb
  replace zb : w.heap.size < w2_.heap.size := Nat.lt_of_lt_of_le zb Sq.size
  replace HA : Hid (Rd w2_ w2_.heap.size A bs) := HA.out.on Sq
  replace HP : Hid (Rd w2_ w2_.heap.size A1 (pack [])) := HP.out.on Sq
  replace HB : Hid (Below w.heap.size w w2_) := HB.out.trans (Sq.mono HB.out.size)
  clear Bq Sq
  go_wp2_with fail
  refine (begun_true _).mono ?_
  rintro e w3_ ⟨rfl, Bq⟩
  have Sq : Below w2_.heap.size w2_ w3_ := Bq
  replace pb := (Sq.cell (p := ⟨w.heap.size, 0, none⟩) zb).trans pb
  replace qb := (Sq.cell (p := ⟨w.heap.size, 1, none⟩) zb).trans qb
  replace zb : w.heap.size < w3_.heap.size := Nat.lt_of_lt_of_le zb Sq.size
  replace pp := (Sq.cell (p := ⟨w1_.heap.size, 0, none⟩) zp).trans pp
  replace qp := (Sq.cell (p := ⟨w1_.heap.size, 1, none⟩) zp).trans qp
  replace zp : w1_.heap.size < w3_.heap.size := Nat.lt_of_lt_of_le zp Sq.size
  replace HA : Hid (Rd w3_ w3_.heap.size A bs) := HA.out.on Sq
  replace HP : Hid (Rd w3_ w3_.heap.size A1 (pack [])) := HP.out.on Sq
  replace HB : Hid (Below w.heap.size w w3_) := HB.out.trans (Sq.mono HB.out.size)
  clear Bq Sq
  go_wp2_with fail
  refine (check_any len A c bs _ hb HA.out).mono ?_
  rintro e w4_ ⟨rfl, Bq⟩
  have Sq : Below w3_.heap.size w3_ w4_ := Bq
  replace pb := (Sq.cell (p := ⟨w.heap.size, 0, none⟩) zb).trans pb
  replace qb := (Sq.cell (p := ⟨w.heap.size, 1, none⟩) zb).trans qb
  replace zb : w.heap.size < w4_.heap.size := Nat.lt_of_lt_of_le zb Sq.size
  replace pp := (Sq.cell (p := ⟨w1_.heap.size, 0, none⟩) zp).trans pp
  replace qp := (Sq.cell (p := ⟨w1_.heap.size, 1, none⟩) zp).trans qp
  replace zp : w1_.heap.size < w4_.heap.size := Nat.lt_of_lt_of_le zp Sq.size
  replace HA : Hid (Rd w4_ w4_.heap.size A bs) := HA.out.on Sq
  replace HP : Hid (Rd w4_ w4_.heap.size A1 (pack [])) := HP.out.on Sq
  replace HB : Hid (Below w.heap.size w w4_) := HB.out.trans (Sq.mono HB.out.size)
  clear Bq Sq
  go_wp2
  go_ret
  exact ⟨rfl, HB.out⟩

set_option maxRecDepth 100000 in
set_option maxHeartbeats 1000000 in
theorem nothing_zero (l : List Bool) (hl : l.length ≤ 8192) (A : Option Addr) (c : Nat) (p : Int) (w : World) (h : Rd w w.heap.size A (pack l)) :
    Calls Try.prog 8 #[.agg #[.int .i64 (l.length : Int), .slice A (pack l).length c], .int .u64 0, .int .i64 p] w fun e w' => e = .returned (.bool true) ∧ Below w.heap.size w w' := by
  have HA := Lib.hid h; clear h
  have hp3 : p < 0 ∨ (0 ≤ p ∧ p ≤ (l.length : Int)) ∨ (0 ≤ p ∧ (l.length : Int) < p) := by omega
  rcases hp3 with hp | ⟨hp, hp2⟩ | ⟨hp, hp2⟩
  · have t1 : decide (0 ≤ p) = false := by simp; omega
    have g0 := fun w h => @ng_in l hl A c p w h
    simp only [if_neg (show ¬ (0 ≤ p ∧ p ≤ (l.length : Int)) by omega)] at g0
    have ng := Lib.hid g0; clear g0
    go_enter Try.func8, Try.ntmps8
    go_wp2_with fail
    refine (np_zero l hl A c _ (HA.out.on (one_below w _))).mono ?_
    rintro e w1_ ⟨A1, c1, rfl, Rq, Bq⟩
    rw [World.size_alloc] at Bq
    have Sq : Below w.heap.size w w1_ := (one_below w _).trans (Bq.mono (by omega))
    have zb : w.heap.size < w1_.heap.size := by have := Bq.size; rw [World.size_alloc] at this; omega
    obtain ⟨pb, qb⟩ := box_at Bq
    replace HA : Hid (Rd w1_ w1_.heap.size A (pack l)) := HA.out.on Sq
    have HB : Hid (Below w.heap.size w w1_) := Sq
    clear Bq Sq
    have HP := Lib.hid Rq; clear Rq
    go_wp2_with fail
    refine (ng.out _ (HA.out.on (one_below w1_ _))).mono ?_
    rintro e w2_ ⟨rfl, Bq⟩
    rw [World.size_alloc] at Bq
    have Sq : Below w1_.heap.size w1_ w2_ := (one_below w1_ _).trans (Bq.mono (by omega))
    have zp : w1_.heap.size < w2_.heap.size := by have := Bq.size; rw [World.size_alloc] at this; omega
    obtain ⟨pp, qp⟩ := box_at Bq
    replace pb := (Sq.cell (p := ⟨w.heap.size, 0, none⟩) zb).trans pb
    replace qb := (Sq.cell (p := ⟨w.heap.size, 1, none⟩) zb).trans qb
    replace zb : w.heap.size < w2_.heap.size := Nat.lt_of_lt_of_le zb Sq.size
    replace HA : Hid (Rd w2_ w2_.heap.size A (pack l)) := HA.out.on Sq
    replace HP : Hid (Rd w2_ w2_.heap.size A1 (pack l)) := HP.out.on Sq
    replace HB : Hid (Below w.heap.size w w2_) := HB.out.trans (Sq.mono HB.out.size)
    clear Bq Sq
    go_wp2_with fail
    refine (begun_true _).mono ?_
    rintro e w3_ ⟨rfl, Bq⟩
    have Sq : Below w2_.heap.size w2_ w3_ := Bq
    replace pb := (Sq.cell (p := ⟨w.heap.size, 0, none⟩) zb).trans pb
    replace qb := (Sq.cell (p := ⟨w.heap.size, 1, none⟩) zb).trans qb
    replace zb : w.heap.size < w3_.heap.size := Nat.lt_of_lt_of_le zb Sq.size
    replace pp := (Sq.cell (p := ⟨w1_.heap.size, 0, none⟩) zp).trans pp
    replace qp := (Sq.cell (p := ⟨w1_.heap.size, 1, none⟩) zp).trans qp
    replace zp : w1_.heap.size < w3_.heap.size := Nat.lt_of_lt_of_le zp Sq.size
    replace HA : Hid (Rd w3_ w3_.heap.size A (pack l)) := HA.out.on Sq
    replace HP : Hid (Rd w3_ w3_.heap.size A1 (pack l)) := HP.out.on Sq
    replace HB : Hid (Below w.heap.size w w3_) := HB.out.trans (Sq.mono HB.out.size)
    clear Bq Sq
    go_wp2_with fail
    refine (check_l l hl A c _ HA.out).mono ?_
    rintro e w4_ ⟨rfl, Bq⟩
    have Sq : Below w3_.heap.size w3_ w4_ := Bq
    replace pb := (Sq.cell (p := ⟨w.heap.size, 0, none⟩) zb).trans pb
    replace qb := (Sq.cell (p := ⟨w.heap.size, 1, none⟩) zb).trans qb
    replace zb : w.heap.size < w4_.heap.size := Nat.lt_of_lt_of_le zb Sq.size
    replace pp := (Sq.cell (p := ⟨w1_.heap.size, 0, none⟩) zp).trans pp
    replace qp := (Sq.cell (p := ⟨w1_.heap.size, 1, none⟩) zp).trans qp
    replace zp : w1_.heap.size < w4_.heap.size := Nat.lt_of_lt_of_le zp Sq.size
    replace HA : Hid (Rd w4_ w4_.heap.size A (pack l)) := HA.out.on Sq
    replace HP : Hid (Rd w4_ w4_.heap.size A1 (pack l)) := HP.out.on Sq
    replace HB : Hid (Below w.heap.size w w4_) := HB.out.trans (Sq.mono HB.out.size)
    clear Bq Sq
    go_wp2_with fail
    refine (same_l l hl A1 A c1 c _ HP.out HA.out).mono ?_
    rintro e w5_ ⟨rfl, Bq⟩
    have Sq : Below w4_.heap.size w4_ w5_ := Bq
    replace pb := (Sq.cell (p := ⟨w.heap.size, 0, none⟩) zb).trans pb
    replace qb := (Sq.cell (p := ⟨w.heap.size, 1, none⟩) zb).trans qb
    replace zb : w.heap.size < w5_.heap.size := Nat.lt_of_lt_of_le zb Sq.size
    replace pp := (Sq.cell (p := ⟨w1_.heap.size, 0, none⟩) zp).trans pp
    replace qp := (Sq.cell (p := ⟨w1_.heap.size, 1, none⟩) zp).trans qp
    replace zp : w1_.heap.size < w5_.heap.size := Nat.lt_of_lt_of_le zp Sq.size
    replace HA : Hid (Rd w5_ w5_.heap.size A (pack l)) := HA.out.on Sq
    replace HP : Hid (Rd w5_ w5_.heap.size A1 (pack l)) := HP.out.on Sq
    replace HB : Hid (Below w.heap.size w w5_) := HB.out.trans (Sq.mono HB.out.size)
    clear Bq Sq
    go_wp2
    go_ret
    exact ⟨rfl, HB.out⟩
  · have t1 : decide (0 ≤ p) = true := by simp; omega
    have t2 : decide (p ≤ (l.length : Int)) = true := by simp; omega
    have g0 := fun w h => @ng_in l hl A c p w h
    simp only [if_pos (show 0 ≤ p ∧ p ≤ (l.length : Int) by omega)] at g0
    have ng := Lib.hid g0; clear g0
    go_enter Try.func8, Try.ntmps8
    go_wp2_with fail
    refine (np_zero l hl A c _ (HA.out.on (one_below w _))).mono ?_
    rintro e w1_ ⟨A1, c1, rfl, Rq, Bq⟩
    rw [World.size_alloc] at Bq
    have Sq : Below w.heap.size w w1_ := (one_below w _).trans (Bq.mono (by omega))
    have zb : w.heap.size < w1_.heap.size := by have := Bq.size; rw [World.size_alloc] at this; omega
    obtain ⟨pb, qb⟩ := box_at Bq
    replace HA : Hid (Rd w1_ w1_.heap.size A (pack l)) := HA.out.on Sq
    have HB : Hid (Below w.heap.size w w1_) := Sq
    clear Bq Sq
    have HP := Lib.hid Rq; clear Rq
    go_wp2_with fail
    refine (ng.out _ (HA.out.on (one_below w1_ _))).mono ?_
    rintro e w2_ ⟨rfl, Bq⟩
    rw [World.size_alloc] at Bq
    have Sq : Below w1_.heap.size w1_ w2_ := (one_below w1_ _).trans (Bq.mono (by omega))
    have zp : w1_.heap.size < w2_.heap.size := by have := Bq.size; rw [World.size_alloc] at this; omega
    obtain ⟨pp, qp⟩ := box_at Bq
    replace pb := (Sq.cell (p := ⟨w.heap.size, 0, none⟩) zb).trans pb
    replace qb := (Sq.cell (p := ⟨w.heap.size, 1, none⟩) zb).trans qb
    replace zb : w.heap.size < w2_.heap.size := Nat.lt_of_lt_of_le zb Sq.size
    replace HA : Hid (Rd w2_ w2_.heap.size A (pack l)) := HA.out.on Sq
    replace HP : Hid (Rd w2_ w2_.heap.size A1 (pack l)) := HP.out.on Sq
    replace HB : Hid (Below w.heap.size w w2_) := HB.out.trans (Sq.mono HB.out.size)
    clear Bq Sq
    go_wp2_with fail
    refine (begun_true _).mono ?_
    rintro e w3_ ⟨rfl, Bq⟩
    have Sq : Below w2_.heap.size w2_ w3_ := Bq
    replace pb := (Sq.cell (p := ⟨w.heap.size, 0, none⟩) zb).trans pb
    replace qb := (Sq.cell (p := ⟨w.heap.size, 1, none⟩) zb).trans qb
    replace zb : w.heap.size < w3_.heap.size := Nat.lt_of_lt_of_le zb Sq.size
    replace pp := (Sq.cell (p := ⟨w1_.heap.size, 0, none⟩) zp).trans pp
    replace qp := (Sq.cell (p := ⟨w1_.heap.size, 1, none⟩) zp).trans qp
    replace zp : w1_.heap.size < w3_.heap.size := Nat.lt_of_lt_of_le zp Sq.size
    replace HA : Hid (Rd w3_ w3_.heap.size A (pack l)) := HA.out.on Sq
    replace HP : Hid (Rd w3_ w3_.heap.size A1 (pack l)) := HP.out.on Sq
    replace HB : Hid (Below w.heap.size w w3_) := HB.out.trans (Sq.mono HB.out.size)
    clear Bq Sq
    go_wp2_with fail
    refine (check_l l hl A c _ HA.out).mono ?_
    rintro e w4_ ⟨rfl, Bq⟩
    have Sq : Below w3_.heap.size w3_ w4_ := Bq
    replace pb := (Sq.cell (p := ⟨w.heap.size, 0, none⟩) zb).trans pb
    replace qb := (Sq.cell (p := ⟨w.heap.size, 1, none⟩) zb).trans qb
    replace zb : w.heap.size < w4_.heap.size := Nat.lt_of_lt_of_le zb Sq.size
    replace pp := (Sq.cell (p := ⟨w1_.heap.size, 0, none⟩) zp).trans pp
    replace qp := (Sq.cell (p := ⟨w1_.heap.size, 1, none⟩) zp).trans qp
    replace zp : w1_.heap.size < w4_.heap.size := Nat.lt_of_lt_of_le zp Sq.size
    replace HA : Hid (Rd w4_ w4_.heap.size A (pack l)) := HA.out.on Sq
    replace HP : Hid (Rd w4_ w4_.heap.size A1 (pack l)) := HP.out.on Sq
    replace HB : Hid (Below w.heap.size w w4_) := HB.out.trans (Sq.mono HB.out.size)
    clear Bq Sq
    go_wp2_with fail
    refine (same_l l hl A1 A c1 c _ HP.out HA.out).mono ?_
    rintro e w5_ ⟨rfl, Bq⟩
    have Sq : Below w4_.heap.size w4_ w5_ := Bq
    replace pb := (Sq.cell (p := ⟨w.heap.size, 0, none⟩) zb).trans pb
    replace qb := (Sq.cell (p := ⟨w.heap.size, 1, none⟩) zb).trans qb
    replace zb : w.heap.size < w5_.heap.size := Nat.lt_of_lt_of_le zb Sq.size
    replace pp := (Sq.cell (p := ⟨w1_.heap.size, 0, none⟩) zp).trans pp
    replace qp := (Sq.cell (p := ⟨w1_.heap.size, 1, none⟩) zp).trans qp
    replace zp : w1_.heap.size < w5_.heap.size := Nat.lt_of_lt_of_le zp Sq.size
    replace HA : Hid (Rd w5_ w5_.heap.size A (pack l)) := HA.out.on Sq
    replace HP : Hid (Rd w5_ w5_.heap.size A1 (pack l)) := HP.out.on Sq
    replace HB : Hid (Below w.heap.size w w5_) := HB.out.trans (Sq.mono HB.out.size)
    clear Bq Sq
    go_wp2
    go_ret
    exact ⟨rfl, HB.out⟩
  · have t1 : decide (0 ≤ p) = true := by simp; omega
    have t2 : decide (p ≤ (l.length : Int)) = false := by simp; omega
    have g0 := fun w h => @ng_in l hl A c p w h
    simp only [if_neg (show ¬ (0 ≤ p ∧ p ≤ (l.length : Int)) by omega)] at g0
    have ng := Lib.hid g0; clear g0
    go_enter Try.func8, Try.ntmps8
    go_wp2_with fail
    refine (np_zero l hl A c _ (HA.out.on (one_below w _))).mono ?_
    rintro e w1_ ⟨A1, c1, rfl, Rq, Bq⟩
    rw [World.size_alloc] at Bq
    have Sq : Below w.heap.size w w1_ := (one_below w _).trans (Bq.mono (by omega))
    have zb : w.heap.size < w1_.heap.size := by have := Bq.size; rw [World.size_alloc] at this; omega
    obtain ⟨pb, qb⟩ := box_at Bq
    replace HA : Hid (Rd w1_ w1_.heap.size A (pack l)) := HA.out.on Sq
    have HB : Hid (Below w.heap.size w w1_) := Sq
    clear Bq Sq
    have HP := Lib.hid Rq; clear Rq
    go_wp2_with fail
    refine (ng.out _ (HA.out.on (one_below w1_ _))).mono ?_
    rintro e w2_ ⟨rfl, Bq⟩
    rw [World.size_alloc] at Bq
    have Sq : Below w1_.heap.size w1_ w2_ := (one_below w1_ _).trans (Bq.mono (by omega))
    have zp : w1_.heap.size < w2_.heap.size := by have := Bq.size; rw [World.size_alloc] at this; omega
    obtain ⟨pp, qp⟩ := box_at Bq
    replace pb := (Sq.cell (p := ⟨w.heap.size, 0, none⟩) zb).trans pb
    replace qb := (Sq.cell (p := ⟨w.heap.size, 1, none⟩) zb).trans qb
    replace zb : w.heap.size < w2_.heap.size := Nat.lt_of_lt_of_le zb Sq.size
    replace HA : Hid (Rd w2_ w2_.heap.size A (pack l)) := HA.out.on Sq
    replace HP : Hid (Rd w2_ w2_.heap.size A1 (pack l)) := HP.out.on Sq
    replace HB : Hid (Below w.heap.size w w2_) := HB.out.trans (Sq.mono HB.out.size)
    clear Bq Sq
    go_wp2_with fail
    refine (begun_true _).mono ?_
    rintro e w3_ ⟨rfl, Bq⟩
    have Sq : Below w2_.heap.size w2_ w3_ := Bq
    replace pb := (Sq.cell (p := ⟨w.heap.size, 0, none⟩) zb).trans pb
    replace qb := (Sq.cell (p := ⟨w.heap.size, 1, none⟩) zb).trans qb
    replace zb : w.heap.size < w3_.heap.size := Nat.lt_of_lt_of_le zb Sq.size
    replace pp := (Sq.cell (p := ⟨w1_.heap.size, 0, none⟩) zp).trans pp
    replace qp := (Sq.cell (p := ⟨w1_.heap.size, 1, none⟩) zp).trans qp
    replace zp : w1_.heap.size < w3_.heap.size := Nat.lt_of_lt_of_le zp Sq.size
    replace HA : Hid (Rd w3_ w3_.heap.size A (pack l)) := HA.out.on Sq
    replace HP : Hid (Rd w3_ w3_.heap.size A1 (pack l)) := HP.out.on Sq
    replace HB : Hid (Below w.heap.size w w3_) := HB.out.trans (Sq.mono HB.out.size)
    clear Bq Sq
    go_wp2_with fail
    refine (check_l l hl A c _ HA.out).mono ?_
    rintro e w4_ ⟨rfl, Bq⟩
    have Sq : Below w3_.heap.size w3_ w4_ := Bq
    replace pb := (Sq.cell (p := ⟨w.heap.size, 0, none⟩) zb).trans pb
    replace qb := (Sq.cell (p := ⟨w.heap.size, 1, none⟩) zb).trans qb
    replace zb : w.heap.size < w4_.heap.size := Nat.lt_of_lt_of_le zb Sq.size
    replace pp := (Sq.cell (p := ⟨w1_.heap.size, 0, none⟩) zp).trans pp
    replace qp := (Sq.cell (p := ⟨w1_.heap.size, 1, none⟩) zp).trans qp
    replace zp : w1_.heap.size < w4_.heap.size := Nat.lt_of_lt_of_le zp Sq.size
    replace HA : Hid (Rd w4_ w4_.heap.size A (pack l)) := HA.out.on Sq
    replace HP : Hid (Rd w4_ w4_.heap.size A1 (pack l)) := HP.out.on Sq
    replace HB : Hid (Below w.heap.size w w4_) := HB.out.trans (Sq.mono HB.out.size)
    clear Bq Sq
    go_wp2_with fail
    refine (same_l l hl A1 A c1 c _ HP.out HA.out).mono ?_
    rintro e w5_ ⟨rfl, Bq⟩
    have Sq : Below w4_.heap.size w4_ w5_ := Bq
    replace pb := (Sq.cell (p := ⟨w.heap.size, 0, none⟩) zb).trans pb
    replace qb := (Sq.cell (p := ⟨w.heap.size, 1, none⟩) zb).trans qb
    replace zb : w.heap.size < w5_.heap.size := Nat.lt_of_lt_of_le zb Sq.size
    replace pp := (Sq.cell (p := ⟨w1_.heap.size, 0, none⟩) zp).trans pp
    replace qp := (Sq.cell (p := ⟨w1_.heap.size, 1, none⟩) zp).trans qp
    replace zp : w1_.heap.size < w5_.heap.size := Nat.lt_of_lt_of_le zp Sq.size
    replace HA : Hid (Rd w5_ w5_.heap.size A (pack l)) := HA.out.on Sq
    replace HP : Hid (Rd w5_ w5_.heap.size A1 (pack l)) := HP.out.on Sq
    replace HB : Hid (Below w.heap.size w w5_) := HB.out.trans (Sq.mono HB.out.size)
    clear Bq Sq
    go_wp2
    go_ret
    exact ⟨rfl, HB.out⟩

set_option maxRecDepth 100000 in
set_option maxHeartbeats 1000000 in
theorem nothing_pos (l : List Bool) (hl : l.length ≤ 8192) (A : Option Addr) (c : Nat) (n : Nat) (hn : 0 < n) (p : Int) (w : World) (h : Rd w w.heap.size A (pack l)) :
    Calls Try.prog 8 #[.agg #[.int .i64 (l.length : Int), .slice A (pack l).length c], .int .u64 (n : Int), .int .i64 p] w fun e w' => e = .returned (.bool true) ∧ Below w.heap.size w w' := by
  have HA := Lib.hid h; clear h
  have hn0 : ((n : Int) == 0) = false := by simp; omega
  have hp3 : p < 0 ∨ (0 ≤ p ∧ p ≤ (l.length : Int)) ∨ (0 ≤ p ∧ (l.length : Int) < p) := by omega
  rcases hp3 with hp | ⟨hp, hp2⟩ | ⟨hp, hp2⟩
  · have t1 : decide (0 ≤ p) = false := by simp; omega
    have g0 := fun w h => @ng_in l hl A c p w h
    simp only [if_neg (show ¬ (0 ≤ p ∧ p ≤ (l.length : Int)) by omega)] at g0
    have ng := Lib.hid g0; clear g0
    go_enter Try.func8, Try.ntmps8
    go_wp2_with fail
    refine (np_pos l hl A c n hn _ (HA.out.on (one_below w _))).mono ?_
    rintro e w1_ ⟨A1, c1, rfl, Rq, Bq⟩
    rw [World.size_alloc] at Bq
    have Sq : Below w.heap.size w w1_ := (one_below w _).trans (Bq.mono (by omega))
    have zb : w.heap.size < w1_.heap.size := by have := Bq.size; rw [World.size_alloc] at this; omega
    obtain ⟨pb, qb⟩ := box_at Bq
    replace HA : Hid (Rd w1_ w1_.heap.size A (pack l)) := HA.out.on Sq
    have HB : Hid (Below w.heap.size w w1_) := Sq
    clear Bq Sq
    have HP := Lib.hid Rq; clear Rq
    go_wp2_with fail
    refine (ng.out _ (HA.out.on (one_below w1_ _))).mono ?_
    rintro e w2_ ⟨rfl, Bq⟩
    rw [World.size_alloc] at Bq
    have Sq : Below w1_.heap.size w1_ w2_ := (one_below w1_ _).trans (Bq.mono (by omega))
    have zp : w1_.heap.size < w2_.heap.size := by have := Bq.size; rw [World.size_alloc] at this; omega
    obtain ⟨pp, qp⟩ := box_at Bq
    replace pb := (Sq.cell (p := ⟨w.heap.size, 0, none⟩) zb).trans pb
    replace qb := (Sq.cell (p := ⟨w.heap.size, 1, none⟩) zb).trans qb
    replace zb : w.heap.size < w2_.heap.size := Nat.lt_of_lt_of_le zb Sq.size
    replace HA : Hid (Rd w2_ w2_.heap.size A (pack l)) := HA.out.on Sq
    replace HP : Hid (Rd w2_ w2_.heap.size A1 (pack [])) := HP.out.on Sq
    replace HB : Hid (Below w.heap.size w w2_) := HB.out.trans (Sq.mono HB.out.size)
    clear Bq Sq
    go_wp2_with fail
    refine (begun_true _).mono ?_
    rintro e w3_ ⟨rfl, Bq⟩
    have Sq : Below w2_.heap.size w2_ w3_ := Bq
    replace pb := (Sq.cell (p := ⟨w.heap.size, 0, none⟩) zb).trans pb
    replace qb := (Sq.cell (p := ⟨w.heap.size, 1, none⟩) zb).trans qb
    replace zb : w.heap.size < w3_.heap.size := Nat.lt_of_lt_of_le zb Sq.size
    replace pp := (Sq.cell (p := ⟨w1_.heap.size, 0, none⟩) zp).trans pp
    replace qp := (Sq.cell (p := ⟨w1_.heap.size, 1, none⟩) zp).trans qp
    replace zp : w1_.heap.size < w3_.heap.size := Nat.lt_of_lt_of_le zp Sq.size
    replace HA : Hid (Rd w3_ w3_.heap.size A (pack l)) := HA.out.on Sq
    replace HP : Hid (Rd w3_ w3_.heap.size A1 (pack [])) := HP.out.on Sq
    replace HB : Hid (Below w.heap.size w w3_) := HB.out.trans (Sq.mono HB.out.size)
    clear Bq Sq
    go_wp2_with fail
    refine (check_l l hl A c _ HA.out).mono ?_
    rintro e w4_ ⟨rfl, Bq⟩
    have Sq : Below w3_.heap.size w3_ w4_ := Bq
    replace pb := (Sq.cell (p := ⟨w.heap.size, 0, none⟩) zb).trans pb
    replace qb := (Sq.cell (p := ⟨w.heap.size, 1, none⟩) zb).trans qb
    replace zb : w.heap.size < w4_.heap.size := Nat.lt_of_lt_of_le zb Sq.size
    replace pp := (Sq.cell (p := ⟨w1_.heap.size, 0, none⟩) zp).trans pp
    replace qp := (Sq.cell (p := ⟨w1_.heap.size, 1, none⟩) zp).trans qp
    replace zp : w1_.heap.size < w4_.heap.size := Nat.lt_of_lt_of_le zp Sq.size
    replace HA : Hid (Rd w4_ w4_.heap.size A (pack l)) := HA.out.on Sq
    replace HP : Hid (Rd w4_ w4_.heap.size A1 (pack [])) := HP.out.on Sq
    replace HB : Hid (Below w.heap.size w w4_) := HB.out.trans (Sq.mono HB.out.size)
    clear Bq Sq
    go_wp2
    go_ret
    exact ⟨rfl, HB.out⟩
  · have t1 : decide (0 ≤ p) = true := by simp; omega
    have t2 : decide (p ≤ (l.length : Int)) = true := by simp; omega
    have g0 := fun w h => @ng_in l hl A c p w h
    simp only [if_pos (show 0 ≤ p ∧ p ≤ (l.length : Int) by omega)] at g0
    have ng := Lib.hid g0; clear g0
    go_enter Try.func8, Try.ntmps8
    go_wp2_with fail
    refine (np_pos l hl A c n hn _ (HA.out.on (one_below w _))).mono ?_
    rintro e w1_ ⟨A1, c1, rfl, Rq, Bq⟩
    rw [World.size_alloc] at Bq
    have Sq : Below w.heap.size w w1_ := (one_below w _).trans (Bq.mono (by omega))
    have zb : w.heap.size < w1_.heap.size := by have := Bq.size; rw [World.size_alloc] at this; omega
    obtain ⟨pb, qb⟩ := box_at Bq
    replace HA : Hid (Rd w1_ w1_.heap.size A (pack l)) := HA.out.on Sq
    have HB : Hid (Below w.heap.size w w1_) := Sq
    clear Bq Sq
    have HP := Lib.hid Rq; clear Rq
    go_wp2_with fail
    refine (ng.out _ (HA.out.on (one_below w1_ _))).mono ?_
    rintro e w2_ ⟨rfl, Bq⟩
    rw [World.size_alloc] at Bq
    have Sq : Below w1_.heap.size w1_ w2_ := (one_below w1_ _).trans (Bq.mono (by omega))
    have zp : w1_.heap.size < w2_.heap.size := by have := Bq.size; rw [World.size_alloc] at this; omega
    obtain ⟨pp, qp⟩ := box_at Bq
    replace pb := (Sq.cell (p := ⟨w.heap.size, 0, none⟩) zb).trans pb
    replace qb := (Sq.cell (p := ⟨w.heap.size, 1, none⟩) zb).trans qb
    replace zb : w.heap.size < w2_.heap.size := Nat.lt_of_lt_of_le zb Sq.size
    replace HA : Hid (Rd w2_ w2_.heap.size A (pack l)) := HA.out.on Sq
    replace HP : Hid (Rd w2_ w2_.heap.size A1 (pack [])) := HP.out.on Sq
    replace HB : Hid (Below w.heap.size w w2_) := HB.out.trans (Sq.mono HB.out.size)
    clear Bq Sq
    go_wp2_with fail
    refine (begun_true _).mono ?_
    rintro e w3_ ⟨rfl, Bq⟩
    have Sq : Below w2_.heap.size w2_ w3_ := Bq
    replace pb := (Sq.cell (p := ⟨w.heap.size, 0, none⟩) zb).trans pb
    replace qb := (Sq.cell (p := ⟨w.heap.size, 1, none⟩) zb).trans qb
    replace zb : w.heap.size < w3_.heap.size := Nat.lt_of_lt_of_le zb Sq.size
    replace pp := (Sq.cell (p := ⟨w1_.heap.size, 0, none⟩) zp).trans pp
    replace qp := (Sq.cell (p := ⟨w1_.heap.size, 1, none⟩) zp).trans qp
    replace zp : w1_.heap.size < w3_.heap.size := Nat.lt_of_lt_of_le zp Sq.size
    replace HA : Hid (Rd w3_ w3_.heap.size A (pack l)) := HA.out.on Sq
    replace HP : Hid (Rd w3_ w3_.heap.size A1 (pack [])) := HP.out.on Sq
    replace HB : Hid (Below w.heap.size w w3_) := HB.out.trans (Sq.mono HB.out.size)
    clear Bq Sq
    go_wp2_with fail
    refine (check_l l hl A c _ HA.out).mono ?_
    rintro e w4_ ⟨rfl, Bq⟩
    have Sq : Below w3_.heap.size w3_ w4_ := Bq
    replace pb := (Sq.cell (p := ⟨w.heap.size, 0, none⟩) zb).trans pb
    replace qb := (Sq.cell (p := ⟨w.heap.size, 1, none⟩) zb).trans qb
    replace zb : w.heap.size < w4_.heap.size := Nat.lt_of_lt_of_le zb Sq.size
    replace pp := (Sq.cell (p := ⟨w1_.heap.size, 0, none⟩) zp).trans pp
    replace qp := (Sq.cell (p := ⟨w1_.heap.size, 1, none⟩) zp).trans qp
    replace zp : w1_.heap.size < w4_.heap.size := Nat.lt_of_lt_of_le zp Sq.size
    replace HA : Hid (Rd w4_ w4_.heap.size A (pack l)) := HA.out.on Sq
    replace HP : Hid (Rd w4_ w4_.heap.size A1 (pack [])) := HP.out.on Sq
    replace HB : Hid (Below w.heap.size w w4_) := HB.out.trans (Sq.mono HB.out.size)
    clear Bq Sq
    go_wp2
    go_ret
    exact ⟨rfl, HB.out⟩
  · have t1 : decide (0 ≤ p) = true := by simp; omega
    have t2 : decide (p ≤ (l.length : Int)) = false := by simp; omega
    have g0 := fun w h => @ng_in l hl A c p w h
    simp only [if_neg (show ¬ (0 ≤ p ∧ p ≤ (l.length : Int)) by omega)] at g0
    have ng := Lib.hid g0; clear g0
    go_enter Try.func8, Try.ntmps8
    go_wp2_with fail
    refine (np_pos l hl A c n hn _ (HA.out.on (one_below w _))).mono ?_
    rintro e w1_ ⟨A1, c1, rfl, Rq, Bq⟩
    rw [World.size_alloc] at Bq
    have Sq : Below w.heap.size w w1_ := (one_below w _).trans (Bq.mono (by omega))
    have zb : w.heap.size < w1_.heap.size := by have := Bq.size; rw [World.size_alloc] at this; omega
    obtain ⟨pb, qb⟩ := box_at Bq
    replace HA : Hid (Rd w1_ w1_.heap.size A (pack l)) := HA.out.on Sq
    have HB : Hid (Below w.heap.size w w1_) := Sq
    clear Bq Sq
    have HP := Lib.hid Rq; clear Rq
    go_wp2_with fail
    refine (ng.out _ (HA.out.on (one_below w1_ _))).mono ?_
    rintro e w2_ ⟨rfl, Bq⟩
    rw [World.size_alloc] at Bq
    have Sq : Below w1_.heap.size w1_ w2_ := (one_below w1_ _).trans (Bq.mono (by omega))
    have zp : w1_.heap.size < w2_.heap.size := by have := Bq.size; rw [World.size_alloc] at this; omega
    obtain ⟨pp, qp⟩ := box_at Bq
    replace pb := (Sq.cell (p := ⟨w.heap.size, 0, none⟩) zb).trans pb
    replace qb := (Sq.cell (p := ⟨w.heap.size, 1, none⟩) zb).trans qb
    replace zb : w.heap.size < w2_.heap.size := Nat.lt_of_lt_of_le zb Sq.size
    replace HA : Hid (Rd w2_ w2_.heap.size A (pack l)) := HA.out.on Sq
    replace HP : Hid (Rd w2_ w2_.heap.size A1 (pack [])) := HP.out.on Sq
    replace HB : Hid (Below w.heap.size w w2_) := HB.out.trans (Sq.mono HB.out.size)
    clear Bq Sq
    go_wp2_with fail
    refine (begun_true _).mono ?_
    rintro e w3_ ⟨rfl, Bq⟩
    have Sq : Below w2_.heap.size w2_ w3_ := Bq
    replace pb := (Sq.cell (p := ⟨w.heap.size, 0, none⟩) zb).trans pb
    replace qb := (Sq.cell (p := ⟨w.heap.size, 1, none⟩) zb).trans qb
    replace zb : w.heap.size < w3_.heap.size := Nat.lt_of_lt_of_le zb Sq.size
    replace pp := (Sq.cell (p := ⟨w1_.heap.size, 0, none⟩) zp).trans pp
    replace qp := (Sq.cell (p := ⟨w1_.heap.size, 1, none⟩) zp).trans qp
    replace zp : w1_.heap.size < w3_.heap.size := Nat.lt_of_lt_of_le zp Sq.size
    replace HA : Hid (Rd w3_ w3_.heap.size A (pack l)) := HA.out.on Sq
    replace HP : Hid (Rd w3_ w3_.heap.size A1 (pack [])) := HP.out.on Sq
    replace HB : Hid (Below w.heap.size w w3_) := HB.out.trans (Sq.mono HB.out.size)
    clear Bq Sq
    go_wp2_with fail
    refine (check_l l hl A c _ HA.out).mono ?_
    rintro e w4_ ⟨rfl, Bq⟩
    have Sq : Below w3_.heap.size w3_ w4_ := Bq
    replace pb := (Sq.cell (p := ⟨w.heap.size, 0, none⟩) zb).trans pb
    replace qb := (Sq.cell (p := ⟨w.heap.size, 1, none⟩) zb).trans qb
    replace zb : w.heap.size < w4_.heap.size := Nat.lt_of_lt_of_le zb Sq.size
    replace pp := (Sq.cell (p := ⟨w1_.heap.size, 0, none⟩) zp).trans pp
    replace qp := (Sq.cell (p := ⟨w1_.heap.size, 1, none⟩) zp).trans qp
    replace zp : w1_.heap.size < w4_.heap.size := Nat.lt_of_lt_of_le zp Sq.size
    replace HA : Hid (Rd w4_ w4_.heap.size A (pack l)) := HA.out.on Sq
    replace HP : Hid (Rd w4_ w4_.heap.size A1 (pack [])) := HP.out.on Sq
    replace HB : Hid (Below w.heap.size w w4_) := HB.out.trans (Sq.mono HB.out.size)
    clear Bq Sq
    go_wp2
    go_ret
    exact ⟨rfl, HB.out⟩

theorem nothing_any (len : Int) (A : Option Addr) (c : Nat) (bs : List Nat) (n : Nat) (p : Int) (w : World) (hb : ∀ b ∈ bs, b < 256) (h : Rd w w.heap.size A bs) :
    Calls Try.prog 8 #[.agg #[.int .i64 len, .slice A bs.length c], .int .u64 (n : Int), .int .i64 p] w fun e w' => e = .returned (.bool true) ∧ Below w.heap.size w w' := by
  by_cases hc : chk len bs = 0
  · obtain ⟨l, rfl, hl, rfl⟩ := chk_zero len bs hb hc
    rcases Nat.eq_zero_or_pos n with rfl | hn
    · exact nothing_zero l hl A c p w h
    · exact nothing_pos l hl A c n hn p w h
  · exact nothing_bad len A c bs n p w hb h (by simpa using hc)
theorem nothing_law (len : Int) (A : Option Addr) (c : Nat) (bs : List Nat) (n : Nat) (p : Int) (w : World) (hb : ∀ b ∈ bs, b < 256) (h : Rd w w.heap.size A bs) (_ : n < 18446744073709551616) (_ : -9223372036854775808 ≤ p ∧ p ≤ 9223372036854775807) :
    Calls Try.prog 8 #[.agg #[.int .i64 len, .slice A bs.length c], .int .u64 (n : Int), .int .i64 p] w fun e w' => e = .returned (.bool true) ∧ Below w.heap.size w w' := nothing_any len A c bs n p w hb h
end Go.Proofs.Ytabmmamaihiljaa
