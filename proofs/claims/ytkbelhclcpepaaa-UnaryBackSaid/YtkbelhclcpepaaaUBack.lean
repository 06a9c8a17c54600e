/- The law UnaryBack: for whatever number it returns true. -/
import Derived.Test.YtkbelhclcpepaaaUBegun
namespace Go.Proofs.Ytkbelhclcpepaaa
open Go.RowKit

theorem read_l0 (l : List Bool) (hl : l.length ≤ 8192) (A : Option Addr) (c : Nat) (x : Nat) (hx : pos 0 l = [x]) (rt : Nat) (h2 : rt = x + 1) (w : World) (h : Rd w w.heap.size A (pack l)) :
    Calls Try.prog 20 #[.agg #[.int .i64 (l.length : Int), .slice A (pack l).length c], .int .i64 0] w (ReadP w x rt 0) :=
  read_l l hl A c 0 (Nat.zero_le _) x [] (by rw [List.drop_zero]; exact hx) x rt (by omega) h2 w h

set_option maxRecDepth 100000 in
set_option maxHeartbeats 1000000 in
theorem uback_err (n : Nat) (hn : 8192 ≤ n) (w : World) :
    Calls Try.prog 4 #[.int .u64 (n : Int)] w fun e w' => e = .returned (.bool true) ∧ Below w.heap.size w w' := by
  have HE : Hid ((3 : Int) = if 8192 ≤ n then 3 else 0) := by show _ = _; rw [if_pos hn]
  have HL : Hid (([] : List Bool) = if 8192 ≤ n then [] else uc n) := by show _ = _; rw [if_pos hn]
  have t1 : decide ((8192 : Int) ≤ (n : Int)) = true := by simp; omega
  go_enter Try.func4, Try.ntmps4
  go_wp2_with fail
  refine (code_any n [] 3 HE.out HL.out _).mono ?_
  rintro e w1_ ⟨A1, c1, rfl, Rq, Bq⟩
  have Sq : Below w.heap.size w w1_ := Bq
  have HB : Hid (Below w.heap.size w w1_) := Sq
  clear Bq Sq
  have HP := Lib.hid Rq; clear Rq
  go_wp2_with fail
  refine (ubegun_true _).mono ?_
  rintro e w2_ ⟨rfl, Bq⟩
  rw [World.size_alloc] at Bq
  have Sq : Below w1_.heap.size w1_ w2_ := (one_below w1_ _).trans (Bq.mono (by omega))
  have zc : w1_.heap.size < w2_.heap.size := by have := Bq.size; rw [World.size_alloc] at this; omega
  obtain ⟨pc, qc⟩ := box_at Bq
  replace HP : Hid (Rd w2_ w2_.heap.size A1 (pack [])) := HP.out.on Sq
  replace HB : Hid (Below w.heap.size w w2_) := HB.out.trans (Sq.mono HB.out.size)
  clear Bq Sq
  go_wp2_with fail
  refine (same_0 A1 none c1 0 _ HP.out).mono ?_
  rintro e w3_ ⟨rfl, Bq⟩
  have Sq : Below w2_.heap.size w2_ w3_ := Bq
  replace pc := (Sq.cell (p := ⟨w1_.heap.size, 0, none⟩) zc).trans pc
  replace qc := (Sq.cell (p := ⟨w1_.heap.size, 1, none⟩) zc).trans qc
  replace zc : w1_.heap.size < w3_.heap.size := Nat.lt_of_lt_of_le zc Sq.size
  replace HP : Hid (Rd w3_ w3_.heap.size A1 (pack [])) := HP.out.on Sq
  replace HB : Hid (Below w.heap.size w w3_) := HB.out.trans (Sq.mono HB.out.size)
  clear Bq Sq
  go_wp2
  go_ret
  exact ⟨rfl, HB.out⟩

set_option maxRecDepth 100000 in
set_option maxHeartbeats 1000000 in
theorem uback_ok (n : Nat) (hn : n < 8192) (L : List Bool) (hL : L = uc n) (w : World) :
    Calls Try.prog 4 #[.int .u64 (n : Int)] w fun e w' => e = .returned (.bool true) ∧ Below w.heap.size w w' := by
  have HE : Hid ((0 : Int) = if 8192 ≤ n then 3 else 0) := by show _ = _; rw [if_neg (by omega)]
  have HL : Hid (L = if 8192 ≤ n then [] else uc n) := by show _ = _; rw [if_neg (by omega)]; exact hL
  have hle : L.length = n + 1 := by rw [hL, uc_length]
  have HX : Hid (pos 0 L = [n]) := by show _ = _; rw [hL, pos_uc, Nat.zero_add]
  have hLl : L.length ≤ 8192 := by omega
  have t1 : ((n : Int) == (n : Int)) = true := by simp
  have t2 : (((n + 1 : Nat) : Int) == (L.length : Int)) = true := by simp; omega
  have t2' : ((n : Int) + 1 == (L.length : Int)) = true := by simp; omega
  have t3 : ((L.length : Int) == (n : Int) + 1) = true := by simp; omega
  clear hL hle
  go_enter Try.func4, Try.ntmps4
  go_wp2_with fail
  refine (code_any n L 0 HE.out HL.out _).mono ?_
  rintro e w1_ ⟨A1, c1, rfl, Rq, Bq⟩
  have Sq : Below w.heap.size w w1_ := Bq
  have HB : Hid (Below w.heap.size w w1_) := Sq
  clear Bq Sq
  have HP := Lib.hid Rq; clear Rq
  go_wp2_with fail
  refine (ubegun_true _).mono ?_
  rintro e w2_ ⟨rfl, Bq⟩
  rw [World.size_alloc] at Bq
  have Sq : Below w1_.heap.size w1_ w2_ := (one_below w1_ _).trans (Bq.mono (by omega))
  have zc : w1_.heap.size < w2_.heap.size := by have := Bq.size; rw [World.size_alloc] at this; omega
  obtain ⟨pc, qc⟩ := box_at Bq
  replace HP : Hid (Rd w2_ w2_.heap.size A1 (pack L)) := HP.out.on Sq
  replace HB : Hid (Below w.heap.size w w2_) := HB.out.trans (Sq.mono HB.out.size)
  clear Bq Sq
  go_wp2_with fail
  refine (read_l0 L hLl A1 c1 n HX.out (n + 1) rfl _ HP.out).mono ?_
  rintro e w3_ ⟨rfl, Bq⟩
  have Sq : Below w2_.heap.size w2_ w3_ := Bq
  replace pc := (Sq.cell (p := ⟨w1_.heap.size, 0, none⟩) zc).trans pc
  replace qc := (Sq.cell (p := ⟨w1_.heap.size, 1, none⟩) zc).trans qc
  replace zc : w1_.heap.size < w3_.heap.size := Nat.lt_of_lt_of_le zc Sq.size
  replace HP : Hid (Rd w3_ w3_.heap.size A1 (pack L)) := HP.out.on Sq
  replace HB : Hid (Below w.heap.size w w3_) := HB.out.trans (Sq.mono HB.out.size)
  clear Bq Sq
  go_wp2
  go_ret
  exact ⟨rfl, HB.out⟩

theorem uback_law (n : Nat) (w : World) (_ : n < 18446744073709551616) :
    Calls Try.prog 4 #[.int .u64 (n : Int)] w fun e w' => e = .returned (.bool true) ∧ Below w.heap.size w w' := by
  by_cases hn : 8192 ≤ n
  · exact uback_err n hn w
  · exact uback_ok n (by omega) _ rfl w
end Go.Proofs.Ytkbelhclcpepaaa
