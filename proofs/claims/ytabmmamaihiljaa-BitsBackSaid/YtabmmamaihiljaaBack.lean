/- The law BitsBack: for whatever bits, number and width it returns true and leaves what it was handed as it was. -/
import Derived.Test.YtabmmamaihiljaaLists
namespace Go.Proofs.Ytabmmamaihiljaa
open Go.RowKit

set_option maxRecDepth 100000 in
set_option maxHeartbeats 1000000 in
theorem back_err (len : Int) (A : Option Addr) (c : Nat) (bs : List Nat) (n : Nat) (k : Int) (w : World) (hb : ∀ b ∈ bs, b < 256) (h : Rd w w.heap.size A bs) (hn64 : n < 18446744073709551616) (e0 : Int) (he : putL len bs n k = e0) (h0 : e0 ≠ 0) :
    Calls Try.prog 4 #[.agg #[.int .i64 len, .slice A bs.length c], .int .u64 (n : Int), .int .i64 k] w fun e w' => e = .returned (.bool true) ∧ Below w.heap.size w w' := by
  have HA := Lib.hid h; clear h
  have HE := Lib.hid he; clear he
  have t1 : (e0 != 0) = true := by simpa using h0
  have HE0 := Lib.hid h0; clear h0
  go_enter Try.func4, Try.ntmps4
  go_wp2_with fail
  refine (put_e len A c bs n k e0 hb hn64 HE.out HE0.out _ (HA.out.on (one_below w _))).mono ?_
  rintro e w1_ ⟨A1, c1, rfl, Rq, Bq⟩
  rw [World.size_alloc] at Bq
  have Sq : Below w.heap.size w w1_ := (one_below w _).trans (Bq.mono (by omega))
  have zb : w.heap.size < w1_.heap.size := by have := Bq.size; rw [World.size_alloc] at this; omega
  obtain ⟨pb, qb⟩ := box_at Bq
  replace HA : Hid (Rd w1_ w1_.heap.size A bs) := HA.out.on Sq
  have HB : Hid (Below w.heap.size w w1_) := Sq
  clear Bq Sq
  have HP := Lib.hid Rq; clear Rq
  go_wp2_with fail
  refine (begun_true _).mono ?_
  rintro e w2_ ⟨rfl, Bq⟩
  rw [World.size_alloc] at Bq
  have Sq : Below w1_.heap.size w1_ w2_ := (one_below w1_ _).trans (Bq.mono (by omega))
  have zp : w1_.heap.size < w2_.heap.size := by have := Bq.size; rw [World.size_alloc] at this; omega
  obtain ⟨pp, qp⟩ := box_at Bq
  replace pb := (Sq.cell (p := ⟨w.heap.size, 0, none⟩) zb).trans pb
  replace qb := (Sq.cell (p := ⟨w.heap.size, 1, none⟩) zb).trans qb
  replace zb : w.heap.size < w2_.heap.size := Nat.lt_of_lt_of_le zb Sq.size
  replace HA : Hid (Rd w2_ w2_.heap.size A bs) := HA.out.on Sq
  replace HP : Hid (Rd w2_ w2_.heap.size A1 (pack [])) := HP.out.on Sq
  replace HB : Hid (Below w.heap.size w w2_) := HB.out.trans (Sq.mono HB.out.size)
  clear Bq Sq
  go_wp2_with fail
  refine (same_0 A1 none c1 0 _ HP.out).mono ?_
  rintro e w3_ ⟨rfl, Bq⟩
  have Sq : Below w2_.heap.size w2_ w3_ := Bq
  replace pb := (Sq.cell (p := ⟨w.heap.size, 0, none⟩) zb).trans pb
  replace qb := (Sq.cell (p := ⟨w.heap.size, 1, none⟩) zb).trans qb
  replace zb : w.heap.size < w3_.heap.size := Nat.lt_of_lt_of_le zb Sq.size
  replace pp := (Sq.cell (p := ⟨w1_.heap.size, 0, none⟩) zp).trans pp
  replace qp := (Sq.cell (p := ⟨w1_.heap.size, 1, none⟩) zp).trans qp
  replace zp : w1_.heap.size < w3_.heap.size := Nat.lt_of_lt_of_le zp Sq.size
  replace HA : Hid (Rd w3_ w3_.heap.size A bs) := HA.out.on Sq
  replace HP : Hid (Rd w3_ w3_.heap.size A1 (pack [])) := HP.out.on Sq
  replace HB : Hid (Below w.heap.size w w3_) := HB.out.trans (Sq.mono HB.out.size)
  clear Bq Sq
  go_wp2
  go_ret
  exact ⟨rfl, HB.out⟩

set_option maxRecDepth 100000 in
set_option maxHeartbeats 1000000 in
theorem back_ok (l L : List Bool) (A : Option Addr) (c : Nat) (n k : Nat) (w : World) (h : Rd w w.heap.size A (pack l)) (hk : k ≤ 64) (hn : n / 2 ^ k = 0) (hf : l.length + k ≤ 8192) (hn64 : n < 18446744073709551616) (hL : L = l ++ nb n k) :
    Calls Try.prog 4 #[.agg #[.int .i64 (l.length : Int), .slice A (pack l).length c], .int .u64 (n : Int), .int .i64 (k : Int)] w fun e w' => e = .returned (.bool true) ∧ Below w.heap.size w w' := by
  have HA := Lib.hid h; clear h
  have hle : L.length = l.length + k := by rw [hL, List.length_append, nb_length]
  have HG : Hid (n = num ((L.drop l.length).take k)) := by
    show n = _
    rw [hL, List.drop_left, List.take_of_length_le (by rw [nb_length]; omega), num_nb_small n k hn]
  have HC : Hid (l = L.take l.length) := by
    show l = _
    rw [hL, List.take_left]
  have HN := Lib.hid hn; clear hn
  have HL := Lib.hid hL; clear hL
  have hLl : L.length ≤ 8192 := by omega
  have hge : l.length + k ≤ L.length := by omega
  have t1 : ((L.length : Int) == (l.length : Int) + (k : Int)) = true := by simp; omega
  have t2 : ((n : Int) == (n : Int)) = true := by simp
  clear hle
  go_enter Try.func4, Try.ntmps4
  go_wp2_with fail
  refine (put_l l L A c n k hk HN.out hf hn64 HL.out _ (HA.out.on (one_below w _))).mono ?_
  rintro e w1_ ⟨A1, c1, rfl, Rq, Bq⟩
  rw [World.size_alloc] at Bq
  have Sq : Below w.heap.size w w1_ := (one_below w _).trans (Bq.mono (by omega))
  have zb : w.heap.size < w1_.heap.size := by have := Bq.size; rw [World.size_alloc] at this; omega
  obtain ⟨pb, qb⟩ := box_at Bq
  replace HA : Hid (Rd w1_ w1_.heap.size A (pack l)) := HA.out.on Sq
  have HB : Hid (Below w.heap.size w w1_) := Sq
  clear Bq Sq
  have HP := Lib.hid Rq; clear Rq
  go_wp2_with fail
  refine (begun_true _).mono ?_
  rintro e w2_ ⟨rfl, Bq⟩
  rw [World.size_alloc] at Bq
  have Sq : Below w1_.heap.size w1_ w2_ := (one_below w1_ _).trans (Bq.mono (by omega))
  have zp : w1_.heap.size < w2_.heap.size := by have := Bq.size; rw [World.size_alloc] at this; omega
  obtain ⟨pp, qp⟩ := box_at Bq
  replace pb := (Sq.cell (p := ⟨w.heap.size, 0, none⟩) zb).trans pb
  replace qb := (Sq.cell (p := ⟨w.heap.size, 1, none⟩) zb).trans qb
  replace zb : w.heap.size < w2_.heap.size := Nat.lt_of_lt_of_le zb Sq.size
  replace HA : Hid (Rd w2_ w2_.heap.size A (pack l)) := HA.out.on Sq
  replace HP : Hid (Rd w2_ w2_.heap.size A1 (pack L)) := HP.out.on Sq
  replace HB : Hid (Below w.heap.size w w2_) := HB.out.trans (Sq.mono HB.out.size)
  clear Bq Sq
  go_wp2_with fail
  refine (get_l L hLl A1 c1 l.length k n hk (by omega) HG.out _ HP.out).mono ?_
  rintro e w3_ ⟨rfl, Bq⟩
  have Sq : Below w2_.heap.size w2_ w3_ := Bq
  replace pb := (Sq.cell (p := ⟨w.heap.size, 0, none⟩) zb).trans pb
  replace qb := (Sq.cell (p := ⟨w.heap.size, 1, none⟩) zb).trans qb
  replace zb : w.heap.size < w3_.heap.size := Nat.lt_of_lt_of_le zb Sq.size
  replace pp := (Sq.cell (p := ⟨w1_.heap.size, 0, none⟩) zp).trans pp
  replace qp := (Sq.cell (p := ⟨w1_.heap.size, 1, none⟩) zp).trans qp
  replace zp : w1_.heap.size < w3_.heap.size := Nat.lt_of_lt_of_le zp Sq.size
  replace HA : Hid (Rd w3_ w3_.heap.size A (pack l)) := HA.out.on Sq
  replace HP : Hid (Rd w3_ w3_.heap.size A1 (pack L)) := HP.out.on Sq
  replace HB : Hid (Below w.heap.size w w3_) := HB.out.trans (Sq.mono HB.out.size)
  clear Bq Sq
  go_wp2_with fail
  refine (cut_l0 L l hLl A1 c1 l.length (by omega) HC.out _ HP.out).mono ?_
  rintro e w4_ ⟨A2, c2, rfl, Rq, Bq⟩
  have Sq : Below w3_.heap.size w3_ w4_ := Bq
  replace pb := (Sq.cell (p := ⟨w.heap.size, 0, none⟩) zb).trans pb
  replace qb := (Sq.cell (p := ⟨w.heap.size, 1, none⟩) zb).trans qb
  replace zb : w.heap.size < w4_.heap.size := Nat.lt_of_lt_of_le zb Sq.size
  replace pp := (Sq.cell (p := ⟨w1_.heap.size, 0, none⟩) zp).trans pp
  replace qp := (Sq.cell (p := ⟨w1_.heap.size, 1, none⟩) zp).trans qp
  replace zp : w1_.heap.size < w4_.heap.size := Nat.lt_of_lt_of_le zp Sq.size
  replace HA : Hid (Rd w4_ w4_.heap.size A (pack l)) := HA.out.on Sq
  replace HP : Hid (Rd w4_ w4_.heap.size A1 (pack L)) := HP.out.on Sq
  replace HB : Hid (Below w.heap.size w w4_) := HB.out.trans (Sq.mono HB.out.size)
  clear Bq Sq
  have HQ := Lib.hid Rq; clear Rq
  go_wp2_with fail
  refine (same_l l (by omega) A2 A c2 c _ (HQ.out.on (one_below w4_ _)) (HA.out.on (one_below w4_ _))).mono ?_
  rintro e w5_ ⟨rfl, Bq⟩
  rw [World.size_alloc] at Bq
  have Sq : Below w4_.heap.size w4_ w5_ := (one_below w4_ _).trans (Bq.mono (by omega))
  have zq : w4_.heap.size < w5_.heap.size := by have := Bq.size; rw [World.size_alloc] at this; omega
  obtain ⟨pq, qq⟩ := box_at Bq
  replace pb := (Sq.cell (p := ⟨w.heap.size, 0, none⟩) zb).trans pb
  replace qb := (Sq.cell (p := ⟨w.heap.size, 1, none⟩) zb).trans qb
  replace zb : w.heap.size < w5_.heap.size := Nat.lt_of_lt_of_le zb Sq.size
  replace pp := (Sq.cell (p := ⟨w1_.heap.size, 0, none⟩) zp).trans pp
  replace qp := (Sq.cell (p := ⟨w1_.heap.size, 1, none⟩) zp).trans qp
  replace zp : w1_.heap.size < w5_.heap.size := Nat.lt_of_lt_of_le zp Sq.size
  replace HA : Hid (Rd w5_ w5_.heap.size A (pack l)) := HA.out.on Sq
  replace HP : Hid (Rd w5_ w5_.heap.size A1 (pack L)) := HP.out.on Sq
  replace HQ : Hid (Rd w5_ w5_.heap.size A2 (pack l)) := HQ.out.on Sq
  replace HB : Hid (Below w.heap.size w w5_) := HB.out.trans (Sq.mono HB.out.size)
  clear Bq Sq
  go_wp2_with fail
  refine (check_l L hLl A1 c1 _ HP.out).mono ?_
  rintro e w6_ ⟨rfl, Bq⟩
  have Sq : Below w5_.heap.size w5_ w6_ := Bq
  replace pb := (Sq.cell (p := ⟨w.heap.size, 0, none⟩) zb).trans pb
  replace qb := (Sq.cell (p := ⟨w.heap.size, 1, none⟩) zb).trans qb
  replace zb : w.heap.size < w6_.heap.size := Nat.lt_of_lt_of_le zb Sq.size
  replace pp := (Sq.cell (p := ⟨w1_.heap.size, 0, none⟩) zp).trans pp
  replace qp := (Sq.cell (p := ⟨w1_.heap.size, 1, none⟩) zp).trans qp
  replace zp : w1_.heap.size < w6_.heap.size := Nat.lt_of_lt_of_le zp Sq.size
  replace pq := (Sq.cell (p := ⟨w4_.heap.size, 0, none⟩) zq).trans pq
  replace qq := (Sq.cell (p := ⟨w4_.heap.size, 1, none⟩) zq).trans qq
  replace zq : w4_.heap.size < w6_.heap.size := Nat.lt_of_lt_of_le zq Sq.size
  replace HA : Hid (Rd w6_ w6_.heap.size A (pack l)) := HA.out.on Sq
  replace HP : Hid (Rd w6_ w6_.heap.size A1 (pack L)) := HP.out.on Sq
  replace HQ : Hid (Rd w6_ w6_.heap.size A2 (pack l)) := HQ.out.on Sq
  replace HB : Hid (Below w.heap.size w w6_) := HB.out.trans (Sq.mono HB.out.size)
  clear Bq Sq
  go_wp2
  go_ret
  exact ⟨rfl, HB.out⟩

theorem back_law (len : Int) (A : Option Addr) (c : Nat) (bs : List Nat) (n : Nat) (k : Int) (w : World) (hb : ∀ b ∈ bs, b < 256) (h : Rd w w.heap.size A bs) (hn64 : n < 18446744073709551616) (_ : -9223372036854775808 ≤ k ∧ k ≤ 9223372036854775807) :
    Calls Try.prog 4 #[.agg #[.int .i64 len, .slice A bs.length c], .int .u64 (n : Int), .int .i64 k] w fun e w' => e = .returned (.bool true) ∧ Below w.heap.size w w' := by
  by_cases he : putL len bs n k = 0
  · obtain ⟨l, k, rfl, rfl, rfl, hk, hn, hf⟩ := putL_zero len bs n k hb he
    exact back_ok l _ A c n k w h hk hn hf hn64 rfl
  · exact back_err len A c bs n k w hb h hn64 _ rfl he
end Go.Proofs.Ytabmmamaihiljaa
