/- The law FibNext for whatever is handed in: its ways put together. -/
import Derived.Test.YtjogccpnhcnedaaDoorFLNextA
import Derived.Test.YtjogccpnhcnedaaDoorFLBack
namespace Go.Proofs.YtjogccpnhcnedaaDoor
set_option maxRecDepth 100000
set_option linter.unusedVariables false
open Go.RowKit Go.Shelf

set_option maxHeartbeats 4000000 in
theorem fnext_err (n m : Nat) (p : Int) (la lb : Int) (na nb_ : Nat) (ba bb : List Nat) (ea eb : Int) (w : World) (hN : Nm w) (h : ea ≠ 0 ∨ (ea = 0 ∧ eb ≠ 0))
    (H1 : Hid (∀ w, Nm w → Calls Tryd.prog 12 #[.int .u64 (n : Int)] w (Gv w la na ba ea)))
    (H2 : Hid (∀ w, Nm w → Calls Tryd.prog 12 #[.int .u64 (m : Int)] w (Gv w lb nb_ bb eb))) :
    Calls Tryd.prog 6 #[.int .u64 (n : Int), .int .u64 (m : Int), .int .i64 p] w fun e w' => e = .returned (.bool true) ∧ Below w.heap.size w w' := by
  have HN := Lib.hid hN; clear hN
  rcases h with h | ⟨rfl, h⟩
  · have t1 : (ea != 0) = true := by simpa using h
    clear h
    go_enter Tryd.func6, Tryd.ntmps6
    go_wp2_with fail
    refine (H1.out w HN.out).mono ?_
    rintro e w1_ ⟨A1, c1, rfl, Rq, Bq⟩
    have Sq : Below w.heap.size w w1_ := Bq
    have HB : Hid (Below w.heap.size w w1_) := Sq
    replace HN := Lib.hid (HN.out.on Sq)
    clear Bq Sq
    have HR1 := Lib.hid Rq; clear Rq
    go_wp2_with fail
    refine (H2.out _ (HN.out.on (one_below _ _))).mono ?_
    rintro e w2_ ⟨A2, c2, rfl, Rq, Bq⟩
    rw [World.size_alloc] at Bq
    have Sq : Below w1_.heap.size w1_ w2_ := (one_below w1_ _).trans (Bq.mono (by omega))
    have za : w1_.heap.size < w2_.heap.size := by have := Bq.size; rw [World.size_alloc] at this; omega
    obtain ⟨pa, qa⟩ := box_at Bq
    replace HB : Hid (Below w.heap.size w w2_) := HB.out.trans (Sq.mono HB.out.size)
    replace HN := Lib.hid (HN.out.on Sq)
    replace HR1 := Lib.hid (HR1.out.on Sq)
    clear Bq Sq
    have HR2 := Lib.hid Rq; clear Rq
    go_wp2_with fail
    refine (fbegun_true _ (HN.out.on (one_below _ _))).mono ?_
    rintro e w3_ ⟨rfl, Bq⟩
    rw [World.size_alloc] at Bq
    have Sq : Below w2_.heap.size w2_ w3_ := (one_below w2_ _).trans (Bq.mono (by omega))
    have zb : w2_.heap.size < w3_.heap.size := by have := Bq.size; rw [World.size_alloc] at this; omega
    obtain ⟨pb, qb⟩ := box_at Bq
    replace pa := (Sq.cell (p := ⟨w1_.heap.size, 0, none⟩) za).trans pa
    replace qa := (Sq.cell (p := ⟨w1_.heap.size, 1, none⟩) za).trans qa
    replace za : w1_.heap.size < w3_.heap.size := Nat.lt_of_lt_of_le za Sq.size
    replace HB : Hid (Below w.heap.size w w3_) := HB.out.trans (Sq.mono HB.out.size)
    replace HN := Lib.hid (HN.out.on Sq)
    replace HR1 := Lib.hid (HR1.out.on Sq)
    replace HR2 := Lib.hid (HR2.out.on Sq)
    clear Bq Sq
    go_wp2_with fail
    refine (begun_true w3_).mono ?_
    rintro e w4_ ⟨rfl, Bq⟩
    have Sq : Below w3_.heap.size w3_ w4_ := Bq
    replace pa := (Sq.cell (p := ⟨w1_.heap.size, 0, none⟩) za).trans pa
    replace qa := (Sq.cell (p := ⟨w1_.heap.size, 1, none⟩) za).trans qa
    replace za : w1_.heap.size < w4_.heap.size := Nat.lt_of_lt_of_le za Sq.size
    replace pb := (Sq.cell (p := ⟨w2_.heap.size, 0, none⟩) zb).trans pb
    replace qb := (Sq.cell (p := ⟨w2_.heap.size, 1, none⟩) zb).trans qb
    replace zb : w2_.heap.size < w4_.heap.size := Nat.lt_of_lt_of_le zb Sq.size
    replace HB : Hid (Below w.heap.size w w4_) := HB.out.trans (Sq.mono HB.out.size)
    replace HN := Lib.hid (HN.out.on Sq)
    replace HR1 := Lib.hid (HR1.out.on Sq)
    replace HR2 := Lib.hid (HR2.out.on Sq)
    clear Bq Sq
    go_wp2
    go_ret
    exact ⟨rfl, HB.out⟩
  · have t1 : (eb != 0) = true := by simpa using h
    clear h
    go_enter Tryd.func6, Tryd.ntmps6
    go_wp2_with fail
    refine (H1.out w HN.out).mono ?_
    rintro e w1_ ⟨A1, c1, rfl, Rq, Bq⟩
    have Sq : Below w.heap.size w w1_ := Bq
    have HB : Hid (Below w.heap.size w w1_) := Sq
    replace HN := Lib.hid (HN.out.on Sq)
    clear Bq Sq
    have HR1 := Lib.hid Rq; clear Rq
    go_wp2_with fail
    refine (H2.out _ (HN.out.on (one_below _ _))).mono ?_
    rintro e w2_ ⟨A2, c2, rfl, Rq, Bq⟩
    rw [World.size_alloc] at Bq
    have Sq : Below w1_.heap.size w1_ w2_ := (one_below w1_ _).trans (Bq.mono (by omega))
    have za : w1_.heap.size < w2_.heap.size := by have := Bq.size; rw [World.size_alloc] at this; omega
    obtain ⟨pa, qa⟩ := box_at Bq
    replace HB : Hid (Below w.heap.size w w2_) := HB.out.trans (Sq.mono HB.out.size)
    replace HN := Lib.hid (HN.out.on Sq)
    replace HR1 := Lib.hid (HR1.out.on Sq)
    clear Bq Sq
    have HR2 := Lib.hid Rq; clear Rq
    go_wp2_with fail
    refine (fbegun_true _ (HN.out.on (one_below _ _))).mono ?_
    rintro e w3_ ⟨rfl, Bq⟩
    rw [World.size_alloc] at Bq
    have Sq : Below w2_.heap.size w2_ w3_ := (one_below w2_ _).trans (Bq.mono (by omega))
    have zb : w2_.heap.size < w3_.heap.size := by have := Bq.size; rw [World.size_alloc] at this; omega
    obtain ⟨pb, qb⟩ := box_at Bq
    replace pa := (Sq.cell (p := ⟨w1_.heap.size, 0, none⟩) za).trans pa
    replace qa := (Sq.cell (p := ⟨w1_.heap.size, 1, none⟩) za).trans qa
    replace za : w1_.heap.size < w3_.heap.size := Nat.lt_of_lt_of_le za Sq.size
    replace HB : Hid (Below w.heap.size w w3_) := HB.out.trans (Sq.mono HB.out.size)
    replace HN := Lib.hid (HN.out.on Sq)
    replace HR1 := Lib.hid (HR1.out.on Sq)
    replace HR2 := Lib.hid (HR2.out.on Sq)
    clear Bq Sq
    go_wp2_with fail
    refine (begun_true w3_).mono ?_
    rintro e w4_ ⟨rfl, Bq⟩
    have Sq : Below w3_.heap.size w3_ w4_ := Bq
    replace pa := (Sq.cell (p := ⟨w1_.heap.size, 0, none⟩) za).trans pa
    replace qa := (Sq.cell (p := ⟨w1_.heap.size, 1, none⟩) za).trans qa
    replace za : w1_.heap.size < w4_.heap.size := Nat.lt_of_lt_of_le za Sq.size
    replace pb := (Sq.cell (p := ⟨w2_.heap.size, 0, none⟩) zb).trans pb
    replace qb := (Sq.cell (p := ⟨w2_.heap.size, 1, none⟩) zb).trans qb
    replace zb : w2_.heap.size < w4_.heap.size := Nat.lt_of_lt_of_le zb Sq.size
    replace HB : Hid (Below w.heap.size w w4_) := HB.out.trans (Sq.mono HB.out.size)
    replace HN := Lib.hid (HN.out.on Sq)
    replace HR1 := Lib.hid (HR1.out.on Sq)
    replace HR2 := Lib.hid (HR2.out.on Sq)
    clear Bq Sq
    go_wp2
    go_ret
    exact ⟨rfl, HB.out⟩
set_option maxHeartbeats 4000000 in
theorem fnext_out (n m : Nat) (p : Int) (la lb na nb_ : Nat) (ba bb : List Nat) (w : World) (hN : Nm w) (hla : la ≤ 100) (h2 : 2 ≤ la) (h : 274877906944 < n ∨ (n ≤ 274877906944 ∧ p < 0) ∨ (n ≤ 274877906944 ∧ 0 ≤ p ∧ (la : Int) - 3 ≤ p))
    (H1 : Hid (∀ w, Nm w → Calls Tryd.prog 12 #[.int .u64 (n : Int)] w (Gv w (la : Int) na ba 0)))
    (H2 : Hid (∀ w, Nm w → Calls Tryd.prog 12 #[.int .u64 (m : Int)] w (Gv w (lb : Int) nb_ bb 0))) :
    Calls Tryd.prog 6 #[.int .u64 (n : Int), .int .u64 (m : Int), .int .i64 p] w fun e w' => e = .returned (.bool true) ∧ Below w.heap.size w w' := by
  have HN := Lib.hid hN; clear hN
  have hla2 : (la : Int) ≤ 100 := by omega
  have h2la : (2 : Int) ≤ (la : Int) := by omega
  rcases h with h | ⟨h, h3⟩ | ⟨h, h3, h4⟩
  · have t1 : decide ((274877906944 : Int) < (n : Int)) = true := by simp; omega
    clear h
    go_enter Tryd.func6, Tryd.ntmps6
    go_wp2_with fail
    refine (H1.out w HN.out).mono ?_
    rintro e w1_ ⟨A1, c1, rfl, Rq, Bq⟩
    have Sq : Below w.heap.size w w1_ := Bq
    have HB : Hid (Below w.heap.size w w1_) := Sq
    replace HN := Lib.hid (HN.out.on Sq)
    clear Bq Sq
    have HR1 := Lib.hid Rq; clear Rq
    go_wp2_with fail
    refine (H2.out _ (HN.out.on (one_below _ _))).mono ?_
    rintro e w2_ ⟨A2, c2, rfl, Rq, Bq⟩
    rw [World.size_alloc] at Bq
    have Sq : Below w1_.heap.size w1_ w2_ := (one_below w1_ _).trans (Bq.mono (by omega))
    have za : w1_.heap.size < w2_.heap.size := by have := Bq.size; rw [World.size_alloc] at this; omega
    obtain ⟨pa, qa⟩ := box_at Bq
    replace HB : Hid (Below w.heap.size w w2_) := HB.out.trans (Sq.mono HB.out.size)
    replace HN := Lib.hid (HN.out.on Sq)
    replace HR1 := Lib.hid (HR1.out.on Sq)
    clear Bq Sq
    have HR2 := Lib.hid Rq; clear Rq
    go_wp2_with fail
    refine (fbegun_true _ (HN.out.on (one_below _ _))).mono ?_
    rintro e w3_ ⟨rfl, Bq⟩
    rw [World.size_alloc] at Bq
    have Sq : Below w2_.heap.size w2_ w3_ := (one_below w2_ _).trans (Bq.mono (by omega))
    have zb : w2_.heap.size < w3_.heap.size := by have := Bq.size; rw [World.size_alloc] at this; omega
    obtain ⟨pb, qb⟩ := box_at Bq
    replace pa := (Sq.cell (p := ⟨w1_.heap.size, 0, none⟩) za).trans pa
    replace qa := (Sq.cell (p := ⟨w1_.heap.size, 1, none⟩) za).trans qa
    replace za : w1_.heap.size < w3_.heap.size := Nat.lt_of_lt_of_le za Sq.size
    replace HB : Hid (Below w.heap.size w w3_) := HB.out.trans (Sq.mono HB.out.size)
    replace HN := Lib.hid (HN.out.on Sq)
    replace HR1 := Lib.hid (HR1.out.on Sq)
    replace HR2 := Lib.hid (HR2.out.on Sq)
    clear Bq Sq
    go_wp2_with fail
    refine (begun_true w3_).mono ?_
    rintro e w4_ ⟨rfl, Bq⟩
    have Sq : Below w3_.heap.size w3_ w4_ := Bq
    replace pa := (Sq.cell (p := ⟨w1_.heap.size, 0, none⟩) za).trans pa
    replace qa := (Sq.cell (p := ⟨w1_.heap.size, 1, none⟩) za).trans qa
    replace za : w1_.heap.size < w4_.heap.size := Nat.lt_of_lt_of_le za Sq.size
    replace pb := (Sq.cell (p := ⟨w2_.heap.size, 0, none⟩) zb).trans pb
    replace qb := (Sq.cell (p := ⟨w2_.heap.size, 1, none⟩) zb).trans qb
    replace zb : w2_.heap.size < w4_.heap.size := Nat.lt_of_lt_of_le zb Sq.size
    replace HB : Hid (Below w.heap.size w w4_) := HB.out.trans (Sq.mono HB.out.size)
    replace HN := Lib.hid (HN.out.on Sq)
    replace HR1 := Lib.hid (HR1.out.on Sq)
    replace HR2 := Lib.hid (HR2.out.on Sq)
    clear Bq Sq
    go_wp2
    go_ret
    exact ⟨rfl, HB.out⟩
  · have t1 : decide ((274877906944 : Int) < (n : Int)) = false := by simp; omega
    have t2 : decide (p < 0) = true := by simpa using h3
    clear h h3
    go_enter Tryd.func6, Tryd.ntmps6
    go_wp2_with fail
    refine (H1.out w HN.out).mono ?_
    rintro e w1_ ⟨A1, c1, rfl, Rq, Bq⟩
    have Sq : Below w.heap.size w w1_ := Bq
    have HB : Hid (Below w.heap.size w w1_) := Sq
    replace HN := Lib.hid (HN.out.on Sq)
    clear Bq Sq
    have HR1 := Lib.hid Rq; clear Rq
    go_wp2_with fail
    refine (H2.out _ (HN.out.on (one_below _ _))).mono ?_
    rintro e w2_ ⟨A2, c2, rfl, Rq, Bq⟩
    rw [World.size_alloc] at Bq
    have Sq : Below w1_.heap.size w1_ w2_ := (one_below w1_ _).trans (Bq.mono (by omega))
    have za : w1_.heap.size < w2_.heap.size := by have := Bq.size; rw [World.size_alloc] at this; omega
    obtain ⟨pa, qa⟩ := box_at Bq
    replace HB : Hid (Below w.heap.size w w2_) := HB.out.trans (Sq.mono HB.out.size)
    replace HN := Lib.hid (HN.out.on Sq)
    replace HR1 := Lib.hid (HR1.out.on Sq)
    clear Bq Sq
    have HR2 := Lib.hid Rq; clear Rq
    go_wp2_with fail
    refine (fbegun_true _ (HN.out.on (one_below _ _))).mono ?_
    rintro e w3_ ⟨rfl, Bq⟩
    rw [World.size_alloc] at Bq
    have Sq : Below w2_.heap.size w2_ w3_ := (one_below w2_ _).trans (Bq.mono (by omega))
    have zb : w2_.heap.size < w3_.heap.size := by have := Bq.size; rw [World.size_alloc] at this; omega
    obtain ⟨pb, qb⟩ := box_at Bq
    replace pa := (Sq.cell (p := ⟨w1_.heap.size, 0, none⟩) za).trans pa
    replace qa := (Sq.cell (p := ⟨w1_.heap.size, 1, none⟩) za).trans qa
    replace za : w1_.heap.size < w3_.heap.size := Nat.lt_of_lt_of_le za Sq.size
    replace HB : Hid (Below w.heap.size w w3_) := HB.out.trans (Sq.mono HB.out.size)
    replace HN := Lib.hid (HN.out.on Sq)
    replace HR1 := Lib.hid (HR1.out.on Sq)
    replace HR2 := Lib.hid (HR2.out.on Sq)
    clear Bq Sq
    go_wp2_with fail
    refine (begun_true w3_).mono ?_
    rintro e w4_ ⟨rfl, Bq⟩
    have Sq : Below w3_.heap.size w3_ w4_ := Bq
    replace pa := (Sq.cell (p := ⟨w1_.heap.size, 0, none⟩) za).trans pa
    replace qa := (Sq.cell (p := ⟨w1_.heap.size, 1, none⟩) za).trans qa
    replace za : w1_.heap.size < w4_.heap.size := Nat.lt_of_lt_of_le za Sq.size
    replace pb := (Sq.cell (p := ⟨w2_.heap.size, 0, none⟩) zb).trans pb
    replace qb := (Sq.cell (p := ⟨w2_.heap.size, 1, none⟩) zb).trans qb
    replace zb : w2_.heap.size < w4_.heap.size := Nat.lt_of_lt_of_le zb Sq.size
    replace HB : Hid (Below w.heap.size w w4_) := HB.out.trans (Sq.mono HB.out.size)
    replace HN := Lib.hid (HN.out.on Sq)
    replace HR1 := Lib.hid (HR1.out.on Sq)
    replace HR2 := Lib.hid (HR2.out.on Sq)
    clear Bq Sq
    go_wp2
    go_ret
    exact ⟨rfl, HB.out⟩
  · have t1 : decide ((274877906944 : Int) < (n : Int)) = false := by simp; omega
    have t2 : decide (p < 0) = false := by simp; omega
    have t3 : decide ((la : Int) - 3 ≤ p) = true := by simpa using h4
    clear h h3 h4
    go_enter Tryd.func6, Tryd.ntmps6
    go_wp2_with fail
    refine (H1.out w HN.out).mono ?_
    rintro e w1_ ⟨A1, c1, rfl, Rq, Bq⟩
    have Sq : Below w.heap.size w w1_ := Bq
    have HB : Hid (Below w.heap.size w w1_) := Sq
    replace HN := Lib.hid (HN.out.on Sq)
    clear Bq Sq
    have HR1 := Lib.hid Rq; clear Rq
    go_wp2_with fail
    refine (H2.out _ (HN.out.on (one_below _ _))).mono ?_
    rintro e w2_ ⟨A2, c2, rfl, Rq, Bq⟩
    rw [World.size_alloc] at Bq
    have Sq : Below w1_.heap.size w1_ w2_ := (one_below w1_ _).trans (Bq.mono (by omega))
    have za : w1_.heap.size < w2_.heap.size := by have := Bq.size; rw [World.size_alloc] at this; omega
    obtain ⟨pa, qa⟩ := box_at Bq
    replace HB : Hid (Below w.heap.size w w2_) := HB.out.trans (Sq.mono HB.out.size)
    replace HN := Lib.hid (HN.out.on Sq)
    replace HR1 := Lib.hid (HR1.out.on Sq)
    clear Bq Sq
    have HR2 := Lib.hid Rq; clear Rq
    go_wp2_with fail
    refine (fbegun_true _ (HN.out.on (one_below _ _))).mono ?_
    rintro e w3_ ⟨rfl, Bq⟩
    rw [World.size_alloc] at Bq
    have Sq : Below w2_.heap.size w2_ w3_ := (one_below w2_ _).trans (Bq.mono (by omega))
    have zb : w2_.heap.size < w3_.heap.size := by have := Bq.size; rw [World.size_alloc] at this; omega
    obtain ⟨pb, qb⟩ := box_at Bq
    replace pa := (Sq.cell (p := ⟨w1_.heap.size, 0, none⟩) za).trans pa
    replace qa := (Sq.cell (p := ⟨w1_.heap.size, 1, none⟩) za).trans qa
    replace za : w1_.heap.size < w3_.heap.size := Nat.lt_of_lt_of_le za Sq.size
    replace HB : Hid (Below w.heap.size w w3_) := HB.out.trans (Sq.mono HB.out.size)
    replace HN := Lib.hid (HN.out.on Sq)
    replace HR1 := Lib.hid (HR1.out.on Sq)
    replace HR2 := Lib.hid (HR2.out.on Sq)
    clear Bq Sq
    go_wp2_with fail
    refine (begun_true w3_).mono ?_
    rintro e w4_ ⟨rfl, Bq⟩
    have Sq : Below w3_.heap.size w3_ w4_ := Bq
    replace pa := (Sq.cell (p := ⟨w1_.heap.size, 0, none⟩) za).trans pa
    replace qa := (Sq.cell (p := ⟨w1_.heap.size, 1, none⟩) za).trans qa
    replace za : w1_.heap.size < w4_.heap.size := Nat.lt_of_lt_of_le za Sq.size
    replace pb := (Sq.cell (p := ⟨w2_.heap.size, 0, none⟩) zb).trans pb
    replace qb := (Sq.cell (p := ⟨w2_.heap.size, 1, none⟩) zb).trans qb
    replace zb : w2_.heap.size < w4_.heap.size := Nat.lt_of_lt_of_le zb Sq.size
    replace HB : Hid (Below w.heap.size w w4_) := HB.out.trans (Sq.mono HB.out.size)
    replace HN := Lib.hid (HN.out.on Sq)
    replace HR1 := Lib.hid (HR1.out.on Sq)
    replace HR2 := Lib.hid (HR2.out.on Sq)
    clear Bq Sq
    go_wp2
    go_ret
    exact ⟨rfl, HB.out⟩

set_option maxHeartbeats 1000000 in
theorem fnext_law (n m : Nat) (p : Int) (w : World) (hn : n < 18446744073709551616) (hm : m < 18446744073709551616) (hp : -9223372036854775808 ≤ p ∧ p ≤ 9223372036854775807) (hN : Nm w) :
    Calls Tryd.prog 6 #[.int .u64 (n : Int), .int .u64 (m : Int), .int .i64 p] w fun e w' => e = .returned (.bool true) ∧ Below w.heap.size w w' := by
  by_cases h1 : n ≤ 1099511627776
  · by_cases h2 : m ≤ 1099511627776
    · have H1 := Lib.hid (code_ok n h1)
      have H2 := Lib.hid (code_ok m h2)
      have hs1 := fco_short n h1
      have hs2 := fco_short m h2
      have h64 : n + 1 < fb 64 := by rw [fb64]; omega
      obtain ⟨x, lx, _, _, _⟩ := fco_length n h64
      by_cases hb : n ≤ 274877906944 ∧ 0 ≤ p ∧ p < ((fco n).length : Int) - 3
      · obtain ⟨b1, b2, b3⟩ := hb
        obtain ⟨k, rfl⟩ := Int.eq_ofNat_of_zero_le b2
        have hk : k + 3 < (fco n).length := by omega
        have hlt := turn_length (fco n) k (by omega)
        have hput : ((fco n).take k).length + 1 ≤ 8192 := by rw [List.length_take]; omega
        have H4 : Hid (∀ A c w, Rd w w.heap.size A (pack (fco n)) → Calls Tryd.prog 28 #[.agg #[.int .i64 ((fco n).length : Int), .slice A (pack (fco n)).length c], .int .i64 0, .int .i64 (k : Int)] w (Gv w (k : Int) (pack ((fco n).take k)).length (pack ((fco n).take k)) 0)) := fun A c w h => by
          have := cut_l0 (fco n) _ (by omega) A c k (by omega) rfl w h
          rwa [show (((fco n).take k).length : Int) = (k : Int) from by rw [List.length_take]; omega] at this
        have H5 : Hid (∀ A c w, Rd w w.heap.size A (pack (fco n)) → Calls Tryd.prog 28 #[.agg #[.int .i64 ((fco n).length : Int), .slice A (pack (fco n)).length c], .int .i64 ((k : Int) + 1), .int .i64 ((fco n).length : Int)] w (Gv w ((((fco n).drop (k + 1)).take ((fco n).length - (k + 1))).length : Int) (pack (((fco n).drop (k + 1)).take ((fco n).length - (k + 1)))).length (pack (((fco n).drop (k + 1)).take ((fco n).length - (k + 1)))) 0)) := fun A c w h => by
          have := cut_l (fco n) _ (by omega) A c (k + 1) (fco n).length (by omega) (Nat.le_refl _) rfl w h
          rwa [show ((k + 1 : Nat) : Int) = (k : Int) + 1 from by omega] at this
        have hparts := turn_parts (fco n) k (by omega)
        have hnum : num (((fco n).drop k).take 1) = ((fco n)[k]?.getD false).toNat := by
          rw [List.take_one, List.head?_drop, List.getElem?_eq_getElem (by omega)]
          simp [num]
        have HG := fun A c w h => get_l (fco n) (by omega) A c k 1 _ (by omega) (by omega) hnum.symm w h
        have H6 := fun A c w h (v : Nat) (hv : v = 1 - ((fco n)[k]?.getD false).toNat) => put_l ((fco n).take k) ((fco n).take k ++ nb (1 - ((fco n)[k]?.getD false).toNat) 1) A c v 1 (by omega) (by rw [hv]; cases (fco n)[k]?.getD false <;> decide) hput (by rw [hv]; cases (fco n)[k]?.getD false <;> decide) (by rw [hv]) w h
        rw [show (((fco n).take k).length : Int) = (k : Int) from by rw [List.length_take]; omega] at H6
        have H7 : Hid (∀ A c B d w, Rd w w.heap.size A (pack ((fco n).take k ++ nb (1 - ((fco n)[k]?.getD false).toNat) 1)) → Rd w w.heap.size B (pack (((fco n).drop (k + 1)).take ((fco n).length - (k + 1)))) →
            Calls Tryd.prog 26 #[.agg #[.int .i64 (((fco n).take k ++ nb (1 - ((fco n)[k]?.getD false).toNat) 1).length : Int), .slice A (pack ((fco n).take k ++ nb (1 - ((fco n)[k]?.getD false).toNat) 1)).length c], .agg #[.int .i64 ((((fco n).drop (k + 1)).take ((fco n).length - (k + 1))).length : Int), .slice B (pack (((fco n).drop (k + 1)).take ((fco n).length - (k + 1)))).length d]] w (Gv w ((fco n).length : Int) (pack (turn (fco n) k)).length (pack (turn (fco n) k)) 0)) := fun A c B d w h1 h2 => by
          have hl := congrArg List.length hparts
          rw [List.length_append, hlt] at hl
          have := join_l _ _ _ A B c d (by omega) rfl w h1 h2
          rwa [hparts, hlt] at this
        have H8 : Hid (∀ A c B d w, Rd w w.heap.size A (pack (turn (fco n) k)) → Rd w w.heap.size B (pack (fco m)) → Calls Tryd.prog 26 #[.agg #[.int .i64 ((fco n).length : Int), .slice A (pack (turn (fco n) k)).length c], .agg #[.int .i64 ((fco m).length : Int), .slice B (pack (fco m)).length d]] w (Gv w ((turn (fco n) k ++ fco m).length : Int) (pack (turn (fco n) k ++ fco m)).length (pack (turn (fco n) k ++ fco m)) 0)) := fun A c B d w h1 h2 => by
          have := join_l (turn (fco n) k) (fco m) _ A B c d (by omega) rfl w h1 h2
          rwa [hlt] at this
        have hall : (turn (fco n) k ++ fco m).length = (fco n).length + (fco m).length := by rw [List.length_append, hlt]
        have H9 : Hid (∀ s, s + 3 ≤ (fco n).length → ∃ v to : Nat, (s < to ∧ (to = (fco n).length ∨ to + 3 ≤ (fco n).length)) ∧ ∀ A c w, Rd w w.heap.size A (pack (turn (fco n) k ++ fco m)) → Nm w → Calls Tryd.prog 13 #[.agg #[.int .i64 ((turn (fco n) k ++ fco m).length : Int), .slice A (pack (turn (fco n) k ++ fco m)).length c], .int .i64 (s : Int)] w (FP w v to 0)) := fun s hs => by
          obtain ⟨v, to, e, q1, q2⟩ := fR_sync n k b1 hk (fco m) s hs
          exact ⟨v, to, ⟨q1, q2⟩, fun A c w h1 h2 => fread_l _ (by omega) A c s (by omega) w h1 h2 v to 0 e⟩
        have H10 : Hid (∀ A c w, Rd w w.heap.size A (pack (turn (fco n) k ++ fco m)) → Nm w → Calls Tryd.prog 13 #[.agg #[.int .i64 ((turn (fco n) k ++ fco m).length : Int), .slice A (pack (turn (fco n) k ++ fco m)).length c], .int .i64 ((fco n).length : Int)] w (FP w m (turn (fco n) k ++ fco m).length 0)) := fun A c w h1 h3 => by
          rw [hall]
          exact fread_l _ (by omega) A c (fco n).length (by omega) w h1 h3 m _ 0 (fR_after n m k (by omega) h2) |>.mono (fun _ _ h => h) |> (fun h => by rw [← hall] at h ⊢; exact h)
        cases hbit : (fco n)[k]?.getD false
        · rw [hbit] at HG H6 H7
          exact fnext_0 n m (fco n).length _ (fco m).length _ k _ _ _ _ _ _ _ _ _ _ _ _ _ _ _ w hN H1 H2 HG H4 H5 (fun A c w h => H6 A c w h 1 rfl) H7 H8 H9 H10 hk (by omega) b1
        · rw [hbit] at HG H6 H7
          exact fnext_1 n m (fco n).length _ (fco m).length _ k _ _ _ _ _ _ _ _ _ _ _ _ _ _ _ w hN H1 H2 HG H4 H5 (fun A c w h => H6 A c w h 0 rfl) H7 H8 H9 H10 hk (by omega) b1
      · exact fnext_out n m p (fco n).length (fco m).length _ _ _ _ w hN (by omega) (by omega) (by omega) H1 H2
    · exact fnext_err n m p _ 0 _ 0 _ [] 0 3 w hN (.inr ⟨rfl, by decide⟩) (code_ok n h1) (fun w _ => code_no m (by omega) w)
  · by_cases h2 : m ≤ 1099511627776
    · exact fnext_err n m p 0 _ 0 _ [] _ 3 0 w hN (.inl (by decide)) (fun w _ => code_no n (by omega) w) (code_ok m h2)
    · exact fnext_err n m p 0 0 0 0 [] [] 3 3 w hN (.inl (by decide)) (fun w _ => code_no n (by omega) w) (fun w _ => code_no m (by omega) w)
end Go.Proofs.YtjogccpnhcnedaaDoor
