/- The law UnaryApart: for whatever two numbers it returns true. -/
import Derived.Test.YtkbelhclcpepaaaUBegun
namespace Go.Proofs.Ytkbelhclcpepaaa
open Go.RowKit

theorem differ (a b : List Bool) (hl : a.length ≤ 8192) (hne : a ≠ b) (A B : Option Addr) (c d : Nat) (w : World) (hA : Rd w w.heap.size A (pack a)) (hB : Rd w w.heap.size B (pack b)) :
    Calls Try.prog 30 #[.agg #[.int .i64 (a.length : Int), .slice A (pack a).length c], .agg #[.int .i64 (b.length : Int), .slice B (pack b).length d]] w fun e w' => e = .returned (.bool false) ∧ Below w.heap.size w w' := by
  have h := sameBits_any w (a.length : Int) (b.length : Int) A B c d (pack a) (pack b) (by rw [pack_length]; omega) hA hB
  have e : (decide ((a.length : Int) = (b.length : Int)) && decide (pack a = pack b)) = false := by
    rw [Bool.and_eq_false_iff]
    by_cases h1 : a.length = b.length
    · right
      rw [decide_eq_false_iff_not]
      exact fun h2 => hne (pack_inj h1 h2)
    · left
      rw [decide_eq_false_iff_not]
      omega
  rwa [e] at h

set_option maxRecDepth 100000 in
set_option maxHeartbeats 1000000 in
theorem uapart_no (a b : Nat) (X Y : List Bool) (ea eb : Int) (hea : ea = if 8192 ≤ a then 3 else 0) (hX : X = if 8192 ≤ a then [] else uc a) (heb : eb = if 8192 ≤ b then 3 else 0) (hY : Y = if 8192 ≤ b then [] else uc b) (w : World)
    (h : (ea != 0) = true ∨ ((ea != 0) = false ∧ (eb != 0) = true) ∨ ((ea != 0) = false ∧ (eb != 0) = false ∧ b ≤ a)) :
    Calls Try.prog 6 #[.int .u64 (a : Int), .int .u64 (b : Int)] w fun e w' => e = .returned (.bool true) ∧ Below w.heap.size w w' := by
  have HEa := Lib.hid hea; clear hea
  have HXa := Lib.hid hX; clear hX
  have HEb := Lib.hid heb; clear heb
  have HYb := Lib.hid hY; clear hY
  rcases h with h | ⟨h, h2⟩ | ⟨h, h2, h3⟩
  · go_enter Try.func6, Try.ntmps6
    go_wp2_with fail
    refine (code_any a X ea HEa.out HXa.out _).mono ?_
    rintro e w1_ ⟨A1, c1, rfl, Rq, Bq⟩
    have Sq : Below w.heap.size w w1_ := Bq
    have HB : Hid (Below w.heap.size w w1_) := Sq
    clear Bq Sq
    have HP := Lib.hid Rq; clear Rq
    go_wp2_with fail
    refine (code_any b Y eb HEb.out HYb.out _).mono ?_
    rintro e w2_ ⟨A2, c2, rfl, Rq, Bq⟩
    rw [World.size_alloc] at Bq
    have Sq : Below w1_.heap.size w1_ w2_ := (one_below w1_ _).trans (Bq.mono (by omega))
    have zx : w1_.heap.size < w2_.heap.size := by have := Bq.size; rw [World.size_alloc] at this; omega
    obtain ⟨px, qx⟩ := box_at Bq
    replace HP : Hid (Rd w2_ w2_.heap.size A1 (pack X)) := HP.out.on Sq
    replace HB : Hid (Below w.heap.size w w2_) := HB.out.trans (Sq.mono HB.out.size)
    clear Bq Sq
    have HQ := Lib.hid Rq; clear Rq
    go_wp2_with fail
    refine (ubegun_true _).mono ?_
    rintro e w3_ ⟨rfl, Bq⟩
    rw [World.size_alloc] at Bq
    have Sq : Below w2_.heap.size w2_ w3_ := (one_below w2_ _).trans (Bq.mono (by omega))
    have zy : w2_.heap.size < w3_.heap.size := by have := Bq.size; rw [World.size_alloc] at this; omega
    obtain ⟨py, qy⟩ := box_at Bq
    replace px := (Sq.cell (p := ⟨w1_.heap.size, 0, none⟩) zx).trans px
    replace qx := (Sq.cell (p := ⟨w1_.heap.size, 1, none⟩) zx).trans qx
    replace zx : w1_.heap.size < w3_.heap.size := Nat.lt_of_lt_of_le zx Sq.size
    replace HP : Hid (Rd w3_ w3_.heap.size A1 (pack X)) := HP.out.on Sq
    replace HQ : Hid (Rd w3_ w3_.heap.size A2 (pack Y)) := HQ.out.on Sq
    replace HB : Hid (Below w.heap.size w w3_) := HB.out.trans (Sq.mono HB.out.size)
    clear Bq Sq
    go_wp2_with fail
    refine (begun_true _).mono ?_
    rintro e w4_ ⟨rfl, Bq⟩
    have Sq : Below w3_.heap.size w3_ w4_ := Bq
    replace px := (Sq.cell (p := ⟨w1_.heap.size, 0, none⟩) zx).trans px
    replace qx := (Sq.cell (p := ⟨w1_.heap.size, 1, none⟩) zx).trans qx
    replace zx : w1_.heap.size < w4_.heap.size := Nat.lt_of_lt_of_le zx Sq.size
    replace py := (Sq.cell (p := ⟨w2_.heap.size, 0, none⟩) zy).trans py
    replace qy := (Sq.cell (p := ⟨w2_.heap.size, 1, none⟩) zy).trans qy
    replace zy : w2_.heap.size < w4_.heap.size := Nat.lt_of_lt_of_le zy Sq.size
    replace HP : Hid (Rd w4_ w4_.heap.size A1 (pack X)) := HP.out.on Sq
    replace HQ : Hid (Rd w4_ w4_.heap.size A2 (pack Y)) := HQ.out.on Sq
    replace HB : Hid (Below w.heap.size w w4_) := HB.out.trans (Sq.mono HB.out.size)
    clear Bq Sq
    go_wp2
    go_ret
    exact ⟨rfl, HB.out⟩
  · go_enter Try.func6, Try.ntmps6
    go_wp2_with fail
    refine (code_any a X ea HEa.out HXa.out _).mono ?_
    rintro e w1_ ⟨A1, c1, rfl, Rq, Bq⟩
    have Sq : Below w.heap.size w w1_ := Bq
    have HB : Hid (Below w.heap.size w w1_) := Sq
    clear Bq Sq
    have HP := Lib.hid Rq; clear Rq
    go_wp2_with fail
    refine (code_any b Y eb HEb.out HYb.out _).mono ?_
    rintro e w2_ ⟨A2, c2, rfl, Rq, Bq⟩
    rw [World.size_alloc] at Bq
    have Sq : Below w1_.heap.size w1_ w2_ := (one_below w1_ _).trans (Bq.mono (by omega))
    have zx : w1_.heap.size < w2_.heap.size := by have := Bq.size; rw [World.size_alloc] at this; omega
    obtain ⟨px, qx⟩ := box_at Bq
    replace HP : Hid (Rd w2_ w2_.heap.size A1 (pack X)) := HP.out.on Sq
    replace HB : Hid (Below w.heap.size w w2_) := HB.out.trans (Sq.mono HB.out.size)
    clear Bq Sq
    have HQ := Lib.hid Rq; clear Rq
    go_wp2_with fail
    refine (ubegun_true _).mono ?_
    rintro e w3_ ⟨rfl, Bq⟩
    rw [World.size_alloc] at Bq
    have Sq : Below w2_.heap.size w2_ w3_ := (one_below w2_ _).trans (Bq.mono (by omega))
    have zy : w2_.heap.size < w3_.heap.size := by have := Bq.size; rw [World.size_alloc] at this; omega
    obtain ⟨py, qy⟩ := box_at Bq
    replace px := (Sq.cell (p := ⟨w1_.heap.size, 0, none⟩) zx).trans px
    replace qx := (Sq.cell (p := ⟨w1_.heap.size, 1, none⟩) zx).trans qx
    replace zx : w1_.heap.size < w3_.heap.size := Nat.lt_of_lt_of_le zx Sq.size
    replace HP : Hid (Rd w3_ w3_.heap.size A1 (pack X)) := HP.out.on Sq
    replace HQ : Hid (Rd w3_ w3_.heap.size A2 (pack Y)) := HQ.out.on Sq
    replace HB : Hid (Below w.heap.size w w3_) := HB.out.trans (Sq.mono HB.out.size)
    clear Bq Sq
    go_wp2_with fail
    refine (begun_true _).mono ?_
    rintro e w4_ ⟨rfl, Bq⟩
    have Sq : Below w3_.heap.size w3_ w4_ := Bq
    replace px := (Sq.cell (p := ⟨w1_.heap.size, 0, none⟩) zx).trans px
    replace qx := (Sq.cell (p := ⟨w1_.heap.size, 1, none⟩) zx).trans qx
    replace zx : w1_.heap.size < w4_.heap.size := Nat.lt_of_lt_of_le zx Sq.size
    replace py := (Sq.cell (p := ⟨w2_.heap.size, 0, none⟩) zy).trans py
    replace qy := (Sq.cell (p := ⟨w2_.heap.size, 1, none⟩) zy).trans qy
    replace zy : w2_.heap.size < w4_.heap.size := Nat.lt_of_lt_of_le zy Sq.size
    replace HP : Hid (Rd w4_ w4_.heap.size A1 (pack X)) := HP.out.on Sq
    replace HQ : Hid (Rd w4_ w4_.heap.size A2 (pack Y)) := HQ.out.on Sq
    replace HB : Hid (Below w.heap.size w w4_) := HB.out.trans (Sq.mono HB.out.size)
    clear Bq Sq
    go_wp2
    go_ret
    exact ⟨rfl, HB.out⟩
  · have t1 : decide ((b : Int) ≤ (a : Int)) = true := by simp; omega
    go_enter Try.func6, Try.ntmps6
    go_wp2_with fail
    refine (code_any a X ea HEa.out HXa.out _).mono ?_
    rintro e w1_ ⟨A1, c1, rfl, Rq, Bq⟩
    have Sq : Below w.heap.size w w1_ := Bq
    have HB : Hid (Below w.heap.size w w1_) := Sq
    clear Bq Sq
    have HP := Lib.hid Rq; clear Rq
    go_wp2_with fail
    refine (code_any b Y eb HEb.out HYb.out _).mono ?_
    rintro e w2_ ⟨A2, c2, rfl, Rq, Bq⟩
    rw [World.size_alloc] at Bq
    have Sq : Below w1_.heap.size w1_ w2_ := (one_below w1_ _).trans (Bq.mono (by omega))
    have zx : w1_.heap.size < w2_.heap.size := by have := Bq.size; rw [World.size_alloc] at this; omega
    obtain ⟨px, qx⟩ := box_at Bq
    replace HP : Hid (Rd w2_ w2_.heap.size A1 (pack X)) := HP.out.on Sq
    replace HB : Hid (Below w.heap.size w w2_) := HB.out.trans (Sq.mono HB.out.size)
    clear Bq Sq
    have HQ := Lib.hid Rq; clear Rq
    go_wp2_with fail
    refine (ubegun_true _).mono ?_
    rintro e w3_ ⟨rfl, Bq⟩
    rw [World.size_alloc] at Bq
    have Sq : Below w2_.heap.size w2_ w3_ := (one_below w2_ _).trans (Bq.mono (by omega))
    have zy : w2_.heap.size < w3_.heap.size := by have := Bq.size; rw [World.size_alloc] at this; omega
    obtain ⟨py, qy⟩ := box_at Bq
    replace px := (Sq.cell (p := ⟨w1_.heap.size, 0, none⟩) zx).trans px
    replace qx := (Sq.cell (p := ⟨w1_.heap.size, 1, none⟩) zx).trans qx
    replace zx : w1_.heap.size < w3_.heap.size := Nat.lt_of_lt_of_le zx Sq.size
    replace HP : Hid (Rd w3_ w3_.heap.size A1 (pack X)) := HP.out.on Sq
    replace HQ : Hid (Rd w3_ w3_.heap.size A2 (pack Y)) := HQ.out.on Sq
    replace HB : Hid (Below w.heap.size w w3_) := HB.out.trans (Sq.mono HB.out.size)
    clear Bq Sq
    go_wp2_with fail
    refine (begun_true _).mono ?_
    rintro e w4_ ⟨rfl, Bq⟩
    have Sq : Below w3_.heap.size w3_ w4_ := Bq
    replace px := (Sq.cell (p := ⟨w1_.heap.size, 0, none⟩) zx).trans px
    replace qx := (Sq.cell (p := ⟨w1_.heap.size, 1, none⟩) zx).trans qx
    replace zx : w1_.heap.size < w4_.heap.size := Nat.lt_of_lt_of_le zx Sq.size
    replace py := (Sq.cell (p := ⟨w2_.heap.size, 0, none⟩) zy).trans py
    replace qy := (Sq.cell (p := ⟨w2_.heap.size, 1, none⟩) zy).trans qy
    replace zy : w2_.heap.size < w4_.heap.size := Nat.lt_of_lt_of_le zy Sq.size
    replace HP : Hid (Rd w4_ w4_.heap.size A1 (pack X)) := HP.out.on Sq
    replace HQ : Hid (Rd w4_ w4_.heap.size A2 (pack Y)) := HQ.out.on Sq
    replace HB : Hid (Below w.heap.size w w4_) := HB.out.trans (Sq.mono HB.out.size)
    clear Bq Sq
    go_wp2
    go_ret
    exact ⟨rfl, HB.out⟩

set_option maxRecDepth 100000 in
set_option maxHeartbeats 1000000 in
theorem uapart_ok (a b : Nat) (X Y Z : List Bool) (hab : a < b) (hb : b < 8192) (hX : X = uc a) (hY : Y = uc b) (hZ : Z = Y.take X.length) (w : World) :
    Calls Try.prog 6 #[.int .u64 (a : Int), .int .u64 (b : Int)] w fun e w' => e = .returned (.bool true) ∧ Below w.heap.size w w' := by
  obtain ⟨ea, hea⟩ : ∃ e : Int, e = 0 := ⟨_, rfl⟩
  have HEa : Hid ((0 : Int) = if 8192 ≤ a then 3 else 0) := by show _ = _; rw [if_neg (by omega)]
  have HXa : Hid (X = if 8192 ≤ a then [] else uc a) := by show _ = _; rw [if_neg (by omega)]; exact hX
  have HEb : Hid ((0 : Int) = if 8192 ≤ b then 3 else 0) := by show _ = _; rw [if_neg (by omega)]
  have HYb : Hid (Y = if 8192 ≤ b then [] else uc b) := by show _ = _; rw [if_neg (by omega)]; exact hY
  have hXe : X.length = a + 1 := by rw [hX, uc_length]
  have hYe : Y.length = b + 1 := by rw [hY, uc_length]
  have HNE : Hid (Z ≠ X) := by
    show Z ≠ X
    rw [hZ, hXe, hX, hY]
    unfold uc
    rw [List.take_append_of_le_length (by rw [List.length_replicate]; omega), List.take_replicate]
    intro h
    have h1 := congrArg (fun l => l[a]?) h
    rw [List.getElem?_append_right (by rw [List.length_replicate]; omega)] at h1
    simp [List.getElem?_replicate] at h1
  have hZX : Z.length ≤ 8192 := by rw [hZ, List.length_take]; omega
  have HZ := Lib.hid hZ; clear hZ
  have hYl : Y.length ≤ 8192 := by omega
  have hXY : X.length ≤ Y.length := by omega
  have t1 : decide ((b : Int) ≤ (a : Int)) = false := by simp; omega
  clear hX hY hXe hYe hea ea
  go_enter Try.func6, Try.ntmps6
  go_wp2_with fail
  refine (code_any a X 0 HEa.out HXa.out _).mono ?_
  rintro e w1_ ⟨A1, c1, rfl, Rq, Bq⟩
  have Sq : Below w.heap.size w w1_ := Bq
  have HB : Hid (Below w.heap.size w w1_) := Sq
  clear Bq Sq
  have HP := Lib.hid Rq; clear Rq
  go_wp2_with fail
  refine (code_any b Y 0 HEb.out HYb.out _).mono ?_
  rintro e w2_ ⟨A2, c2, rfl, Rq, Bq⟩
  rw [World.size_alloc] at Bq
  have Sq : Below w1_.heap.size w1_ w2_ := (one_below w1_ _).trans (Bq.mono (by omega))
  have zx : w1_.heap.size < w2_.heap.size := by have := Bq.size; rw [World.size_alloc] at this; omega
  obtain ⟨px, qx⟩ := box_at Bq
  replace HP : Hid (Rd w2_ w2_.heap.size A1 (pack X)) := HP.out.on Sq
  replace HB : Hid (Below w.heap.size w w2_) := HB.out.trans (Sq.mono HB.out.size)
  clear Bq Sq
  have HQ := Lib.hid Rq; clear Rq
  go_wp2_with fail
  refine (ubegun_true _).mono ?_
  rintro e w3_ ⟨rfl, Bq⟩
  rw [World.size_alloc] at Bq
  have Sq : Below w2_.heap.size w2_ w3_ := (one_below w2_ _).trans (Bq.mono (by omega))
  have zy : w2_.heap.size < w3_.heap.size := by have := Bq.size; rw [World.size_alloc] at this; omega
  obtain ⟨py, qy⟩ := box_at Bq
  replace px := (Sq.cell (p := ⟨w1_.heap.size, 0, none⟩) zx).trans px
  replace qx := (Sq.cell (p := ⟨w1_.heap.size, 1, none⟩) zx).trans qx
  replace zx : w1_.heap.size < w3_.heap.size := Nat.lt_of_lt_of_le zx Sq.size
  replace HP : Hid (Rd w3_ w3_.heap.size A1 (pack X)) := HP.out.on Sq
  replace HQ : Hid (Rd w3_ w3_.heap.size A2 (pack Y)) := HQ.out.on Sq
  replace HB : Hid (Below w.heap.size w w3_) := HB.out.trans (Sq.mono HB.out.size)
  clear Bq Sq
  go_wp2_with fail
  refine (begun_true _).mono ?_
  rintro e w4_ ⟨rfl, Bq⟩
  have Sq : Below w3_.heap.size w3_ w4_ := Bq
  replace px := (Sq.cell (p := ⟨w1_.heap.size, 0, none⟩) zx).trans px
  replace qx := (Sq.cell (p := ⟨w1_.heap.size, 1, none⟩) zx).trans qx
  replace zx : w1_.heap.size < w4_.heap.size := Nat.lt_of_lt_of_le zx Sq.size
  replace py := (Sq.cell (p := ⟨w2_.heap.size, 0, none⟩) zy).trans py
  replace qy := (Sq.cell (p := ⟨w2_.heap.size, 1, none⟩) zy).trans qy
  replace zy : w2_.heap.size < w4_.heap.size := Nat.lt_of_lt_of_le zy Sq.size
  replace HP : Hid (Rd w4_ w4_.heap.size A1 (pack X)) := HP.out.on Sq
  replace HQ : Hid (Rd w4_ w4_.heap.size A2 (pack Y)) := HQ.out.on Sq
  replace HB : Hid (Below w.heap.size w w4_) := HB.out.trans (Sq.mono HB.out.size)
  clear Bq Sq
  go_wp2_with fail
  refine (cut_l0 Y Z hYl A2 c2 X.length hXY HZ.out _ HQ.out).mono ?_
  rintro e w5_ ⟨A3, c3, rfl, Rq, Bq⟩
  have Sq : Below w4_.heap.size w4_ w5_ := Bq
  replace px := (Sq.cell (p := ⟨w1_.heap.size, 0, none⟩) zx).trans px
  replace qx := (Sq.cell (p := ⟨w1_.heap.size, 1, none⟩) zx).trans qx
  replace zx : w1_.heap.size < w5_.heap.size := Nat.lt_of_lt_of_le zx Sq.size
  replace py := (Sq.cell (p := ⟨w2_.heap.size, 0, none⟩) zy).trans py
  replace qy := (Sq.cell (p := ⟨w2_.heap.size, 1, none⟩) zy).trans qy
  replace zy : w2_.heap.size < w5_.heap.size := Nat.lt_of_lt_of_le zy Sq.size
  replace HP : Hid (Rd w5_ w5_.heap.size A1 (pack X)) := HP.out.on Sq
  replace HQ : Hid (Rd w5_ w5_.heap.size A2 (pack Y)) := HQ.out.on Sq
  replace HB : Hid (Below w.heap.size w w5_) := HB.out.trans (Sq.mono HB.out.size)
  clear Bq Sq
  have HR := Lib.hid Rq; clear Rq
  go_wp2_with fail
  refine (differ Z X hZX HNE.out A3 A1 c3 c1 _ (HR.out.on (one_below w5_ _)) (HP.out.on (one_below w5_ _))).mono ?_
  rintro e w6_ ⟨rfl, Bq⟩
  rw [World.size_alloc] at Bq
  have Sq : Below w5_.heap.size w5_ w6_ := (one_below w5_ _).trans (Bq.mono (by omega))
  have zz : w5_.heap.size < w6_.heap.size := by have := Bq.size; rw [World.size_alloc] at this; omega
  obtain ⟨pz, qz⟩ := box_at Bq
  replace px := (Sq.cell (p := ⟨w1_.heap.size, 0, none⟩) zx).trans px
  replace qx := (Sq.cell (p := ⟨w1_.heap.size, 1, none⟩) zx).trans qx
  replace zx : w1_.heap.size < w6_.heap.size := Nat.lt_of_lt_of_le zx Sq.size
  replace py := (Sq.cell (p := ⟨w2_.heap.size, 0, none⟩) zy).trans py
  replace qy := (Sq.cell (p := ⟨w2_.heap.size, 1, none⟩) zy).trans qy
  replace zy : w2_.heap.size < w6_.heap.size := Nat.lt_of_lt_of_le zy Sq.size
  replace HP : Hid (Rd w6_ w6_.heap.size A1 (pack X)) := HP.out.on Sq
  replace HQ : Hid (Rd w6_ w6_.heap.size A2 (pack Y)) := HQ.out.on Sq
  replace HR : Hid (Rd w6_ w6_.heap.size A3 (pack Z)) := HR.out.on Sq
  replace HB : Hid (Below w.heap.size w w6_) := HB.out.trans (Sq.mono HB.out.size)
  clear Bq Sq
  go_wp2
  go_ret
  exact ⟨rfl, HB.out⟩

theorem uapart_law (a b : Nat) (w : World) (_ : a < 18446744073709551616) (_ : b < 18446744073709551616) :
    Calls Try.prog 6 #[.int .u64 (a : Int), .int .u64 (b : Int)] w fun e w' => e = .returned (.bool true) ∧ Below w.heap.size w w' := by
  by_cases ha : 8192 ≤ a
  · exact uapart_no a b _ _ _ _ rfl rfl rfl rfl w (.inl (by rw [if_pos ha]; rfl))
  · by_cases hb : 8192 ≤ b
    · exact uapart_no a b _ _ _ _ rfl rfl rfl rfl w (.inr (.inl ⟨by rw [if_neg ha]; rfl, by rw [if_pos hb]; rfl⟩))
    · by_cases hab : b ≤ a
      · exact uapart_no a b _ _ _ _ rfl rfl rfl rfl w (.inr (.inr ⟨by rw [if_neg ha]; rfl, by rw [if_neg hb]; rfl, hab⟩))
      · exact uapart_ok a b _ _ _ (by omega) (by omega) rfl rfl rfl w
end Go.Proofs.Ytkbelhclcpepaaa
