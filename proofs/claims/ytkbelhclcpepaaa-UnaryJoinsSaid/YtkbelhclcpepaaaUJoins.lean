/- The law UnaryJoins: for whatever two lists of numbers it returns true and leaves them as they were. -/
import Derived.Test.YtkbelhclcpepaaaUBegun
import Derived.Test.YtkbelhclcpepaaaUApp
namespace Go.Proofs.Ytkbelhclcpepaaa
open Go.RowKit

/-- How many 1 bits there are. -/
def cnt (l : List Bool) : Nat := (l.map Bool.toNat).sum
theorem cnt_append (a b : List Bool) : cnt (a ++ b) = cnt a + cnt b := by simp [cnt]
theorem cnt_uc (n : Nat) : cnt (uc n) = 1 := by
  unfold uc
  rw [cnt_append]
  have : cnt (List.replicate n false) = 0 := by
    induction n with
    | zero => rfl
    | succ n ih => simp [List.replicate_succ, cnt]
  rw [this]; rfl
theorem cnt_ucs (ns : List Nat) : cnt (ucs ns) = ns.length := by
  induction ns with
  | nil => rfl
  | cons n ns ih =>
    have e : ucs (n :: ns) = uc n ++ ucs ns := rfl
    rw [e, cnt_append, cnt_uc, ih, List.length_cons]; omega
theorem cnt_succ (l : List Bool) (i : Nat) (h : i < l.length) : cnt (l.take (i + 1)) = cnt (l.take i) + (l[i]?.getD false).toNat := by
  rw [List.take_succ_eq_append_getElem h, cnt_append, List.getElem?_eq_getElem h]
  simp [cnt]
theorem cnt_le (l : List Bool) (i : Nat) : cnt (l.take i) ≤ i := by
  induction i with
  | zero => simp [cnt]
  | succ i ih =>
    by_cases h : i < l.length
    · rw [cnt_succ l i h]
      have := Bool.toNat_le (l[i]?.getD false)
      omega
    · rw [List.take_of_length_le (by omega)]
      rw [List.take_of_length_le (by omega)] at ih
      omega
def OnesRel (X : List Bool) (p q : Value) : Prop := ∃ i : Nat, i ≤ X.length ∧ p = .int .i64 (i : Int) ∧ q = .int .i64 (cnt (X.take i) : Int)

theorem bitList_l (l : List Bool) (hl : l.length ≤ 8192) (A : Option Addr) (c : Nat) (w : World) (h : Rd w w.heap.size A (pack l)) :
    Calls Try.prog 26 #[.agg #[.int .i64 (l.length : Int), .slice A (pack l).length c]] w fun e w' => ∃ B d, e = .returned (.slice B l.length d) ∧ RdV w' w'.heap.size B (ic l) ∧ Below w.heap.size w w' := by
  refine (bitList_any l.length hl A (pack l).length c (pack l) rfl (by rw [pack_length]; omega) (pack_lt l) w h l (unpack_pack l).symm).mono ?_
  rintro e w' ⟨B, d, rfl, ho, hb⟩
  exact ⟨B, d, rfl, own_rdv ho, hb⟩
theorem many_a (ns : List Nat) (A : Option Addr) (n c : Nat) (hn : ns.length = n) (hn2 : n ≤ 9223372036854775807) (e0 : Int) (L : List Bool) (he : manyE ns = e0) (hL : L = if manyE ns = 0 then ucs ns else []) (w : World) (h : RdV w w.heap.size A (nc ns)) :
    Calls Try.prog 21 #[.slice A n c] w (Gv w (L.length : Int) (pack L).length (pack L) e0) := by
  subst hn
  have h1 := many_any ns A c hn2 w h
  rw [← hL, he] at h1
  exact h1

set_option maxRecDepth 100000 in
set_option maxHeartbeats 2000000 in
theorem ujoins_ea (w : World) (ns ms : List Nat) (Al Bl : Option Addr) (cl dl : Nat) (hn2 : ns.length ≤ 9223372036854775807) (hm2 : ms.length ≤ 9223372036854775807) (hA : RdV w w.heap.size Al (nc ns)) (hB : RdV w w.heap.size Bl (nc ms)) (e0 : Int) (hea : manyE ns = e0) (h0 : e0 ≠ 0) (f0 : Int) (Lf : List Bool) (hf : manyE ms = f0) (hLf : Lf = if manyE ms = 0 then ucs ms else []) :
    Calls Try.prog 7 #[.slice Al ns.length cl, .slice Bl ms.length dl] w fun e w' => e = .returned (.bool true) ∧ Below w.heap.size w w' := by
  have HA := Lib.hid hA; clear hA
  have HBb := Lib.hid hB; clear hB
  have HEa := Lib.hid hea; clear hea
  have t0 : (e0 != 0) = true := by simpa using h0
  have t0' : (e0 == 0) = false := by simpa using h0
  have HE0 := Lib.hid h0; clear h0
  have HEf := Lib.hid hf; clear hf
  have HLf := Lib.hid hLf; clear hLf
  go_enter Try.func7, Try.ntmps7
  go_wp2_with fail
  refine (many_e ns Al ns.length cl rfl hn2 e0 HEa.out HE0.out _ HA.out).mono ?_
  rintro e w1_ ⟨A1, c1, rfl, Rq, Bq⟩
  have Sq : Below w.heap.size w w1_ := Bq
  replace HA : Hid (RdV w1_ w1_.heap.size Al (nc ns)) := HA.out.on Sq
  replace HBb : Hid (RdV w1_ w1_.heap.size Bl (nc ms)) := HBb.out.on Sq
  have HB : Hid (Below w.heap.size w w1_) := Sq
  clear Bq Sq
  have HP := Lib.hid Rq; clear Rq
  go_wp2_with fail
  refine (many_a ms Bl ms.length dl rfl hm2 f0 Lf HEf.out HLf.out _ (HBb.out.on (one_below w1_ _))).mono ?_
  rintro e w2_ ⟨A2, c2, rfl, Rq, Bq⟩
  rw [World.size_alloc] at Bq
  have Sq : Below w1_.heap.size w1_ w2_ := (one_below w1_ _).trans (Bq.mono (by omega))
  have zx : w1_.heap.size < w2_.heap.size := by have := Bq.size; rw [World.size_alloc] at this; omega
  obtain ⟨px, qx⟩ := box_at Bq
  replace HA : Hid (RdV w2_ w2_.heap.size Al (nc ns)) := HA.out.on Sq
  replace HBb : Hid (RdV w2_ w2_.heap.size Bl (nc ms)) := HBb.out.on Sq
  replace HP : Hid (Rd w2_ w2_.heap.size A1 (pack [])) := HP.out.on Sq
  replace HB : Hid (Below w.heap.size w w2_) := HB.out.trans (Sq.mono HB.out.size)
  clear Bq Sq
  have HQ := Lib.hid Rq; clear Rq
  go_wp2_with fail
  refine (ubegun_true _).mono ?_
  rintro e w3_ ⟨rfl, Bq⟩
  rw [World.size_alloc] at Bq
  have Sq : Below w2_.heap.size w2_ w3_ := (one_below w2_ _).trans (Bq.mono (by omega))
  have zy : w2_.heap.size < w3_.heap.size := by have := Bq.size; rw [World.size_alloc] at this; omega
  obtain ⟨py, qy⟩ := box_at Bq
  replace px := (Sq.cell (p := ⟨w1_.heap.size, 0, none⟩) zx).trans px
  replace qx := (Sq.cell (p := ⟨w1_.heap.size, 1, none⟩) zx).trans qx
  replace zx : w1_.heap.size < w3_.heap.size := Nat.lt_of_lt_of_le zx Sq.size
  replace HA : Hid (RdV w3_ w3_.heap.size Al (nc ns)) := HA.out.on Sq
  replace HBb : Hid (RdV w3_ w3_.heap.size Bl (nc ms)) := HBb.out.on Sq
  replace HP : Hid (Rd w3_ w3_.heap.size A1 (pack [])) := HP.out.on Sq
  replace HQ : Hid (Rd w3_ w3_.heap.size A2 (pack Lf)) := HQ.out.on Sq
  replace HB : Hid (Below w.heap.size w w3_) := HB.out.trans (Sq.mono HB.out.size)
  clear Bq Sq
  go_wp2_with fail
  refine (begun_true _).mono ?_
  rintro e w4_ ⟨rfl, Bq⟩
  have Sq : Below w3_.heap.size w3_ w4_ := Bq
  replace px := (Sq.cell (p := ⟨w1_.heap.size, 0, none⟩) zx).trans px
  replace qx := (Sq.cell (p := ⟨w1_.heap.size, 1, none⟩) zx).trans qx
  replace zx : w1_.heap.size < w4_.heap.size := Nat.lt_of_lt_of_le zx Sq.size
  replace py := (Sq.cell (p := ⟨w2_.heap.size, 0, none⟩) zy).trans py
  replace qy := (Sq.cell (p := ⟨w2_.heap.size, 1, none⟩) zy).trans qy
  replace zy : w2_.heap.size < w4_.heap.size := Nat.lt_of_lt_of_le zy Sq.size
  replace HA : Hid (RdV w4_ w4_.heap.size Al (nc ns)) := HA.out.on Sq
  replace HBb : Hid (RdV w4_ w4_.heap.size Bl (nc ms)) := HBb.out.on Sq
  replace HP : Hid (Rd w4_ w4_.heap.size A1 (pack [])) := HP.out.on Sq
  replace HQ : Hid (Rd w4_ w4_.heap.size A2 (pack Lf)) := HQ.out.on Sq
  replace HB : Hid (Below w.heap.size w w4_) := HB.out.trans (Sq.mono HB.out.size)
  clear Bq Sq
  go_wp2_with fail
  refine (same_0 A1 none c1 0 _ HP.out).mono ?_
  rintro e w5_ ⟨rfl, Bq⟩
  have Sq : Below w4_.heap.size w4_ w5_ := Bq
  replace px := (Sq.cell (p := ⟨w1_.heap.size, 0, none⟩) zx).trans px
  replace qx := (Sq.cell (p := ⟨w1_.heap.size, 1, none⟩) zx).trans qx
  replace zx : w1_.heap.size < w5_.heap.size := Nat.lt_of_lt_of_le zx Sq.size
  replace py := (Sq.cell (p := ⟨w2_.heap.size, 0, none⟩) zy).trans py
  replace qy := (Sq.cell (p := ⟨w2_.heap.size, 1, none⟩) zy).trans qy
  replace zy : w2_.heap.size < w5_.heap.size := Nat.lt_of_lt_of_le zy Sq.size
  replace HA : Hid (RdV w5_ w5_.heap.size Al (nc ns)) := HA.out.on Sq
  replace HBb : Hid (RdV w5_ w5_.heap.size Bl (nc ms)) := HBb.out.on Sq
  replace HP : Hid (Rd w5_ w5_.heap.size A1 (pack [])) := HP.out.on Sq
  replace HQ : Hid (Rd w5_ w5_.heap.size A2 (pack Lf)) := HQ.out.on Sq
  replace HB : Hid (Below w.heap.size w w5_) := HB.out.trans (Sq.mono HB.out.size)
  clear Bq Sq
  go_wp2
  go_ret
  exact ⟨rfl, HB.out⟩

set_option maxRecDepth 100000 in
set_option maxHeartbeats 2000000 in
theorem ujoins_eb (w : World) (ns ms : List Nat) (Al Bl : Option Addr) (cl dl : Nat) (hn2 : ns.length ≤ 9223372036854775807) (hm2 : ms.length ≤ 9223372036854775807) (hA : RdV w w.heap.size Al (nc ns)) (hB : RdV w w.heap.size Bl (nc ms)) (X : List Bool) (hea : manyE ns = 0) (hX : X = ucs ns) (f0 : Int) (heb : manyE ms = f0) (hf0 : f0 ≠ 0) :
    Calls Try.prog 7 #[.slice Al ns.length cl, .slice Bl ms.length dl] w fun e w' => e = .returned (.bool true) ∧ Below w.heap.size w w' := by
  have HA := Lib.hid hA; clear hA
  have HBb := Lib.hid hB; clear hB
  have HEa := Lib.hid hea; clear hea
  have HX := Lib.hid hX; clear hX
  have HEb := Lib.hid heb; clear heb
  have t0 : (f0 != 0) = true := by simpa using hf0
  have HF0 := Lib.hid hf0; clear hf0
  go_enter Try.func7, Try.ntmps7
  go_wp2_with fail
  refine (many_l ns X Al ns.length cl rfl hn2 HEa.out HX.out _ HA.out).mono ?_
  rintro e w1_ ⟨A1, c1, rfl, Rq, Bq⟩
  have Sq : Below w.heap.size w w1_ := Bq
  replace HA : Hid (RdV w1_ w1_.heap.size Al (nc ns)) := HA.out.on Sq
  replace HBb : Hid (RdV w1_ w1_.heap.size Bl (nc ms)) := HBb.out.on Sq
  have HB : Hid (Below w.heap.size w w1_) := Sq
  clear Bq Sq
  have HP := Lib.hid Rq; clear Rq
  go_wp2_with fail
  refine (many_e ms Bl ms.length dl rfl hm2 f0 HEb.out HF0.out _ (HBb.out.on (one_below w1_ _))).mono ?_
  rintro e w2_ ⟨A2, c2, rfl, Rq, Bq⟩
  rw [World.size_alloc] at Bq
  have Sq : Below w1_.heap.size w1_ w2_ := (one_below w1_ _).trans (Bq.mono (by omega))
  have zx : w1_.heap.size < w2_.heap.size := by have := Bq.size; rw [World.size_alloc] at this; omega
  obtain ⟨px, qx⟩ := box_at Bq
  replace HA : Hid (RdV w2_ w2_.heap.size Al (nc ns)) := HA.out.on Sq
  replace HBb : Hid (RdV w2_ w2_.heap.size Bl (nc ms)) := HBb.out.on Sq
  replace HP : Hid (Rd w2_ w2_.heap.size A1 (pack X)) := HP.out.on Sq
  replace HB : Hid (Below w.heap.size w w2_) := HB.out.trans (Sq.mono HB.out.size)
  clear Bq Sq
  have HQ := Lib.hid Rq; clear Rq
  go_wp2_with fail
  refine (ubegun_true _).mono ?_
  rintro e w3_ ⟨rfl, Bq⟩
  rw [World.size_alloc] at Bq
  have Sq : Below w2_.heap.size w2_ w3_ := (one_below w2_ _).trans (Bq.mono (by omega))
  have zy : w2_.heap.size < w3_.heap.size := by have := Bq.size; rw [World.size_alloc] at this; omega
  obtain ⟨py, qy⟩ := box_at Bq
  replace px := (Sq.cell (p := ⟨w1_.heap.size, 0, none⟩) zx).trans px
  replace qx := (Sq.cell (p := ⟨w1_.heap.size, 1, none⟩) zx).trans qx
  replace zx : w1_.heap.size < w3_.heap.size := Nat.lt_of_lt_of_le zx Sq.size
  replace HA : Hid (RdV w3_ w3_.heap.size Al (nc ns)) := HA.out.on Sq
  replace HBb : Hid (RdV w3_ w3_.heap.size Bl (nc ms)) := HBb.out.on Sq
  replace HP : Hid (Rd w3_ w3_.heap.size A1 (pack X)) := HP.out.on Sq
  replace HQ : Hid (Rd w3_ w3_.heap.size A2 (pack [])) := HQ.out.on Sq
  replace HB : Hid (Below w.heap.size w w3_) := HB.out.trans (Sq.mono HB.out.size)
  clear Bq Sq
  go_wp2_with fail
  refine (begun_true _).mono ?_
  rintro e w4_ ⟨rfl, Bq⟩
  have Sq : Below w3_.heap.size w3_ w4_ := Bq
  replace px := (Sq.cell (p := ⟨w1_.heap.size, 0, none⟩) zx).trans px
  replace qx := (Sq.cell (p := ⟨w1_.heap.size, 1, none⟩) zx).trans qx
  replace zx : w1_.heap.size < w4_.heap.size := Nat.lt_of_lt_of_le zx Sq.size
  replace py := (Sq.cell (p := ⟨w2_.heap.size, 0, none⟩) zy).trans py
  replace qy := (Sq.cell (p := ⟨w2_.heap.size, 1, none⟩) zy).trans qy
  replace zy : w2_.heap.size < w4_.heap.size := Nat.lt_of_lt_of_le zy Sq.size
  replace HA : Hid (RdV w4_ w4_.heap.size Al (nc ns)) := HA.out.on Sq
  replace HBb : Hid (RdV w4_ w4_.heap.size Bl (nc ms)) := HBb.out.on Sq
  replace HP : Hid (Rd w4_ w4_.heap.size A1 (pack X)) := HP.out.on Sq
  replace HQ : Hid (Rd w4_ w4_.heap.size A2 (pack [])) := HQ.out.on Sq
  replace HB : Hid (Below w.heap.size w w4_) := HB.out.trans (Sq.mono HB.out.size)
  clear Bq Sq
  go_wp2
  go_ret
  exact ⟨rfl, HB.out⟩

set_option maxRecDepth 100000 in
set_option maxHeartbeats 2000000 in
theorem ujoins_full (w : World) (ns ms : List Nat) (Al Bl : Option Addr) (cl dl : Nat) (hn2 : ns.length ≤ 9223372036854775807) (hm2 : ms.length ≤ 9223372036854775807) (hA : RdV w w.heap.size Al (nc ns)) (hB : RdV w w.heap.size Bl (nc ms)) (hcA : Al = none → cl = 0) (hcB : Bl = none → dl = 0) (X Y : List Bool) (hea : manyE ns = 0) (hX : X = ucs ns) (heb : manyE ms = 0) (hY : Y = ucs ms) (hfull : 8192 < X.length + Y.length) :
    Calls Try.prog 7 #[.slice Al ns.length cl, .slice Bl ms.length dl] w fun e w' => e = .returned (.bool true) ∧ Below w.heap.size w w' := by
  have HA := Lib.hid hA; clear hA
  have HBb := Lib.hid hB; clear hB
  have hXl := manyE_zero ns hea
  have hYl := manyE_zero ms heb
  have g1 := ucs_len_ge ns
  have g2 := ucs_len_ge ms
  rw [← hX] at hXl g1
  rw [← hY] at hYl g2
  have HNM : Hid ((ns ++ ms).length = ns.length + ms.length) := by show _ = _; rw [List.length_append]
  have HCX : Hid (cnt X = ns.length) := by show _ = _; rw [hX, cnt_ucs]
  have HcA := Lib.hid hcA; clear hcA
  have HcB := Lib.hid hcB; clear hcB
  have HEz : Hid (manyE (ns ++ ms) = 8) := by
    show _ = _
    unfold manyE at hea heb ⊢
    have ha : (ns ++ ms).any (fun n => decide (8192 ≤ n)) = false := by
      rw [List.any_append]
      split at hea
      · omega
      · split at heb
        · omega
        · rename_i h1 h2
          simp only [Bool.not_eq_true] at h1 h2
          rw [h1, h2]; rfl
    rw [ha, if_neg (by decide), if_pos (by rw [ucs_append, List.length_append, ← hX, ← hY]; exact hfull)]
  have HEa := Lib.hid hea; clear hea
  have HX := Lib.hid hX; clear hX
  have HEb := Lib.hid heb; clear heb
  have HY := Lib.hid hY; clear hY
  go_enter Try.func7, Try.ntmps7
  go_wp2_with fail
  refine (many_l ns X Al ns.length cl rfl hn2 HEa.out HX.out _ HA.out).mono ?_
  rintro e w1_ ⟨A1, c1, rfl, Rq, Bq⟩
  have Sq : Below w.heap.size w w1_ := Bq
  replace HA : Hid (RdV w1_ w1_.heap.size Al (nc ns)) := HA.out.on Sq
  replace HBb : Hid (RdV w1_ w1_.heap.size Bl (nc ms)) := HBb.out.on Sq
  have HB : Hid (Below w.heap.size w w1_) := Sq
  clear Bq Sq
  have HP := Lib.hid Rq; clear Rq
  go_wp2_with fail
  refine (many_l ms Y Bl ms.length dl rfl hm2 HEb.out HY.out _ (HBb.out.on (one_below w1_ _))).mono ?_
  rintro e w2_ ⟨A2, c2, rfl, Rq, Bq⟩
  rw [World.size_alloc] at Bq
  have Sq : Below w1_.heap.size w1_ w2_ := (one_below w1_ _).trans (Bq.mono (by omega))
  have zx : w1_.heap.size < w2_.heap.size := by have := Bq.size; rw [World.size_alloc] at this; omega
  obtain ⟨px, qx⟩ := box_at Bq
  replace HA : Hid (RdV w2_ w2_.heap.size Al (nc ns)) := HA.out.on Sq
  replace HBb : Hid (RdV w2_ w2_.heap.size Bl (nc ms)) := HBb.out.on Sq
  replace HP : Hid (Rd w2_ w2_.heap.size A1 (pack X)) := HP.out.on Sq
  replace HB : Hid (Below w.heap.size w w2_) := HB.out.trans (Sq.mono HB.out.size)
  clear Bq Sq
  have HQ := Lib.hid Rq; clear Rq
  go_wp2_with fail
  refine (ubegun_true _).mono ?_
  rintro e w3_ ⟨rfl, Bq⟩
  rw [World.size_alloc] at Bq
  have Sq : Below w2_.heap.size w2_ w3_ := (one_below w2_ _).trans (Bq.mono (by omega))
  have zy : w2_.heap.size < w3_.heap.size := by have := Bq.size; rw [World.size_alloc] at this; omega
  obtain ⟨py, qy⟩ := box_at Bq
  replace px := (Sq.cell (p := ⟨w1_.heap.size, 0, none⟩) zx).trans px
  replace qx := (Sq.cell (p := ⟨w1_.heap.size, 1, none⟩) zx).trans qx
  replace zx : w1_.heap.size < w3_.heap.size := Nat.lt_of_lt_of_le zx Sq.size
  replace HA : Hid (RdV w3_ w3_.heap.size Al (nc ns)) := HA.out.on Sq
  replace HBb : Hid (RdV w3_ w3_.heap.size Bl (nc ms)) := HBb.out.on Sq
  replace HP : Hid (Rd w3_ w3_.heap.size A1 (pack X)) := HP.out.on Sq
  replace HQ : Hid (Rd w3_ w3_.heap.size A2 (pack Y)) := HQ.out.on Sq
  replace HB : Hid (Below w.heap.size w w3_) := HB.out.trans (Sq.mono HB.out.size)
  clear Bq Sq
  go_wp2_with fail
  refine (begun_true _).mono ?_
  rintro e w4_ ⟨rfl, Bq⟩
  have Sq : Below w3_.heap.size w3_ w4_ := Bq
  replace px := (Sq.cell (p := ⟨w1_.heap.size, 0, none⟩) zx).trans px
  replace qx := (Sq.cell (p := ⟨w1_.heap.size, 1, none⟩) zx).trans qx
  replace zx : w1_.heap.size < w4_.heap.size := Nat.lt_of_lt_of_le zx Sq.size
  replace py := (Sq.cell (p := ⟨w2_.heap.size, 0, none⟩) zy).trans py
  replace qy := (Sq.cell (p := ⟨w2_.heap.size, 1, none⟩) zy).trans qy
  replace zy : w2_.heap.size < w4_.heap.size := Nat.lt_of_lt_of_le zy Sq.size
  replace HA : Hid (RdV w4_ w4_.heap.size Al (nc ns)) := HA.out.on Sq
  replace HBb : Hid (RdV w4_ w4_.heap.size Bl (nc ms)) := HBb.out.on Sq
  replace HP : Hid (Rd w4_ w4_.heap.size A1 (pack X)) := HP.out.on Sq
  replace HQ : Hid (Rd w4_ w4_.heap.size A2 (pack Y)) := HQ.out.on Sq
  replace HB : Hid (Below w.heap.size w w4_) := HB.out.trans (Sq.mono HB.out.size)
  clear Bq Sq
  have hWs : (w4_.alloc (.cells #[] 22)).heap.size = w4_.heap.size + 1 := World.size_alloc _ _
  have HR0 : Hid ((w4_.alloc (.cells #[] 22)).ownsRow w4_.heap.size 22 1 (.slice (some ⟨w4_.heap.size, 0, none⟩) 0 0) 0 []) := ⟨rfl, .inr ⟨w4_.heap.size, 0, #[], rfl, Nat.le_refl _, World.alloc_heap_new _ _, Nat.le_refl _, Nat.zero_le _, rfl, rfl⟩⟩
  have HB0 : Hid (Below w4_.heap.size w4_ (w4_.alloc (.cells #[] 22))) := one_below _ _
  clear hWs
  go_wp2_with (first | (at_builtin; refine app25 rfl _ _ rfl w4_.heap.size (.slice (some ⟨w4_.heap.size, 0, none⟩) 0 0) 0 [] rfl HR0.out Al ns.length cl (nc ns) rfl (HA.out.on HB0.out) (nc_length ns) (nc_one ns) HcA.out (by omega) (by have := HB0.out.size; omega) ?_; intro v1 x1 hown1 hgrow1; rw [Nat.zero_add, List.nil_append] at hown1; obtain ⟨Av1, cv1, rfl⟩ := own_slice25 hown1; have HO1 := Lib.hid hown1; have HG1 : Hid (Below w4_.heap.size w4_ x1) := (HB0.out.grown hgrow1 HB0.out.size (fun k hk => (HR0.out.lt k hk).1)); clear hown1 hgrow1) | (at_builtin; refine app25 rfl _ _ rfl w4_.heap.size (.slice Av1 ns.length cv1) ns.length (nc ns) rfl HO1.out Bl ms.length dl (nc ms) rfl (HBb.out.on HG1.out) (nc_length ms) (nc_one ms) HcB.out (by omega) (by have := HG1.out.size; omega) ?_; intro v2 x2 hown2 hgrow2; obtain ⟨Av2, cv2, rfl⟩ := own_slice25 hown2; have HO2 := Lib.hid hown2; have HG2 : Hid (Below w4_.heap.size w4_ x2) := (HG1.out.grown hgrow2 HG1.out.size (fun k hk => (HO1.out.lt k hk).1)); clear hown2 hgrow2))
  have Sq := HG2.out
  replace px := (Sq.cell (p := ⟨w1_.heap.size, 0, none⟩) zx).trans px
  replace qx := (Sq.cell (p := ⟨w1_.heap.size, 1, none⟩) zx).trans qx
  replace zx : w1_.heap.size < x2.heap.size := Nat.lt_of_lt_of_le zx Sq.size
  replace py := (Sq.cell (p := ⟨w2_.heap.size, 0, none⟩) zy).trans py
  replace qy := (Sq.cell (p := ⟨w2_.heap.size, 1, none⟩) zy).trans qy
  replace zy : w2_.heap.size < x2.heap.size := Nat.lt_of_lt_of_le zy Sq.size
  replace HA : Hid (RdV x2 x2.heap.size Al (nc ns)) := HA.out.on Sq
  replace HBb : Hid (RdV x2 x2.heap.size Bl (nc ms)) := HBb.out.on Sq
  replace HP : Hid (Rd x2 x2.heap.size A1 (pack X)) := HP.out.on Sq
  replace HQ : Hid (Rd x2 x2.heap.size A2 (pack Y)) := HQ.out.on Sq
  replace HB : Hid (Below w.heap.size w x2) := HB.out.trans (Sq.mono HB.out.size)
  clear Sq
  have HV2 : Hid (RdV x2 x2.heap.size Av2 (nc (ns ++ ms))) := by
    have := own_rdv HO2.out
    rw [← nc_append] at this
    exact this
  go_wp2_with fail
  refine (many_e (ns ++ ms) Av2 (ns.length + ms.length) cv2 HNM.out (by omega) 8 HEz.out (by decide) _ HV2.out).mono ?_
  rintro e w6_ ⟨A3, c3, rfl, Rq, Bq⟩
  have Sq : Below x2.heap.size x2 w6_ := Bq
  replace px := (Sq.cell (p := ⟨w1_.heap.size, 0, none⟩) zx).trans px
  replace qx := (Sq.cell (p := ⟨w1_.heap.size, 1, none⟩) zx).trans qx
  replace zx : w1_.heap.size < w6_.heap.size := Nat.lt_of_lt_of_le zx Sq.size
  replace py := (Sq.cell (p := ⟨w2_.heap.size, 0, none⟩) zy).trans py
  replace qy := (Sq.cell (p := ⟨w2_.heap.size, 1, none⟩) zy).trans qy
  replace zy : w2_.heap.size < w6_.heap.size := Nat.lt_of_lt_of_le zy Sq.size
  replace HA : Hid (RdV w6_ w6_.heap.size Al (nc ns)) := HA.out.on Sq
  replace HBb : Hid (RdV w6_ w6_.heap.size Bl (nc ms)) := HBb.out.on Sq
  replace HP : Hid (Rd w6_ w6_.heap.size A1 (pack X)) := HP.out.on Sq
  replace HQ : Hid (Rd w6_ w6_.heap.size A2 (pack Y)) := HQ.out.on Sq
  replace HV2 : Hid (RdV w6_ w6_.heap.size Av2 (nc (ns ++ ms))) := HV2.out.on Sq
  replace HB : Hid (Below w.heap.size w w6_) := HB.out.trans (Sq.mono HB.out.size)
  clear Bq Sq
  have HZ := Lib.hid Rq; clear Rq
  go_wp2_with fail
  refine (join_l8 X Y (by omega) (by omega) A1 A2 c1 c2 (by omega) _ (HP.out.on (one_below w6_ _)) (HQ.out.on (one_below w6_ _))).mono ?_
  rintro e w7_ ⟨A4, c4, rfl, Rq, Bq⟩
  rw [World.size_alloc] at Bq
  have Sq : Below w6_.heap.size w6_ w7_ := (one_below w6_ _).trans (Bq.mono (by omega))
  have zz : w6_.heap.size < w7_.heap.size := by have := Bq.size; rw [World.size_alloc] at this; omega
  obtain ⟨pz, qz⟩ := box_at Bq
  replace px := (Sq.cell (p := ⟨w1_.heap.size, 0, none⟩) zx).trans px
  replace qx := (Sq.cell (p := ⟨w1_.heap.size, 1, none⟩) zx).trans qx
  replace zx : w1_.heap.size < w7_.heap.size := Nat.lt_of_lt_of_le zx Sq.size
  replace py := (Sq.cell (p := ⟨w2_.heap.size, 0, none⟩) zy).trans py
  replace qy := (Sq.cell (p := ⟨w2_.heap.size, 1, none⟩) zy).trans qy
  replace zy : w2_.heap.size < w7_.heap.size := Nat.lt_of_lt_of_le zy Sq.size
  replace HA : Hid (RdV w7_ w7_.heap.size Al (nc ns)) := HA.out.on Sq
  replace HBb : Hid (RdV w7_ w7_.heap.size Bl (nc ms)) := HBb.out.on Sq
  replace HP : Hid (Rd w7_ w7_.heap.size A1 (pack X)) := HP.out.on Sq
  replace HQ : Hid (Rd w7_ w7_.heap.size A2 (pack Y)) := HQ.out.on Sq
  replace HV2 : Hid (RdV w7_ w7_.heap.size Av2 (nc (ns ++ ms))) := HV2.out.on Sq
  replace HZ : Hid (Rd w7_ w7_.heap.size A3 (pack [])) := HZ.out.on Sq
  replace HB : Hid (Below w.heap.size w w7_) := HB.out.trans (Sq.mono HB.out.size)
  clear Bq Sq
  have HW := Lib.hid Rq; clear Rq
  go_wp2_with fail
  refine (bitList_l X (by omega) A1 c1 _ (HP.out.on (one_below w7_ _))).mono ?_
  rintro e w8_ ⟨A5, c5, rfl, Rq, Bq⟩
  rw [World.size_alloc] at Bq
  have Sq : Below w7_.heap.size w7_ w8_ := (one_below w7_ _).trans (Bq.mono (by omega))
  have zw : w7_.heap.size < w8_.heap.size := by have := Bq.size; rw [World.size_alloc] at this; omega
  obtain ⟨pw, qw⟩ := box_at Bq
  replace px := (Sq.cell (p := ⟨w1_.heap.size, 0, none⟩) zx).trans px
  replace qx := (Sq.cell (p := ⟨w1_.heap.size, 1, none⟩) zx).trans qx
  replace zx : w1_.heap.size < w8_.heap.size := Nat.lt_of_lt_of_le zx Sq.size
  replace py := (Sq.cell (p := ⟨w2_.heap.size, 0, none⟩) zy).trans py
  replace qy := (Sq.cell (p := ⟨w2_.heap.size, 1, none⟩) zy).trans qy
  replace zy : w2_.heap.size < w8_.heap.size := Nat.lt_of_lt_of_le zy Sq.size
  replace pz := (Sq.cell (p := ⟨w6_.heap.size, 0, none⟩) zz).trans pz
  replace qz := (Sq.cell (p := ⟨w6_.heap.size, 1, none⟩) zz).trans qz
  replace zz : w6_.heap.size < w8_.heap.size := Nat.lt_of_lt_of_le zz Sq.size
  replace HA : Hid (RdV w8_ w8_.heap.size Al (nc ns)) := HA.out.on Sq
  replace HBb : Hid (RdV w8_ w8_.heap.size Bl (nc ms)) := HBb.out.on Sq
  replace HP : Hid (Rd w8_ w8_.heap.size A1 (pack X)) := HP.out.on Sq
  replace HQ : Hid (Rd w8_ w8_.heap.size A2 (pack Y)) := HQ.out.on Sq
  replace HV2 : Hid (RdV w8_ w8_.heap.size Av2 (nc (ns ++ ms))) := HV2.out.on Sq
  replace HZ : Hid (Rd w8_ w8_.heap.size A3 (pack [])) := HZ.out.on Sq
  replace HW : Hid (Rd w8_ w8_.heap.size A4 (pack [])) := HW.out.on Sq
  replace HB : Hid (Below w.heap.size w w8_) := HB.out.trans (Sq.mono HB.out.size)
  clear Bq Sq
  have HI := Lib.hid Rq; clear Rq
  go_wp2
  go_loop [63, 13] (fun p q => OnesRel X p q) (fun p _ => X.length - (intOf p).toNat)
  case atStart => exact ⟨0, Nat.zero_le _, rfl, rfl⟩
  case round =>
    obtain ⟨i, hi, rfl, rfl⟩ := hrel
    by_cases hlt : i < X.length
    · obtain ⟨b5, o5, rfl, hb5, hc5⟩ := HI.out.at_ (ic_get X i hlt)
      have HCn := Lib.hid (cnt_succ X i hlt)
      have hcl := cnt_le X i
      have hbl := Bool.toNat_le (X[i]?.getD false)
      generalize X[i]?.getD false = bt at *
      generalize cnt (X.take i) = cn at *
      go_wp2
      go_round
      case rel => exact ⟨i + 1, by omega, by go_num, by rw [HCn.out]; go_num⟩
      case measure => simp [intOf]; omega
    · have HCe : Hid (cnt (X.take i) = ns.length) := by
        show _ = _
        rw [List.take_of_length_le (by omega)]; exact HCX.out
      have tc : ((cnt (X.take i) : Int) == (ns.length : Int)) = true := by rw [HCe.out]; simp
      generalize cnt (X.take i) = cn at *
      go_wp2_with fail
      refine (same_0 A3 A4 c3 c4 _ HZ.out).mono ?_
      rintro e w19_ ⟨rfl, Bq⟩
      have Sq : Below w8_.heap.size w8_ w19_ := Bq
      replace px := (Sq.cell (p := ⟨w1_.heap.size, 0, none⟩) zx).trans px
      replace qx := (Sq.cell (p := ⟨w1_.heap.size, 1, none⟩) zx).trans qx
      replace zx : w1_.heap.size < w19_.heap.size := Nat.lt_of_lt_of_le zx Sq.size
      replace py := (Sq.cell (p := ⟨w2_.heap.size, 0, none⟩) zy).trans py
      replace qy := (Sq.cell (p := ⟨w2_.heap.size, 1, none⟩) zy).trans qy
      replace zy : w2_.heap.size < w19_.heap.size := Nat.lt_of_lt_of_le zy Sq.size
      replace pz := (Sq.cell (p := ⟨w6_.heap.size, 0, none⟩) zz).trans pz
      replace qz := (Sq.cell (p := ⟨w6_.heap.size, 1, none⟩) zz).trans qz
      replace zz : w6_.heap.size < w19_.heap.size := Nat.lt_of_lt_of_le zz Sq.size
      replace pw := (Sq.cell (p := ⟨w7_.heap.size, 0, none⟩) zw).trans pw
      replace qw := (Sq.cell (p := ⟨w7_.heap.size, 1, none⟩) zw).trans qw
      replace zw : w7_.heap.size < w19_.heap.size := Nat.lt_of_lt_of_le zw Sq.size
      replace HA : Hid (RdV w19_ w19_.heap.size Al (nc ns)) := HA.out.on Sq
      replace HBb : Hid (RdV w19_ w19_.heap.size Bl (nc ms)) := HBb.out.on Sq
      replace HP : Hid (Rd w19_ w19_.heap.size A1 (pack X)) := HP.out.on Sq
      replace HQ : Hid (Rd w19_ w19_.heap.size A2 (pack Y)) := HQ.out.on Sq
      replace HV2 : Hid (RdV w19_ w19_.heap.size Av2 (nc (ns ++ ms))) := HV2.out.on Sq
      replace HZ : Hid (Rd w19_ w19_.heap.size A3 (pack [])) := HZ.out.on Sq
      replace HW : Hid (Rd w19_ w19_.heap.size A4 (pack [])) := HW.out.on Sq
      replace HI : Hid (RdV w19_ w19_.heap.size A5 (ic X)) := HI.out.on Sq
      replace HB : Hid (Below w.heap.size w w19_) := HB.out.trans (Sq.mono HB.out.size)
      clear Bq Sq
      go_wp2
      go_ret
      exact ⟨rfl, HB.out⟩

set_option maxRecDepth 100000 in
set_option maxHeartbeats 2000000 in
theorem ujoins_ok (w : World) (ns ms : List Nat) (Al Bl : Option Addr) (cl dl : Nat) (hn2 : ns.length ≤ 9223372036854775807) (hm2 : ms.length ≤ 9223372036854775807) (hA : RdV w w.heap.size Al (nc ns)) (hB : RdV w w.heap.size Bl (nc ms)) (hcA : Al = none → cl = 0) (hcB : Bl = none → dl = 0) (X Y : List Bool) (hea : manyE ns = 0) (hX : X = ucs ns) (heb : manyE ms = 0) (hY : Y = ucs ms) (Z : List Bool) (hroom : X.length + Y.length ≤ 8192) (hZ : Z = X ++ Y) :
    Calls Try.prog 7 #[.slice Al ns.length cl, .slice Bl ms.length dl] w fun e w' => e = .returned (.bool true) ∧ Below w.heap.size w w' := by
  have HA := Lib.hid hA; clear hA
  have HBb := Lib.hid hB; clear hB
  have hXl := manyE_zero ns hea
  have hYl := manyE_zero ms heb
  have g1 := ucs_len_ge ns
  have g2 := ucs_len_ge ms
  rw [← hX] at hXl g1
  rw [← hY] at hYl g2
  have HNM : Hid ((ns ++ ms).length = ns.length + ms.length) := by show _ = _; rw [List.length_append]
  have HCX : Hid (cnt X = ns.length) := by show _ = _; rw [hX, cnt_ucs]
  have HcA := Lib.hid hcA; clear hcA
  have HcB := Lib.hid hcB; clear hcB
  have HEz : Hid (manyE (ns ++ ms) = 0) := manyE_of_len _ (by rw [ucs_append, List.length_append, ← hX, ← hY]; exact hroom)
  have HZ0 : Hid (Z = ucs (ns ++ ms)) := by show Z = _; rw [ucs_append, ← hX, ← hY]; exact hZ
  have hZl : Z.length ≤ 8192 := by rw [hZ, List.length_append]; omega
  have HZ1 := Lib.hid hZ; clear hZ
  have HEa := Lib.hid hea; clear hea
  have HX := Lib.hid hX; clear hX
  have HEb := Lib.hid heb; clear heb
  have HY := Lib.hid hY; clear hY
  go_enter Try.func7, Try.ntmps7
  go_wp2_with fail
  refine (many_l ns X Al ns.length cl rfl hn2 HEa.out HX.out _ HA.out).mono ?_
  rintro e w1_ ⟨A1, c1, rfl, Rq, Bq⟩
  have Sq : Below w.heap.size w w1_ := Bq
  replace HA : Hid (RdV w1_ w1_.heap.size Al (nc ns)) := HA.out.on Sq
  replace HBb : Hid (RdV w1_ w1_.heap.size Bl (nc ms)) := HBb.out.on Sq
  have HB : Hid (Below w.heap.size w w1_) := Sq
  clear Bq Sq
  have HP := Lib.hid Rq; clear Rq
  go_wp2_with fail
  refine (many_l ms Y Bl ms.length dl rfl hm2 HEb.out HY.out _ (HBb.out.on (one_below w1_ _))).mono ?_
  rintro e w2_ ⟨A2, c2, rfl, Rq, Bq⟩
  rw [World.size_alloc] at Bq
  have Sq : Below w1_.heap.size w1_ w2_ := (one_below w1_ _).trans (Bq.mono (by omega))
  have zx : w1_.heap.size < w2_.heap.size := by have := Bq.size; rw [World.size_alloc] at this; omega
  obtain ⟨px, qx⟩ := box_at Bq
  replace HA : Hid (RdV w2_ w2_.heap.size Al (nc ns)) := HA.out.on Sq
  replace HBb : Hid (RdV w2_ w2_.heap.size Bl (nc ms)) := HBb.out.on Sq
  replace HP : Hid (Rd w2_ w2_.heap.size A1 (pack X)) := HP.out.on Sq
  replace HB : Hid (Below w.heap.size w w2_) := HB.out.trans (Sq.mono HB.out.size)
  clear Bq Sq
  have HQ := Lib.hid Rq; clear Rq
  go_wp2_with fail
  refine (ubegun_true _).mono ?_
  rintro e w3_ ⟨rfl, Bq⟩
  rw [World.size_alloc] at Bq
  have Sq : Below w2_.heap.size w2_ w3_ := (one_below w2_ _).trans (Bq.mono (by omega))
  have zy : w2_.heap.size < w3_.heap.size := by have := Bq.size; rw [World.size_alloc] at this; omega
  obtain ⟨py, qy⟩ := box_at Bq
  replace px := (Sq.cell (p := ⟨w1_.heap.size, 0, none⟩) zx).trans px
  replace qx := (Sq.cell (p := ⟨w1_.heap.size, 1, none⟩) zx).trans qx
  replace zx : w1_.heap.size < w3_.heap.size := Nat.lt_of_lt_of_le zx Sq.size
  replace HA : Hid (RdV w3_ w3_.heap.size Al (nc ns)) := HA.out.on Sq
  replace HBb : Hid (RdV w3_ w3_.heap.size Bl (nc ms)) := HBb.out.on Sq
  replace HP : Hid (Rd w3_ w3_.heap.size A1 (pack X)) := HP.out.on Sq
  replace HQ : Hid (Rd w3_ w3_.heap.size A2 (pack Y)) := HQ.out.on Sq
  replace HB : Hid (Below w.heap.size w w3_) := HB.out.trans (Sq.mono HB.out.size)
  clear Bq Sq
  go_wp2_with fail
  refine (begun_true _).mono ?_
  rintro e w4_ ⟨rfl, Bq⟩
  have Sq : Below w3_.heap.size w3_ w4_ := Bq
  replace px := (Sq.cell (p := ⟨w1_.heap.size, 0, none⟩) zx).trans px
  replace qx := (Sq.cell (p := ⟨w1_.heap.size, 1, none⟩) zx).trans qx
  replace zx : w1_.heap.size < w4_.heap.size := Nat.lt_of_lt_of_le zx Sq.size
  replace py := (Sq.cell (p := ⟨w2_.heap.size, 0, none⟩) zy).trans py
  replace qy := (Sq.cell (p := ⟨w2_.heap.size, 1, none⟩) zy).trans qy
  replace zy : w2_.heap.size < w4_.heap.size := Nat.lt_of_lt_of_le zy Sq.size
  replace HA : Hid (RdV w4_ w4_.heap.size Al (nc ns)) := HA.out.on Sq
  replace HBb : Hid (RdV w4_ w4_.heap.size Bl (nc ms)) := HBb.out.on Sq
  replace HP : Hid (Rd w4_ w4_.heap.size A1 (pack X)) := HP.out.on Sq
  replace HQ : Hid (Rd w4_ w4_.heap.size A2 (pack Y)) := HQ.out.on Sq
  replace HB : Hid (Below w.heap.size w w4_) := HB.out.trans (Sq.mono HB.out.size)
  clear Bq Sq
  have hWs : (w4_.alloc (.cells #[] 22)).heap.size = w4_.heap.size + 1 := World.size_alloc _ _
  have HR0 : Hid ((w4_.alloc (.cells #[] 22)).ownsRow w4_.heap.size 22 1 (.slice (some ⟨w4_.heap.size, 0, none⟩) 0 0) 0 []) := ⟨rfl, .inr ⟨w4_.heap.size, 0, #[], rfl, Nat.le_refl _, World.alloc_heap_new _ _, Nat.le_refl _, Nat.zero_le _, rfl, rfl⟩⟩
  have HB0 : Hid (Below w4_.heap.size w4_ (w4_.alloc (.cells #[] 22))) := one_below _ _
  clear hWs
  go_wp2_with (first | (at_builtin; refine app25 rfl _ _ rfl w4_.heap.size (.slice (some ⟨w4_.heap.size, 0, none⟩) 0 0) 0 [] rfl HR0.out Al ns.length cl (nc ns) rfl (HA.out.on HB0.out) (nc_length ns) (nc_one ns) HcA.out (by omega) (by have := HB0.out.size; omega) ?_; intro v1 x1 hown1 hgrow1; rw [Nat.zero_add, List.nil_append] at hown1; obtain ⟨Av1, cv1, rfl⟩ := own_slice25 hown1; have HO1 := Lib.hid hown1; have HG1 : Hid (Below w4_.heap.size w4_ x1) := (HB0.out.grown hgrow1 HB0.out.size (fun k hk => (HR0.out.lt k hk).1)); clear hown1 hgrow1) | (at_builtin; refine app25 rfl _ _ rfl w4_.heap.size (.slice Av1 ns.length cv1) ns.length (nc ns) rfl HO1.out Bl ms.length dl (nc ms) rfl (HBb.out.on HG1.out) (nc_length ms) (nc_one ms) HcB.out (by omega) (by have := HG1.out.size; omega) ?_; intro v2 x2 hown2 hgrow2; obtain ⟨Av2, cv2, rfl⟩ := own_slice25 hown2; have HO2 := Lib.hid hown2; have HG2 : Hid (Below w4_.heap.size w4_ x2) := (HG1.out.grown hgrow2 HG1.out.size (fun k hk => (HO1.out.lt k hk).1)); clear hown2 hgrow2))
  have Sq := HG2.out
  replace px := (Sq.cell (p := ⟨w1_.heap.size, 0, none⟩) zx).trans px
  replace qx := (Sq.cell (p := ⟨w1_.heap.size, 1, none⟩) zx).trans qx
  replace zx : w1_.heap.size < x2.heap.size := Nat.lt_of_lt_of_le zx Sq.size
  replace py := (Sq.cell (p := ⟨w2_.heap.size, 0, none⟩) zy).trans py
  replace qy := (Sq.cell (p := ⟨w2_.heap.size, 1, none⟩) zy).trans qy
  replace zy : w2_.heap.size < x2.heap.size := Nat.lt_of_lt_of_le zy Sq.size
  replace HA : Hid (RdV x2 x2.heap.size Al (nc ns)) := HA.out.on Sq
  replace HBb : Hid (RdV x2 x2.heap.size Bl (nc ms)) := HBb.out.on Sq
  replace HP : Hid (Rd x2 x2.heap.size A1 (pack X)) := HP.out.on Sq
  replace HQ : Hid (Rd x2 x2.heap.size A2 (pack Y)) := HQ.out.on Sq
  replace HB : Hid (Below w.heap.size w x2) := HB.out.trans (Sq.mono HB.out.size)
  clear Sq
  have HV2 : Hid (RdV x2 x2.heap.size Av2 (nc (ns ++ ms))) := by
    have := own_rdv HO2.out
    rw [← nc_append] at this
    exact this
  go_wp2_with fail
  refine (many_l (ns ++ ms) Z Av2 (ns.length + ms.length) cv2 HNM.out (by omega) HEz.out HZ0.out _ HV2.out).mono ?_
  rintro e w6_ ⟨A3, c3, rfl, Rq, Bq⟩
  have Sq : Below x2.heap.size x2 w6_ := Bq
  replace px := (Sq.cell (p := ⟨w1_.heap.size, 0, none⟩) zx).trans px
  replace qx := (Sq.cell (p := ⟨w1_.heap.size, 1, none⟩) zx).trans qx
  replace zx : w1_.heap.size < w6_.heap.size := Nat.lt_of_lt_of_le zx Sq.size
  replace py := (Sq.cell (p := ⟨w2_.heap.size, 0, none⟩) zy).trans py
  replace qy := (Sq.cell (p := ⟨w2_.heap.size, 1, none⟩) zy).trans qy
  replace zy : w2_.heap.size < w6_.heap.size := Nat.lt_of_lt_of_le zy Sq.size
  replace HA : Hid (RdV w6_ w6_.heap.size Al (nc ns)) := HA.out.on Sq
  replace HBb : Hid (RdV w6_ w6_.heap.size Bl (nc ms)) := HBb.out.on Sq
  replace HP : Hid (Rd w6_ w6_.heap.size A1 (pack X)) := HP.out.on Sq
  replace HQ : Hid (Rd w6_ w6_.heap.size A2 (pack Y)) := HQ.out.on Sq
  replace HV2 : Hid (RdV w6_ w6_.heap.size Av2 (nc (ns ++ ms))) := HV2.out.on Sq
  replace HB : Hid (Below w.heap.size w w6_) := HB.out.trans (Sq.mono HB.out.size)
  clear Bq Sq
  have HZ := Lib.hid Rq; clear Rq
  go_wp2_with fail
  refine (join_l X Y Z A1 A2 c1 c2 (by omega) HZ1.out _ (HP.out.on (one_below w6_ _)) (HQ.out.on (one_below w6_ _))).mono ?_
  rintro e w7_ ⟨A4, c4, rfl, Rq, Bq⟩
  rw [World.size_alloc] at Bq
  have Sq : Below w6_.heap.size w6_ w7_ := (one_below w6_ _).trans (Bq.mono (by omega))
  have zz : w6_.heap.size < w7_.heap.size := by have := Bq.size; rw [World.size_alloc] at this; omega
  obtain ⟨pz, qz⟩ := box_at Bq
  replace px := (Sq.cell (p := ⟨w1_.heap.size, 0, none⟩) zx).trans px
  replace qx := (Sq.cell (p := ⟨w1_.heap.size, 1, none⟩) zx).trans qx
  replace zx : w1_.heap.size < w7_.heap.size := Nat.lt_of_lt_of_le zx Sq.size
  replace py := (Sq.cell (p := ⟨w2_.heap.size, 0, none⟩) zy).trans py
  replace qy := (Sq.cell (p := ⟨w2_.heap.size, 1, none⟩) zy).trans qy
  replace zy : w2_.heap.size < w7_.heap.size := Nat.lt_of_lt_of_le zy Sq.size
  replace HA : Hid (RdV w7_ w7_.heap.size Al (nc ns)) := HA.out.on Sq
  replace HBb : Hid (RdV w7_ w7_.heap.size Bl (nc ms)) := HBb.out.on Sq
  replace HP : Hid (Rd w7_ w7_.heap.size A1 (pack X)) := HP.out.on Sq
  replace HQ : Hid (Rd w7_ w7_.heap.size A2 (pack Y)) := HQ.out.on Sq
  replace HV2 : Hid (RdV w7_ w7_.heap.size Av2 (nc (ns ++ ms))) := HV2.out.on Sq
  replace HZ : Hid (Rd w7_ w7_.heap.size A3 (pack Z)) := HZ.out.on Sq
  replace HB : Hid (Below w.heap.size w w7_) := HB.out.trans (Sq.mono HB.out.size)
  clear Bq Sq
  have HW := Lib.hid Rq; clear Rq
  go_wp2_with fail
  refine (bitList_l X (by omega) A1 c1 _ (HP.out.on (one_below w7_ _))).mono ?_
  rintro e w8_ ⟨A5, c5, rfl, Rq, Bq⟩
  rw [World.size_alloc] at Bq
  have Sq : Below w7_.heap.size w7_ w8_ := (one_below w7_ _).trans (Bq.mono (by omega))
  have zw : w7_.heap.size < w8_.heap.size := by have := Bq.size; rw [World.size_alloc] at this; omega
  obtain ⟨pw, qw⟩ := box_at Bq
  replace px := (Sq.cell (p := ⟨w1_.heap.size, 0, none⟩) zx).trans px
  replace qx := (Sq.cell (p := ⟨w1_.heap.size, 1, none⟩) zx).trans qx
  replace zx : w1_.heap.size < w8_.heap.size := Nat.lt_of_lt_of_le zx Sq.size
  replace py := (Sq.cell (p := ⟨w2_.heap.size, 0, none⟩) zy).trans py
  replace qy := (Sq.cell (p := ⟨w2_.heap.size, 1, none⟩) zy).trans qy
  replace zy : w2_.heap.size < w8_.heap.size := Nat.lt_of_lt_of_le zy Sq.size
  replace pz := (Sq.cell (p := ⟨w6_.heap.size, 0, none⟩) zz).trans pz
  replace qz := (Sq.cell (p := ⟨w6_.heap.size, 1, none⟩) zz).trans qz
  replace zz : w6_.heap.size < w8_.heap.size := Nat.lt_of_lt_of_le zz Sq.size
  replace HA : Hid (RdV w8_ w8_.heap.size Al (nc ns)) := HA.out.on Sq
  replace HBb : Hid (RdV w8_ w8_.heap.size Bl (nc ms)) := HBb.out.on Sq
  replace HP : Hid (Rd w8_ w8_.heap.size A1 (pack X)) := HP.out.on Sq
  replace HQ : Hid (Rd w8_ w8_.heap.size A2 (pack Y)) := HQ.out.on Sq
  replace HV2 : Hid (RdV w8_ w8_.heap.size Av2 (nc (ns ++ ms))) := HV2.out.on Sq
  replace HZ : Hid (Rd w8_ w8_.heap.size A3 (pack Z)) := HZ.out.on Sq
  replace HW : Hid (Rd w8_ w8_.heap.size A4 (pack Z)) := HW.out.on Sq
  replace HB : Hid (Below w.heap.size w w8_) := HB.out.trans (Sq.mono HB.out.size)
  clear Bq Sq
  have HI := Lib.hid Rq; clear Rq
  go_wp2
  go_loop [63, 13] (fun p q => OnesRel X p q) (fun p _ => X.length - (intOf p).toNat)
  case atStart => exact ⟨0, Nat.zero_le _, rfl, rfl⟩
  case round =>
    obtain ⟨i, hi, rfl, rfl⟩ := hrel
    by_cases hlt : i < X.length
    · obtain ⟨b5, o5, rfl, hb5, hc5⟩ := HI.out.at_ (ic_get X i hlt)
      have HCn := Lib.hid (cnt_succ X i hlt)
      have hcl := cnt_le X i
      have hbl := Bool.toNat_le (X[i]?.getD false)
      generalize X[i]?.getD false = bt at *
      generalize cnt (X.take i) = cn at *
      go_wp2
      go_round
      case rel => exact ⟨i + 1, by omega, by go_num, by rw [HCn.out]; go_num⟩
      case measure => simp [intOf]; omega
    · have HCe : Hid (cnt (X.take i) = ns.length) := by
        show _ = _
        rw [List.take_of_length_le (by omega)]; exact HCX.out
      have tc : ((cnt (X.take i) : Int) == (ns.length : Int)) = true := by rw [HCe.out]; simp
      generalize cnt (X.take i) = cn at *
      go_wp2_with fail
      refine (same_l Z (by omega) A3 A4 c3 c4 _ HZ.out HW.out).mono ?_
      rintro e w19_ ⟨rfl, Bq⟩
      have Sq : Below w8_.heap.size w8_ w19_ := Bq
      replace px := (Sq.cell (p := ⟨w1_.heap.size, 0, none⟩) zx).trans px
      replace qx := (Sq.cell (p := ⟨w1_.heap.size, 1, none⟩) zx).trans qx
      replace zx : w1_.heap.size < w19_.heap.size := Nat.lt_of_lt_of_le zx Sq.size
      replace py := (Sq.cell (p := ⟨w2_.heap.size, 0, none⟩) zy).trans py
      replace qy := (Sq.cell (p := ⟨w2_.heap.size, 1, none⟩) zy).trans qy
      replace zy : w2_.heap.size < w19_.heap.size := Nat.lt_of_lt_of_le zy Sq.size
      replace pz := (Sq.cell (p := ⟨w6_.heap.size, 0, none⟩) zz).trans pz
      replace qz := (Sq.cell (p := ⟨w6_.heap.size, 1, none⟩) zz).trans qz
      replace zz : w6_.heap.size < w19_.heap.size := Nat.lt_of_lt_of_le zz Sq.size
      replace pw := (Sq.cell (p := ⟨w7_.heap.size, 0, none⟩) zw).trans pw
      replace qw := (Sq.cell (p := ⟨w7_.heap.size, 1, none⟩) zw).trans qw
      replace zw : w7_.heap.size < w19_.heap.size := Nat.lt_of_lt_of_le zw Sq.size
      replace HA : Hid (RdV w19_ w19_.heap.size Al (nc ns)) := HA.out.on Sq
      replace HBb : Hid (RdV w19_ w19_.heap.size Bl (nc ms)) := HBb.out.on Sq
      replace HP : Hid (Rd w19_ w19_.heap.size A1 (pack X)) := HP.out.on Sq
      replace HQ : Hid (Rd w19_ w19_.heap.size A2 (pack Y)) := HQ.out.on Sq
      replace HV2 : Hid (RdV w19_ w19_.heap.size Av2 (nc (ns ++ ms))) := HV2.out.on Sq
      replace HZ : Hid (Rd w19_ w19_.heap.size A3 (pack Z)) := HZ.out.on Sq
      replace HW : Hid (Rd w19_ w19_.heap.size A4 (pack Z)) := HW.out.on Sq
      replace HI : Hid (RdV w19_ w19_.heap.size A5 (ic X)) := HI.out.on Sq
      replace HB : Hid (Below w.heap.size w w19_) := HB.out.trans (Sq.mono HB.out.size)
      clear Bq Sq
      go_wp2
      go_ret
      exact ⟨rfl, HB.out⟩


theorem ujoins_law (Al : Option Addr) (cl : Nat) (ns : List Nat) (Bl : Option Addr) (dl : Nat) (ms : List Nat) (w : World) (hcA : Al = none → cl = 0) (hA : RdV w w.heap.size Al (nc ns)) (hn2 : ns.length ≤ 9223372036854775807) (hcB : Bl = none → dl = 0) (hB : RdV w w.heap.size Bl (nc ms)) (hm2 : ms.length ≤ 9223372036854775807) :
    Calls Try.prog 7 #[.slice Al ns.length cl, .slice Bl ms.length dl] w fun e w' => e = .returned (.bool true) ∧ Below w.heap.size w w' := by
  by_cases hea : manyE ns = 0
  · by_cases heb : manyE ms = 0
    · by_cases hf : 8192 < (ucs ns).length + (ucs ms).length
      · exact ujoins_full w ns ms Al Bl cl dl hn2 hm2 hA hB hcA hcB _ _ hea rfl heb rfl hf
      · exact ujoins_ok w ns ms Al Bl cl dl hn2 hm2 hA hB hcA hcB _ _ hea rfl heb rfl _ (by omega) rfl
    · exact ujoins_eb w ns ms Al Bl cl dl hn2 hm2 hA hB _ hea rfl _ rfl heb
  · exact ujoins_ea w ns ms Al Bl cl dl hn2 hm2 hA hB _ rfl hea _ _ rfl rfl
end Go.Proofs.Ytkbelhclcpepaaa
