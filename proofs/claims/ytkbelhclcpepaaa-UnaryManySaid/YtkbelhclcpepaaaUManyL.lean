/- The law UnaryMany: for whatever numbers, bits and count it returns true and leaves what it was handed as it was. -/
import Derived.Test.YtkbelhclcpepaaaUBegun
import Derived.Test.YtkbelhclcpepaaaOpen2
namespace Go.Proofs.Ytkbelhclcpepaaa
open Go.RowKit

/-- What All answers. -/
def allE (len : Int) (bs : List Nat) (p : Int) : Int := if chk len bs ≠ 0 then chk len bs else if p < 0 ∨ 8192 < p then 3 else if (prs 0 (unpack len.toNat bs)).length < p.toNat then 7 else 0
theorem all_e (len : Int) (A : Option Addr) (c : Nat) (bs : List Nat) (p f0 : Int) (hb : ∀ b ∈ bs, b < 256) (hf : allE len bs p = f0) (hf0 : f0 ≠ 0) (w : World) (h : Rd w w.heap.size A bs) :
    Calls Try.prog 22 #[.agg #[.int .i64 len, .slice A bs.length c], .int .i64 p] w (AllP w [] 0 f0) := by
  unfold allE at hf
  by_cases hc : chk len bs = 0
  · rw [if_neg (by omega)] at hf
    obtain ⟨l, rfl, hl, rfl⟩ := chk_zero len bs hb hc
    by_cases hp : p < 0 ∨ 8192 < p
    · rw [if_pos hp] at hf
      subst hf
      exact all_range l hl A c p w h hp
    · rw [if_neg hp, Int.toNat_natCast, unpack_pack] at hf
      obtain ⟨m, rfl⟩ := Int.eq_ofNat_of_zero_le (show 0 ≤ p by omega)
      rw [Int.toNat_natCast] at hf
      by_cases hs : (prs 0 l).length < m
      · rw [if_pos hs] at hf
        subst hf
        exact all_short l hl A c m (by omega) hs w h
      · rw [if_neg hs] at hf; omega
  · rw [if_pos hc] at hf
    subst hf
    exact all_bad len A c bs p w hb h hc
theorem allE_zero (len : Int) (bs : List Nat) (p : Int) (hb : ∀ b ∈ bs, b < 256) (hf : allE len bs p = 0) : ∃ (l : List Bool) (m : Nat), len = (l.length : Int) ∧ bs = pack l ∧ p = (m : Int) ∧ l.length ≤ 8192 ∧ m ≤ 8192 ∧ m ≤ (prs 0 l).length := by
  unfold allE at hf
  by_cases hc : chk len bs = 0
  · rw [if_neg (by omega)] at hf
    obtain ⟨l, rfl, hl, rfl⟩ := chk_zero len bs hb hc
    by_cases hp : p < 0 ∨ 8192 < p
    · rw [if_pos hp] at hf; omega
    · rw [if_neg hp, Int.toNat_natCast, unpack_pack] at hf
      obtain ⟨m, rfl⟩ := Int.eq_ofNat_of_zero_le (show 0 ≤ p by omega)
      rw [Int.toNat_natCast] at hf
      by_cases hs : (prs 0 l).length < m
      · rw [if_pos hs] at hf; omega
      · exact ⟨l, m, rfl, rfl, rfl, hl, by omega, by omega⟩
  · rw [if_pos hc] at hf; exact absurd hf hc

set_option maxRecDepth 100000 in
set_option maxHeartbeats 2000000 in
theorem umany_oo (w : World) (ns : List Nat) (Al : Option Addr) (cl : Nat) (hn2 : ns.length ≤ 9223372036854775807) (hN : RdV w w.heap.size Al (nc ns)) (M : List Bool) (he : manyE ns = 0) (hM : M = ucs ns) (l : List Bool) (hl : l.length ≤ 8192) (A : Option Addr) (c m : Nat) (hA : Rd w w.heap.size A (pack l)) (hm : m ≤ 8192) (xs : List Nat) (to : Nat) (L : List Bool) (hlen : m ≤ (prs 0 l).length) (hxs : xs = (prs 0 l).take m) (hto0 : to = (ucs xs).length) (hL : L = ucs xs) :
    Calls Try.prog 5 #[.slice Al ns.length cl, .agg #[.int .i64 (l.length : Int), .slice A (pack l).length c], .int .i64 (m : Int)] w fun e w' => e = .returned (.bool true) ∧ Below w.heap.size w w' := by
  have HN := Lib.hid hN; clear hN
  have HA := Lib.hid hA; clear hA
  have HE := Lib.hid he; clear he
  have HM := Lib.hid hM; clear hM
  have hMl := manyE_zero ns HE.out
  rw [← HM.out] at hMl
  have hge := ucs_len_ge ns
  rw [← HM.out] at hge
  have hn8 : ns.length ≤ 8192 := by omega
  have HN1 : Hid (ns.length ≤ (prs 0 M).length) := by
    show _ ≤ _
    have := prs_ucs ns []
    rw [List.append_nil] at this
    rw [HM.out, this]; simp [prs]
  have HN2 : Hid (ns = (prs 0 M).take ns.length) := by
    show ns = _
    have := prs_ucs ns []
    rw [List.append_nil] at this
    rw [HM.out, this]; simp [prs]
  have HN3 : Hid (M.length = (ucs ns).length) := by show _ = _; rw [HM.out]
  have tM : ((M.length : Int) != (M.length : Int)) = false := by simp
  clear hge
  have HXs := Lib.hid hxs; clear hxs
  have HTo := Lib.hid hto0; clear hto0
  have HL := Lib.hid hL; clear hL
  have hpt := parse_take l m
  rw [← HXs.out] at hpt
  have HCut : Hid (L = l.take to) := by show L = _; rw [HTo.out, hpt.1]; exact HL.out
  have hto : to ≤ l.length := by rw [HTo.out]; exact hpt.2
  have hLl : L.length ≤ 8192 := by rw [HL.out]; omega
  have HX0 : Hid (manyE xs = 0) := manyE_of_len xs (by omega)
  have hx2 : xs.length ≤ 9223372036854775807 := by have := ucs_len_ge xs; omega
  clear hpt
  go_enter Try.func5, Try.ntmps5
  go_wp2_with fail
  refine (many_l ns M Al ns.length cl rfl hn2 HE.out HM.out _ (HN.out.on (one_below w _))).mono ?_
  rintro e w1_ ⟨A1, c1, rfl, Rq, Bq⟩
  rw [World.size_alloc] at Bq
  have Sq : Below w.heap.size w w1_ := (one_below w _).trans (Bq.mono (by omega))
  have zb : w.heap.size < w1_.heap.size := by have := Bq.size; rw [World.size_alloc] at this; omega
  obtain ⟨pb, qb⟩ := box_at Bq
  replace HN : Hid (RdV w1_ w1_.heap.size Al (nc ns)) := HN.out.on Sq
  replace HA : Hid (Rd w1_ w1_.heap.size A (pack l)) := HA.out.on Sq
  have HB : Hid (Below w.heap.size w w1_) := Sq
  clear Bq Sq
  have HP := Lib.hid Rq; clear Rq
  go_wp2_with fail
  refine (all_l l hl A c m hm xs to hlen HXs.out HTo.out _ (HA.out.on (one_below w1_ _))).mono ?_
  rintro e w2_ ⟨A2, c2, rfl, Rq, Bq⟩
  rw [World.size_alloc] at Bq
  have Sq : Below w1_.heap.size w1_ w2_ := (one_below w1_ _).trans (Bq.mono (by omega))
  have zm : w1_.heap.size < w2_.heap.size := by have := Bq.size; rw [World.size_alloc] at this; omega
  obtain ⟨pm, qm⟩ := box_at Bq
  replace pb := (Sq.cell (p := ⟨w.heap.size, 0, none⟩) zb).trans pb
  replace qb := (Sq.cell (p := ⟨w.heap.size, 1, none⟩) zb).trans qb
  replace zb : w.heap.size < w2_.heap.size := Nat.lt_of_lt_of_le zb Sq.size
  replace HN : Hid (RdV w2_ w2_.heap.size Al (nc ns)) := HN.out.on Sq
  replace HA : Hid (Rd w2_ w2_.heap.size A (pack l)) := HA.out.on Sq
  replace HP : Hid (Rd w2_ w2_.heap.size A1 (pack M)) := HP.out.on Sq
  replace HB : Hid (Below w.heap.size w w2_) := HB.out.trans (Sq.mono HB.out.size)
  clear Bq Sq
  have HX := Lib.hid Rq; clear Rq
  go_wp2_with fail
  refine (ubegun_true _).mono ?_
  rintro e w3_ ⟨rfl, Bq⟩
  have Sq : Below w2_.heap.size w2_ w3_ := Bq
  replace pb := (Sq.cell (p := ⟨w.heap.size, 0, none⟩) zb).trans pb
  replace qb := (Sq.cell (p := ⟨w.heap.size, 1, none⟩) zb).trans qb
  replace zb : w.heap.size < w3_.heap.size := Nat.lt_of_lt_of_le zb Sq.size
  replace pm := (Sq.cell (p := ⟨w1_.heap.size, 0, none⟩) zm).trans pm
  replace qm := (Sq.cell (p := ⟨w1_.heap.size, 1, none⟩) zm).trans qm
  replace zm : w1_.heap.size < w3_.heap.size := Nat.lt_of_lt_of_le zm Sq.size
  replace HN : Hid (RdV w3_ w3_.heap.size Al (nc ns)) := HN.out.on Sq
  replace HA : Hid (Rd w3_ w3_.heap.size A (pack l)) := HA.out.on Sq
  replace HP : Hid (Rd w3_ w3_.heap.size A1 (pack M)) := HP.out.on Sq
  replace HX : Hid (RdV w3_ w3_.heap.size A2 (nc xs)) := HX.out.on Sq
  replace HB : Hid (Below w.heap.size w w3_) := HB.out.trans (Sq.mono HB.out.size)
  clear Bq Sq
  go_wp2_with fail
  refine (begun_true _).mono ?_
  rintro e w4_ ⟨rfl, Bq⟩
  have Sq : Below w3_.heap.size w3_ w4_ := Bq
  replace pb := (Sq.cell (p := ⟨w.heap.size, 0, none⟩) zb).trans pb
  replace qb := (Sq.cell (p := ⟨w.heap.size, 1, none⟩) zb).trans qb
  replace zb : w.heap.size < w4_.heap.size := Nat.lt_of_lt_of_le zb Sq.size
  replace pm := (Sq.cell (p := ⟨w1_.heap.size, 0, none⟩) zm).trans pm
  replace qm := (Sq.cell (p := ⟨w1_.heap.size, 1, none⟩) zm).trans qm
  replace zm : w1_.heap.size < w4_.heap.size := Nat.lt_of_lt_of_le zm Sq.size
  replace HN : Hid (RdV w4_ w4_.heap.size Al (nc ns)) := HN.out.on Sq
  replace HA : Hid (Rd w4_ w4_.heap.size A (pack l)) := HA.out.on Sq
  replace HP : Hid (Rd w4_ w4_.heap.size A1 (pack M)) := HP.out.on Sq
  replace HX : Hid (RdV w4_ w4_.heap.size A2 (nc xs)) := HX.out.on Sq
  replace HB : Hid (Below w.heap.size w w4_) := HB.out.trans (Sq.mono HB.out.size)
  clear Bq Sq
  go_wp2_with fail
  refine (all_l M hMl A1 c1 ns.length hn8 ns M.length HN1.out HN2.out HN3.out _ HP.out).mono ?_
  rintro e w5_ ⟨A3, c3, rfl, Rq, Bq⟩
  have Sq : Below w4_.heap.size w4_ w5_ := Bq
  replace pb := (Sq.cell (p := ⟨w.heap.size, 0, none⟩) zb).trans pb
  replace qb := (Sq.cell (p := ⟨w.heap.size, 1, none⟩) zb).trans qb
  replace zb : w.heap.size < w5_.heap.size := Nat.lt_of_lt_of_le zb Sq.size
  replace pm := (Sq.cell (p := ⟨w1_.heap.size, 0, none⟩) zm).trans pm
  replace qm := (Sq.cell (p := ⟨w1_.heap.size, 1, none⟩) zm).trans qm
  replace zm : w1_.heap.size < w5_.heap.size := Nat.lt_of_lt_of_le zm Sq.size
  replace HN : Hid (RdV w5_ w5_.heap.size Al (nc ns)) := HN.out.on Sq
  replace HA : Hid (Rd w5_ w5_.heap.size A (pack l)) := HA.out.on Sq
  replace HP : Hid (Rd w5_ w5_.heap.size A1 (pack M)) := HP.out.on Sq
  replace HX : Hid (RdV w5_ w5_.heap.size A2 (nc xs)) := HX.out.on Sq
  replace HB : Hid (Below w.heap.size w w5_) := HB.out.trans (Sq.mono HB.out.size)
  clear Bq Sq
  have HK := Lib.hid Rq; clear Rq
  go_wp2_with fail
  refine (nsame ns ns.length rfl hn8 A3 Al c3 cl _ HK.out HN.out).mono ?_
  rintro e w6_ ⟨rfl, Bq⟩
  have Sq : Below w5_.heap.size w5_ w6_ := Bq
  replace pb := (Sq.cell (p := ⟨w.heap.size, 0, none⟩) zb).trans pb
  replace qb := (Sq.cell (p := ⟨w.heap.size, 1, none⟩) zb).trans qb
  replace zb : w.heap.size < w6_.heap.size := Nat.lt_of_lt_of_le zb Sq.size
  replace pm := (Sq.cell (p := ⟨w1_.heap.size, 0, none⟩) zm).trans pm
  replace qm := (Sq.cell (p := ⟨w1_.heap.size, 1, none⟩) zm).trans qm
  replace zm : w1_.heap.size < w6_.heap.size := Nat.lt_of_lt_of_le zm Sq.size
  replace HN : Hid (RdV w6_ w6_.heap.size Al (nc ns)) := HN.out.on Sq
  replace HA : Hid (Rd w6_ w6_.heap.size A (pack l)) := HA.out.on Sq
  replace HP : Hid (Rd w6_ w6_.heap.size A1 (pack M)) := HP.out.on Sq
  replace HX : Hid (RdV w6_ w6_.heap.size A2 (nc xs)) := HX.out.on Sq
  replace HK : Hid (RdV w6_ w6_.heap.size A3 (nc ns)) := HK.out.on Sq
  replace HB : Hid (Below w.heap.size w w6_) := HB.out.trans (Sq.mono HB.out.size)
  clear Bq Sq
  go_wp2_with fail
  refine (many_l xs L A2 xs.length c2 rfl hx2 HX0.out HL.out _ HX.out).mono ?_
  rintro e w7_ ⟨A4, c4, rfl, Rq, Bq⟩
  have Sq : Below w6_.heap.size w6_ w7_ := Bq
  replace pb := (Sq.cell (p := ⟨w.heap.size, 0, none⟩) zb).trans pb
  replace qb := (Sq.cell (p := ⟨w.heap.size, 1, none⟩) zb).trans qb
  replace zb : w.heap.size < w7_.heap.size := Nat.lt_of_lt_of_le zb Sq.size
  replace pm := (Sq.cell (p := ⟨w1_.heap.size, 0, none⟩) zm).trans pm
  replace qm := (Sq.cell (p := ⟨w1_.heap.size, 1, none⟩) zm).trans qm
  replace zm : w1_.heap.size < w7_.heap.size := Nat.lt_of_lt_of_le zm Sq.size
  replace HN : Hid (RdV w7_ w7_.heap.size Al (nc ns)) := HN.out.on Sq
  replace HA : Hid (Rd w7_ w7_.heap.size A (pack l)) := HA.out.on Sq
  replace HP : Hid (Rd w7_ w7_.heap.size A1 (pack M)) := HP.out.on Sq
  replace HX : Hid (RdV w7_ w7_.heap.size A2 (nc xs)) := HX.out.on Sq
  replace HK : Hid (RdV w7_ w7_.heap.size A3 (nc ns)) := HK.out.on Sq
  replace HB : Hid (Below w.heap.size w w7_) := HB.out.trans (Sq.mono HB.out.size)
  clear Bq Sq
  have HC := Lib.hid Rq; clear Rq
  go_wp2_with fail
  refine (cut_l0 l L hl A c to hto HCut.out _ (HA.out.on (one_below w7_ _))).mono ?_
  rintro e w8_ ⟨A5, c5, rfl, Rq, Bq⟩
  rw [World.size_alloc] at Bq
  have Sq : Below w7_.heap.size w7_ w8_ := (one_below w7_ _).trans (Bq.mono (by omega))
  have zc : w7_.heap.size < w8_.heap.size := by have := Bq.size; rw [World.size_alloc] at this; omega
  obtain ⟨pc, qc⟩ := box_at Bq
  replace pb := (Sq.cell (p := ⟨w.heap.size, 0, none⟩) zb).trans pb
  replace qb := (Sq.cell (p := ⟨w.heap.size, 1, none⟩) zb).trans qb
  replace zb : w.heap.size < w8_.heap.size := Nat.lt_of_lt_of_le zb Sq.size
  replace pm := (Sq.cell (p := ⟨w1_.heap.size, 0, none⟩) zm).trans pm
  replace qm := (Sq.cell (p := ⟨w1_.heap.size, 1, none⟩) zm).trans qm
  replace zm : w1_.heap.size < w8_.heap.size := Nat.lt_of_lt_of_le zm Sq.size
  replace HN : Hid (RdV w8_ w8_.heap.size Al (nc ns)) := HN.out.on Sq
  replace HA : Hid (Rd w8_ w8_.heap.size A (pack l)) := HA.out.on Sq
  replace HP : Hid (Rd w8_ w8_.heap.size A1 (pack M)) := HP.out.on Sq
  replace HX : Hid (RdV w8_ w8_.heap.size A2 (nc xs)) := HX.out.on Sq
  replace HK : Hid (RdV w8_ w8_.heap.size A3 (nc ns)) := HK.out.on Sq
  replace HC : Hid (Rd w8_ w8_.heap.size A4 (pack L)) := HC.out.on Sq
  replace HB : Hid (Below w.heap.size w w8_) := HB.out.trans (Sq.mono HB.out.size)
  clear Bq Sq
  have HD := Lib.hid Rq; clear Rq
  go_wp2_with fail
  refine (same_l L hLl A4 A5 c4 c5 _ (HC.out.on (one_below w8_ _)) (HD.out.on (one_below w8_ _))).mono ?_
  rintro e w9_ ⟨rfl, Bq⟩
  rw [World.size_alloc] at Bq
  have Sq : Below w8_.heap.size w8_ w9_ := (one_below w8_ _).trans (Bq.mono (by omega))
  have zd : w8_.heap.size < w9_.heap.size := by have := Bq.size; rw [World.size_alloc] at this; omega
  obtain ⟨pd, qd⟩ := box_at Bq
  replace pb := (Sq.cell (p := ⟨w.heap.size, 0, none⟩) zb).trans pb
  replace qb := (Sq.cell (p := ⟨w.heap.size, 1, none⟩) zb).trans qb
  replace zb : w.heap.size < w9_.heap.size := Nat.lt_of_lt_of_le zb Sq.size
  replace pm := (Sq.cell (p := ⟨w1_.heap.size, 0, none⟩) zm).trans pm
  replace qm := (Sq.cell (p := ⟨w1_.heap.size, 1, none⟩) zm).trans qm
  replace zm : w1_.heap.size < w9_.heap.size := Nat.lt_of_lt_of_le zm Sq.size
  replace pc := (Sq.cell (p := ⟨w7_.heap.size, 0, none⟩) zc).trans pc
  replace qc := (Sq.cell (p := ⟨w7_.heap.size, 1, none⟩) zc).trans qc
  replace zc : w7_.heap.size < w9_.heap.size := Nat.lt_of_lt_of_le zc Sq.size
  replace HN : Hid (RdV w9_ w9_.heap.size Al (nc ns)) := HN.out.on Sq
  replace HA : Hid (Rd w9_ w9_.heap.size A (pack l)) := HA.out.on Sq
  replace HP : Hid (Rd w9_ w9_.heap.size A1 (pack M)) := HP.out.on Sq
  replace HX : Hid (RdV w9_ w9_.heap.size A2 (nc xs)) := HX.out.on Sq
  replace HK : Hid (RdV w9_ w9_.heap.size A3 (nc ns)) := HK.out.on Sq
  replace HC : Hid (Rd w9_ w9_.heap.size A4 (pack L)) := HC.out.on Sq
  replace HD : Hid (Rd w9_ w9_.heap.size A5 (pack L)) := HD.out.on Sq
  replace HB : Hid (Below w.heap.size w w9_) := HB.out.trans (Sq.mono HB.out.size)
  clear Bq Sq
  go_wp2
  go_ret
  exact ⟨rfl, HB.out⟩

set_option maxRecDepth 100000 in
set_option maxHeartbeats 2000000 in
theorem umany_oe (w : World) (ns : List Nat) (Al : Option Addr) (cl : Nat) (hn2 : ns.length ≤ 9223372036854775807) (hN : RdV w w.heap.size Al (nc ns)) (M : List Bool) (he : manyE ns = 0) (hM : M = ucs ns) (len : Int) (A : Option Addr) (c : Nat) (bs : List Nat) (p : Int) (hb : ∀ b ∈ bs, b < 256) (hA : Rd w w.heap.size A bs) (f0 : Int) (hf : allE len bs p = f0) (hf0 : f0 ≠ 0) :
    Calls Try.prog 5 #[.slice Al ns.length cl, .agg #[.int .i64 len, .slice A bs.length c], .int .i64 p] w fun e w' => e = .returned (.bool true) ∧ Below w.heap.size w w' := by
  have HN := Lib.hid hN; clear hN
  have HA := Lib.hid hA; clear hA
  have HE := Lib.hid he; clear he
  have HM := Lib.hid hM; clear hM
  have hMl := manyE_zero ns HE.out
  rw [← HM.out] at hMl
  have hge := ucs_len_ge ns
  rw [← HM.out] at hge
  have hn8 : ns.length ≤ 8192 := by omega
  have HN1 : Hid (ns.length ≤ (prs 0 M).length) := by
    show _ ≤ _
    have := prs_ucs ns []
    rw [List.append_nil] at this
    rw [HM.out, this]; simp [prs]
  have HN2 : Hid (ns = (prs 0 M).take ns.length) := by
    show ns = _
    have := prs_ucs ns []
    rw [List.append_nil] at this
    rw [HM.out, this]; simp [prs]
  have HN3 : Hid (M.length = (ucs ns).length) := by show _ = _; rw [HM.out]
  have tM : ((M.length : Int) != (M.length : Int)) = false := by simp
  clear hge
  have t1 : (f0 != 0) = true := by simpa using hf0
  have HF := Lib.hid hf; clear hf
  have HF0 := Lib.hid hf0; clear hf0
  go_enter Try.func5, Try.ntmps5
  go_wp2_with fail
  refine (many_l ns M Al ns.length cl rfl hn2 HE.out HM.out _ (HN.out.on (one_below w _))).mono ?_
  rintro e w1_ ⟨A1, c1, rfl, Rq, Bq⟩
  rw [World.size_alloc] at Bq
  have Sq : Below w.heap.size w w1_ := (one_below w _).trans (Bq.mono (by omega))
  have zb : w.heap.size < w1_.heap.size := by have := Bq.size; rw [World.size_alloc] at this; omega
  obtain ⟨pb, qb⟩ := box_at Bq
  replace HN : Hid (RdV w1_ w1_.heap.size Al (nc ns)) := HN.out.on Sq
  replace HA : Hid (Rd w1_ w1_.heap.size A bs) := HA.out.on Sq
  have HB : Hid (Below w.heap.size w w1_) := Sq
  clear Bq Sq
  have HP := Lib.hid Rq; clear Rq
  go_wp2_with fail
  refine (all_e len A c bs p f0 hb HF.out HF0.out _ (HA.out.on (one_below w1_ _))).mono ?_
  rintro e w2_ ⟨A2, c2, rfl, Rq, Bq⟩
  rw [World.size_alloc] at Bq
  have Sq : Below w1_.heap.size w1_ w2_ := (one_below w1_ _).trans (Bq.mono (by omega))
  have zm : w1_.heap.size < w2_.heap.size := by have := Bq.size; rw [World.size_alloc] at this; omega
  obtain ⟨pm, qm⟩ := box_at Bq
  replace pb := (Sq.cell (p := ⟨w.heap.size, 0, none⟩) zb).trans pb
  replace qb := (Sq.cell (p := ⟨w.heap.size, 1, none⟩) zb).trans qb
  replace zb : w.heap.size < w2_.heap.size := Nat.lt_of_lt_of_le zb Sq.size
  replace HN : Hid (RdV w2_ w2_.heap.size Al (nc ns)) := HN.out.on Sq
  replace HA : Hid (Rd w2_ w2_.heap.size A bs) := HA.out.on Sq
  replace HP : Hid (Rd w2_ w2_.heap.size A1 (pack M)) := HP.out.on Sq
  replace HB : Hid (Below w.heap.size w w2_) := HB.out.trans (Sq.mono HB.out.size)
  clear Bq Sq
  have HX := Lib.hid Rq; clear Rq
  go_wp2_with fail
  refine (ubegun_true _).mono ?_
  rintro e w3_ ⟨rfl, Bq⟩
  have Sq : Below w2_.heap.size w2_ w3_ := Bq
  replace pb := (Sq.cell (p := ⟨w.heap.size, 0, none⟩) zb).trans pb
  replace qb := (Sq.cell (p := ⟨w.heap.size, 1, none⟩) zb).trans qb
  replace zb : w.heap.size < w3_.heap.size := Nat.lt_of_lt_of_le zb Sq.size
  replace pm := (Sq.cell (p := ⟨w1_.heap.size, 0, none⟩) zm).trans pm
  replace qm := (Sq.cell (p := ⟨w1_.heap.size, 1, none⟩) zm).trans qm
  replace zm : w1_.heap.size < w3_.heap.size := Nat.lt_of_lt_of_le zm Sq.size
  replace HN : Hid (RdV w3_ w3_.heap.size Al (nc ns)) := HN.out.on Sq
  replace HA : Hid (Rd w3_ w3_.heap.size A bs) := HA.out.on Sq
  replace HP : Hid (Rd w3_ w3_.heap.size A1 (pack M)) := HP.out.on Sq
  replace HX : Hid (RdV w3_ w3_.heap.size A2 (nc [])) := HX.out.on Sq
  replace HB : Hid (Below w.heap.size w w3_) := HB.out.trans (Sq.mono HB.out.size)
  clear Bq Sq
  go_wp2_with fail
  refine (begun_true _).mono ?_
  rintro e w4_ ⟨rfl, Bq⟩
  have Sq : Below w3_.heap.size w3_ w4_ := Bq
  replace pb := (Sq.cell (p := ⟨w.heap.size, 0, none⟩) zb).trans pb
  replace qb := (Sq.cell (p := ⟨w.heap.size, 1, none⟩) zb).trans qb
  replace zb : w.heap.size < w4_.heap.size := Nat.lt_of_lt_of_le zb Sq.size
  replace pm := (Sq.cell (p := ⟨w1_.heap.size, 0, none⟩) zm).trans pm
  replace qm := (Sq.cell (p := ⟨w1_.heap.size, 1, none⟩) zm).trans qm
  replace zm : w1_.heap.size < w4_.heap.size := Nat.lt_of_lt_of_le zm Sq.size
  replace HN : Hid (RdV w4_ w4_.heap.size Al (nc ns)) := HN.out.on Sq
  replace HA : Hid (Rd w4_ w4_.heap.size A bs) := HA.out.on Sq
  replace HP : Hid (Rd w4_ w4_.heap.size A1 (pack M)) := HP.out.on Sq
  replace HX : Hid (RdV w4_ w4_.heap.size A2 (nc [])) := HX.out.on Sq
  replace HB : Hid (Below w.heap.size w w4_) := HB.out.trans (Sq.mono HB.out.size)
  clear Bq Sq
  go_wp2_with fail
  refine (all_l M hMl A1 c1 ns.length hn8 ns M.length HN1.out HN2.out HN3.out _ HP.out).mono ?_
  rintro e w5_ ⟨A3, c3, rfl, Rq, Bq⟩
  have Sq : Below w4_.heap.size w4_ w5_ := Bq
  replace pb := (Sq.cell (p := ⟨w.heap.size, 0, none⟩) zb).trans pb
  replace qb := (Sq.cell (p := ⟨w.heap.size, 1, none⟩) zb).trans qb
  replace zb : w.heap.size < w5_.heap.size := Nat.lt_of_lt_of_le zb Sq.size
  replace pm := (Sq.cell (p := ⟨w1_.heap.size, 0, none⟩) zm).trans pm
  replace qm := (Sq.cell (p := ⟨w1_.heap.size, 1, none⟩) zm).trans qm
  replace zm : w1_.heap.size < w5_.heap.size := Nat.lt_of_lt_of_le zm Sq.size
  replace HN : Hid (RdV w5_ w5_.heap.size Al (nc ns)) := HN.out.on Sq
  replace HA : Hid (Rd w5_ w5_.heap.size A bs) := HA.out.on Sq
  replace HP : Hid (Rd w5_ w5_.heap.size A1 (pack M)) := HP.out.on Sq
  replace HX : Hid (RdV w5_ w5_.heap.size A2 (nc [])) := HX.out.on Sq
  replace HB : Hid (Below w.heap.size w w5_) := HB.out.trans (Sq.mono HB.out.size)
  clear Bq Sq
  have HK := Lib.hid Rq; clear Rq
  go_wp2_with fail
  refine (nsame ns ns.length rfl hn8 A3 Al c3 cl _ HK.out HN.out).mono ?_
  rintro e w6_ ⟨rfl, Bq⟩
  have Sq : Below w5_.heap.size w5_ w6_ := Bq
  replace pb := (Sq.cell (p := ⟨w.heap.size, 0, none⟩) zb).trans pb
  replace qb := (Sq.cell (p := ⟨w.heap.size, 1, none⟩) zb).trans qb
  replace zb : w.heap.size < w6_.heap.size := Nat.lt_of_lt_of_le zb Sq.size
  replace pm := (Sq.cell (p := ⟨w1_.heap.size, 0, none⟩) zm).trans pm
  replace qm := (Sq.cell (p := ⟨w1_.heap.size, 1, none⟩) zm).trans qm
  replace zm : w1_.heap.size < w6_.heap.size := Nat.lt_of_lt_of_le zm Sq.size
  replace HN : Hid (RdV w6_ w6_.heap.size Al (nc ns)) := HN.out.on Sq
  replace HA : Hid (Rd w6_ w6_.heap.size A bs) := HA.out.on Sq
  replace HP : Hid (Rd w6_ w6_.heap.size A1 (pack M)) := HP.out.on Sq
  replace HX : Hid (RdV w6_ w6_.heap.size A2 (nc [])) := HX.out.on Sq
  replace HK : Hid (RdV w6_ w6_.heap.size A3 (nc ns)) := HK.out.on Sq
  replace HB : Hid (Below w.heap.size w w6_) := HB.out.trans (Sq.mono HB.out.size)
  clear Bq Sq
  go_wp2
  go_ret
  exact ⟨rfl, HB.out⟩

set_option maxRecDepth 100000 in
set_option maxHeartbeats 2000000 in
theorem umany_eo (w : World) (ns : List Nat) (Al : Option Addr) (cl : Nat) (hn2 : ns.length ≤ 9223372036854775807) (hN : RdV w w.heap.size Al (nc ns)) (e0 : Int) (he : manyE ns = e0) (h0 : e0 ≠ 0) (l : List Bool) (hl : l.length ≤ 8192) (A : Option Addr) (c m : Nat) (hA : Rd w w.heap.size A (pack l)) (hm : m ≤ 8192) (xs : List Nat) (to : Nat) (L : List Bool) (hlen : m ≤ (prs 0 l).length) (hxs : xs = (prs 0 l).take m) (hto0 : to = (ucs xs).length) (hL : L = ucs xs) :
    Calls Try.prog 5 #[.slice Al ns.length cl, .agg #[.int .i64 (l.length : Int), .slice A (pack l).length c], .int .i64 (m : Int)] w fun e w' => e = .returned (.bool true) ∧ Below w.heap.size w w' := by
  have HN := Lib.hid hN; clear hN
  have HA := Lib.hid hA; clear hA
  have HE := Lib.hid he; clear he
  have t0 : (e0 == 0) = false := by simpa using h0
  have HE0 := Lib.hid h0; clear h0
  have HXs := Lib.hid hxs; clear hxs
  have HTo := Lib.hid hto0; clear hto0
  have HL := Lib.hid hL; clear hL
  have hpt := parse_take l m
  rw [← HXs.out] at hpt
  have HCut : Hid (L = l.take to) := by show L = _; rw [HTo.out, hpt.1]; exact HL.out
  have hto : to ≤ l.length := by rw [HTo.out]; exact hpt.2
  have hLl : L.length ≤ 8192 := by rw [HL.out]; omega
  have HX0 : Hid (manyE xs = 0) := manyE_of_len xs (by omega)
  have hx2 : xs.length ≤ 9223372036854775807 := by have := ucs_len_ge xs; omega
  clear hpt
  go_enter Try.func5, Try.ntmps5
  go_wp2_with fail
  refine (many_e ns Al ns.length cl rfl hn2 e0 HE.out HE0.out _ (HN.out.on (one_below w _))).mono ?_
  rintro e w1_ ⟨A1, c1, rfl, Rq, Bq⟩
  rw [World.size_alloc] at Bq
  have Sq : Below w.heap.size w w1_ := (one_below w _).trans (Bq.mono (by omega))
  have zb : w.heap.size < w1_.heap.size := by have := Bq.size; rw [World.size_alloc] at this; omega
  obtain ⟨pb, qb⟩ := box_at Bq
  replace HN : Hid (RdV w1_ w1_.heap.size Al (nc ns)) := HN.out.on Sq
  replace HA : Hid (Rd w1_ w1_.heap.size A (pack l)) := HA.out.on Sq
  have HB : Hid (Below w.heap.size w w1_) := Sq
  clear Bq Sq
  have HP := Lib.hid Rq; clear Rq
  go_wp2_with fail
  refine (all_l l hl A c m hm xs to hlen HXs.out HTo.out _ (HA.out.on (one_below w1_ _))).mono ?_
  rintro e w2_ ⟨A2, c2, rfl, Rq, Bq⟩
  rw [World.size_alloc] at Bq
  have Sq : Below w1_.heap.size w1_ w2_ := (one_below w1_ _).trans (Bq.mono (by omega))
  have zm : w1_.heap.size < w2_.heap.size := by have := Bq.size; rw [World.size_alloc] at this; omega
  obtain ⟨pm, qm⟩ := box_at Bq
  replace pb := (Sq.cell (p := ⟨w.heap.size, 0, none⟩) zb).trans pb
  replace qb := (Sq.cell (p := ⟨w.heap.size, 1, none⟩) zb).trans qb
  replace zb : w.heap.size < w2_.heap.size := Nat.lt_of_lt_of_le zb Sq.size
  replace HN : Hid (RdV w2_ w2_.heap.size Al (nc ns)) := HN.out.on Sq
  replace HA : Hid (Rd w2_ w2_.heap.size A (pack l)) := HA.out.on Sq
  replace HP : Hid (Rd w2_ w2_.heap.size A1 (pack [])) := HP.out.on Sq
  replace HB : Hid (Below w.heap.size w w2_) := HB.out.trans (Sq.mono HB.out.size)
  clear Bq Sq
  have HX := Lib.hid Rq; clear Rq
  go_wp2_with fail
  refine (ubegun_true _).mono ?_
  rintro e w3_ ⟨rfl, Bq⟩
  have Sq : Below w2_.heap.size w2_ w3_ := Bq
  replace pb := (Sq.cell (p := ⟨w.heap.size, 0, none⟩) zb).trans pb
  replace qb := (Sq.cell (p := ⟨w.heap.size, 1, none⟩) zb).trans qb
  replace zb : w.heap.size < w3_.heap.size := Nat.lt_of_lt_of_le zb Sq.size
  replace pm := (Sq.cell (p := ⟨w1_.heap.size, 0, none⟩) zm).trans pm
  replace qm := (Sq.cell (p := ⟨w1_.heap.size, 1, none⟩) zm).trans qm
  replace zm : w1_.heap.size < w3_.heap.size := Nat.lt_of_lt_of_le zm Sq.size
  replace HN : Hid (RdV w3_ w3_.heap.size Al (nc ns)) := HN.out.on Sq
  replace HA : Hid (Rd w3_ w3_.heap.size A (pack l)) := HA.out.on Sq
  replace HP : Hid (Rd w3_ w3_.heap.size A1 (pack [])) := HP.out.on Sq
  replace HX : Hid (RdV w3_ w3_.heap.size A2 (nc xs)) := HX.out.on Sq
  replace HB : Hid (Below w.heap.size w w3_) := HB.out.trans (Sq.mono HB.out.size)
  clear Bq Sq
  go_wp2_with fail
  refine (begun_true _).mono ?_
  rintro e w4_ ⟨rfl, Bq⟩
  have Sq : Below w3_.heap.size w3_ w4_ := Bq
  replace pb := (Sq.cell (p := ⟨w.heap.size, 0, none⟩) zb).trans pb
  replace qb := (Sq.cell (p := ⟨w.heap.size, 1, none⟩) zb).trans qb
  replace zb : w.heap.size < w4_.heap.size := Nat.lt_of_lt_of_le zb Sq.size
  replace pm := (Sq.cell (p := ⟨w1_.heap.size, 0, none⟩) zm).trans pm
  replace qm := (Sq.cell (p := ⟨w1_.heap.size, 1, none⟩) zm).trans qm
  replace zm : w1_.heap.size < w4_.heap.size := Nat.lt_of_lt_of_le zm Sq.size
  replace HN : Hid (RdV w4_ w4_.heap.size Al (nc ns)) := HN.out.on Sq
  replace HA : Hid (Rd w4_ w4_.heap.size A (pack l)) := HA.out.on Sq
  replace HP : Hid (Rd w4_ w4_.heap.size A1 (pack [])) := HP.out.on Sq
  replace HX : Hid (RdV w4_ w4_.heap.size A2 (nc xs)) := HX.out.on Sq
  replace HB : Hid (Below w.heap.size w w4_) := HB.out.trans (Sq.mono HB.out.size)
  clear Bq Sq
  go_wp2_with fail
  refine (many_l xs L A2 xs.length c2 rfl hx2 HX0.out HL.out _ HX.out).mono ?_
  rintro e w5_ ⟨A4, c4, rfl, Rq, Bq⟩
  have Sq : Below w4_.heap.size w4_ w5_ := Bq
  replace pb := (Sq.cell (p := ⟨w.heap.size, 0, none⟩) zb).trans pb
  replace qb := (Sq.cell (p := ⟨w.heap.size, 1, none⟩) zb).trans qb
  replace zb : w.heap.size < w5_.heap.size := Nat.lt_of_lt_of_le zb Sq.size
  replace pm := (Sq.cell (p := ⟨w1_.heap.size, 0, none⟩) zm).trans pm
  replace qm := (Sq.cell (p := ⟨w1_.heap.size, 1, none⟩) zm).trans qm
  replace zm : w1_.heap.size < w5_.heap.size := Nat.lt_of_lt_of_le zm Sq.size
  replace HN : Hid (RdV w5_ w5_.heap.size Al (nc ns)) := HN.out.on Sq
  replace HA : Hid (Rd w5_ w5_.heap.size A (pack l)) := HA.out.on Sq
  replace HP : Hid (Rd w5_ w5_.heap.size A1 (pack [])) := HP.out.on Sq
  replace HX : Hid (RdV w5_ w5_.heap.size A2 (nc xs)) := HX.out.on Sq
  replace HB : Hid (Below w.heap.size w w5_) := HB.out.trans (Sq.mono HB.out.size)
  clear Bq Sq
  have HC := Lib.hid Rq; clear Rq
  go_wp2_with fail
  refine (cut_l0 l L hl A c to hto HCut.out _ (HA.out.on (one_below w5_ _))).mono ?_
  rintro e w6_ ⟨A5, c5, rfl, Rq, Bq⟩
  rw [World.size_alloc] at Bq
  have Sq : Below w5_.heap.size w5_ w6_ := (one_below w5_ _).trans (Bq.mono (by omega))
  have zc : w5_.heap.size < w6_.heap.size := by have := Bq.size; rw [World.size_alloc] at this; omega
  obtain ⟨pc, qc⟩ := box_at Bq
  replace pb := (Sq.cell (p := ⟨w.heap.size, 0, none⟩) zb).trans pb
  replace qb := (Sq.cell (p := ⟨w.heap.size, 1, none⟩) zb).trans qb
  replace zb : w.heap.size < w6_.heap.size := Nat.lt_of_lt_of_le zb Sq.size
  replace pm := (Sq.cell (p := ⟨w1_.heap.size, 0, none⟩) zm).trans pm
  replace qm := (Sq.cell (p := ⟨w1_.heap.size, 1, none⟩) zm).trans qm
  replace zm : w1_.heap.size < w6_.heap.size := Nat.lt_of_lt_of_le zm Sq.size
  replace HN : Hid (RdV w6_ w6_.heap.size Al (nc ns)) := HN.out.on Sq
  replace HA : Hid (Rd w6_ w6_.heap.size A (pack l)) := HA.out.on Sq
  replace HP : Hid (Rd w6_ w6_.heap.size A1 (pack [])) := HP.out.on Sq
  replace HX : Hid (RdV w6_ w6_.heap.size A2 (nc xs)) := HX.out.on Sq
  replace HC : Hid (Rd w6_ w6_.heap.size A4 (pack L)) := HC.out.on Sq
  replace HB : Hid (Below w.heap.size w w6_) := HB.out.trans (Sq.mono HB.out.size)
  clear Bq Sq
  have HD := Lib.hid Rq; clear Rq
  go_wp2_with fail
  refine (same_l L hLl A4 A5 c4 c5 _ (HC.out.on (one_below w6_ _)) (HD.out.on (one_below w6_ _))).mono ?_
  rintro e w7_ ⟨rfl, Bq⟩
  rw [World.size_alloc] at Bq
  have Sq : Below w6_.heap.size w6_ w7_ := (one_below w6_ _).trans (Bq.mono (by omega))
  have zd : w6_.heap.size < w7_.heap.size := by have := Bq.size; rw [World.size_alloc] at this; omega
  obtain ⟨pd, qd⟩ := box_at Bq
  replace pb := (Sq.cell (p := ⟨w.heap.size, 0, none⟩) zb).trans pb
  replace qb := (Sq.cell (p := ⟨w.heap.size, 1, none⟩) zb).trans qb
  replace zb : w.heap.size < w7_.heap.size := Nat.lt_of_lt_of_le zb Sq.size
  replace pm := (Sq.cell (p := ⟨w1_.heap.size, 0, none⟩) zm).trans pm
  replace qm := (Sq.cell (p := ⟨w1_.heap.size, 1, none⟩) zm).trans qm
  replace zm : w1_.heap.size < w7_.heap.size := Nat.lt_of_lt_of_le zm Sq.size
  replace pc := (Sq.cell (p := ⟨w5_.heap.size, 0, none⟩) zc).trans pc
  replace qc := (Sq.cell (p := ⟨w5_.heap.size, 1, none⟩) zc).trans qc
  replace zc : w5_.heap.size < w7_.heap.size := Nat.lt_of_lt_of_le zc Sq.size
  replace HN : Hid (RdV w7_ w7_.heap.size Al (nc ns)) := HN.out.on Sq
  replace HA : Hid (Rd w7_ w7_.heap.size A (pack l)) := HA.out.on Sq
  replace HP : Hid (Rd w7_ w7_.heap.size A1 (pack [])) := HP.out.on Sq
  replace HX : Hid (RdV w7_ w7_.heap.size A2 (nc xs)) := HX.out.on Sq
  replace HC : Hid (Rd w7_ w7_.heap.size A4 (pack L)) := HC.out.on Sq
  replace HD : Hid (Rd w7_ w7_.heap.size A5 (pack L)) := HD.out.on Sq
  replace HB : Hid (Below w.heap.size w w7_) := HB.out.trans (Sq.mono HB.out.size)
  clear Bq Sq
  go_wp2
  go_ret
  exact ⟨rfl, HB.out⟩

set_option maxRecDepth 100000 in
set_option maxHeartbeats 2000000 in
theorem umany_ee (w : World) (ns : List Nat) (Al : Option Addr) (cl : Nat) (hn2 : ns.length ≤ 9223372036854775807) (hN : RdV w w.heap.size Al (nc ns)) (e0 : Int) (he : manyE ns = e0) (h0 : e0 ≠ 0) (len : Int) (A : Option Addr) (c : Nat) (bs : List Nat) (p : Int) (hb : ∀ b ∈ bs, b < 256) (hA : Rd w w.heap.size A bs) (f0 : Int) (hf : allE len bs p = f0) (hf0 : f0 ≠ 0) :
    Calls Try.prog 5 #[.slice Al ns.length cl, .agg #[.int .i64 len, .slice A bs.length c], .int .i64 p] w fun e w' => e = .returned (.bool true) ∧ Below w.heap.size w w' := by
  have HN := Lib.hid hN; clear hN
  have HA := Lib.hid hA; clear hA
  have HE := Lib.hid he; clear he
  have t0 : (e0 == 0) = false := by simpa using h0
  have HE0 := Lib.hid h0; clear h0
  have t1 : (f0 != 0) = true := by simpa using hf0
  have HF := Lib.hid hf; clear hf
  have HF0 := Lib.hid hf0; clear hf0
  go_enter Try.func5, Try.ntmps5
  go_wp2_with fail
  refine (many_e ns Al ns.length cl rfl hn2 e0 HE.out HE0.out _ (HN.out.on (one_below w _))).mono ?_
  rintro e w1_ ⟨A1, c1, rfl, Rq, Bq⟩
  rw [World.size_alloc] at Bq
  have Sq : Below w.heap.size w w1_ := (one_below w _).trans (Bq.mono (by omega))
  have zb : w.heap.size < w1_.heap.size := by have := Bq.size; rw [World.size_alloc] at this; omega
  obtain ⟨pb, qb⟩ := box_at Bq
  replace HN : Hid (RdV w1_ w1_.heap.size Al (nc ns)) := HN.out.on Sq
  replace HA : Hid (Rd w1_ w1_.heap.size A bs) := HA.out.on Sq
  have HB : Hid (Below w.heap.size w w1_) := Sq
  clear Bq Sq
  have HP := Lib.hid Rq; clear Rq
  go_wp2_with fail
  refine (all_e len A c bs p f0 hb HF.out HF0.out _ (HA.out.on (one_below w1_ _))).mono ?_
  rintro e w2_ ⟨A2, c2, rfl, Rq, Bq⟩
  rw [World.size_alloc] at Bq
  have Sq : Below w1_.heap.size w1_ w2_ := (one_below w1_ _).trans (Bq.mono (by omega))
  have zm : w1_.heap.size < w2_.heap.size := by have := Bq.size; rw [World.size_alloc] at this; omega
  obtain ⟨pm, qm⟩ := box_at Bq
  replace pb := (Sq.cell (p := ⟨w.heap.size, 0, none⟩) zb).trans pb
  replace qb := (Sq.cell (p := ⟨w.heap.size, 1, none⟩) zb).trans qb
  replace zb : w.heap.size < w2_.heap.size := Nat.lt_of_lt_of_le zb Sq.size
  replace HN : Hid (RdV w2_ w2_.heap.size Al (nc ns)) := HN.out.on Sq
  replace HA : Hid (Rd w2_ w2_.heap.size A bs) := HA.out.on Sq
  replace HP : Hid (Rd w2_ w2_.heap.size A1 (pack [])) := HP.out.on Sq
  replace HB : Hid (Below w.heap.size w w2_) := HB.out.trans (Sq.mono HB.out.size)
  clear Bq Sq
  have HX := Lib.hid Rq; clear Rq
  go_wp2_with fail
  refine (ubegun_true _).mono ?_
  rintro e w3_ ⟨rfl, Bq⟩
  have Sq : Below w2_.heap.size w2_ w3_ := Bq
  replace pb := (Sq.cell (p := ⟨w.heap.size, 0, none⟩) zb).trans pb
  replace qb := (Sq.cell (p := ⟨w.heap.size, 1, none⟩) zb).trans qb
  replace zb : w.heap.size < w3_.heap.size := Nat.lt_of_lt_of_le zb Sq.size
  replace pm := (Sq.cell (p := ⟨w1_.heap.size, 0, none⟩) zm).trans pm
  replace qm := (Sq.cell (p := ⟨w1_.heap.size, 1, none⟩) zm).trans qm
  replace zm : w1_.heap.size < w3_.heap.size := Nat.lt_of_lt_of_le zm Sq.size
  replace HN : Hid (RdV w3_ w3_.heap.size Al (nc ns)) := HN.out.on Sq
  replace HA : Hid (Rd w3_ w3_.heap.size A bs) := HA.out.on Sq
  replace HP : Hid (Rd w3_ w3_.heap.size A1 (pack [])) := HP.out.on Sq
  replace HX : Hid (RdV w3_ w3_.heap.size A2 (nc [])) := HX.out.on Sq
  replace HB : Hid (Below w.heap.size w w3_) := HB.out.trans (Sq.mono HB.out.size)
  clear Bq Sq
  go_wp2_with fail
  refine (begun_true _).mono ?_
  rintro e w4_ ⟨rfl, Bq⟩
  have Sq : Below w3_.heap.size w3_ w4_ := Bq
  replace pb := (Sq.cell (p := ⟨w.heap.size, 0, none⟩) zb).trans pb
  replace qb := (Sq.cell (p := ⟨w.heap.size, 1, none⟩) zb).trans qb
  replace zb : w.heap.size < w4_.heap.size := Nat.lt_of_lt_of_le zb Sq.size
  replace pm := (Sq.cell (p := ⟨w1_.heap.size, 0, none⟩) zm).trans pm
  replace qm := (Sq.cell (p := ⟨w1_.heap.size, 1, none⟩) zm).trans qm
  replace zm : w1_.heap.size < w4_.heap.size := Nat.lt_of_lt_of_le zm Sq.size
  replace HN : Hid (RdV w4_ w4_.heap.size Al (nc ns)) := HN.out.on Sq
  replace HA : Hid (Rd w4_ w4_.heap.size A bs) := HA.out.on Sq
  replace HP : Hid (Rd w4_ w4_.heap.size A1 (pack [])) := HP.out.on Sq
  replace HX : Hid (RdV w4_ w4_.heap.size A2 (nc [])) := HX.out.on Sq
  replace HB : Hid (Below w.heap.size w w4_) := HB.out.trans (Sq.mono HB.out.size)
  clear Bq Sq
  go_wp2
  go_ret
  exact ⟨rfl, HB.out⟩


theorem umany_law (Al : Option Addr) (cl : Nat) (ns : List Nat) (len : Int) (A : Option Addr) (c : Nat) (bs : List Nat) (p : Int) (w : World) (_ : ∀ n ∈ ns, n < 18446744073709551616) (hN : RdV w w.heap.size Al (nc ns)) (hn2 : ns.length ≤ 9223372036854775807) (hb : ∀ b ∈ bs, b < 256) (hA : Rd w w.heap.size A bs) (_ : -9223372036854775808 ≤ p ∧ p ≤ 9223372036854775807) :
    Calls Try.prog 5 #[.slice Al ns.length cl, .agg #[.int .i64 len, .slice A bs.length c], .int .i64 p] w fun e w' => e = .returned (.bool true) ∧ Below w.heap.size w w' := by
  by_cases he : manyE ns = 0
  · by_cases hf : allE len bs p = 0
    · obtain ⟨l, m, rfl, rfl, rfl, hl, hm, hlen⟩ := allE_zero len bs p hb hf
      exact umany_oo w ns Al cl hn2 hN _ he rfl l hl A c m hA hm _ _ _ hlen rfl rfl rfl
    · exact umany_oe w ns Al cl hn2 hN _ he rfl len A c bs p hb hA _ rfl hf
  · by_cases hf : allE len bs p = 0
    · obtain ⟨l, m, rfl, rfl, rfl, hl, hm, hlen⟩ := allE_zero len bs p hb hf
      exact umany_eo w ns Al cl hn2 hN _ rfl he l hl A c m hA hm _ _ _ hlen rfl rfl rfl
    · exact umany_ee w ns Al cl hn2 hN _ rfl he len A c bs p hb hA _ rfl hf
end Go.Proofs.Ytkbelhclcpepaaa
