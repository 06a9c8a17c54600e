/- What the writer writes of a list, and what encode leaves; conditions: lists that rise, a way to tell them that is right. -/
import Derived.Test.YticdnodlapafoaaGreatJS7
namespace Go.Proofs.YticdnodlapafoaaGreat
set_option maxRecDepth 100000
set_option linter.unusedVariables false
open Go.RowKit Go.Shelf

/-- Bits and an error come back, as they may be. -/
def GwP (V : World) (Z : List Bool) (e : Ending) (w' : World) : Prop :=
  ∃ (len : Int) (A : Option Addr) (n c : Nat) (err : Int), e = .returned (.tuple #[.agg #[.int .i64 len, .slice A n c], .int .i64 err]) ∧ Code w' Z len A n c err ∧ Below V.heap.size V w'
theorem gw_any (S : List Nat) (hS : Rising S) (n : Nat) (hn : S.length = n) (a : Nat) (ha : a ≤ 1048576) (k : Nat) (hk : 1 ≤ k) (hk2 : k ≤ 16) (A : Option Addr) (c : Nat) (V : World) (h : RdV V V.heap.size A (zc (ns S))) :
    Calls Tryz.prog 104 #[.slice A n c, .int .i64 (a : Int), .int .i64 (k : Int)] V (GwP V (zets k (gps (a : Int) S))) := by
  have hz : n ≤ 9223372036854775807 := by have := hS.1; omega
  refine (write_any (ns S) n (by rw [ns_length, hn]) hz (a : Int) (k : Int) A c V h S a k rfl hS rfl ha rfl hk hk2).mono ?_
  rintro e w' ⟨A', c', rfl, hr, hb⟩
  refine ⟨_, A', _, c', _, rfl, ?_, hb⟩
  by_cases hl : (zets k (gps (a : Int) S)).length ≤ 8192
  · rw [if_pos hl] at hr ⊢
    rw [if_pos hl]
    exact .inl ⟨hl, rfl, rfl, hr, rfl⟩
  · exact .inr ⟨by omega, by rw [if_neg hl]⟩
theorem rdv_low {w w' : World} {P : Nat} {A : Option Addr} {vs : List Value} (h : RdV w P A vs) (hb : WB P w w') (hP : P < w.heap.size) : RdV w' P A vs := h.below (hb.low (Nat.le_refl _) hP) (Nat.le_refl _)
theorem rdv_up {w : World} {P : Nat} {A : Option Addr} {vs : List Value} (h : RdV w P A vs) (hP : P ≤ w.heap.size) : RdV w w.heap.size A vs := h.below (Below.refl _ _) hP
theorem rest_nil (a ls k : Nat) : restB a ls k [] = [] := rfl
set_option maxHeartbeats 16000000 in
theorem addList_any (P : Nat) (l0 : List Bool) (a : Nat) (ha : a ≤ 1048576) (l F : List Nat) (hl : Rising l) (bk ls k : Nat) (hF : bk ≠ 0 → Rising F) (hls : ls = 0 ∨ 2 ≤ ls ∧ ls ≤ 300) (hbk : bk ≤ 7) (hk : 1 ≤ k) (hk2 : k ≤ 16) (m n : Nat) (hm : l.length = m) (A2 A1 : Option Addr) (c2 c1 : Nat) (hc2 : m ≤ c2) (w : World) (hW : WC w P l0) (h2 : RdV w P A2 (zc (ns l))) (h1 : bk ≠ 0 → F.length = n ∧ RdV w P A1 (zc (ns F))) :
    Calls Tryz.prog 74 #[.pointer (some ⟨P, 0, none⟩), .int .i64 (a : Int), .slice A2 m c2, .slice A1 n c1, .agg #[.int .i64 (bk : Int), .int .i64 (ls : Int), .int .i64 (k : Int)]] w (AddP P w (l0 ++ sbits a bk ls k l F)) := by
  have hP := hW.lt
  obtain ⟨V0, hV⟩ : ∃ V0, w.alloc (.cells #[.int .i64 (bk : Int), .int .i64 (ls : Int), .int .i64 (k : Int)] 24) = V0 := ⟨_, rfl⟩
  have hB0 : Below w.heap.size w V0 := hV ▸ one_below w _
  have hBx : V0.heap[w.heap.size]? = some (.cells #[.int .i64 (bk : Int), .int .i64 (ls : Int), .int .i64 (k : Int)] 24 (0, 0)) := hV ▸ World.alloc_heap_new w _
  have hz : w.heap.size < V0.heap.size := (Array.getElem?_eq_some_iff.1 hBx).1
  have HBx : Hid (∀ V, WB P w V → w.heap.size < V.heap.size → V.heap[w.heap.size]? = V0.heap[w.heap.size]? → V.cell? ⟨w.heap.size, 0, none⟩ = some (.int .i64 (bk : Int)) ∧ V.cell? ⟨w.heap.size, 1, none⟩ = some (.int .i64 (ls : Int)) ∧ V.cell? ⟨w.heap.size, 2, none⟩ = some (.int .i64 (k : Int))) := fun V _ _ h => by
    rw [hBx] at h
    exact ⟨(cell_at h _).trans rfl, (cell_at h _).trans rfl, (cell_at h _).trans rfl⟩
  have hm300 : m ≤ 300 := by rw [← hm]; exact hl.1
  have HA0 := Lib.hid (addNumber_any P l0 m (by omega) V0 (hW.on hB0))
  have HRd2 : Hid (∀ V, WB P w V → RdV V P A2 (zc (ns l))) := fun V hV => rdv_low h2 hV hP
  have HRd1 : Hid (bk ≠ 0 → ∀ V, WB P w V → RdV V P A1 (zc (ns F))) := fun hb V hV => rdv_low (h1 hb).2 hV hP
  have HFn : Hid (bk ≠ 0 → F.length = n) := fun hb => (h1 hb).1
  have HFr := Lib.hid hF; have HLr := Lib.hid hl; have HLm := Lib.hid hm
  have HB0 := Lib.hid hB0; have HV := Lib.hid hV; have Hz := Lib.hid hz
  have HGW : Hid (∀ (S : List Nat) (nS : Nat) A c V, Rising S → S.length = nS → RdV V V.heap.size A (zc (ns S)) → Calls Tryz.prog 104 #[.slice A nS c, .int .i64 (a : Int), .int .i64 (k : Int)] V (GwP V (zets k (gps (a : Int) S)))) := fun S nS A c V hS hn h => gw_any S hS nS hn a ha k hk hk2 A c V h
  have HSb : Hid (sbits a bk ls k l F = gam m ++ if l = [] then [] else bksB bk F l ++ restB a ls k (bksR bk F l)) := by show _ = _; rw [← hm]; rfl
  clear hW h2 h1 hF hl hm hBx hB0
  generalize sbits a bk ls k l F = SB at *
  by_cases hm0 : m = 0
  · have e : l = [] := List.eq_nil_of_length_eq_zero (by rw [HLm.out]; exact hm0)
    rw [if_pos e, List.append_nil] at HSb
    have t0 : ((m : Int) == 0) = true := by simp; omega
    have Hm0 := Lib.hid hm0
    clear hm0 e
    go_enter Tryz.func74, Tryz.ntmps74
    go_wp2_with fail
    refine HA0.out.mono ?_
    rintro e w1 ⟨rfl, hw, hb⟩
    have HW1 : Hid (WC w1 P (l0 ++ SB)) := by show WC _ _ _; rw [HSb.out]; exact hw
    have HB1 : Hid (WB P w w1) := (wb_below HB0.out).trans hb
    clear hw hb
    go_wp2
    go_end0
    exact ⟨rfl, HW1.out, HB1.out⟩
  · have e : l ≠ [] := fun h => hm0 (by rw [← HLm.out, h]; rfl)
    rw [if_neg e] at HSb
    have t0 : ((m : Int) == 0) = false := by simp; omega
    clear e
    by_cases hb0 : bk = 0
    · have u0 : ((bk : Int) != 0) = false := by simp; omega
      have eB : bksB bk F l = [] := by unfold bksB; rw [if_pos hb0]
      have eR : bksR bk F l = l := by unfold bksR; rw [if_pos hb0]
      rw [eB, eR, List.nil_append] at HSb
      clear eB eR hm0 hb0
      go_enter Tryz.func74, Tryz.ntmps74
      go_wp2_with fail
      refine HA0.out.mono ?_
      rintro e v ⟨rfl, hw, hb⟩
      obtain ⟨p0, p1, p2⟩ := HBx.out v ((wb_below HB0.out).trans hb) (Nat.lt_of_lt_of_le hz hb.size) (hb.block _ hz (by simp; omega))
      have HWv : Hid (WC v P (l0 ++ gam m)) := hw
      have HBv : Hid (WB P w v) := (wb_below HB0.out).trans hb
      have HPv : Hid (P < v.heap.size ∧ w.heap.size < v.heap.size) := by have := hb.size; exact ⟨by omega, by omega⟩
      have HRv : Hid (RdV v v.heap.size A2 (zc (ns l))) := rdv_up (HRd2.out v HBv.out) (Nat.le_of_lt HPv.out.1)
      have HEq : Hid (l0 ++ SB = l0 ++ gam m ++ restB a ls k l) := by show _ = _; rw [HSb.out, List.append_assoc]
      have hx : v.heap[w.heap.size]? = V0.heap[w.heap.size]? := hb.block _ hz (by simp; omega)
      have HX := Lib.hid hx
      have HRi : Hid (Rising l) := HLr.out
      have HLn : Hid (l.length = m) := HLm.out
      clear hw hb hx
      by_cases hq0 : m = 0
      · have e : l = [] := List.eq_nil_of_length_eq_zero (by rw [HLn.out]; exact hq0)
        have t1 : ((m : Int) == 0) = true := by simp; omega
        have HEq2 : Hid (l0 ++ SB = l0 ++ gam m) := by show _ = _; rw [HEq.out, e, rest_nil, List.append_nil]
        clear e hq0
        rw [t0] at t1
        exact absurd t1 (by decide)
      · have e : l ≠ [] := fun h => hq0 (by rw [← HLn.out, h]; rfl)
        have t1 : ((m : Int) == 0) = false := by simp; omega
        by_cases hl0 : ls = 0
        · have u1 : ((ls : Int) != 0) = false := by simp; omega
          have HEq2 : Hid (l0 ++ SB = l0 ++ gam m ++ zets k (gps (a : Int) l)) := by
            show _ = _
            rw [HEq.out]; unfold restB runB rsS
            rw [if_neg e, if_pos hl0, if_pos hl0, List.nil_append]
          have HG := Lib.hid (HGW.out l m A2 c2 v HRi.out HLn.out HRv.out)
          clear e hq0 hl0
          generalize zets k (gps (a : Int) l) = Z at *
          go_wp2_with fail
          refine HG.out.mono ?_
          rintro e v2 ⟨len, A3, n3, c3, err, rfl, hco, hb2⟩
          have HAd := Lib.hid (add_any P _ Z len A3 n3 c3 err v2 (HWv.out.on hb2) hco)
          have HB2 := Lib.hid hb2
          clear hco hb2
          go_wp2_with fail
          refine HAd.out.mono ?_
          rintro e v3 ⟨rfl, hw, hb⟩
          have HW3 : Hid (WC v3 P (l0 ++ SB)) := by show WC _ _ _; rw [HEq2.out]; exact hw
          have HB3 : Hid (WB P w v3) := (HBv.out.trans (wb_below HB2.out)).trans hb
          clear hw hb
          go_wp2
          go_end0
          exact ⟨rfl, HW3.out, HB3.out⟩
        · have u1 : ((ls : Int) != 0) = true := by simp; omega
          have hls' : 2 ≤ ls ∧ ls ≤ 300 := by omega
          have HAR := Lib.hid (addRuns_any P (l0 ++ gam m) a ha l HRi.out m HLn.out ls hls'.1 hls'.2 A2 c2 hc2 v HWv.out HRv.out)
          have HEq2 : Hid (l0 ++ SB = l0 ++ gam m ++ (gam (lng ls (rs l)).length ++ gams (rnu (a : Int) ls (lng ls (rs l)))) ++ zets k (gps (a : Int) (flatR (sht ls (rs l))))) := by
            show _ = _
            rw [HEq.out]; unfold restB runB rsS rsR
            rw [if_neg e, if_neg hl0, if_neg hl0, if_neg hl0]
            simp only [List.append_assoc]
          have HRs : Hid (Rising (flatR (sht ls (rs l)))) := sht_rising ls l HRi.out
          clear e hq0 hl0
          generalize gam (lng ls (rs l)).length ++ gams (rnu (a : Int) ls (lng ls (rs l))) = RR at *
          generalize flatR (sht ls (rs l)) = S at *
          go_wp2_with fail
          refine HAR.out.mono ?_
          rintro e v2 ⟨⟨A4, c4, rfl, hown4⟩, hw, hb⟩
          have hx2 : v2.heap[w.heap.size]? = V0.heap[w.heap.size]? := (hb.block _ HPv.out.2 (by simp; omega)).trans HX.out
          obtain ⟨p0', p1', p2'⟩ := HBx.out v2 (HBv.out.trans hb) (Nat.lt_of_lt_of_le HPv.out.2 hb.size) hx2
          have HG := Lib.hid (HGW.out S S.length A4 c4 v2 HRs.out rfl (own_rdv hown4))
          have HW2 := Lib.hid hw
          have HB2 : Hid (WB P w v2) := HBv.out.trans hb
          clear hx2 hw hb hown4 p0 p1 p2
          generalize S.length = ql at *
          generalize zets k (gps (a : Int) S) = Z at *
          go_wp2_with fail
          refine HG.out.mono ?_
          rintro e v3 ⟨len, A3, n3, c3, err, rfl, hco, hb3⟩
          have HAd := Lib.hid (add_any P _ Z len A3 n3 c3 err v3 (HW2.out.on hb3) hco)
          have HB3 := Lib.hid hb3
          clear hco hb3
          go_wp2_with fail
          refine HAd.out.mono ?_
          rintro e v4 ⟨rfl, hw, hb⟩
          have HW4 : Hid (WC v4 P (l0 ++ SB)) := by show WC _ _ _; rw [HEq2.out]; exact hw
          have HB4 : Hid (WB P w v4) := (HB2.out.trans (wb_below HB3.out)).trans hb
          clear hw hb
          go_wp2
          go_end0
          exact ⟨rfl, HW4.out, HB4.out⟩
    · have u0 : ((bk : Int) != 0) = true := by simp; omega
      have eB : bksB bk F l = gam (bks F l).length ++ gams (bnums (bks F l)) := by unfold bksB; rw [if_neg hb0]
      have eR : bksR bk F l = notin F l := by unfold bksR; rw [if_neg hb0]
      rw [eB, eR] at HSb
      have hF := HFr.out hb0
      have hR1 := HRd1.out hb0
      have hFn := HFn.out hb0
      have HAB : Hid (∀ V, WB P w V → P < V.heap.size → WC V P (l0 ++ gam m) → Calls Tryz.prog 101 #[.pointer (some ⟨P, 0, none⟩), .slice A1 n c1, .slice A2 m c2] V (AddLP P V (l0 ++ gam m ++ (gam (bks F l).length ++ gams (bnums (bks F l)))) (notin F l))) := fun V hV hPV hw => addBlocks_any P _ F l hF HLr.out n m hFn HLm.out A1 A2 c1 c2 V hw (rdv_up (hR1 V hV) (Nat.le_of_lt hPV)) (rdv_up (HRd2.out V hV) (Nat.le_of_lt hPV))
      have HRi : Hid (Rising (notin F l)) := notin_rising F l HLr.out
      have hml : (notin F l).length ≤ 300 := HRi.out.1
      clear eB eR hm0 hb0 hF hR1 hFn
      generalize gam (bks F l).length ++ gams (bnums (bks F l)) = BB at *
      generalize notin F l = r at *
      go_enter Tryz.func74, Tryz.ntmps74
      go_wp2_with fail
      refine HA0.out.mono ?_
      rintro e v1 ⟨rfl, hw, hb⟩
      obtain ⟨p0, p1, p2⟩ := HBx.out v1 ((wb_below HB0.out).trans hb) (Nat.lt_of_lt_of_le hz hb.size) (hb.block _ hz (by simp; omega))
      have HB1 : Hid (WB P w v1) := (wb_below HB0.out).trans hb
      have hP1 : P < v1.heap.size := by have := hb.size; omega
      have hz1 : w.heap.size < v1.heap.size := by have := hb.size; omega
      have HAB1 := Lib.hid (HAB.out v1 HB1.out hP1 hw)
      have hx1 : v1.heap[w.heap.size]? = V0.heap[w.heap.size]? := hb.block _ hz (by simp; omega)
      have HX1 := Lib.hid hx1
      clear hw hb hx1
      go_wp2_with fail
      refine HAB1.out.mono ?_
      rintro e v ⟨⟨Ar, cr, rfl, hown⟩, hw, hb⟩
      have hx : v.heap[w.heap.size]? = V0.heap[w.heap.size]? := (hb.block _ hz1 (by simp; omega)).trans HX1.out
      obtain ⟨p0, p1, p2⟩ := HBx.out v (HB1.out.trans hb) (Nat.lt_of_lt_of_le hz1 hb.size) hx
      have HWv : Hid (WC v P (l0 ++ gam m ++ BB)) := hw
      have HBv : Hid (WB P w v) := HB1.out.trans hb
      have HPv : Hid (P < v.heap.size ∧ w.heap.size < v.heap.size) := by have := hb.size; exact ⟨by omega, by omega⟩
      have HRv : Hid (RdV v v.heap.size Ar (zc (ns r))) := own_rdv hown
      have HEq : Hid (l0 ++ SB = l0 ++ gam m ++ BB ++ restB a ls k r) := by show _ = _; rw [HSb.out]; simp only [List.append_assoc]
      have HX := Lib.hid hx
      have hcr := own_cap hown
      clear hw hb hx hown
      generalize hq : r.length = q at *
      have HLn : Hid (r.length = q) := hq
      clear hq
      by_cases hq0 : q = 0
      · have e : r = [] := List.eq_nil_of_length_eq_zero (by rw [HLn.out]; exact hq0)
        have t1 : ((q : Int) == 0) = true := by simp; omega
        have HEq2 : Hid (l0 ++ SB = l0 ++ gam m ++ BB) := by show _ = _; rw [HEq.out, e, rest_nil, List.append_nil]
        clear e hq0
        go_wp2
        go_end0
        exact ⟨rfl, by rw [HEq2.out]; exact HWv.out, HBv.out⟩
      · have e : r ≠ [] := fun h => hq0 (by rw [← HLn.out, h]; rfl)
        have t1 : ((q : Int) == 0) = false := by simp; omega
        by_cases hl0 : ls = 0
        · have u1 : ((ls : Int) != 0) = false := by simp; omega
          have HEq2 : Hid (l0 ++ SB = l0 ++ gam m ++ BB ++ zets k (gps (a : Int) r)) := by
            show _ = _
            rw [HEq.out]; unfold restB runB rsS
            rw [if_neg e, if_pos hl0, if_pos hl0, List.nil_append]
          have HG := Lib.hid (HGW.out r q Ar cr v HRi.out HLn.out HRv.out)
          clear e hq0 hl0
          generalize zets k (gps (a : Int) r) = Z at *
          go_wp2_with fail
          refine HG.out.mono ?_
          rintro e v2 ⟨len, A3, n3, c3, err, rfl, hco, hb2⟩
          have HAd := Lib.hid (add_any P _ Z len A3 n3 c3 err v2 (HWv.out.on hb2) hco)
          have HB2 := Lib.hid hb2
          clear hco hb2
          go_wp2_with fail
          refine HAd.out.mono ?_
          rintro e v3 ⟨rfl, hw, hb⟩
          have HW3 : Hid (WC v3 P (l0 ++ SB)) := by show WC _ _ _; rw [HEq2.out]; exact hw
          have HB3 : Hid (WB P w v3) := (HBv.out.trans (wb_below HB2.out)).trans hb
          clear hw hb
          go_wp2
          go_end0
          exact ⟨rfl, HW3.out, HB3.out⟩
        · have u1 : ((ls : Int) != 0) = true := by simp; omega
          have hls' : 2 ≤ ls ∧ ls ≤ 300 := by omega
          have HAR := Lib.hid (addRuns_any P (l0 ++ gam m ++ BB) a ha r HRi.out q HLn.out ls hls'.1 hls'.2 Ar cr hcr v HWv.out HRv.out)
          have HEq2 : Hid (l0 ++ SB = l0 ++ gam m ++ BB ++ (gam (lng ls (rs r)).length ++ gams (rnu (a : Int) ls (lng ls (rs r)))) ++ zets k (gps (a : Int) (flatR (sht ls (rs r))))) := by
            show _ = _
            rw [HEq.out]; unfold restB runB rsS rsR
            rw [if_neg e, if_neg hl0, if_neg hl0, if_neg hl0]
            simp only [List.append_assoc]
          have HRs : Hid (Rising (flatR (sht ls (rs r)))) := sht_rising ls r HRi.out
          clear e hq0 hl0
          generalize gam (lng ls (rs r)).length ++ gams (rnu (a : Int) ls (lng ls (rs r))) = RR at *
          generalize flatR (sht ls (rs r)) = S at *
          go_wp2_with fail
          refine HAR.out.mono ?_
          rintro e v2 ⟨⟨A4, c4, rfl, hown4⟩, hw, hb⟩
          have hx2 : v2.heap[w.heap.size]? = V0.heap[w.heap.size]? := (hb.block _ HPv.out.2 (by simp; omega)).trans HX.out
          obtain ⟨p0', p1', p2'⟩ := HBx.out v2 (HBv.out.trans hb) (Nat.lt_of_lt_of_le HPv.out.2 hb.size) hx2
          have HG := Lib.hid (HGW.out S S.length A4 c4 v2 HRs.out rfl (own_rdv hown4))
          have HW2 := Lib.hid hw
          have HB2 : Hid (WB P w v2) := HBv.out.trans hb
          clear hx2 hw hb hown4 p0 p1 p2
          generalize S.length = ql at *
          generalize zets k (gps (a : Int) S) = Z at *
          go_wp2_with fail
          refine HG.out.mono ?_
          rintro e v3 ⟨len, A3, n3, c3, err, rfl, hco, hb3⟩
          have HAd := Lib.hid (add_any P _ Z len A3 n3 c3 err v3 (HW2.out.on hb3) hco)
          have HB3 := Lib.hid hb3
          clear hco hb3
          go_wp2_with fail
          refine HAd.out.mono ?_
          rintro e v4 ⟨rfl, hw, hb⟩
          have HW4 : Hid (WC v4 P (l0 ++ SB)) := by show WC _ _ _; rw [HEq2.out]; exact hw
          have HB4 : Hid (WB P w v4) := (HB2.out.trans (wb_below HB3.out)).trans hb
          clear hw hb
          go_wp2
          go_end0
          exact ⟨rfl, HW4.out, HB4.out⟩
end Go.Proofs.YticdnodlapafoaaGreat
