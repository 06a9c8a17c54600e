/- The law VarintTells: all calls on numbers as bytes answer what the document says; for whatever is handed in. -/
import Derived.Test.YtjogccpnhcnedaaVLBack
namespace Go.Proofs.Ytjogccpnhcnedaa
set_option maxRecDepth 100000
set_option linter.unusedVariables false
open Go.RowKit Go.Shelf

/-- At each round's head: the bytes of the first i numbers. -/
def TwRel (w3 : World) (ns : List Nat) (n : Nat) (v q : Value) (wr : World) : Prop :=
  ∃ i : Nat, q = .int .i64 (i : Int) ∧ i ≤ n ∧ wr.ownsRow w3.heap.size 5 1 v (vbs (ns.take i)).length (bc (vbs (ns.take i))) ∧ Below w3.heap.size w3 wr ∧ (vbs (ns.take i)).length ≤ 5020

set_option maxHeartbeats 4000000 in
theorem vtells_s_many (x : Int) (fx : Nat) (A : Option Addr) (c n : Nat) (ns : List Nat) (B : Option Addr) (d m : Nat) (bs : List Nat) (p : Int) (w : World) (ws rn : List Nat) (v to : Nat) (e0 re : Int)
    (hnn : ns.length = n) (hn2 : n ≤ 9223372036854775807) (hu : ∀ k ∈ ns, k < 18446744073709551616) (hA : RdV w w.heap.size A (nc ns)) (hB : Rd w w.heap.size B bs)
    (H1 : Hid (∀ w, RdV w w.heap.size A (nc ns) → Calls Try.prog 27 #[.slice A n c] w (Wrote w ws 0))) (H2 : Hid (∀ w, Rd w w.heap.size B bs → Calls Try.prog 28 #[.slice B m d, .int .i64 p] w (ReadP w 0 0 2))) (H3 : Hid (∀ w, Rd w w.heap.size B bs → Calls Try.prog 29 #[.slice B m d] w (AllP w rn re))) (H6 : Hid (∀ w, Rd w w.heap.size B bs → Calls Try.prog 32 #[.slice B m d] w (AllP w rn re))) (H7 : Hid (∀ w, Calls Try.prog 34 #[.int .i64 x] w fun e w' => e = .returned (.int .u64 (fx : Int)) ∧ w = w')) (H8 : Hid (∀ w, Calls Try.prog 35 #[.int .i64 x] w fun e w' => e = .returned (.int .u64 (fx : Int)) ∧ w = w')) (H9 : Hid (∀ w, Calls Try.prog 36 #[.int .u64 (fx : Int)] w fun e w' => e = .returned (.int .i64 x) ∧ w = w')) (H10 : Hid (∀ A1 c1 A2 c2 w, Rd w w.heap.size A1 ws → Rd w w.heap.size A2 ws → Calls Try.prog 37 #[.slice A1 ws.length c1, .slice A2 ws.length c2] w fun e w' => e = .returned (.bool true) ∧ Below w.heap.size w w')) (H11 : Hid (∀ A1 c1 A2 c2 w, RdV w w.heap.size A1 (nc rn) → RdV w w.heap.size A2 (nc rn) → Calls Try.prog 38 #[.slice A1 rn.length c1, .slice A2 rn.length c2] w fun e w' => e = .returned (.bool true) ∧ Below w.heap.size w w')) (hm : 4096 < m) (hs : ws = vbs ns) (hw : ws.length ≤ 4096) :
    Calls Try.prog 5 #[.int .i64 x, .slice A n c, .slice B m d, .int .i64 p] w fun e w' => e = .returned (.bool true) ∧ Below w.heap.size w w' := by
  have HL := Lib.hid hA; clear hA
  have HBs := Lib.hid hB; clear hB
  have HN := Lib.hid hnn; clear hnn
  have HU := Lib.hid hu; clear hu
  have HS := Lib.hid hs; clear hs
  have tm : decide ((4096 : Int) < (m : Int)) = true := by simp; omega
  go_enter Try.func5, Try.ntmps5
  go_wp2_with fail
  refine (H1.out w HL.out).mono ?_
  rintro e w1_ ⟨A1, c1, rfl, -, hr1, Bq⟩
  replace HL := Lib.hid (HL.out.on Bq)
  replace HBs := Lib.hid (HBs.out.on Bq)
  have HB := Lib.hid Bq
  clear Bq
  have G1 := Lib.hid hr1; clear hr1
  go_wp2_with fail
  refine (H2.out w1_ HBs.out).mono ?_
  rintro e w2_ ⟨rfl, Bq⟩
  replace HL := Lib.hid (HL.out.on Bq)
  replace HBs := Lib.hid (HBs.out.on Bq)
  replace G1 := Lib.hid (G1.out.on Bq)
  replace HB := Lib.hid (HB.out.trans (Bq.mono HB.out.size))
  clear Bq
  go_wp2_with fail
  refine (H3.out w2_ HBs.out).mono ?_
  rintro e w3_ ⟨A3, c3, rfl, -, hr3, Bq⟩
  replace HL := Lib.hid (HL.out.on Bq)
  replace HBs := Lib.hid (HBs.out.on Bq)
  replace G1 := Lib.hid (G1.out.on Bq)
  replace HB := Lib.hid (HB.out.trans (Bq.mono HB.out.size))
  clear Bq
  have G3 := Lib.hid hr3; clear hr3
  go_wp2
  go_loopw [16, 17] (fun v q wr => TwRel w3_ ns n v q wr) (fun _ q _ => n - (intOf q).toNat)
  case atStart => exact ⟨0, rfl, Nat.zero_le _, ⟨rfl, .inl ⟨rfl, rfl⟩⟩, Below.refl _ _, by simp [vbs]⟩
  case round =>
    obtain ⟨i, rfl, hin, hrow, hbel, hlen⟩ := hrel
    obtain ⟨Av, cv, rfl⟩ := own_slice hrow
    have HO := Lib.hid hrow
    have HBl := Lib.hid hbel
    have HTk := Lib.hid (vbs_take_le ns i)
    have HAl := Lib.hid (fun h : n ≤ i => (List.take_of_length_le (by rw [HN.out]; exact h) : ns.take i = ns))
    by_cases hlt : i < n
    · have hil : i < ns.length := by rw [HN.out]; exact hlt
      obtain ⟨b, off, rfl, hb, hc⟩ := HL.out.at_ (nc_get ns i hil)
      have e1 := (hbel.cell (p := ⟨b, off + i, none⟩) hb).trans hc
      have hx : ns[i]?.getD 0 < 18446744073709551616 := by
        rw [List.getElem?_eq_getElem hil]; exact HU.out _ (List.getElem_mem hil)
      have HT : Hid (vbs (ns.take (i + 1)) = vbs (ns.take i) ++ vb (ns[i]?.getD 0)) := by
        show _ = _
        rw [take_snoc ns i hil, vbs_snoc]
      have hv10 := vb_ten _ hx
      have HG := Lib.hid (vbytes_any (ns[i]?.getD 0) wr hx)
      clear hc hrow
      generalize ns[i]?.getD 0 = y at *
      generalize hq : (vbs (ns.take i)).length = q at *
      have HQ := Lib.hid hq; clear hq
      by_cases h5 : q < 5000
      · have t5 : decide ((q : Int) < 5000) = true := by simp; omega
        clear hbel
        go_wp2_with fail
        refine HG.out.mono ?_
        rintro e v1_ ⟨v', rfl, hown, hb1⟩
        obtain ⟨A', c', rfl⟩ := own_slice hown
        have HO1 := Lib.hid (HO.out.kept (grown_of_below hb1 none) (by
          rcases HO.out.2 with ⟨h, _⟩ | ⟨g, cap, cur, h, _⟩
          · left; rw [h]; rfl
          · right; rw [h]; simp [Value.ownBlock]))
        have HRd := Lib.hid (own_rd hown)
        have HNil := Lib.hid (own_none hown)
        have HB1 := Lib.hid (HBl.out.trans (hb1.mono HBl.out.size))
        clear hown hb1
        generalize hq2 : (vb y).length = q2 at *
        have HQ2 := Lib.hid hq2; clear hq2
        have HQ3 : Hid ((vbs (ns.take (i + 1))).length = q + q2) := by show _ = _; rw [HT.out, List.length_append, HQ.out, HQ2.out]
        go_wp2_with (at_builtin; refine app5 rfl _ _ rfl w3_.heap.size _ q _ rfl HO1.out A' q2 c' (vb y) rfl HRd.out HQ2.out HNil.out (by omega) HB1.out.size ?_; intro v' w5 hown2 hgrow2)
        go_roundw
        case rel =>
          refine ⟨i + 1, by go_num, by omega, ?_, HB1.out.trans (grown_below hgrow2 HO1.out HB1.out.size), by rw [HQ3.out]; omega⟩
          rw [HQ3.out, HT.out, bc_append]
          exact hown2
        case measure => simp [intOf]; omega
      · exact absurd (show q ≤ 4096 by have := HTk.out; rw [← HS.out] at this; omega) (by omega)
    · have HE := HAl.out (by omega)
      rw [HE] at HO HTk hlen
      have HBw := Lib.hid (HB.out.trans (hbel.mono HB.out.size))
      replace HBs := Lib.hid (HBs.out.on hbel)
      replace G1 := Lib.hid (G1.out.on hbel)
      replace G3 := Lib.hid (G3.out.on hbel)
      have GW := Lib.hid (own_rd HO.out)
      rw [← HS.out] at GW
      have HQW : Hid ((vbs (ns.take i)).length = ws.length) := by show _ = _; rw [HE, ← HS.out]
      rw [HQW.out]
      have t6 : decide ((4096 : Int) < (ws.length : Int)) = false := by simp; omega
      clear hbel HO HBl HTk HAl HE hrow hlen
      go_wp2_with fail
      refine (H6.out wr HBs.out).mono ?_
      rintro e v1_ ⟨A6, c6, rfl, -, hr6, Bq⟩
      replace HBs := Lib.hid (HBs.out.on Bq)
      replace G1 := Lib.hid (G1.out.on Bq)
      replace G3 := Lib.hid (G3.out.on Bq)
      replace GW := Lib.hid (GW.out.on Bq)
      replace HBw := Lib.hid (HBw.out.trans (Bq.mono HBw.out.size))
      clear Bq
      have G6 := Lib.hid hr6; clear hr6
      go_wp2_with fail
      refine (vbegun_true v1_).mono ?_
      rintro e v2_ ⟨rfl, Bq⟩
      replace HBs := Lib.hid (HBs.out.on Bq)
      replace G1 := Lib.hid (G1.out.on Bq)
      replace G3 := Lib.hid (G3.out.on Bq)
      replace GW := Lib.hid (GW.out.on Bq)
      replace G6 := Lib.hid (G6.out.on Bq)
      replace HBw := Lib.hid (HBw.out.trans (Bq.mono HBw.out.size))
      clear Bq
      go_wp2_with fail
      refine (H7.out _).mono ?_
      rintro e w_ ⟨rfl, rfl⟩
      go_wp2_with fail
      refine (H8.out _).mono ?_
      rintro e w_ ⟨rfl, rfl⟩
      go_wp2_with fail
      refine (H8.out _).mono ?_
      rintro e w_ ⟨rfl, rfl⟩
      go_wp2_with fail
      refine (H9.out _).mono ?_
      rintro e w_ ⟨rfl, rfl⟩
      go_wp2_with fail
      refine (H10.out A1 c1 Av cv v2_ G1.out GW.out).mono ?_
      rintro e v3_ ⟨rfl, Bq⟩
      replace HBs := Lib.hid (HBs.out.on Bq)
      replace G1 := Lib.hid (G1.out.on Bq)
      replace G3 := Lib.hid (G3.out.on Bq)
      replace GW := Lib.hid (GW.out.on Bq)
      replace G6 := Lib.hid (G6.out.on Bq)
      replace HBw := Lib.hid (HBw.out.trans (Bq.mono HBw.out.size))
      clear Bq
      go_wp2_with fail
      refine (H11.out A3 c3 A6 c6 v3_ G3.out G6.out).mono ?_
      rintro e v4_ ⟨rfl, Bq⟩
      replace HBs := Lib.hid (HBs.out.on Bq)
      replace G1 := Lib.hid (G1.out.on Bq)
      replace G3 := Lib.hid (G3.out.on Bq)
      replace GW := Lib.hid (GW.out.on Bq)
      replace G6 := Lib.hid (G6.out.on Bq)
      replace HBw := Lib.hid (HBw.out.trans (Bq.mono HBw.out.size))
      clear Bq
      go_wp2
      go_ret
      exact ⟨rfl, HBw.out⟩

set_option maxHeartbeats 4000000 in
theorem vtells_s_range (x : Int) (fx : Nat) (A : Option Addr) (c n : Nat) (ns : List Nat) (B : Option Addr) (d m : Nat) (bs : List Nat) (p : Int) (w : World) (ws rn : List Nat) (v to : Nat) (e0 re : Int)
    (hnn : ns.length = n) (hn2 : n ≤ 9223372036854775807) (hu : ∀ k ∈ ns, k < 18446744073709551616) (hA : RdV w w.heap.size A (nc ns)) (hB : Rd w w.heap.size B bs)
    (H1 : Hid (∀ w, RdV w w.heap.size A (nc ns) → Calls Try.prog 27 #[.slice A n c] w (Wrote w ws 0))) (H2 : Hid (∀ w, Rd w w.heap.size B bs → Calls Try.prog 28 #[.slice B m d, .int .i64 p] w (ReadP w 0 0 3))) (H3 : Hid (∀ w, Rd w w.heap.size B bs → Calls Try.prog 29 #[.slice B m d] w (AllP w rn re))) (H6 : Hid (∀ w, Rd w w.heap.size B bs → Calls Try.prog 32 #[.slice B m d] w (AllP w rn re))) (H7 : Hid (∀ w, Calls Try.prog 34 #[.int .i64 x] w fun e w' => e = .returned (.int .u64 (fx : Int)) ∧ w = w')) (H8 : Hid (∀ w, Calls Try.prog 35 #[.int .i64 x] w fun e w' => e = .returned (.int .u64 (fx : Int)) ∧ w = w')) (H9 : Hid (∀ w, Calls Try.prog 36 #[.int .u64 (fx : Int)] w fun e w' => e = .returned (.int .i64 x) ∧ w = w')) (H10 : Hid (∀ A1 c1 A2 c2 w, Rd w w.heap.size A1 ws → Rd w w.heap.size A2 ws → Calls Try.prog 37 #[.slice A1 ws.length c1, .slice A2 ws.length c2] w fun e w' => e = .returned (.bool true) ∧ Below w.heap.size w w')) (H11 : Hid (∀ A1 c1 A2 c2 w, RdV w w.heap.size A1 (nc rn) → RdV w w.heap.size A2 (nc rn) → Calls Try.prog 38 #[.slice A1 rn.length c1, .slice A2 rn.length c2] w fun e w' => e = .returned (.bool true) ∧ Below w.heap.size w w')) (hm : m ≤ 4096) (hp : p < 0 ∨ (m : Int) < p) (hs : ws = vbs ns) (hw : ws.length ≤ 4096) :
    Calls Try.prog 5 #[.int .i64 x, .slice A n c, .slice B m d, .int .i64 p] w fun e w' => e = .returned (.bool true) ∧ Below w.heap.size w w' := by
  have HL := Lib.hid hA; clear hA
  have HBs := Lib.hid hB; clear hB
  have HN := Lib.hid hnn; clear hnn
  have HU := Lib.hid hu; clear hu
  have HS := Lib.hid hs; clear hs
  rcases (show p < 0 ∨ (0 ≤ p ∧ (m : Int) < p) by omega) with hp | ⟨hp0, hp⟩
  · have tm : decide ((4096 : Int) < (m : Int)) = false := by simp; omega
    have tp1 : decide (p < 0) = true := by simp; omega
    go_enter Try.func5, Try.ntmps5
    go_wp2_with fail
    refine (H1.out w HL.out).mono ?_
    rintro e w1_ ⟨A1, c1, rfl, -, hr1, Bq⟩
    replace HL := Lib.hid (HL.out.on Bq)
    replace HBs := Lib.hid (HBs.out.on Bq)
    have HB := Lib.hid Bq
    clear Bq
    have G1 := Lib.hid hr1; clear hr1
    go_wp2_with fail
    refine (H2.out w1_ HBs.out).mono ?_
    rintro e w2_ ⟨rfl, Bq⟩
    replace HL := Lib.hid (HL.out.on Bq)
    replace HBs := Lib.hid (HBs.out.on Bq)
    replace G1 := Lib.hid (G1.out.on Bq)
    replace HB := Lib.hid (HB.out.trans (Bq.mono HB.out.size))
    clear Bq
    go_wp2_with fail
    refine (H3.out w2_ HBs.out).mono ?_
    rintro e w3_ ⟨A3, c3, rfl, -, hr3, Bq⟩
    replace HL := Lib.hid (HL.out.on Bq)
    replace HBs := Lib.hid (HBs.out.on Bq)
    replace G1 := Lib.hid (G1.out.on Bq)
    replace HB := Lib.hid (HB.out.trans (Bq.mono HB.out.size))
    clear Bq
    have G3 := Lib.hid hr3; clear hr3
    go_wp2
    go_loopw [16, 17] (fun v q wr => TwRel w3_ ns n v q wr) (fun _ q _ => n - (intOf q).toNat)
    case atStart => exact ⟨0, rfl, Nat.zero_le _, ⟨rfl, .inl ⟨rfl, rfl⟩⟩, Below.refl _ _, by simp [vbs]⟩
    case round =>
      obtain ⟨i, rfl, hin, hrow, hbel, hlen⟩ := hrel
      obtain ⟨Av, cv, rfl⟩ := own_slice hrow
      have HO := Lib.hid hrow
      have HBl := Lib.hid hbel
      have HTk := Lib.hid (vbs_take_le ns i)
      have HAl := Lib.hid (fun h : n ≤ i => (List.take_of_length_le (by rw [HN.out]; exact h) : ns.take i = ns))
      by_cases hlt : i < n
      · have hil : i < ns.length := by rw [HN.out]; exact hlt
        obtain ⟨b, off, rfl, hb, hc⟩ := HL.out.at_ (nc_get ns i hil)
        have e1 := (hbel.cell (p := ⟨b, off + i, none⟩) hb).trans hc
        have hx : ns[i]?.getD 0 < 18446744073709551616 := by
          rw [List.getElem?_eq_getElem hil]; exact HU.out _ (List.getElem_mem hil)
        have HT : Hid (vbs (ns.take (i + 1)) = vbs (ns.take i) ++ vb (ns[i]?.getD 0)) := by
          show _ = _
          rw [take_snoc ns i hil, vbs_snoc]
        have hv10 := vb_ten _ hx
        have HG := Lib.hid (vbytes_any (ns[i]?.getD 0) wr hx)
        clear hc hrow
        generalize ns[i]?.getD 0 = y at *
        generalize hq : (vbs (ns.take i)).length = q at *
        have HQ := Lib.hid hq; clear hq
        by_cases h5 : q < 5000
        · have t5 : decide ((q : Int) < 5000) = true := by simp; omega
          clear hbel
          go_wp2_with fail
          refine HG.out.mono ?_
          rintro e v1_ ⟨v', rfl, hown, hb1⟩
          obtain ⟨A', c', rfl⟩ := own_slice hown
          have HO1 := Lib.hid (HO.out.kept (grown_of_below hb1 none) (by
            rcases HO.out.2 with ⟨h, _⟩ | ⟨g, cap, cur, h, _⟩
            · left; rw [h]; rfl
            · right; rw [h]; simp [Value.ownBlock]))
          have HRd := Lib.hid (own_rd hown)
          have HNil := Lib.hid (own_none hown)
          have HB1 := Lib.hid (HBl.out.trans (hb1.mono HBl.out.size))
          clear hown hb1
          generalize hq2 : (vb y).length = q2 at *
          have HQ2 := Lib.hid hq2; clear hq2
          have HQ3 : Hid ((vbs (ns.take (i + 1))).length = q + q2) := by show _ = _; rw [HT.out, List.length_append, HQ.out, HQ2.out]
          go_wp2_with (at_builtin; refine app5 rfl _ _ rfl w3_.heap.size _ q _ rfl HO1.out A' q2 c' (vb y) rfl HRd.out HQ2.out HNil.out (by omega) HB1.out.size ?_; intro v' w5 hown2 hgrow2)
          go_roundw
          case rel =>
            refine ⟨i + 1, by go_num, by omega, ?_, HB1.out.trans (grown_below hgrow2 HO1.out HB1.out.size), by rw [HQ3.out]; omega⟩
            rw [HQ3.out, HT.out, bc_append]
            exact hown2
          case measure => simp [intOf]; omega
        · exact absurd (show q ≤ 4096 by have := HTk.out; rw [← HS.out] at this; omega) (by omega)
      · have HE := HAl.out (by omega)
        rw [HE] at HO HTk hlen
        have HBw := Lib.hid (HB.out.trans (hbel.mono HB.out.size))
        replace HBs := Lib.hid (HBs.out.on hbel)
        replace G1 := Lib.hid (G1.out.on hbel)
        replace G3 := Lib.hid (G3.out.on hbel)
        have GW := Lib.hid (own_rd HO.out)
        rw [← HS.out] at GW
        have HQW : Hid ((vbs (ns.take i)).length = ws.length) := by show _ = _; rw [HE, ← HS.out]
        rw [HQW.out]
        have t6 : decide ((4096 : Int) < (ws.length : Int)) = false := by simp; omega
        clear hbel HO HBl HTk HAl HE hrow hlen
        go_wp2_with fail
        refine (H6.out wr HBs.out).mono ?_
        rintro e v1_ ⟨A6, c6, rfl, -, hr6, Bq⟩
        replace HBs := Lib.hid (HBs.out.on Bq)
        replace G1 := Lib.hid (G1.out.on Bq)
        replace G3 := Lib.hid (G3.out.on Bq)
        replace GW := Lib.hid (GW.out.on Bq)
        replace HBw := Lib.hid (HBw.out.trans (Bq.mono HBw.out.size))
        clear Bq
        have G6 := Lib.hid hr6; clear hr6
        go_wp2_with fail
        refine (vbegun_true v1_).mono ?_
        rintro e v2_ ⟨rfl, Bq⟩
        replace HBs := Lib.hid (HBs.out.on Bq)
        replace G1 := Lib.hid (G1.out.on Bq)
        replace G3 := Lib.hid (G3.out.on Bq)
        replace GW := Lib.hid (GW.out.on Bq)
        replace G6 := Lib.hid (G6.out.on Bq)
        replace HBw := Lib.hid (HBw.out.trans (Bq.mono HBw.out.size))
        clear Bq
        go_wp2_with fail
        refine (H7.out _).mono ?_
        rintro e w_ ⟨rfl, rfl⟩
        go_wp2_with fail
        refine (H8.out _).mono ?_
        rintro e w_ ⟨rfl, rfl⟩
        go_wp2_with fail
        refine (H8.out _).mono ?_
        rintro e w_ ⟨rfl, rfl⟩
        go_wp2_with fail
        refine (H9.out _).mono ?_
        rintro e w_ ⟨rfl, rfl⟩
        go_wp2_with fail
        refine (H10.out A1 c1 Av cv v2_ G1.out GW.out).mono ?_
        rintro e v3_ ⟨rfl, Bq⟩
        replace HBs := Lib.hid (HBs.out.on Bq)
        replace G1 := Lib.hid (G1.out.on Bq)
        replace G3 := Lib.hid (G3.out.on Bq)
        replace GW := Lib.hid (GW.out.on Bq)
        replace G6 := Lib.hid (G6.out.on Bq)
        replace HBw := Lib.hid (HBw.out.trans (Bq.mono HBw.out.size))
        clear Bq
        go_wp2_with fail
        refine (H11.out A3 c3 A6 c6 v3_ G3.out G6.out).mono ?_
        rintro e v4_ ⟨rfl, Bq⟩
        replace HBs := Lib.hid (HBs.out.on Bq)
        replace G1 := Lib.hid (G1.out.on Bq)
        replace G3 := Lib.hid (G3.out.on Bq)
        replace GW := Lib.hid (GW.out.on Bq)
        replace G6 := Lib.hid (G6.out.on Bq)
        replace HBw := Lib.hid (HBw.out.trans (Bq.mono HBw.out.size))
        clear Bq
        go_wp2
        go_ret
        exact ⟨rfl, HBw.out⟩
  · have tm : decide ((4096 : Int) < (m : Int)) = false := by simp; omega
    have tp1 : decide (p < 0) = false := by simp; omega
    have tp2 : decide ((m : Int) < p) = true := by simp; omega
    go_enter Try.func5, Try.ntmps5
    go_wp2_with fail
    refine (H1.out w HL.out).mono ?_
    rintro e w1_ ⟨A1, c1, rfl, -, hr1, Bq⟩
    replace HL := Lib.hid (HL.out.on Bq)
    replace HBs := Lib.hid (HBs.out.on Bq)
    have HB := Lib.hid Bq
    clear Bq
    have G1 := Lib.hid hr1; clear hr1
    go_wp2_with fail
    refine (H2.out w1_ HBs.out).mono ?_
    rintro e w2_ ⟨rfl, Bq⟩
    replace HL := Lib.hid (HL.out.on Bq)
    replace HBs := Lib.hid (HBs.out.on Bq)
    replace G1 := Lib.hid (G1.out.on Bq)
    replace HB := Lib.hid (HB.out.trans (Bq.mono HB.out.size))
    clear Bq
    go_wp2_with fail
    refine (H3.out w2_ HBs.out).mono ?_
    rintro e w3_ ⟨A3, c3, rfl, -, hr3, Bq⟩
    replace HL := Lib.hid (HL.out.on Bq)
    replace HBs := Lib.hid (HBs.out.on Bq)
    replace G1 := Lib.hid (G1.out.on Bq)
    replace HB := Lib.hid (HB.out.trans (Bq.mono HB.out.size))
    clear Bq
    have G3 := Lib.hid hr3; clear hr3
    go_wp2
    go_loopw [16, 17] (fun v q wr => TwRel w3_ ns n v q wr) (fun _ q _ => n - (intOf q).toNat)
    case atStart => exact ⟨0, rfl, Nat.zero_le _, ⟨rfl, .inl ⟨rfl, rfl⟩⟩, Below.refl _ _, by simp [vbs]⟩
    case round =>
      obtain ⟨i, rfl, hin, hrow, hbel, hlen⟩ := hrel
      obtain ⟨Av, cv, rfl⟩ := own_slice hrow
      have HO := Lib.hid hrow
      have HBl := Lib.hid hbel
      have HTk := Lib.hid (vbs_take_le ns i)
      have HAl := Lib.hid (fun h : n ≤ i => (List.take_of_length_le (by rw [HN.out]; exact h) : ns.take i = ns))
      by_cases hlt : i < n
      · have hil : i < ns.length := by rw [HN.out]; exact hlt
        obtain ⟨b, off, rfl, hb, hc⟩ := HL.out.at_ (nc_get ns i hil)
        have e1 := (hbel.cell (p := ⟨b, off + i, none⟩) hb).trans hc
        have hx : ns[i]?.getD 0 < 18446744073709551616 := by
          rw [List.getElem?_eq_getElem hil]; exact HU.out _ (List.getElem_mem hil)
        have HT : Hid (vbs (ns.take (i + 1)) = vbs (ns.take i) ++ vb (ns[i]?.getD 0)) := by
          show _ = _
          rw [take_snoc ns i hil, vbs_snoc]
        have hv10 := vb_ten _ hx
        have HG := Lib.hid (vbytes_any (ns[i]?.getD 0) wr hx)
        clear hc hrow
        generalize ns[i]?.getD 0 = y at *
        generalize hq : (vbs (ns.take i)).length = q at *
        have HQ := Lib.hid hq; clear hq
        by_cases h5 : q < 5000
        · have t5 : decide ((q : Int) < 5000) = true := by simp; omega
          clear hbel
          go_wp2_with fail
          refine HG.out.mono ?_
          rintro e v1_ ⟨v', rfl, hown, hb1⟩
          obtain ⟨A', c', rfl⟩ := own_slice hown
          have HO1 := Lib.hid (HO.out.kept (grown_of_below hb1 none) (by
            rcases HO.out.2 with ⟨h, _⟩ | ⟨g, cap, cur, h, _⟩
            · left; rw [h]; rfl
            · right; rw [h]; simp [Value.ownBlock]))
          have HRd := Lib.hid (own_rd hown)
          have HNil := Lib.hid (own_none hown)
          have HB1 := Lib.hid (HBl.out.trans (hb1.mono HBl.out.size))
          clear hown hb1
          generalize hq2 : (vb y).length = q2 at *
          have HQ2 := Lib.hid hq2; clear hq2
          have HQ3 : Hid ((vbs (ns.take (i + 1))).length = q + q2) := by show _ = _; rw [HT.out, List.length_append, HQ.out, HQ2.out]
          go_wp2_with (at_builtin; refine app5 rfl _ _ rfl w3_.heap.size _ q _ rfl HO1.out A' q2 c' (vb y) rfl HRd.out HQ2.out HNil.out (by omega) HB1.out.size ?_; intro v' w5 hown2 hgrow2)
          go_roundw
          case rel =>
            refine ⟨i + 1, by go_num, by omega, ?_, HB1.out.trans (grown_below hgrow2 HO1.out HB1.out.size), by rw [HQ3.out]; omega⟩
            rw [HQ3.out, HT.out, bc_append]
            exact hown2
          case measure => simp [intOf]; omega
        · exact absurd (show q ≤ 4096 by have := HTk.out; rw [← HS.out] at this; omega) (by omega)
      · have HE := HAl.out (by omega)
        rw [HE] at HO HTk hlen
        have HBw := Lib.hid (HB.out.trans (hbel.mono HB.out.size))
        replace HBs := Lib.hid (HBs.out.on hbel)
        replace G1 := Lib.hid (G1.out.on hbel)
        replace G3 := Lib.hid (G3.out.on hbel)
        have GW := Lib.hid (own_rd HO.out)
        rw [← HS.out] at GW
        have HQW : Hid ((vbs (ns.take i)).length = ws.length) := by show _ = _; rw [HE, ← HS.out]
        rw [HQW.out]
        have t6 : decide ((4096 : Int) < (ws.length : Int)) = false := by simp; omega
        clear hbel HO HBl HTk HAl HE hrow hlen
        go_wp2_with fail
        refine (H6.out wr HBs.out).mono ?_
        rintro e v1_ ⟨A6, c6, rfl, -, hr6, Bq⟩
        replace HBs := Lib.hid (HBs.out.on Bq)
        replace G1 := Lib.hid (G1.out.on Bq)
        replace G3 := Lib.hid (G3.out.on Bq)
        replace GW := Lib.hid (GW.out.on Bq)
        replace HBw := Lib.hid (HBw.out.trans (Bq.mono HBw.out.size))
        clear Bq
        have G6 := Lib.hid hr6; clear hr6
        go_wp2_with fail
        refine (vbegun_true v1_).mono ?_
        rintro e v2_ ⟨rfl, Bq⟩
        replace HBs := Lib.hid (HBs.out.on Bq)
        replace G1 := Lib.hid (G1.out.on Bq)
        replace G3 := Lib.hid (G3.out.on Bq)
        replace GW := Lib.hid (GW.out.on Bq)
        replace G6 := Lib.hid (G6.out.on Bq)
        replace HBw := Lib.hid (HBw.out.trans (Bq.mono HBw.out.size))
        clear Bq
        go_wp2_with fail
        refine (H7.out _).mono ?_
        rintro e w_ ⟨rfl, rfl⟩
        go_wp2_with fail
        refine (H8.out _).mono ?_
        rintro e w_ ⟨rfl, rfl⟩
        go_wp2_with fail
        refine (H8.out _).mono ?_
        rintro e w_ ⟨rfl, rfl⟩
        go_wp2_with fail
        refine (H9.out _).mono ?_
        rintro e w_ ⟨rfl, rfl⟩
        go_wp2_with fail
        refine (H10.out A1 c1 Av cv v2_ G1.out GW.out).mono ?_
        rintro e v3_ ⟨rfl, Bq⟩
        replace HBs := Lib.hid (HBs.out.on Bq)
        replace G1 := Lib.hid (G1.out.on Bq)
        replace G3 := Lib.hid (G3.out.on Bq)
        replace GW := Lib.hid (GW.out.on Bq)
        replace G6 := Lib.hid (G6.out.on Bq)
        replace HBw := Lib.hid (HBw.out.trans (Bq.mono HBw.out.size))
        clear Bq
        go_wp2_with fail
        refine (H11.out A3 c3 A6 c6 v3_ G3.out G6.out).mono ?_
        rintro e v4_ ⟨rfl, Bq⟩
        replace HBs := Lib.hid (HBs.out.on Bq)
        replace G1 := Lib.hid (G1.out.on Bq)
        replace G3 := Lib.hid (G3.out.on Bq)
        replace GW := Lib.hid (GW.out.on Bq)
        replace G6 := Lib.hid (G6.out.on Bq)
        replace HBw := Lib.hid (HBw.out.trans (Bq.mono HBw.out.size))
        clear Bq
        go_wp2
        go_ret
        exact ⟨rfl, HBw.out⟩

set_option maxHeartbeats 4000000 in
theorem vtells_s_ok (x : Int) (fx : Nat) (A : Option Addr) (c n : Nat) (ns : List Nat) (B : Option Addr) (d m : Nat) (bs : List Nat) (p : Int) (w : World) (ws rn : List Nat) (v to : Nat) (e0 re : Int)
    (hnn : ns.length = n) (hn2 : n ≤ 9223372036854775807) (hu : ∀ k ∈ ns, k < 18446744073709551616) (hA : RdV w w.heap.size A (nc ns)) (hB : Rd w w.heap.size B bs)
    (H1 : Hid (∀ w, RdV w w.heap.size A (nc ns) → Calls Try.prog 27 #[.slice A n c] w (Wrote w ws 0))) (H2 : Hid (∀ w, Rd w w.heap.size B bs → Calls Try.prog 28 #[.slice B m d, .int .i64 p] w (ReadP w v to e0))) (H3 : Hid (∀ w, Rd w w.heap.size B bs → Calls Try.prog 29 #[.slice B m d] w (AllP w rn re))) (H5 : Hid (∀ w, Rd w w.heap.size B bs → Calls Try.prog 31 #[.slice B m d, .int .i64 p] w (ReadP w v to e0))) (H6 : Hid (∀ w, Rd w w.heap.size B bs → Calls Try.prog 32 #[.slice B m d] w (AllP w rn re))) (H7 : Hid (∀ w, Calls Try.prog 34 #[.int .i64 x] w fun e w' => e = .returned (.int .u64 (fx : Int)) ∧ w = w')) (H8 : Hid (∀ w, Calls Try.prog 35 #[.int .i64 x] w fun e w' => e = .returned (.int .u64 (fx : Int)) ∧ w = w')) (H9 : Hid (∀ w, Calls Try.prog 36 #[.int .u64 (fx : Int)] w fun e w' => e = .returned (.int .i64 x) ∧ w = w')) (H10 : Hid (∀ A1 c1 A2 c2 w, Rd w w.heap.size A1 ws → Rd w w.heap.size A2 ws → Calls Try.prog 37 #[.slice A1 ws.length c1, .slice A2 ws.length c2] w fun e w' => e = .returned (.bool true) ∧ Below w.heap.size w w')) (H11 : Hid (∀ A1 c1 A2 c2 w, RdV w w.heap.size A1 (nc rn) → RdV w w.heap.size A2 (nc rn) → Calls Try.prog 38 #[.slice A1 rn.length c1, .slice A2 rn.length c2] w fun e w' => e = .returned (.bool true) ∧ Below w.heap.size w w')) (hm : m ≤ 4096) (hp0 : 0 ≤ p) (hp : p ≤ (m : Int)) (hs : ws = vbs ns) (hw : ws.length ≤ 4096) :
    Calls Try.prog 5 #[.int .i64 x, .slice A n c, .slice B m d, .int .i64 p] w fun e w' => e = .returned (.bool true) ∧ Below w.heap.size w w' := by
  have HL := Lib.hid hA; clear hA
  have HBs := Lib.hid hB; clear hB
  have HN := Lib.hid hnn; clear hnn
  have HU := Lib.hid hu; clear hu
  have HS := Lib.hid hs; clear hs
  have tm : decide ((4096 : Int) < (m : Int)) = false := by simp; omega
  have tp1 : decide (p < 0) = false := by simp; omega
  have tp2 : decide ((m : Int) < p) = false := by simp; omega
  go_enter Try.func5, Try.ntmps5
  go_wp2_with fail
  refine (H1.out w HL.out).mono ?_
  rintro e w1_ ⟨A1, c1, rfl, -, hr1, Bq⟩
  replace HL := Lib.hid (HL.out.on Bq)
  replace HBs := Lib.hid (HBs.out.on Bq)
  have HB := Lib.hid Bq
  clear Bq
  have G1 := Lib.hid hr1; clear hr1
  go_wp2_with fail
  refine (H2.out w1_ HBs.out).mono ?_
  rintro e w2_ ⟨rfl, Bq⟩
  replace HL := Lib.hid (HL.out.on Bq)
  replace HBs := Lib.hid (HBs.out.on Bq)
  replace G1 := Lib.hid (G1.out.on Bq)
  replace HB := Lib.hid (HB.out.trans (Bq.mono HB.out.size))
  clear Bq
  go_wp2_with fail
  refine (H3.out w2_ HBs.out).mono ?_
  rintro e w3_ ⟨A3, c3, rfl, -, hr3, Bq⟩
  replace HL := Lib.hid (HL.out.on Bq)
  replace HBs := Lib.hid (HBs.out.on Bq)
  replace G1 := Lib.hid (G1.out.on Bq)
  replace HB := Lib.hid (HB.out.trans (Bq.mono HB.out.size))
  clear Bq
  have G3 := Lib.hid hr3; clear hr3
  go_wp2
  go_loopw [16, 17] (fun v q wr => TwRel w3_ ns n v q wr) (fun _ q _ => n - (intOf q).toNat)
  case atStart => exact ⟨0, rfl, Nat.zero_le _, ⟨rfl, .inl ⟨rfl, rfl⟩⟩, Below.refl _ _, by simp [vbs]⟩
  case round =>
    obtain ⟨i, rfl, hin, hrow, hbel, hlen⟩ := hrel
    obtain ⟨Av, cv, rfl⟩ := own_slice hrow
    have HO := Lib.hid hrow
    have HBl := Lib.hid hbel
    have HTk := Lib.hid (vbs_take_le ns i)
    have HAl := Lib.hid (fun h : n ≤ i => (List.take_of_length_le (by rw [HN.out]; exact h) : ns.take i = ns))
    by_cases hlt : i < n
    · have hil : i < ns.length := by rw [HN.out]; exact hlt
      obtain ⟨b, off, rfl, hb, hc⟩ := HL.out.at_ (nc_get ns i hil)
      have e1 := (hbel.cell (p := ⟨b, off + i, none⟩) hb).trans hc
      have hx : ns[i]?.getD 0 < 18446744073709551616 := by
        rw [List.getElem?_eq_getElem hil]; exact HU.out _ (List.getElem_mem hil)
      have HT : Hid (vbs (ns.take (i + 1)) = vbs (ns.take i) ++ vb (ns[i]?.getD 0)) := by
        show _ = _
        rw [take_snoc ns i hil, vbs_snoc]
      have hv10 := vb_ten _ hx
      have HG := Lib.hid (vbytes_any (ns[i]?.getD 0) wr hx)
      clear hc hrow
      generalize ns[i]?.getD 0 = y at *
      generalize hq : (vbs (ns.take i)).length = q at *
      have HQ := Lib.hid hq; clear hq
      by_cases h5 : q < 5000
      · have t5 : decide ((q : Int) < 5000) = true := by simp; omega
        clear hbel
        go_wp2_with fail
        refine HG.out.mono ?_
        rintro e v1_ ⟨v', rfl, hown, hb1⟩
        obtain ⟨A', c', rfl⟩ := own_slice hown
        have HO1 := Lib.hid (HO.out.kept (grown_of_below hb1 none) (by
          rcases HO.out.2 with ⟨h, _⟩ | ⟨g, cap, cur, h, _⟩
          · left; rw [h]; rfl
          · right; rw [h]; simp [Value.ownBlock]))
        have HRd := Lib.hid (own_rd hown)
        have HNil := Lib.hid (own_none hown)
        have HB1 := Lib.hid (HBl.out.trans (hb1.mono HBl.out.size))
        clear hown hb1
        generalize hq2 : (vb y).length = q2 at *
        have HQ2 := Lib.hid hq2; clear hq2
        have HQ3 : Hid ((vbs (ns.take (i + 1))).length = q + q2) := by show _ = _; rw [HT.out, List.length_append, HQ.out, HQ2.out]
        go_wp2_with (at_builtin; refine app5 rfl _ _ rfl w3_.heap.size _ q _ rfl HO1.out A' q2 c' (vb y) rfl HRd.out HQ2.out HNil.out (by omega) HB1.out.size ?_; intro v' w5 hown2 hgrow2)
        go_roundw
        case rel =>
          refine ⟨i + 1, by go_num, by omega, ?_, HB1.out.trans (grown_below hgrow2 HO1.out HB1.out.size), by rw [HQ3.out]; omega⟩
          rw [HQ3.out, HT.out, bc_append]
          exact hown2
        case measure => simp [intOf]; omega
      · exact absurd (show q ≤ 4096 by have := HTk.out; rw [← HS.out] at this; omega) (by omega)
    · have HE := HAl.out (by omega)
      rw [HE] at HO HTk hlen
      have HBw := Lib.hid (HB.out.trans (hbel.mono HB.out.size))
      replace HBs := Lib.hid (HBs.out.on hbel)
      replace G1 := Lib.hid (G1.out.on hbel)
      replace G3 := Lib.hid (G3.out.on hbel)
      have GW := Lib.hid (own_rd HO.out)
      rw [← HS.out] at GW
      have HQW : Hid ((vbs (ns.take i)).length = ws.length) := by show _ = _; rw [HE, ← HS.out]
      rw [HQW.out]
      have t6 : decide ((4096 : Int) < (ws.length : Int)) = false := by simp; omega
      clear hbel HO HBl HTk HAl HE hrow hlen
      go_wp2_with fail
      refine (H5.out wr HBs.out).mono ?_
      rintro e v1_ ⟨rfl, Bq⟩
      replace HBs := Lib.hid (HBs.out.on Bq)
      replace G1 := Lib.hid (G1.out.on Bq)
      replace G3 := Lib.hid (G3.out.on Bq)
      replace GW := Lib.hid (GW.out.on Bq)
      replace HBw := Lib.hid (HBw.out.trans (Bq.mono HBw.out.size))
      clear Bq
      go_wp2_with fail
      refine (H6.out v1_ HBs.out).mono ?_
      rintro e v2_ ⟨A6, c6, rfl, -, hr6, Bq⟩
      replace HBs := Lib.hid (HBs.out.on Bq)
      replace G1 := Lib.hid (G1.out.on Bq)
      replace G3 := Lib.hid (G3.out.on Bq)
      replace GW := Lib.hid (GW.out.on Bq)
      replace HBw := Lib.hid (HBw.out.trans (Bq.mono HBw.out.size))
      clear Bq
      have G6 := Lib.hid hr6; clear hr6
      go_wp2_with fail
      refine (vbegun_true v2_).mono ?_
      rintro e v3_ ⟨rfl, Bq⟩
      replace HBs := Lib.hid (HBs.out.on Bq)
      replace G1 := Lib.hid (G1.out.on Bq)
      replace G3 := Lib.hid (G3.out.on Bq)
      replace GW := Lib.hid (GW.out.on Bq)
      replace G6 := Lib.hid (G6.out.on Bq)
      replace HBw := Lib.hid (HBw.out.trans (Bq.mono HBw.out.size))
      clear Bq
      go_wp2_with fail
      refine (H7.out _).mono ?_
      rintro e w_ ⟨rfl, rfl⟩
      go_wp2_with fail
      refine (H8.out _).mono ?_
      rintro e w_ ⟨rfl, rfl⟩
      go_wp2_with fail
      refine (H8.out _).mono ?_
      rintro e w_ ⟨rfl, rfl⟩
      go_wp2_with fail
      refine (H9.out _).mono ?_
      rintro e w_ ⟨rfl, rfl⟩
      go_wp2_with fail
      refine (H10.out A1 c1 Av cv v3_ G1.out GW.out).mono ?_
      rintro e v4_ ⟨rfl, Bq⟩
      replace HBs := Lib.hid (HBs.out.on Bq)
      replace G1 := Lib.hid (G1.out.on Bq)
      replace G3 := Lib.hid (G3.out.on Bq)
      replace GW := Lib.hid (GW.out.on Bq)
      replace G6 := Lib.hid (G6.out.on Bq)
      replace HBw := Lib.hid (HBw.out.trans (Bq.mono HBw.out.size))
      clear Bq
      go_wp2_with fail
      refine (H11.out A3 c3 A6 c6 v4_ G3.out G6.out).mono ?_
      rintro e v5_ ⟨rfl, Bq⟩
      replace HBs := Lib.hid (HBs.out.on Bq)
      replace G1 := Lib.hid (G1.out.on Bq)
      replace G3 := Lib.hid (G3.out.on Bq)
      replace GW := Lib.hid (GW.out.on Bq)
      replace G6 := Lib.hid (G6.out.on Bq)
      replace HBw := Lib.hid (HBw.out.trans (Bq.mono HBw.out.size))
      clear Bq
      go_wp2
      go_ret
      exact ⟨rfl, HBw.out⟩

set_option maxHeartbeats 4000000 in
theorem vtells_b_many (x : Int) (fx : Nat) (A : Option Addr) (c n : Nat) (ns : List Nat) (B : Option Addr) (d m : Nat) (bs : List Nat) (p : Int) (w : World) (ws rn : List Nat) (v to : Nat) (e0 re : Int)
    (hnn : ns.length = n) (hn2 : n ≤ 9223372036854775807) (hu : ∀ k ∈ ns, k < 18446744073709551616) (hA : RdV w w.heap.size A (nc ns)) (hB : Rd w w.heap.size B bs)
    (H1 : Hid (∀ w, RdV w w.heap.size A (nc ns) → Calls Try.prog 27 #[.slice A n c] w (Wrote w [] 2))) (H2 : Hid (∀ w, Rd w w.heap.size B bs → Calls Try.prog 28 #[.slice B m d, .int .i64 p] w (ReadP w 0 0 2))) (H3 : Hid (∀ w, Rd w w.heap.size B bs → Calls Try.prog 29 #[.slice B m d] w (AllP w rn re))) (H6 : Hid (∀ w, Rd w w.heap.size B bs → Calls Try.prog 32 #[.slice B m d] w (AllP w rn re))) (H7 : Hid (∀ w, Calls Try.prog 34 #[.int .i64 x] w fun e w' => e = .returned (.int .u64 (fx : Int)) ∧ w = w')) (H8 : Hid (∀ w, Calls Try.prog 35 #[.int .i64 x] w fun e w' => e = .returned (.int .u64 (fx : Int)) ∧ w = w')) (H9 : Hid (∀ w, Calls Try.prog 36 #[.int .u64 (fx : Int)] w fun e w' => e = .returned (.int .i64 x) ∧ w = w')) (H10 : Hid (∀ A1 c1 w, Calls Try.prog 37 #[.slice A1 0 c1, .slice none 0 0] w fun e w' => e = .returned (.bool true) ∧ Below w.heap.size w w')) (H11 : Hid (∀ A1 c1 A2 c2 w, RdV w w.heap.size A1 (nc rn) → RdV w w.heap.size A2 (nc rn) → Calls Try.prog 38 #[.slice A1 rn.length c1, .slice A2 rn.length c2] w fun e w' => e = .returned (.bool true) ∧ Below w.heap.size w w')) (hm : 4096 < m) (hw : 4096 < (vbs ns).length) :
    Calls Try.prog 5 #[.int .i64 x, .slice A n c, .slice B m d, .int .i64 p] w fun e w' => e = .returned (.bool true) ∧ Below w.heap.size w w' := by
  have HL := Lib.hid hA; clear hA
  have HBs := Lib.hid hB; clear hB
  have HN := Lib.hid hnn; clear hnn
  have HU := Lib.hid hu; clear hu
  have HS := Lib.hid hw; clear hw
  have tm : decide ((4096 : Int) < (m : Int)) = true := by simp; omega
  go_enter Try.func5, Try.ntmps5
  go_wp2_with fail
  refine (H1.out w HL.out).mono ?_
  rintro e w1_ ⟨A1, c1, rfl, -, hr1, Bq⟩
  replace HL := Lib.hid (HL.out.on Bq)
  replace HBs := Lib.hid (HBs.out.on Bq)
  have HB := Lib.hid Bq
  clear Bq
  have G1 := Lib.hid hr1; clear hr1
  go_wp2_with fail
  refine (H2.out w1_ HBs.out).mono ?_
  rintro e w2_ ⟨rfl, Bq⟩
  replace HL := Lib.hid (HL.out.on Bq)
  replace HBs := Lib.hid (HBs.out.on Bq)
  replace G1 := Lib.hid (G1.out.on Bq)
  replace HB := Lib.hid (HB.out.trans (Bq.mono HB.out.size))
  clear Bq
  go_wp2_with fail
  refine (H3.out w2_ HBs.out).mono ?_
  rintro e w3_ ⟨A3, c3, rfl, -, hr3, Bq⟩
  replace HL := Lib.hid (HL.out.on Bq)
  replace HBs := Lib.hid (HBs.out.on Bq)
  replace G1 := Lib.hid (G1.out.on Bq)
  replace HB := Lib.hid (HB.out.trans (Bq.mono HB.out.size))
  clear Bq
  have G3 := Lib.hid hr3; clear hr3
  go_wp2
  go_loopw [16, 17] (fun v q wr => TwRel w3_ ns n v q wr) (fun _ q _ => n - (intOf q).toNat)
  case atStart => exact ⟨0, rfl, Nat.zero_le _, ⟨rfl, .inl ⟨rfl, rfl⟩⟩, Below.refl _ _, by simp [vbs]⟩
  case round =>
    obtain ⟨i, rfl, hin, hrow, hbel, hlen⟩ := hrel
    obtain ⟨Av, cv, rfl⟩ := own_slice hrow
    have HO := Lib.hid hrow
    have HBl := Lib.hid hbel
    have HTk := Lib.hid (vbs_take_le ns i)
    have HAl := Lib.hid (fun h : n ≤ i => (List.take_of_length_le (by rw [HN.out]; exact h) : ns.take i = ns))
    by_cases hlt : i < n
    · have hil : i < ns.length := by rw [HN.out]; exact hlt
      obtain ⟨b, off, rfl, hb, hc⟩ := HL.out.at_ (nc_get ns i hil)
      have e1 := (hbel.cell (p := ⟨b, off + i, none⟩) hb).trans hc
      have hx : ns[i]?.getD 0 < 18446744073709551616 := by
        rw [List.getElem?_eq_getElem hil]; exact HU.out _ (List.getElem_mem hil)
      have HT : Hid (vbs (ns.take (i + 1)) = vbs (ns.take i) ++ vb (ns[i]?.getD 0)) := by
        show _ = _
        rw [take_snoc ns i hil, vbs_snoc]
      have hv10 := vb_ten _ hx
      have HG := Lib.hid (vbytes_any (ns[i]?.getD 0) wr hx)
      clear hc hrow
      generalize ns[i]?.getD 0 = y at *
      generalize hq : (vbs (ns.take i)).length = q at *
      have HQ := Lib.hid hq; clear hq
      by_cases h5 : q < 5000
      · have t5 : decide ((q : Int) < 5000) = true := by simp; omega
        clear hbel
        go_wp2_with fail
        refine HG.out.mono ?_
        rintro e v1_ ⟨v', rfl, hown, hb1⟩
        obtain ⟨A', c', rfl⟩ := own_slice hown
        have HO1 := Lib.hid (HO.out.kept (grown_of_below hb1 none) (by
          rcases HO.out.2 with ⟨h, _⟩ | ⟨g, cap, cur, h, _⟩
          · left; rw [h]; rfl
          · right; rw [h]; simp [Value.ownBlock]))
        have HRd := Lib.hid (own_rd hown)
        have HNil := Lib.hid (own_none hown)
        have HB1 := Lib.hid (HBl.out.trans (hb1.mono HBl.out.size))
        clear hown hb1
        generalize hq2 : (vb y).length = q2 at *
        have HQ2 := Lib.hid hq2; clear hq2
        have HQ3 : Hid ((vbs (ns.take (i + 1))).length = q + q2) := by show _ = _; rw [HT.out, List.length_append, HQ.out, HQ2.out]
        go_wp2_with (at_builtin; refine app5 rfl _ _ rfl w3_.heap.size _ q _ rfl HO1.out A' q2 c' (vb y) rfl HRd.out HQ2.out HNil.out (by omega) HB1.out.size ?_; intro v' w5 hown2 hgrow2)
        go_roundw
        case rel =>
          refine ⟨i + 1, by go_num, by omega, ?_, HB1.out.trans (grown_below hgrow2 HO1.out HB1.out.size), by rw [HQ3.out]; omega⟩
          rw [HQ3.out, HT.out, bc_append]
          exact hown2
        case measure => simp [intOf]; omega
      · have t5 : decide ((q : Int) < 5000) = false := by simp; omega
        have t6 : decide ((4096 : Int) < (q : Int)) = true := by simp; omega
        have HBw := Lib.hid (HB.out.trans (hbel.mono HB.out.size))
        replace HBs := Lib.hid (HBs.out.on hbel)
        replace G1 := Lib.hid (G1.out.on hbel)
        replace G3 := Lib.hid (G3.out.on hbel)
        clear hbel HO HBl HTk HAl HG HT hv10 hx
        go_wp2_with fail
        refine (H6.out wr HBs.out).mono ?_
        rintro e v1_ ⟨A6, c6, rfl, -, hr6, Bq⟩
        replace HBs := Lib.hid (HBs.out.on Bq)
        replace G1 := Lib.hid (G1.out.on Bq)
        replace G3 := Lib.hid (G3.out.on Bq)
        replace HBw := Lib.hid (HBw.out.trans (Bq.mono HBw.out.size))
        clear Bq
        have G6 := Lib.hid hr6; clear hr6
        go_wp2_with fail
        refine (vbegun_true v1_).mono ?_
        rintro e v2_ ⟨rfl, Bq⟩
        replace HBs := Lib.hid (HBs.out.on Bq)
        replace G1 := Lib.hid (G1.out.on Bq)
        replace G3 := Lib.hid (G3.out.on Bq)
        replace G6 := Lib.hid (G6.out.on Bq)
        replace HBw := Lib.hid (HBw.out.trans (Bq.mono HBw.out.size))
        clear Bq
        go_wp2_with fail
        refine (H7.out _).mono ?_
        rintro e w_ ⟨rfl, rfl⟩
        go_wp2_with fail
        refine (H8.out _).mono ?_
        rintro e w_ ⟨rfl, rfl⟩
        go_wp2_with fail
        refine (H8.out _).mono ?_
        rintro e w_ ⟨rfl, rfl⟩
        go_wp2_with fail
        refine (H9.out _).mono ?_
        rintro e w_ ⟨rfl, rfl⟩
        go_wp2_with fail
        refine (H10.out A1 c1 v2_).mono ?_
        rintro e v3_ ⟨rfl, Bq⟩
        replace HBs := Lib.hid (HBs.out.on Bq)
        replace G1 := Lib.hid (G1.out.on Bq)
        replace G3 := Lib.hid (G3.out.on Bq)
        replace G6 := Lib.hid (G6.out.on Bq)
        replace HBw := Lib.hid (HBw.out.trans (Bq.mono HBw.out.size))
        clear Bq
        go_wp2_with fail
        refine (H11.out A3 c3 A6 c6 v3_ G3.out G6.out).mono ?_
        rintro e v4_ ⟨rfl, Bq⟩
        replace HBs := Lib.hid (HBs.out.on Bq)
        replace G1 := Lib.hid (G1.out.on Bq)
        replace G3 := Lib.hid (G3.out.on Bq)
        replace G6 := Lib.hid (G6.out.on Bq)
        replace HBw := Lib.hid (HBw.out.trans (Bq.mono HBw.out.size))
        clear Bq
        go_wp2
        go_ret
        exact ⟨rfl, HBw.out⟩
    · have HE := HAl.out (by omega)
      rw [HE] at HO HTk hlen
      have HBw := Lib.hid (HB.out.trans (hbel.mono HB.out.size))
      replace HBs := Lib.hid (HBs.out.on hbel)
      replace G1 := Lib.hid (G1.out.on hbel)
      replace G3 := Lib.hid (G3.out.on hbel)
      have hbig := HS.out
      rw [HE]
      generalize (vbs ns).length = q at *
      have t6 : decide ((4096 : Int) < (q : Int)) = true := by simp; omega
      clear hbel HO HBl HTk HAl HE hrow hlen
      go_wp2_with fail
      refine (H6.out wr HBs.out).mono ?_
      rintro e v1_ ⟨A6, c6, rfl, -, hr6, Bq⟩
      replace HBs := Lib.hid (HBs.out.on Bq)
      replace G1 := Lib.hid (G1.out.on Bq)
      replace G3 := Lib.hid (G3.out.on Bq)
      replace HBw := Lib.hid (HBw.out.trans (Bq.mono HBw.out.size))
      clear Bq
      have G6 := Lib.hid hr6; clear hr6
      go_wp2_with fail
      refine (vbegun_true v1_).mono ?_
      rintro e v2_ ⟨rfl, Bq⟩
      replace HBs := Lib.hid (HBs.out.on Bq)
      replace G1 := Lib.hid (G1.out.on Bq)
      replace G3 := Lib.hid (G3.out.on Bq)
      replace G6 := Lib.hid (G6.out.on Bq)
      replace HBw := Lib.hid (HBw.out.trans (Bq.mono HBw.out.size))
      clear Bq
      go_wp2_with fail
      refine (H7.out _).mono ?_
      rintro e w_ ⟨rfl, rfl⟩
      go_wp2_with fail
      refine (H8.out _).mono ?_
      rintro e w_ ⟨rfl, rfl⟩
      go_wp2_with fail
      refine (H8.out _).mono ?_
      rintro e w_ ⟨rfl, rfl⟩
      go_wp2_with fail
      refine (H9.out _).mono ?_
      rintro e w_ ⟨rfl, rfl⟩
      go_wp2_with fail
      refine (H10.out A1 c1 v2_).mono ?_
      rintro e v3_ ⟨rfl, Bq⟩
      replace HBs := Lib.hid (HBs.out.on Bq)
      replace G1 := Lib.hid (G1.out.on Bq)
      replace G3 := Lib.hid (G3.out.on Bq)
      replace G6 := Lib.hid (G6.out.on Bq)
      replace HBw := Lib.hid (HBw.out.trans (Bq.mono HBw.out.size))
      clear Bq
      go_wp2_with fail
      refine (H11.out A3 c3 A6 c6 v3_ G3.out G6.out).mono ?_
      rintro e v4_ ⟨rfl, Bq⟩
      replace HBs := Lib.hid (HBs.out.on Bq)
      replace G1 := Lib.hid (G1.out.on Bq)
      replace G3 := Lib.hid (G3.out.on Bq)
      replace G6 := Lib.hid (G6.out.on Bq)
      replace HBw := Lib.hid (HBw.out.trans (Bq.mono HBw.out.size))
      clear Bq
      go_wp2
      go_ret
      exact ⟨rfl, HBw.out⟩

set_option maxHeartbeats 4000000 in
theorem vtells_b_range (x : Int) (fx : Nat) (A : Option Addr) (c n : Nat) (ns : List Nat) (B : Option Addr) (d m : Nat) (bs : List Nat) (p : Int) (w : World) (ws rn : List Nat) (v to : Nat) (e0 re : Int)
    (hnn : ns.length = n) (hn2 : n ≤ 9223372036854775807) (hu : ∀ k ∈ ns, k < 18446744073709551616) (hA : RdV w w.heap.size A (nc ns)) (hB : Rd w w.heap.size B bs)
    (H1 : Hid (∀ w, RdV w w.heap.size A (nc ns) → Calls Try.prog 27 #[.slice A n c] w (Wrote w [] 2))) (H2 : Hid (∀ w, Rd w w.heap.size B bs → Calls Try.prog 28 #[.slice B m d, .int .i64 p] w (ReadP w 0 0 3))) (H3 : Hid (∀ w, Rd w w.heap.size B bs → Calls Try.prog 29 #[.slice B m d] w (AllP w rn re))) (H6 : Hid (∀ w, Rd w w.heap.size B bs → Calls Try.prog 32 #[.slice B m d] w (AllP w rn re))) (H7 : Hid (∀ w, Calls Try.prog 34 #[.int .i64 x] w fun e w' => e = .returned (.int .u64 (fx : Int)) ∧ w = w')) (H8 : Hid (∀ w, Calls Try.prog 35 #[.int .i64 x] w fun e w' => e = .returned (.int .u64 (fx : Int)) ∧ w = w')) (H9 : Hid (∀ w, Calls Try.prog 36 #[.int .u64 (fx : Int)] w fun e w' => e = .returned (.int .i64 x) ∧ w = w')) (H10 : Hid (∀ A1 c1 w, Calls Try.prog 37 #[.slice A1 0 c1, .slice none 0 0] w fun e w' => e = .returned (.bool true) ∧ Below w.heap.size w w')) (H11 : Hid (∀ A1 c1 A2 c2 w, RdV w w.heap.size A1 (nc rn) → RdV w w.heap.size A2 (nc rn) → Calls Try.prog 38 #[.slice A1 rn.length c1, .slice A2 rn.length c2] w fun e w' => e = .returned (.bool true) ∧ Below w.heap.size w w')) (hm : m ≤ 4096) (hp : p < 0 ∨ (m : Int) < p) (hw : 4096 < (vbs ns).length) :
    Calls Try.prog 5 #[.int .i64 x, .slice A n c, .slice B m d, .int .i64 p] w fun e w' => e = .returned (.bool true) ∧ Below w.heap.size w w' := by
  have HL := Lib.hid hA; clear hA
  have HBs := Lib.hid hB; clear hB
  have HN := Lib.hid hnn; clear hnn
  have HU := Lib.hid hu; clear hu
  have HS := Lib.hid hw; clear hw
  rcases (show p < 0 ∨ (0 ≤ p ∧ (m : Int) < p) by omega) with hp | ⟨hp0, hp⟩
  · have tm : decide ((4096 : Int) < (m : Int)) = false := by simp; omega
    have tp1 : decide (p < 0) = true := by simp; omega
    go_enter Try.func5, Try.ntmps5
    go_wp2_with fail
    refine (H1.out w HL.out).mono ?_
    rintro e w1_ ⟨A1, c1, rfl, -, hr1, Bq⟩
    replace HL := Lib.hid (HL.out.on Bq)
    replace HBs := Lib.hid (HBs.out.on Bq)
    have HB := Lib.hid Bq
    clear Bq
    have G1 := Lib.hid hr1; clear hr1
    go_wp2_with fail
    refine (H2.out w1_ HBs.out).mono ?_
    rintro e w2_ ⟨rfl, Bq⟩
    replace HL := Lib.hid (HL.out.on Bq)
    replace HBs := Lib.hid (HBs.out.on Bq)
    replace G1 := Lib.hid (G1.out.on Bq)
    replace HB := Lib.hid (HB.out.trans (Bq.mono HB.out.size))
    clear Bq
    go_wp2_with fail
    refine (H3.out w2_ HBs.out).mono ?_
    rintro e w3_ ⟨A3, c3, rfl, -, hr3, Bq⟩
    replace HL := Lib.hid (HL.out.on Bq)
    replace HBs := Lib.hid (HBs.out.on Bq)
    replace G1 := Lib.hid (G1.out.on Bq)
    replace HB := Lib.hid (HB.out.trans (Bq.mono HB.out.size))
    clear Bq
    have G3 := Lib.hid hr3; clear hr3
    go_wp2
    go_loopw [16, 17] (fun v q wr => TwRel w3_ ns n v q wr) (fun _ q _ => n - (intOf q).toNat)
    case atStart => exact ⟨0, rfl, Nat.zero_le _, ⟨rfl, .inl ⟨rfl, rfl⟩⟩, Below.refl _ _, by simp [vbs]⟩
    case round =>
      obtain ⟨i, rfl, hin, hrow, hbel, hlen⟩ := hrel
      obtain ⟨Av, cv, rfl⟩ := own_slice hrow
      have HO := Lib.hid hrow
      have HBl := Lib.hid hbel
      have HTk := Lib.hid (vbs_take_le ns i)
      have HAl := Lib.hid (fun h : n ≤ i => (List.take_of_length_le (by rw [HN.out]; exact h) : ns.take i = ns))
      by_cases hlt : i < n
      · have hil : i < ns.length := by rw [HN.out]; exact hlt
        obtain ⟨b, off, rfl, hb, hc⟩ := HL.out.at_ (nc_get ns i hil)
        have e1 := (hbel.cell (p := ⟨b, off + i, none⟩) hb).trans hc
        have hx : ns[i]?.getD 0 < 18446744073709551616 := by
          rw [List.getElem?_eq_getElem hil]; exact HU.out _ (List.getElem_mem hil)
        have HT : Hid (vbs (ns.take (i + 1)) = vbs (ns.take i) ++ vb (ns[i]?.getD 0)) := by
          show _ = _
          rw [take_snoc ns i hil, vbs_snoc]
        have hv10 := vb_ten _ hx
        have HG := Lib.hid (vbytes_any (ns[i]?.getD 0) wr hx)
        clear hc hrow
        generalize ns[i]?.getD 0 = y at *
        generalize hq : (vbs (ns.take i)).length = q at *
        have HQ := Lib.hid hq; clear hq
        by_cases h5 : q < 5000
        · have t5 : decide ((q : Int) < 5000) = true := by simp; omega
          clear hbel
          go_wp2_with fail
          refine HG.out.mono ?_
          rintro e v1_ ⟨v', rfl, hown, hb1⟩
          obtain ⟨A', c', rfl⟩ := own_slice hown
          have HO1 := Lib.hid (HO.out.kept (grown_of_below hb1 none) (by
            rcases HO.out.2 with ⟨h, _⟩ | ⟨g, cap, cur, h, _⟩
            · left; rw [h]; rfl
            · right; rw [h]; simp [Value.ownBlock]))
          have HRd := Lib.hid (own_rd hown)
          have HNil := Lib.hid (own_none hown)
          have HB1 := Lib.hid (HBl.out.trans (hb1.mono HBl.out.size))
          clear hown hb1
          generalize hq2 : (vb y).length = q2 at *
          have HQ2 := Lib.hid hq2; clear hq2
          have HQ3 : Hid ((vbs (ns.take (i + 1))).length = q + q2) := by show _ = _; rw [HT.out, List.length_append, HQ.out, HQ2.out]
          go_wp2_with (at_builtin; refine app5 rfl _ _ rfl w3_.heap.size _ q _ rfl HO1.out A' q2 c' (vb y) rfl HRd.out HQ2.out HNil.out (by omega) HB1.out.size ?_; intro v' w5 hown2 hgrow2)
          go_roundw
          case rel =>
            refine ⟨i + 1, by go_num, by omega, ?_, HB1.out.trans (grown_below hgrow2 HO1.out HB1.out.size), by rw [HQ3.out]; omega⟩
            rw [HQ3.out, HT.out, bc_append]
            exact hown2
          case measure => simp [intOf]; omega
        · have t5 : decide ((q : Int) < 5000) = false := by simp; omega
          have t6 : decide ((4096 : Int) < (q : Int)) = true := by simp; omega
          have HBw := Lib.hid (HB.out.trans (hbel.mono HB.out.size))
          replace HBs := Lib.hid (HBs.out.on hbel)
          replace G1 := Lib.hid (G1.out.on hbel)
          replace G3 := Lib.hid (G3.out.on hbel)
          clear hbel HO HBl HTk HAl HG HT hv10 hx
          go_wp2_with fail
          refine (H6.out wr HBs.out).mono ?_
          rintro e v1_ ⟨A6, c6, rfl, -, hr6, Bq⟩
          replace HBs := Lib.hid (HBs.out.on Bq)
          replace G1 := Lib.hid (G1.out.on Bq)
          replace G3 := Lib.hid (G3.out.on Bq)
          replace HBw := Lib.hid (HBw.out.trans (Bq.mono HBw.out.size))
          clear Bq
          have G6 := Lib.hid hr6; clear hr6
          go_wp2_with fail
          refine (vbegun_true v1_).mono ?_
          rintro e v2_ ⟨rfl, Bq⟩
          replace HBs := Lib.hid (HBs.out.on Bq)
          replace G1 := Lib.hid (G1.out.on Bq)
          replace G3 := Lib.hid (G3.out.on Bq)
          replace G6 := Lib.hid (G6.out.on Bq)
          replace HBw := Lib.hid (HBw.out.trans (Bq.mono HBw.out.size))
          clear Bq
          go_wp2_with fail
          refine (H7.out _).mono ?_
          rintro e w_ ⟨rfl, rfl⟩
          go_wp2_with fail
          refine (H8.out _).mono ?_
          rintro e w_ ⟨rfl, rfl⟩
          go_wp2_with fail
          refine (H8.out _).mono ?_
          rintro e w_ ⟨rfl, rfl⟩
          go_wp2_with fail
          refine (H9.out _).mono ?_
          rintro e w_ ⟨rfl, rfl⟩
          go_wp2_with fail
          refine (H10.out A1 c1 v2_).mono ?_
          rintro e v3_ ⟨rfl, Bq⟩
          replace HBs := Lib.hid (HBs.out.on Bq)
          replace G1 := Lib.hid (G1.out.on Bq)
          replace G3 := Lib.hid (G3.out.on Bq)
          replace G6 := Lib.hid (G6.out.on Bq)
          replace HBw := Lib.hid (HBw.out.trans (Bq.mono HBw.out.size))
          clear Bq
          go_wp2_with fail
          refine (H11.out A3 c3 A6 c6 v3_ G3.out G6.out).mono ?_
          rintro e v4_ ⟨rfl, Bq⟩
          replace HBs := Lib.hid (HBs.out.on Bq)
          replace G1 := Lib.hid (G1.out.on Bq)
          replace G3 := Lib.hid (G3.out.on Bq)
          replace G6 := Lib.hid (G6.out.on Bq)
          replace HBw := Lib.hid (HBw.out.trans (Bq.mono HBw.out.size))
          clear Bq
          go_wp2
          go_ret
          exact ⟨rfl, HBw.out⟩
      · have HE := HAl.out (by omega)
        rw [HE] at HO HTk hlen
        have HBw := Lib.hid (HB.out.trans (hbel.mono HB.out.size))
        replace HBs := Lib.hid (HBs.out.on hbel)
        replace G1 := Lib.hid (G1.out.on hbel)
        replace G3 := Lib.hid (G3.out.on hbel)
        have hbig := HS.out
        rw [HE]
        generalize (vbs ns).length = q at *
        have t6 : decide ((4096 : Int) < (q : Int)) = true := by simp; omega
        clear hbel HO HBl HTk HAl HE hrow hlen
        go_wp2_with fail
        refine (H6.out wr HBs.out).mono ?_
        rintro e v1_ ⟨A6, c6, rfl, -, hr6, Bq⟩
        replace HBs := Lib.hid (HBs.out.on Bq)
        replace G1 := Lib.hid (G1.out.on Bq)
        replace G3 := Lib.hid (G3.out.on Bq)
        replace HBw := Lib.hid (HBw.out.trans (Bq.mono HBw.out.size))
        clear Bq
        have G6 := Lib.hid hr6; clear hr6
        go_wp2_with fail
        refine (vbegun_true v1_).mono ?_
        rintro e v2_ ⟨rfl, Bq⟩
        replace HBs := Lib.hid (HBs.out.on Bq)
        replace G1 := Lib.hid (G1.out.on Bq)
        replace G3 := Lib.hid (G3.out.on Bq)
        replace G6 := Lib.hid (G6.out.on Bq)
        replace HBw := Lib.hid (HBw.out.trans (Bq.mono HBw.out.size))
        clear Bq
        go_wp2_with fail
        refine (H7.out _).mono ?_
        rintro e w_ ⟨rfl, rfl⟩
        go_wp2_with fail
        refine (H8.out _).mono ?_
        rintro e w_ ⟨rfl, rfl⟩
        go_wp2_with fail
        refine (H8.out _).mono ?_
        rintro e w_ ⟨rfl, rfl⟩
        go_wp2_with fail
        refine (H9.out _).mono ?_
        rintro e w_ ⟨rfl, rfl⟩
        go_wp2_with fail
        refine (H10.out A1 c1 v2_).mono ?_
        rintro e v3_ ⟨rfl, Bq⟩
        replace HBs := Lib.hid (HBs.out.on Bq)
        replace G1 := Lib.hid (G1.out.on Bq)
        replace G3 := Lib.hid (G3.out.on Bq)
        replace G6 := Lib.hid (G6.out.on Bq)
        replace HBw := Lib.hid (HBw.out.trans (Bq.mono HBw.out.size))
        clear Bq
        go_wp2_with fail
        refine (H11.out A3 c3 A6 c6 v3_ G3.out G6.out).mono ?_
        rintro e v4_ ⟨rfl, Bq⟩
        replace HBs := Lib.hid (HBs.out.on Bq)
        replace G1 := Lib.hid (G1.out.on Bq)
        replace G3 := Lib.hid (G3.out.on Bq)
        replace G6 := Lib.hid (G6.out.on Bq)
        replace HBw := Lib.hid (HBw.out.trans (Bq.mono HBw.out.size))
        clear Bq
        go_wp2
        go_ret
        exact ⟨rfl, HBw.out⟩
  · have tm : decide ((4096 : Int) < (m : Int)) = false := by simp; omega
    have tp1 : decide (p < 0) = false := by simp; omega
    have tp2 : decide ((m : Int) < p) = true := by simp; omega
    go_enter Try.func5, Try.ntmps5
    go_wp2_with fail
    refine (H1.out w HL.out).mono ?_
    rintro e w1_ ⟨A1, c1, rfl, -, hr1, Bq⟩
    replace HL := Lib.hid (HL.out.on Bq)
    replace HBs := Lib.hid (HBs.out.on Bq)
    have HB := Lib.hid Bq
    clear Bq
    have G1 := Lib.hid hr1; clear hr1
    go_wp2_with fail
    refine (H2.out w1_ HBs.out).mono ?_
    rintro e w2_ ⟨rfl, Bq⟩
    replace HL := Lib.hid (HL.out.on Bq)
    replace HBs := Lib.hid (HBs.out.on Bq)
    replace G1 := Lib.hid (G1.out.on Bq)
    replace HB := Lib.hid (HB.out.trans (Bq.mono HB.out.size))
    clear Bq
    go_wp2_with fail
    refine (H3.out w2_ HBs.out).mono ?_
    rintro e w3_ ⟨A3, c3, rfl, -, hr3, Bq⟩
    replace HL := Lib.hid (HL.out.on Bq)
    replace HBs := Lib.hid (HBs.out.on Bq)
    replace G1 := Lib.hid (G1.out.on Bq)
    replace HB := Lib.hid (HB.out.trans (Bq.mono HB.out.size))
    clear Bq
    have G3 := Lib.hid hr3; clear hr3
    go_wp2
    go_loopw [16, 17] (fun v q wr => TwRel w3_ ns n v q wr) (fun _ q _ => n - (intOf q).toNat)
    case atStart => exact ⟨0, rfl, Nat.zero_le _, ⟨rfl, .inl ⟨rfl, rfl⟩⟩, Below.refl _ _, by simp [vbs]⟩
    case round =>
      obtain ⟨i, rfl, hin, hrow, hbel, hlen⟩ := hrel
      obtain ⟨Av, cv, rfl⟩ := own_slice hrow
      have HO := Lib.hid hrow
      have HBl := Lib.hid hbel
      have HTk := Lib.hid (vbs_take_le ns i)
      have HAl := Lib.hid (fun h : n ≤ i => (List.take_of_length_le (by rw [HN.out]; exact h) : ns.take i = ns))
      by_cases hlt : i < n
      · have hil : i < ns.length := by rw [HN.out]; exact hlt
        obtain ⟨b, off, rfl, hb, hc⟩ := HL.out.at_ (nc_get ns i hil)
        have e1 := (hbel.cell (p := ⟨b, off + i, none⟩) hb).trans hc
        have hx : ns[i]?.getD 0 < 18446744073709551616 := by
          rw [List.getElem?_eq_getElem hil]; exact HU.out _ (List.getElem_mem hil)
        have HT : Hid (vbs (ns.take (i + 1)) = vbs (ns.take i) ++ vb (ns[i]?.getD 0)) := by
          show _ = _
          rw [take_snoc ns i hil, vbs_snoc]
        have hv10 := vb_ten _ hx
        have HG := Lib.hid (vbytes_any (ns[i]?.getD 0) wr hx)
        clear hc hrow
        generalize ns[i]?.getD 0 = y at *
        generalize hq : (vbs (ns.take i)).length = q at *
        have HQ := Lib.hid hq; clear hq
        by_cases h5 : q < 5000
        · have t5 : decide ((q : Int) < 5000) = true := by simp; omega
          clear hbel
          go_wp2_with fail
          refine HG.out.mono ?_
          rintro e v1_ ⟨v', rfl, hown, hb1⟩
          obtain ⟨A', c', rfl⟩ := own_slice hown
          have HO1 := Lib.hid (HO.out.kept (grown_of_below hb1 none) (by
            rcases HO.out.2 with ⟨h, _⟩ | ⟨g, cap, cur, h, _⟩
            · left; rw [h]; rfl
            · right; rw [h]; simp [Value.ownBlock]))
          have HRd := Lib.hid (own_rd hown)
          have HNil := Lib.hid (own_none hown)
          have HB1 := Lib.hid (HBl.out.trans (hb1.mono HBl.out.size))
          clear hown hb1
          generalize hq2 : (vb y).length = q2 at *
          have HQ2 := Lib.hid hq2; clear hq2
          have HQ3 : Hid ((vbs (ns.take (i + 1))).length = q + q2) := by show _ = _; rw [HT.out, List.length_append, HQ.out, HQ2.out]
          go_wp2_with (at_builtin; refine app5 rfl _ _ rfl w3_.heap.size _ q _ rfl HO1.out A' q2 c' (vb y) rfl HRd.out HQ2.out HNil.out (by omega) HB1.out.size ?_; intro v' w5 hown2 hgrow2)
          go_roundw
          case rel =>
            refine ⟨i + 1, by go_num, by omega, ?_, HB1.out.trans (grown_below hgrow2 HO1.out HB1.out.size), by rw [HQ3.out]; omega⟩
            rw [HQ3.out, HT.out, bc_append]
            exact hown2
          case measure => simp [intOf]; omega
        · have t5 : decide ((q : Int) < 5000) = false := by simp; omega
          have t6 : decide ((4096 : Int) < (q : Int)) = true := by simp; omega
          have HBw := Lib.hid (HB.out.trans (hbel.mono HB.out.size))
          replace HBs := Lib.hid (HBs.out.on hbel)
          replace G1 := Lib.hid (G1.out.on hbel)
          replace G3 := Lib.hid (G3.out.on hbel)
          clear hbel HO HBl HTk HAl HG HT hv10 hx
          go_wp2_with fail
          refine (H6.out wr HBs.out).mono ?_
          rintro e v1_ ⟨A6, c6, rfl, -, hr6, Bq⟩
          replace HBs := Lib.hid (HBs.out.on Bq)
          replace G1 := Lib.hid (G1.out.on Bq)
          replace G3 := Lib.hid (G3.out.on Bq)
          replace HBw := Lib.hid (HBw.out.trans (Bq.mono HBw.out.size))
          clear Bq
          have G6 := Lib.hid hr6; clear hr6
          go_wp2_with fail
          refine (vbegun_true v1_).mono ?_
          rintro e v2_ ⟨rfl, Bq⟩
          replace HBs := Lib.hid (HBs.out.on Bq)
          replace G1 := Lib.hid (G1.out.on Bq)
          replace G3 := Lib.hid (G3.out.on Bq)
          replace G6 := Lib.hid (G6.out.on Bq)
          replace HBw := Lib.hid (HBw.out.trans (Bq.mono HBw.out.size))
          clear Bq
          go_wp2_with fail
          refine (H7.out _).mono ?_
          rintro e w_ ⟨rfl, rfl⟩
          go_wp2_with fail
          refine (H8.out _).mono ?_
          rintro e w_ ⟨rfl, rfl⟩
          go_wp2_with fail
          refine (H8.out _).mono ?_
          rintro e w_ ⟨rfl, rfl⟩
          go_wp2_with fail
          refine (H9.out _).mono ?_
          rintro e w_ ⟨rfl, rfl⟩
          go_wp2_with fail
          refine (H10.out A1 c1 v2_).mono ?_
          rintro e v3_ ⟨rfl, Bq⟩
          replace HBs := Lib.hid (HBs.out.on Bq)
          replace G1 := Lib.hid (G1.out.on Bq)
          replace G3 := Lib.hid (G3.out.on Bq)
          replace G6 := Lib.hid (G6.out.on Bq)
          replace HBw := Lib.hid (HBw.out.trans (Bq.mono HBw.out.size))
          clear Bq
          go_wp2_with fail
          refine (H11.out A3 c3 A6 c6 v3_ G3.out G6.out).mono ?_
          rintro e v4_ ⟨rfl, Bq⟩
          replace HBs := Lib.hid (HBs.out.on Bq)
          replace G1 := Lib.hid (G1.out.on Bq)
          replace G3 := Lib.hid (G3.out.on Bq)
          replace G6 := Lib.hid (G6.out.on Bq)
          replace HBw := Lib.hid (HBw.out.trans (Bq.mono HBw.out.size))
          clear Bq
          go_wp2
          go_ret
          exact ⟨rfl, HBw.out⟩
      · have HE := HAl.out (by omega)
        rw [HE] at HO HTk hlen
        have HBw := Lib.hid (HB.out.trans (hbel.mono HB.out.size))
        replace HBs := Lib.hid (HBs.out.on hbel)
        replace G1 := Lib.hid (G1.out.on hbel)
        replace G3 := Lib.hid (G3.out.on hbel)
        have hbig := HS.out
        rw [HE]
        generalize (vbs ns).length = q at *
        have t6 : decide ((4096 : Int) < (q : Int)) = true := by simp; omega
        clear hbel HO HBl HTk HAl HE hrow hlen
        go_wp2_with fail
        refine (H6.out wr HBs.out).mono ?_
        rintro e v1_ ⟨A6, c6, rfl, -, hr6, Bq⟩
        replace HBs := Lib.hid (HBs.out.on Bq)
        replace G1 := Lib.hid (G1.out.on Bq)
        replace G3 := Lib.hid (G3.out.on Bq)
        replace HBw := Lib.hid (HBw.out.trans (Bq.mono HBw.out.size))
        clear Bq
        have G6 := Lib.hid hr6; clear hr6
        go_wp2_with fail
        refine (vbegun_true v1_).mono ?_
        rintro e v2_ ⟨rfl, Bq⟩
        replace HBs := Lib.hid (HBs.out.on Bq)
        replace G1 := Lib.hid (G1.out.on Bq)
        replace G3 := Lib.hid (G3.out.on Bq)
        replace G6 := Lib.hid (G6.out.on Bq)
        replace HBw := Lib.hid (HBw.out.trans (Bq.mono HBw.out.size))
        clear Bq
        go_wp2_with fail
        refine (H7.out _).mono ?_
        rintro e w_ ⟨rfl, rfl⟩
        go_wp2_with fail
        refine (H8.out _).mono ?_
        rintro e w_ ⟨rfl, rfl⟩
        go_wp2_with fail
        refine (H8.out _).mono ?_
        rintro e w_ ⟨rfl, rfl⟩
        go_wp2_with fail
        refine (H9.out _).mono ?_
        rintro e w_ ⟨rfl, rfl⟩
        go_wp2_with fail
        refine (H10.out A1 c1 v2_).mono ?_
        rintro e v3_ ⟨rfl, Bq⟩
        replace HBs := Lib.hid (HBs.out.on Bq)
        replace G1 := Lib.hid (G1.out.on Bq)
        replace G3 := Lib.hid (G3.out.on Bq)
        replace G6 := Lib.hid (G6.out.on Bq)
        replace HBw := Lib.hid (HBw.out.trans (Bq.mono HBw.out.size))
        clear Bq
        go_wp2_with fail
        refine (H11.out A3 c3 A6 c6 v3_ G3.out G6.out).mono ?_
        rintro e v4_ ⟨rfl, Bq⟩
        replace HBs := Lib.hid (HBs.out.on Bq)
        replace G1 := Lib.hid (G1.out.on Bq)
        replace G3 := Lib.hid (G3.out.on Bq)
        replace G6 := Lib.hid (G6.out.on Bq)
        replace HBw := Lib.hid (HBw.out.trans (Bq.mono HBw.out.size))
        clear Bq
        go_wp2
        go_ret
        exact ⟨rfl, HBw.out⟩

set_option maxHeartbeats 4000000 in
theorem vtells_b_ok (x : Int) (fx : Nat) (A : Option Addr) (c n : Nat) (ns : List Nat) (B : Option Addr) (d m : Nat) (bs : List Nat) (p : Int) (w : World) (ws rn : List Nat) (v to : Nat) (e0 re : Int)
    (hnn : ns.length = n) (hn2 : n ≤ 9223372036854775807) (hu : ∀ k ∈ ns, k < 18446744073709551616) (hA : RdV w w.heap.size A (nc ns)) (hB : Rd w w.heap.size B bs)
    (H1 : Hid (∀ w, RdV w w.heap.size A (nc ns) → Calls Try.prog 27 #[.slice A n c] w (Wrote w [] 2))) (H2 : Hid (∀ w, Rd w w.heap.size B bs → Calls Try.prog 28 #[.slice B m d, .int .i64 p] w (ReadP w v to e0))) (H3 : Hid (∀ w, Rd w w.heap.size B bs → Calls Try.prog 29 #[.slice B m d] w (AllP w rn re))) (H5 : Hid (∀ w, Rd w w.heap.size B bs → Calls Try.prog 31 #[.slice B m d, .int .i64 p] w (ReadP w v to e0))) (H6 : Hid (∀ w, Rd w w.heap.size B bs → Calls Try.prog 32 #[.slice B m d] w (AllP w rn re))) (H7 : Hid (∀ w, Calls Try.prog 34 #[.int .i64 x] w fun e w' => e = .returned (.int .u64 (fx : Int)) ∧ w = w')) (H8 : Hid (∀ w, Calls Try.prog 35 #[.int .i64 x] w fun e w' => e = .returned (.int .u64 (fx : Int)) ∧ w = w')) (H9 : Hid (∀ w, Calls Try.prog 36 #[.int .u64 (fx : Int)] w fun e w' => e = .returned (.int .i64 x) ∧ w = w')) (H10 : Hid (∀ A1 c1 w, Calls Try.prog 37 #[.slice A1 0 c1, .slice none 0 0] w fun e w' => e = .returned (.bool true) ∧ Below w.heap.size w w')) (H11 : Hid (∀ A1 c1 A2 c2 w, RdV w w.heap.size A1 (nc rn) → RdV w w.heap.size A2 (nc rn) → Calls Try.prog 38 #[.slice A1 rn.length c1, .slice A2 rn.length c2] w fun e w' => e = .returned (.bool true) ∧ Below w.heap.size w w')) (hm : m ≤ 4096) (hp0 : 0 ≤ p) (hp : p ≤ (m : Int)) (hw : 4096 < (vbs ns).length) :
    Calls Try.prog 5 #[.int .i64 x, .slice A n c, .slice B m d, .int .i64 p] w fun e w' => e = .returned (.bool true) ∧ Below w.heap.size w w' := by
  have HL := Lib.hid hA; clear hA
  have HBs := Lib.hid hB; clear hB
  have HN := Lib.hid hnn; clear hnn
  have HU := Lib.hid hu; clear hu
  have HS := Lib.hid hw; clear hw
  have tm : decide ((4096 : Int) < (m : Int)) = false := by simp; omega
  have tp1 : decide (p < 0) = false := by simp; omega
  have tp2 : decide ((m : Int) < p) = false := by simp; omega
  go_enter Try.func5, Try.ntmps5
  go_wp2_with fail
  refine (H1.out w HL.out).mono ?_
  rintro e w1_ ⟨A1, c1, rfl, -, hr1, Bq⟩
  replace HL := Lib.hid (HL.out.on Bq)
  replace HBs := Lib.hid (HBs.out.on Bq)
  have HB := Lib.hid Bq
  clear Bq
  have G1 := Lib.hid hr1; clear hr1
  go_wp2_with fail
  refine (H2.out w1_ HBs.out).mono ?_
  rintro e w2_ ⟨rfl, Bq⟩
  replace HL := Lib.hid (HL.out.on Bq)
  replace HBs := Lib.hid (HBs.out.on Bq)
  replace G1 := Lib.hid (G1.out.on Bq)
  replace HB := Lib.hid (HB.out.trans (Bq.mono HB.out.size))
  clear Bq
  go_wp2_with fail
  refine (H3.out w2_ HBs.out).mono ?_
  rintro e w3_ ⟨A3, c3, rfl, -, hr3, Bq⟩
  replace HL := Lib.hid (HL.out.on Bq)
  replace HBs := Lib.hid (HBs.out.on Bq)
  replace G1 := Lib.hid (G1.out.on Bq)
  replace HB := Lib.hid (HB.out.trans (Bq.mono HB.out.size))
  clear Bq
  have G3 := Lib.hid hr3; clear hr3
  go_wp2
  go_loopw [16, 17] (fun v q wr => TwRel w3_ ns n v q wr) (fun _ q _ => n - (intOf q).toNat)
  case atStart => exact ⟨0, rfl, Nat.zero_le _, ⟨rfl, .inl ⟨rfl, rfl⟩⟩, Below.refl _ _, by simp [vbs]⟩
  case round =>
    obtain ⟨i, rfl, hin, hrow, hbel, hlen⟩ := hrel
    obtain ⟨Av, cv, rfl⟩ := own_slice hrow
    have HO := Lib.hid hrow
    have HBl := Lib.hid hbel
    have HTk := Lib.hid (vbs_take_le ns i)
    have HAl := Lib.hid (fun h : n ≤ i => (List.take_of_length_le (by rw [HN.out]; exact h) : ns.take i = ns))
    by_cases hlt : i < n
    · have hil : i < ns.length := by rw [HN.out]; exact hlt
      obtain ⟨b, off, rfl, hb, hc⟩ := HL.out.at_ (nc_get ns i hil)
      have e1 := (hbel.cell (p := ⟨b, off + i, none⟩) hb).trans hc
      have hx : ns[i]?.getD 0 < 18446744073709551616 := by
        rw [List.getElem?_eq_getElem hil]; exact HU.out _ (List.getElem_mem hil)
      have HT : Hid (vbs (ns.take (i + 1)) = vbs (ns.take i) ++ vb (ns[i]?.getD 0)) := by
        show _ = _
        rw [take_snoc ns i hil, vbs_snoc]
      have hv10 := vb_ten _ hx
      have HG := Lib.hid (vbytes_any (ns[i]?.getD 0) wr hx)
      clear hc hrow
      generalize ns[i]?.getD 0 = y at *
      generalize hq : (vbs (ns.take i)).length = q at *
      have HQ := Lib.hid hq; clear hq
      by_cases h5 : q < 5000
      · have t5 : decide ((q : Int) < 5000) = true := by simp; omega
        clear hbel
        go_wp2_with fail
        refine HG.out.mono ?_
        rintro e v1_ ⟨v', rfl, hown, hb1⟩
        obtain ⟨A', c', rfl⟩ := own_slice hown
        have HO1 := Lib.hid (HO.out.kept (grown_of_below hb1 none) (by
          rcases HO.out.2 with ⟨h, _⟩ | ⟨g, cap, cur, h, _⟩
          · left; rw [h]; rfl
          · right; rw [h]; simp [Value.ownBlock]))
        have HRd := Lib.hid (own_rd hown)
        have HNil := Lib.hid (own_none hown)
        have HB1 := Lib.hid (HBl.out.trans (hb1.mono HBl.out.size))
        clear hown hb1
        generalize hq2 : (vb y).length = q2 at *
        have HQ2 := Lib.hid hq2; clear hq2
        have HQ3 : Hid ((vbs (ns.take (i + 1))).length = q + q2) := by show _ = _; rw [HT.out, List.length_append, HQ.out, HQ2.out]
        go_wp2_with (at_builtin; refine app5 rfl _ _ rfl w3_.heap.size _ q _ rfl HO1.out A' q2 c' (vb y) rfl HRd.out HQ2.out HNil.out (by omega) HB1.out.size ?_; intro v' w5 hown2 hgrow2)
        go_roundw
        case rel =>
          refine ⟨i + 1, by go_num, by omega, ?_, HB1.out.trans (grown_below hgrow2 HO1.out HB1.out.size), by rw [HQ3.out]; omega⟩
          rw [HQ3.out, HT.out, bc_append]
          exact hown2
        case measure => simp [intOf]; omega
      · have t5 : decide ((q : Int) < 5000) = false := by simp; omega
        have t6 : decide ((4096 : Int) < (q : Int)) = true := by simp; omega
        have HBw := Lib.hid (HB.out.trans (hbel.mono HB.out.size))
        replace HBs := Lib.hid (HBs.out.on hbel)
        replace G1 := Lib.hid (G1.out.on hbel)
        replace G3 := Lib.hid (G3.out.on hbel)
        clear hbel HO HBl HTk HAl HG HT hv10 hx
        go_wp2_with fail
        refine (H5.out wr HBs.out).mono ?_
        rintro e v1_ ⟨rfl, Bq⟩
        replace HBs := Lib.hid (HBs.out.on Bq)
        replace G1 := Lib.hid (G1.out.on Bq)
        replace G3 := Lib.hid (G3.out.on Bq)
        replace HBw := Lib.hid (HBw.out.trans (Bq.mono HBw.out.size))
        clear Bq
        go_wp2_with fail
        refine (H6.out v1_ HBs.out).mono ?_
        rintro e v2_ ⟨A6, c6, rfl, -, hr6, Bq⟩
        replace HBs := Lib.hid (HBs.out.on Bq)
        replace G1 := Lib.hid (G1.out.on Bq)
        replace G3 := Lib.hid (G3.out.on Bq)
        replace HBw := Lib.hid (HBw.out.trans (Bq.mono HBw.out.size))
        clear Bq
        have G6 := Lib.hid hr6; clear hr6
        go_wp2_with fail
        refine (vbegun_true v2_).mono ?_
        rintro e v3_ ⟨rfl, Bq⟩
        replace HBs := Lib.hid (HBs.out.on Bq)
        replace G1 := Lib.hid (G1.out.on Bq)
        replace G3 := Lib.hid (G3.out.on Bq)
        replace G6 := Lib.hid (G6.out.on Bq)
        replace HBw := Lib.hid (HBw.out.trans (Bq.mono HBw.out.size))
        clear Bq
        go_wp2_with fail
        refine (H7.out _).mono ?_
        rintro e w_ ⟨rfl, rfl⟩
        go_wp2_with fail
        refine (H8.out _).mono ?_
        rintro e w_ ⟨rfl, rfl⟩
        go_wp2_with fail
        refine (H8.out _).mono ?_
        rintro e w_ ⟨rfl, rfl⟩
        go_wp2_with fail
        refine (H9.out _).mono ?_
        rintro e w_ ⟨rfl, rfl⟩
        go_wp2_with fail
        refine (H10.out A1 c1 v3_).mono ?_
        rintro e v4_ ⟨rfl, Bq⟩
        replace HBs := Lib.hid (HBs.out.on Bq)
        replace G1 := Lib.hid (G1.out.on Bq)
        replace G3 := Lib.hid (G3.out.on Bq)
        replace G6 := Lib.hid (G6.out.on Bq)
        replace HBw := Lib.hid (HBw.out.trans (Bq.mono HBw.out.size))
        clear Bq
        go_wp2_with fail
        refine (H11.out A3 c3 A6 c6 v4_ G3.out G6.out).mono ?_
        rintro e v5_ ⟨rfl, Bq⟩
        replace HBs := Lib.hid (HBs.out.on Bq)
        replace G1 := Lib.hid (G1.out.on Bq)
        replace G3 := Lib.hid (G3.out.on Bq)
        replace G6 := Lib.hid (G6.out.on Bq)
        replace HBw := Lib.hid (HBw.out.trans (Bq.mono HBw.out.size))
        clear Bq
        go_wp2
        go_ret
        exact ⟨rfl, HBw.out⟩
    · have HE := HAl.out (by omega)
      rw [HE] at HO HTk hlen
      have HBw := Lib.hid (HB.out.trans (hbel.mono HB.out.size))
      replace HBs := Lib.hid (HBs.out.on hbel)
      replace G1 := Lib.hid (G1.out.on hbel)
      replace G3 := Lib.hid (G3.out.on hbel)
      have hbig := HS.out
      rw [HE]
      generalize (vbs ns).length = q at *
      have t6 : decide ((4096 : Int) < (q : Int)) = true := by simp; omega
      clear hbel HO HBl HTk HAl HE hrow hlen
      go_wp2_with fail
      refine (H5.out wr HBs.out).mono ?_
      rintro e v1_ ⟨rfl, Bq⟩
      replace HBs := Lib.hid (HBs.out.on Bq)
      replace G1 := Lib.hid (G1.out.on Bq)
      replace G3 := Lib.hid (G3.out.on Bq)
      replace HBw := Lib.hid (HBw.out.trans (Bq.mono HBw.out.size))
      clear Bq
      go_wp2_with fail
      refine (H6.out v1_ HBs.out).mono ?_
      rintro e v2_ ⟨A6, c6, rfl, -, hr6, Bq⟩
      replace HBs := Lib.hid (HBs.out.on Bq)
      replace G1 := Lib.hid (G1.out.on Bq)
      replace G3 := Lib.hid (G3.out.on Bq)
      replace HBw := Lib.hid (HBw.out.trans (Bq.mono HBw.out.size))
      clear Bq
      have G6 := Lib.hid hr6; clear hr6
      go_wp2_with fail
      refine (vbegun_true v2_).mono ?_
      rintro e v3_ ⟨rfl, Bq⟩
      replace HBs := Lib.hid (HBs.out.on Bq)
      replace G1 := Lib.hid (G1.out.on Bq)
      replace G3 := Lib.hid (G3.out.on Bq)
      replace G6 := Lib.hid (G6.out.on Bq)
      replace HBw := Lib.hid (HBw.out.trans (Bq.mono HBw.out.size))
      clear Bq
      go_wp2_with fail
      refine (H7.out _).mono ?_
      rintro e w_ ⟨rfl, rfl⟩
      go_wp2_with fail
      refine (H8.out _).mono ?_
      rintro e w_ ⟨rfl, rfl⟩
      go_wp2_with fail
      refine (H8.out _).mono ?_
      rintro e w_ ⟨rfl, rfl⟩
      go_wp2_with fail
      refine (H9.out _).mono ?_
      rintro e w_ ⟨rfl, rfl⟩
      go_wp2_with fail
      refine (H10.out A1 c1 v3_).mono ?_
      rintro e v4_ ⟨rfl, Bq⟩
      replace HBs := Lib.hid (HBs.out.on Bq)
      replace G1 := Lib.hid (G1.out.on Bq)
      replace G3 := Lib.hid (G3.out.on Bq)
      replace G6 := Lib.hid (G6.out.on Bq)
      replace HBw := Lib.hid (HBw.out.trans (Bq.mono HBw.out.size))
      clear Bq
      go_wp2_with fail
      refine (H11.out A3 c3 A6 c6 v4_ G3.out G6.out).mono ?_
      rintro e v5_ ⟨rfl, Bq⟩
      replace HBs := Lib.hid (HBs.out.on Bq)
      replace G1 := Lib.hid (G1.out.on Bq)
      replace G3 := Lib.hid (G3.out.on Bq)
      replace G6 := Lib.hid (G6.out.on Bq)
      replace HBw := Lib.hid (HBw.out.trans (Bq.mono HBw.out.size))
      clear Bq
      go_wp2
      go_ret
      exact ⟨rfl, HBw.out⟩

end Go.Proofs.Ytjogccpnhcnedaa
