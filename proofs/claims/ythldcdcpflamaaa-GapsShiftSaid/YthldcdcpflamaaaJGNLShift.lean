/- The law GapsShift: all further by as much, the place too, the gaps are the same; for whatever list. -/
import Derived.Test.YthldcdcpflamaaaJGNBegun
namespace Go.Proofs.Ythldcdcpflamaaa
set_option maxRecDepth 100000
set_option linter.unusedVariables false
open Go.RowKit Go.Shelf

/-- At each round's head: the first i, further. -/
def ShRel (xs : List Int) (d : Int) (w : World) (v p : Value) (wr : World) : Prop :=
  ∃ i : Nat, i ≤ xs.length ∧ p = .int .i64 (i : Int) ∧ wr.ownsRow w.heap.size 3 1 v i (zc ((xs.map (· + d)).take i)) ∧ Below w.heap.size w wr
theorem gE_shift (l : List Nat) (hl : Rising l) (m : Nat) (hm : m ≤ 1048576) (d : Int) : gE ((ns l).map (· + d)) ((m : Int) + d) = 3 ∨ (gE ((ns l).map (· + d)) ((m : Int) + d) = 0 ∧ gL ((ns l).map (· + d)) ((m : Int) + d) = gps (m : Int) l) := by
  rw [gE_eq]
  rcases rchk_shift d l hl with h | h
  · rw [h, if_neg (by simp)]
    by_cases h2 : okN ((m : Int) + d) = true
    · rw [if_pos h2]
      right
      refine ⟨rfl, ?_⟩
      obtain ⟨l2, e2, hl2⟩ := rchk_zero _ h
      obtain ⟨m2, e3, hm2⟩ := okN_true h2
      rw [e2, e3, gL_ok l2 hl2 m2 hm2, ← e3]
      exact gps_shift d (m : Int) l l2 e2.symm
    · rw [if_neg h2]; exact .inl rfl
  · rw [h, if_pos (by simp)]; exact .inl rfl
theorem take_snocI (xs : List Int) (i : Nat) (h : i < xs.length) : xs.take (i + 1) = xs.take i ++ [xs[i]?.getD 0] := by
  rw [List.take_succ_eq_append_getElem h, List.getElem?_eq_getElem h]; rfl

set_option maxHeartbeats 4000000 in
theorem gapsShift_law (A : Option Addr) (c : Nat) (xs : List Int) (a d : Int) (w : World) (hc : xs.length ≤ c) (hna : A = none → c = 0) (hb : ∀ x ∈ xs, -9223372036854775808 ≤ x ∧ x ≤ 9223372036854775807) (hA : RdV w w.heap.size A (zc xs)) (hn : xs.length ≤ 9223372036854775807) (ha : -9223372036854775808 ≤ a ∧ a ≤ 9223372036854775807) (hd : -9223372036854775808 ≤ d ∧ d ≤ 9223372036854775807) :
    Calls Try.prog 7 #[.slice A xs.length c, .int .i64 a, .int .i64 d] w fun e w' => e = .returned (.bool true) ∧ Below w.heap.size w w' := by
  have H1 := Lib.hid (fun w h => gaps_any xs _ rfl hn a A c w h)
  have HA := Lib.hid hA
  clear hA hc hna hb
  by_cases e1 : gE xs a = 0
  · obtain ⟨l, m, rfl, hl, rfl, hm⟩ := gE_zero xs a e1
    have h300 : (ns l).length ≤ 300 := by rw [ns_length]; exact hl.1
    rw [e1] at H1
    by_cases d1 : d < -1048576
    · have t1 : decide (d < -1048576) = true := by simpa using d1
      generalize gL (ns l) (m : Int) = gl at *
      generalize (ns l).length = n at *
      clear e1 d1 hl
      go_enter Try.func7, Try.ntmps7
      go_wp2_with fail
      refine (H1.out w HA.out).mono ?_
      rintro e w1_ ⟨A1, c1, rfl, -, -, hr1, Bq⟩
      replace HA := Lib.hid (HA.out.on Bq)
      have HB := Lib.hid Bq
      clear Bq
      have G1 := Lib.hid hr1; clear hr1
      go_wp2_with fail
      refine (gapsbegun_true w1_).mono ?_
      rintro e w2_ ⟨rfl, Bq⟩
      replace HA := Lib.hid (HA.out.on Bq)
      replace G1 := Lib.hid (G1.out.on Bq)
      replace HB := Lib.hid (HB.out.trans (Bq.mono HB.out.size))
      clear Bq
      go_wp2
      go_ret
      exact ⟨rfl, HB.out⟩
    · have t1 : decide (d < -1048576) = false := by simp; omega
      by_cases d2 : 1048576 < d
      · have t2 : decide (1048576 < d) = true := by simpa using d2
        generalize gL (ns l) (m : Int) = gl at *
        generalize (ns l).length = n at *
        clear e1 d1 d2 hl
        go_enter Try.func7, Try.ntmps7
        go_wp2_with fail
        refine (H1.out w HA.out).mono ?_
        rintro e w1_ ⟨A1, c1, rfl, -, -, hr1, Bq⟩
        replace HA := Lib.hid (HA.out.on Bq)
        have HB := Lib.hid Bq
        clear Bq
        have G1 := Lib.hid hr1; clear hr1
        go_wp2_with fail
        refine (gapsbegun_true w1_).mono ?_
        rintro e w2_ ⟨rfl, Bq⟩
        replace HA := Lib.hid (HA.out.on Bq)
        replace G1 := Lib.hid (G1.out.on Bq)
        replace HB := Lib.hid (HB.out.trans (Bq.mono HB.out.size))
        clear Bq
        go_wp2
        go_ret
        exact ⟨rfl, HB.out⟩
      · have t2 : decide (1048576 < d) = false := by simp; omega
        have hsh := gE_shift l hl m hm d
        rw [← gL_ok l hl m hm] at hsh
        have hgl : (gL (ns l) (m : Int)).length = (ns l).length := by rw [gL_ok l hl m hm, gps_length, ns_length]
        have hle := fun x hx => ris_le l _ hl.2 x hx
        have HLe := Lib.hid hle; clear hle
        obtain ⟨i0, hi, hz0, hz1, hz2⟩ := info_parts info3
        have hml : ((ns l).map (· + d)).length = (ns l).length := by simp
        have H2 := Lib.hid (fun A c w h => gaps_any ((ns l).map (· + d)) (ns l).length hml (by omega) ((m : Int) + d) A c w h)
        generalize hxs : ns l = xs at *
        have HXs := Lib.hid hxs
        generalize hn0 : xs.length = n at *
        have HN := Lib.hid hn0; have HML := Lib.hid hml; have HGL := Lib.hid hgl
        have HSN : Hid (∀ A1 c1 A2 c2 w, RdV w w.heap.size A1 (nc (gL xs (m : Int))) → RdV w w.heap.size A2 (nc (gL xs (m : Int))) → Calls Try.prog 24 #[.slice A1 (gL xs (m : Int)).length c1, .slice A2 (gL xs (m : Int)).length c2] w fun e w' => e = .returned (.bool true) ∧ Below w.heap.size w w') := fun A1 c1 A2 c2 w h1 h2 => sameN_x _ _ rfl (by rw [HGL.out]; omega) A1 A2 c1 c2 w h1 h2
        generalize gL xs (m : Int) = gl at *
        clear e1 hl hxs hn0 hml hgl hn ha
        go_enter Try.func7, Try.ntmps7
        go_wp2_with fail
        refine (H1.out w HA.out).mono ?_
        rintro e w1_ ⟨A1, c1, rfl, -, -, hr1, Bq⟩
        replace HA := Lib.hid (HA.out.on Bq)
        have HB := Lib.hid Bq
        clear Bq
        have G1 := Lib.hid hr1; clear hr1
        go_wp2_with fail
        refine (gapsbegun_true w1_).mono ?_
        rintro e w2_ ⟨rfl, Bq⟩
        replace HA := Lib.hid (HA.out.on Bq)
        replace G1 := Lib.hid (G1.out.on Bq)
        replace HB := Lib.hid (HB.out.trans (Bq.mono HB.out.size))
        clear Bq
        go_wp2
        go_loopw [9, 10] (fun v p wr => ShRel xs d w2_ v p wr) (fun _ p _ => n - (intOf p).toNat)
        case atStart => exact ⟨0, Nat.zero_le _, rfl, ⟨rfl, .inl ⟨rfl, rfl⟩⟩, Below.refl _ _⟩
        case round =>
          obtain ⟨i, hi', rfl, hrow, hbel⟩ := hrel
          rw [HN.out] at hi'
          by_cases hlt : i < n
          · have hin : i < xs.length := by rw [HN.out]; exact hlt
            obtain ⟨b, off, rfl, hb, hcx⟩ := (HA.out.on hbel).at_ (zc_get xs i hin)
            have hx : ∃ x : Nat, xs[i]?.getD 0 = (x : Int) ∧ x ≤ 1048576 := by
              have hin2 : i < l.length := by rw [← HXs.out, ns_length] at hin; exact hin
              refine ⟨l[i]?.getD 0, ?_, (HLe.out _ (at_mem l i hin2)).2⟩
              rw [← HXs.out]; simp [ns, List.getElem?_map, List.getElem?_eq_getElem hin2]
            have htk := take_snocI (xs.map (· + d)) i (by rw [HML.out]; exact hlt)
            rw [List.getElem?_map, List.getElem?_eq_getElem hin] at htk
            rw [List.getElem?_eq_getElem hin] at hcx hx
            simp only [Option.map_some, Option.getD_some] at htk hcx hx
            obtain ⟨x, hx1, hx2⟩ := hx
            rw [hx1] at hcx htk
            have hzz : zc ((xs.map (· + d)).take i) ++ [Value.int .i64 ((x : Int) + d)] = zc ((xs.map (· + d)).take (i + 1)) := by rw [htk, zc_append]; rfl
            have HZZ := Lib.hid hzz; clear hzz htk hx1
            have HB2 := Lib.hid hbel; clear hbel
            obtain ⟨Av, cv, rfl⟩ := own_slice3 hrow
            go_wp2_with (at_builtin; refine wpList_append_own _ rfl _ _ 22 rfl w2_.heap.size 3 i0 (.int .i64 0) 1 8 Try.underlying22 hi hz0 hz1 hz2 rfl (by decide) _ _ _ rfl (hrow.alloc _) ⟨wr.heap.size, 0, none⟩ 1 1 [.int .i64 ((x : Int) + d)] rfl rfl (news_row wr [.int .i64 ((x : Int) + d)] _) (by simp [Value.oneCell']) (by unfold maxLen; omega) (by omega) (by have := HB2.out.size; simp; omega) ?_; intro v' w3 hown' hgrow _)
            rw [HZZ.out] at hown'
            have HO3 := Lib.hid hown'
            have HB3 : Hid (Below w2_.heap.size w2_ w3) := HB2.out.trans (((Below.refl w2_.heap.size wr).alloc HB2.out.size _).trans (grown_low hgrow (hrow.alloc _) (by have := HB2.out.size; simp; omega)))
            clear hown' hgrow hrow
            go_roundw
            case rel => exact ⟨i + 1, by rw [HN.out]; omega, by go_num, HO3.out, HB3.out⟩
            case measure => simp [intOf]; omega
          · have e : (xs.map (· + d)).take i = xs.map (· + d) := List.take_of_length_le (by rw [HML.out]; omega)
            rw [e] at hrow
            obtain rfl : i = n := by omega
            obtain ⟨Av, cv, rfl⟩ := own_slice3 hrow
            have HRd := Lib.hid (own_rdv hrow)
            have HBl := Lib.hid hbel
            replace G1 := Lib.hid (G1.out.on hbel)
            clear hrow hbel e
            rcases hsh with h3 | ⟨h3, h4⟩
            · rw [h3] at H2
              clear h3
              go_wp2_with fail
              refine (H2.out Av cv _ HRd.out).mono ?_
              rintro e w4 ⟨A4, c4, rfl, -, -, -, B4⟩
              have HB4 := Lib.hid (HB.out.trans ((HBl.out.trans (B4.mono HBl.out.size)).mono HB.out.size))
              clear B4
              go_wp2
              go_ret
              exact ⟨rfl, HB4.out⟩
            · rw [h3, h4] at H2
              clear h3 h4
              go_wp2_with fail
              refine (H2.out Av cv _ HRd.out).mono ?_
              rintro e w4 ⟨A4, c4, rfl, -, -, r4, B4⟩
              replace G1 := Lib.hid (G1.out.on B4)
              have HR4 := Lib.hid r4
              have HB4 := Lib.hid (HB.out.trans ((HBl.out.trans (B4.mono HBl.out.size)).mono HB.out.size))
              clear B4 r4
              go_wp2_with fail
              refine (HSN.out A1 c1 A4 c4 _ G1.out HR4.out).mono ?_
              rintro e w5 ⟨rfl, B5⟩
              have HB5 := Lib.hid (HB4.out.trans (B5.mono HB4.out.size))
              clear B5
              go_wp2
              go_ret
              exact ⟨rfl, HB5.out⟩
  · have t1 : (gE xs a != 0) = true := by simpa using e1
    generalize gE xs a = eg at *
    generalize gL xs a = gl at *
    generalize xs.length = n at *
    clear e1
    go_enter Try.func7, Try.ntmps7
    go_wp2_with fail
    refine (H1.out w HA.out).mono ?_
    rintro e w1_ ⟨A1, c1, rfl, -, -, hr1, Bq⟩
    replace HA := Lib.hid (HA.out.on Bq)
    have HB := Lib.hid Bq
    clear Bq
    have G1 := Lib.hid hr1; clear hr1
    go_wp2_with fail
    refine (gapsbegun_true w1_).mono ?_
    rintro e w2_ ⟨rfl, Bq⟩
    replace HA := Lib.hid (HA.out.on Bq)
    replace G1 := Lib.hid (G1.out.on Bq)
    replace HB := Lib.hid (HB.out.trans (Bq.mono HB.out.size))
    clear Bq
    go_wp2
    go_ret
    exact ⟨rfl, HB.out⟩
end Go.Proofs.Ythldcdcpflamaaa
