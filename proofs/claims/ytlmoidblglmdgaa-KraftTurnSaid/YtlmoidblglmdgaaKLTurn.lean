/- The law KraftTurn, way by way and together. -/
import Derived.Test.YtlmoidblglmdgaaKOpen
import Derived.Test.YtlmoidblglmdgaaKLMust
import Derived.Test.YtlmoidblglmdgaaRefGen
import Derived.Deep.RegionHeld3
namespace Go.Proofs.Ytlmoidblglmdgaa
set_option maxRecDepth 100000
set_option linter.unusedVariables false
open Go.ChangeShapes Go.WideShapes Go.ChangeAt Go.RowKit Go.Joins

/-- Numbers that were handed in, and that there is room for them. -/
theorem open_zn {H : Type} {enc : TypeId × Value → H} {W : World} {base : Nat} {v : Value} {d : DataW H} {p : List MemPlace}
    (hv : Value.okWide Try.prog W .any base 22 v) (h : DataW.Trod enc Try.prog W 0 (fun _ => true) true 22 v d p) :
    ∃ (A : Option Addr) (c : Nat) (xs : List Int), v = .slice A xs.length c ∧ RdV W W.heap.size A (zc xs) ∧ (∀ x ∈ xs, -9223372036854775808 ≤ x ∧ x ≤ 9223372036854775807) ∧ (xs.length ≤ 9223372036854775807 ∧ xs.length ≤ c ∧ c ≤ 9223372036854775807) := by
  obtain ⟨a0, len0, cap0, rfl⟩ := okWide_slice Try.underlying22 hv
  obtain ⟨fuel, hf⟩ := h
  rcases open_ints Try.underlying22 Try.underlying3 cells3i hf with ⟨hcs, _⟩ | ⟨x, l, c, zs, hcs, _, hl, hm, hz, _, hcell, hwz⟩
  · simp [Value.cells] at hcs
    obtain ⟨rfl, rfl, rfl⟩ := hcs
    exact ⟨none, 0, [], rfl, .inl rfl, by simp, by simp⟩
  · simp [Value.cells] at hcs
    obtain ⟨rfl, rfl, rfl⟩ := hcs
    have hzc : zs.length = cap0 := by simpa using hz
    have hlen : (zs.take len0).length = len0 := by rw [List.length_take]; omega
    unfold maxLen at hm
    refine ⟨some x, cap0, zs.take len0, by rw [hlen], ?_, ?_, by rw [hlen]; omega, by rw [hlen]; omega, by omega⟩
    · rcases Nat.eq_zero_or_pos len0 with h0 | h0
      · left; rw [h0]; rfl
      · obtain ⟨b, off, rfl, hc⟩ := ints_at hcell (by omega)
        refine .inr ⟨b, off, rfl, lt_of_cell (hc 0 (by omega)), fun i v hi => ?_⟩
        have hil : i < len0 := by
          rcases Nat.lt_or_ge i len0 with h | h
          · exact h
          · rw [List.getElem?_eq_none (by rw [zc_length, hlen]; exact h)] at hi; cases hi
        rw [zc_get _ i (by rw [hlen]; exact hil)] at hi
        cases hi
        rw [hc i (by omega)]
        have hz0 : zs.getD i 0 = zs[i]'(by omega) := by rw [List.getD_eq_getElem?_getD, List.getElem?_eq_getElem (by omega)]; rfl
        have e1 : (zs.take len0)[i]?.getD 0 = zs[i]'(by omega) := by
          rw [List.getElem?_take_of_lt hil, List.getElem?_eq_getElem (by omega)]; rfl
        rw [e1, hz0]
    · intro n hn
      exact bounds_i64 (hwz n (List.mem_of_mem_take hn))

theorem drop_rev (l : List Nat) (m : Nat) (h : m < l.length) : (l.drop m).reverse = (l.drop (m + 1)).reverse ++ [l[m]?.getD 0] := by
  rw [List.drop_eq_getElem_cons h, List.reverse_cons, List.getElem?_eq_getElem h]; rfl
theorem turn_less (l : List Nat) (j : Nat) (h : j < l.length) : tkn (l.take j ++ l.drop (j + 1)) + tk (l[j]?.getD 0) = tkn l := by
  have e : l = l.take j ++ (l[j]?.getD 0 :: l.drop (j + 1)) := by
    rw [List.getElem?_eq_getElem h]
    show l = l.take j ++ (l[j] :: l.drop (j + 1))
    rw [← List.drop_eq_getElem_cons h, List.take_append_drop]
  conv => rhs; rw [e]
  simp only [tkn_append, tkn]
  omega
theorem tk_pos (x : Nat) : (0 < tk x) ↔ 0 < x := by
  unfold tk
  split
  · omega
  · have := Nat.two_pow_pos (24 - x); omega
theorem ns_app (a b : List Nat) : zc (ns (a ++ b)) = zc (ns a) ++ zc (ns b) := by simp [zc, ns]
theorem rdv_take {w : World} {B : Nat} {A : Option Addr} {vs : List Value} (h : RdV w B A vs) (k : Nat) : RdV w B A (vs.take k) := by
  rcases h with rfl | ⟨b, off, rfl, hb, hc⟩
  · left; simp
  · refine .inr ⟨b, off, rfl, hb, fun i v hi => ?_⟩
    rw [List.getElem?_take] at hi
    split at hi
    · exact hc i v hi
    · cases hi
theorem own_lit0z (w : World) (base : Nat) (hb : base ≤ w.heap.size) : (w.alloc (.cells #[] 3)).ownsRow base 3 1 (.slice (some ⟨w.heap.size, 0, none⟩) 0 0) 0 [] :=
  ⟨rfl, .inr ⟨w.heap.size, 0, #[], rfl, hb, World.alloc_heap_new w _, Nat.le_refl _, by decide, rfl, rfl⟩⟩

set_option maxHeartbeats 1000000 in
theorem lturn_k (A : Option Addr) (n c : Nat) (i : Int) (w : World) (k : Int) (hk : k ≠ 0) (hR : RoomC A n c w 0 k) :
    Calls Try.prog 9 #[.slice A n c, .int .i64 i] w fun e w' => e = .returned (.bool true) ∧ Below w.heap.size w w' := by
  have HR := Lib.hid hR; clear hR
  have t0 : (k != 0) = true := by simpa using hk
  go_enter Try.func9, Try.ntmps9
  go_wp2_with fail
  refine (HR.out w (Below.refl _ _)).mono ?_
  rintro e w1 ⟨rfl, b1⟩
  go_wp2_with fail
  refine (kbegun w1).mono ?_
  rintro e w2 ⟨rfl, b2⟩
  have HB2 : Hid (Below w.heap.size w w2) := b1.trans (b2.mono b1.size)
  clear b1 b2
  go_wp2
  go_ret
  exact ⟨rfl, HB2.out⟩

/-- At each round's head: the last numbers are laid, the last one first. -/
def TuRel (l : List Nat) (n : Nat) (w2 : World) (v p : Value) (wr : World) : Prop :=
  ∃ (q : Int) (r : Nat), r ≤ n ∧ p = .int .i64 q ∧ q = (r : Int) - 1 ∧ wr.ownsRow w2.heap.size 3 1 v (n - r) (zc (ns (l.drop r).reverse)) ∧ Below w2.heap.size w2 wr
theorem tu_start (l : List Nat) (n : Nat) (hn : l.length = n) (w2 : World) : TuRel l n w2 (.slice none 0 0) (.int .i64 ((n : Int) - 1)) w2 := by
  refine ⟨(n : Int) - 1, n, Nat.le_refl _, rfl, rfl, ?_, Below.refl _ _⟩
  rw [List.drop_of_length_le (by omega), Nat.sub_self]
  exact ⟨rfl, .inl ⟨rfl, rfl⟩⟩

set_option maxHeartbeats 4000000 in
theorem lturn_ok (l : List Nat) (n : Nat) (hn : l.length = n) (h64 : n ≤ 64) (h24 : ∀ x ∈ l, x ≤ 24) (A : Option Addr) (c : Nat) (hc : n ≤ c) (hc2 : c ≤ 9223372036854775807) (i : Int) (w : World) (h : RdV w w.heap.size A (zc (ns l))) :
    Calls Try.prog 9 #[.slice A n c, .int .i64 i] w fun e w' => e = .returned (.bool true) ∧ Below w.heap.size w w' := by
  obtain ⟨i0, hi, hz0, hz1, hz2⟩ := info_parts info3i
  have HR0 := Lib.hid (room_ok l n hn h64 h24 A c w h)
  have HBk : Hid (∀ (V : World) Av cv, RdV V V.heap.size Av (zc (ns l.reverse)) → Calls Try.prog 17 #[.slice Av n cv] V fun e w' => e = .returned (.tuple #[.int .i64 (16777216 - (tkn l : Int)), .int .i64 0]) ∧ Below V.heap.size V w') := by
    intro V Av cv hV
    have := room_ok l.reverse n (by rw [List.length_reverse]; exact hn) h64 (fun x hx => h24 x (List.mem_reverse.1 hx)) Av cv V hV
    rwa [tkn_reverse] at this
  have HLs : Hid (∀ j, j < n → ∀ (V : World) Av cv, RdV V V.heap.size Av (zc (ns (l.take j)) ++ zc (ns (l.drop (j + 1)))) → Calls Try.prog 17 #[.slice Av (j + (n - (j + 1))) cv] V fun e w' => e = .returned (.tuple #[.int .i64 (16777216 - (tkn l : Int) + (tk (l[j]?.getD 0) : Int)), .int .i64 0]) ∧ Below V.heap.size V w') := by
    intro j hj V Av cv hV
    rw [← ns_app] at hV
    have := room_ok (l.take j ++ l.drop (j + 1)) (j + (n - (j + 1))) (by rw [List.length_append, List.length_take, List.length_drop]; omega) (by omega) (fun x hx => by
      rcases List.mem_append.1 hx with hx | hx
      · exact h24 x (List.mem_of_mem_take hx)
      · exact h24 x (List.mem_of_mem_drop hx)) Av cv V hV
    have e := turn_less l j (by omega)
    rwa [show (16777216 : Int) - (tkn (l.take j ++ l.drop (j + 1)) : Int) = 16777216 - (tkn l : Int) + (tk (l[j]?.getD 0) : Int) by omega] at this
  have HR := Lib.hid h; clear h
  have HN := Lib.hid hn; clear hn
  have HRb : Hid (-9223372036854775808 ≤ 16777216 - (tkn l : Int) ∧ 16777216 - (tkn l : Int) ≤ 16777216) := by
    have := tkn_bd l
    have := HN.out
    show _ ∧ _
    omega
  generalize (16777216 : Int) - (tkn l : Int) = R at *
  go_enter Try.func9, Try.ntmps9
  go_wp2_with fail
  refine HR0.out.mono ?_
  rintro e w1 ⟨rfl, b1⟩
  go_wp2_with fail
  refine (kbegun w1).mono ?_
  rintro e w2 ⟨rfl, b2⟩
  have HB2 : Hid (Below w.heap.size w w2) := b1.trans (b2.mono b1.size)
  clear b1 b2 HR0
  go_wp2
  go_loopw [7, 8] (fun v p wr => TuRel l n w2 v p wr) (fun _ p _ => ((intOf p) + 1).toNat)
  case atStart => exact tu_start l n HN.out w2
  case round =>
    obtain ⟨q, r, hr, rfl, hq, hrow, hbel⟩ := hrel
    rcases Nat.eq_zero_or_pos r with h0 | h0
    · subst h0
      have t0 : decide ((0 : Int) ≤ q) = false := by simp; omega
      rw [List.drop_zero, Nat.sub_zero] at hrow
      obtain ⟨Av, cv, rfl, hrd⟩ := own_rdi hrow
      have HRd := Lib.hid hrd; have HBel := Lib.hid hbel
      clear hrow hrd hbel
      have HRj : Hid (∀ j, j < n → ∀ V, Below w.heap.size w V → RdV V V.heap.size A (zc (ns (l.take j))) ∧ RdV V V.heap.size (if c = j + 1 then A else Option.map (fun x => x.add (j + 1)) A) (zc (ns (l.drop (j + 1))))) := by
        intro j hj V hV
        have hv := HR.out.on hV
        have hlen := HN.out
        refine ⟨?_, ?_⟩
        · rw [show zc (ns (l.take j)) = (zc (ns l)).take j by simp [zc, ns, List.map_take]]
          exact rdv_take hv j
        · by_cases e : c = j + 1
          · left; rw [List.drop_of_length_le (by omega)]; rfl
          · rw [if_neg e]
            have hcut := hv.cut (j + 1) (n - (j + 1))
            rw [show ((zc (ns l)).drop (j + 1)).take (n - (j + 1)) = zc (ns (l.drop (j + 1))) by
              rw [List.take_of_length_le (by rw [List.length_drop, zc_length, ns_length]; omega)]
              simp [zc, ns, List.map_drop]] at hcut
            exact hcut
      have HBl : Hid (∀ V, Below w2.heap.size w2 V → Below w.heap.size w V) := fun V hV => HB2.out.trans (hV.mono HB2.out.size)
      go_wp2_with fail
      refine (HBk.out wr Av cv HRd.out).mono ?_
      rintro e w3 ⟨rfl, b3⟩
      have HB3 : Hid (Below w2.heap.size w2 w3) := HBel.out.trans (b3.mono HBel.out.size)
      clear b3 hq
      by_cases hi0 : i < 0
      · have t1 : decide (i < 0) = true := by simpa using hi0
        go_wp2
        go_ret
        exact ⟨rfl, HBl.out _ HB3.out⟩
      · obtain ⟨j, rfl⟩ := Int.eq_ofNat_of_zero_le (by omega : 0 ≤ i)
        have t1 : decide ((j : Int) < 0) = false := by simp
        by_cases hj : n ≤ j
        · have t2 : decide ((n : Int) ≤ (j : Int)) = true := by simp; omega
          have t3 : decide (n ≤ j) = true := by simpa using hj
          go_wp2
          go_ret
          exact ⟨rfl, HBl.out _ HB3.out⟩
        · have t2 : decide ((n : Int) ≤ (j : Int)) = false := by simp; omega
          have t3 : decide (n ≤ j) = false := by simpa using hj
          have hjn : j < n := by omega
          have s0 : (0 : Int) ≤ (j : Int) := by omega
          have s1 : (j : Int) ≤ (c : Int) := by omega
          have s2 : (0 : Int) ≤ (j : Int) + 1 := by omega
          have s3 : (j : Int) + 1 ≤ (n : Int) := by omega
          have s4 : (n : Int) ≤ (c : Int) := by omega
          have sw : IntKind.i64.wrap ((j : Int) + 1) = (j : Int) + 1 := IntWalk.i64_in _ (by omega)
          have hnn : A = none → False := by
            rintro rfl
            rcases HR.out with h | ⟨b, off, h, _⟩
            · have h1 := congrArg List.length h
              rw [zc_length, ns_length] at h1
              simp only [List.length_nil] at h1
              have h2 := HN.out
              omega
            · cases h
          have HNo : Hid (A = none → c = 0) := fun h => (hnn h).elim
          have HNo2 : Hid ((if c = j + 1 then A else Option.map (fun x => x.add (j + 1)) A) = none → c - (j + 1) = 0) := by
            intro h
            by_cases e : c = j + 1
            · omega
            · rw [if_neg e, Option.map_eq_none_iff] at h
              exact (hnn h).elim
          have HLt : Hid ((zc (ns (l.take j))).length = j) := by show _ = _; rw [zc_length, ns_length, List.length_take]; have := HN.out; omega
          have HLd : Hid ((zc (ns (l.drop (j + 1)))).length = n - (j + 1)) := by show _ = _; rw [zc_length, ns_length, List.length_drop]; have := HN.out; omega
          have HL := Lib.hid (HLs.out j hjn)
          have HJ := Lib.hid (HRj.out j hjn)
          have HX : Hid (∀ V, Below w.heap.size w V → ∃ b off, A = some ⟨b, off, none⟩ ∧ V.cell? ⟨b, off + j, none⟩ = some (.int .i64 ((l[j]?.getD 0 : Nat) : Int))) := by
            intro V hV
            obtain ⟨b, off, e, _, hc⟩ := (HR.out.on hV).at_ (ns_get l j (by rw [HN.out]; exact hjn))
            exact ⟨b, off, e, hc⟩
          have hpos := tk_pos (l[j]?.getD 0)
          clear HLs HRj HBk hnn HRd
          generalize l[j]?.getD 0 = x at *
          generalize tk x = T at *
          have t4 : decide (R ≤ R + (T : Int)) = true := decide_eq_true (by omega)
          obtain ⟨bb, t5, t6, t7⟩ : ∃ bb : Bool, decide (R < R + (T : Int)) = bb ∧ decide ((0 : Int) < (x : Int)) = bb ∧ decide (0 < x) = bb :=
            ⟨decide (0 < x), by rw [decide_eq_decide]; omega, by rw [decide_eq_decide]; omega, rfl⟩
          clear hpos
          generalize R + (T : Int) = S at *
          have HO1 : Hid (∀ u ∈ zc (ns (l.take j)), u.oneCell' = true) := zc_one _
          have HO2 : Hid (∀ u ∈ zc (ns (l.drop (j + 1))), u.oneCell' = true) := zc_one _
          generalize zc (ns (l.take j)) = L1 at *
          generalize zc (ns (l.drop (j + 1))) = L2 at *
          by_cases e : c = j + 1
          · rw [if_pos e] at HNo2 HJ
            have hif : (c = j + 1) = True := eq_true e
            clear e
            go_wp2_with fail
            go_region_held3 (fun _ => True) (trivial)
              (first
                | (go_at_call 17; refine (HL.out w6 A6 c6 HR6.out).mono ?_; rintro e w7 ⟨rfl, b7⟩; have HB7 : Hid (Below w3.heap.size w3 w7) := HB6.out.trans (b7.mono HB6.out.size); clear b7; obtain ⟨b, off, rfl, k7⟩ := HX.out w7 (HBl.out _ (HB3.out.trans (HB7.out.mono HB3.out.size))))
                | (refine app3s (by rfl) _ _ (by rfl) w3.heap.size (.slice (some ⟨w3.heap.size, 0, none⟩) 0 0) 0 [] (by rfl) (own_lit0z w3 _ (Nat.le_refl _)) A j c L1 (by rfl) (HJ.out _ (HBl.out _ (HB3.out.trans ((one_below w3 _).mono HB3.out.size)))).1 HLt.out HO1.out HNo.out (by omega) (one_below w3 _).size ?_; intro v5 w5 hown5 hgrow5; rw [Nat.zero_add, List.nil_append] at hown5; obtain ⟨A5, c5, rfl⟩ := own_slice3 hown5; have HO5 := Lib.hid hown5; have HB5 : Hid (Below w3.heap.size w3 w5) := ((one_below w3 _).drew).trans (grown_low hgrow5 (own_drew (own_lit0z w3 _ (Nat.le_refl _))) (one_below w3 _).size); clear hown5 hgrow5)
                | (refine app3s (by rfl) _ _ (by rfl) w3.heap.size (.slice A5 j c5) j L1 (by rfl) HO5.out A (n - (j + 1)) (c - (j + 1)) L2 (by rfl) (HJ.out w5 (HBl.out _ (HB3.out.trans (HB5.out.mono HB3.out.size)))).2 HLd.out HO2.out HNo2.out (by omega) HB5.out.size ?_; intro v6 w6 hown6 hgrow6; obtain ⟨A6, c6, rfl⟩ := own_slice3 hown6; have HR6 := Lib.hid (own_rdv hown6); have HB6 : Hid (Below w3.heap.size w3 w6) := HB5.out.trans ((grown_low hgrow6 HO5.out HB5.out.size)); clear hown6 hgrow6))
            go_wp2
            go_ret
            exact ⟨rfl, HBl.out _ (HB3.out.trans (HB7.out.mono HB3.out.size))⟩
          · rw [if_neg e] at HNo2 HJ
            go_wp2_with fail
            go_region_held3 (fun _ => True) (trivial)
              (first
                | (go_at_call 17; refine (HL.out w6 A6 c6 HR6.out).mono ?_; rintro e w7 ⟨rfl, b7⟩; have HB7 : Hid (Below w3.heap.size w3 w7) := HB6.out.trans (b7.mono HB6.out.size); clear b7; obtain ⟨b, off, rfl, k7⟩ := HX.out w7 (HBl.out _ (HB3.out.trans (HB7.out.mono HB3.out.size))))
                | (refine app3s (by rfl) _ _ (by rfl) w3.heap.size (.slice (some ⟨w3.heap.size, 0, none⟩) 0 0) 0 [] (by rfl) (own_lit0z w3 _ (Nat.le_refl _)) A j c L1 (by rfl) (HJ.out _ (HBl.out _ (HB3.out.trans ((one_below w3 _).mono HB3.out.size)))).1 HLt.out HO1.out HNo.out (by omega) (one_below w3 _).size ?_; intro v5 w5 hown5 hgrow5; rw [Nat.zero_add, List.nil_append] at hown5; obtain ⟨A5, c5, rfl⟩ := own_slice3 hown5; have HO5 := Lib.hid hown5; have HB5 : Hid (Below w3.heap.size w3 w5) := ((one_below w3 _).drew).trans (grown_low hgrow5 (own_drew (own_lit0z w3 _ (Nat.le_refl _))) (one_below w3 _).size); clear hown5 hgrow5)
                | (refine app3s (by rfl) _ _ (by rfl) w3.heap.size (.slice A5 j c5) j L1 (by rfl) HO5.out (Option.map (fun x => x.add (j + 1)) A) (n - (j + 1)) (c - (j + 1)) L2 (by rfl) (HJ.out w5 (HBl.out _ (HB3.out.trans (HB5.out.mono HB3.out.size)))).2 HLd.out HO2.out HNo2.out (by omega) HB5.out.size ?_; intro v6 w6 hown6 hgrow6; obtain ⟨A6, c6, rfl⟩ := own_slice3 hown6; have HR6 := Lib.hid (own_rdv hown6); have HB6 : Hid (Below w3.heap.size w3 w6) := HB5.out.trans ((grown_low hgrow6 HO5.out HB5.out.size)); clear hown6 hgrow6))
            go_wp2
            go_ret
            exact ⟨rfl, HBl.out _ (HB3.out.trans (HB7.out.mono HB3.out.size))⟩
    · obtain ⟨m, rfl⟩ : ∃ m, r = m + 1 := ⟨r - 1, by omega⟩
      obtain rfl : q = (m : Int) := by omega
      clear hq
      have hml : m < l.length := by rw [HN.out]; omega
      have hR := HR.out.below (HB2.out.trans (hbel.mono HB2.out.size)) (HB2.out.trans (hbel.mono HB2.out.size)).size
      obtain ⟨b, off, rfl, hb, hcell⟩ := hR.at_ (ns_get l m hml)
      have htk := drop_rev l m hml
      have HBel := Lib.hid hbel; have HTk := Lib.hid htk
      have HE : Hid (n - (m + 1) + 1 = n - m) := by show _ = _; omega
      clear htk hbel hR
      generalize l[m]?.getD 0 = x at *
      go_wp2_with (at_builtin; refine wpList_append_own _ rfl _ _ 22 rfl w2.heap.size 3 i0 (.int .i64 0) 1 8 Try.underlying22 hi hz0 hz1 hz2 rfl (by decide) _ _ _ rfl (hrow.alloc _) ⟨wr.heap.size, 0, none⟩ 1 1 [.int .i64 (x : Int)] rfl rfl (news_row wr [.int .i64 (x : Int)] _) (by simp [Value.oneCell']) (by unfold maxLen; omega) (by omega) (by have := HBel.out.size; simp; omega) ?_; intro v' w3 hown' hgrow _)
      have HO3 := Lib.hid hown'
      have HB3 : Hid (Below w2.heap.size w2 w3) := HBel.out.trans (((Below.refl w2.heap.size wr).alloc HBel.out.size _).trans (grown_low hgrow (hrow.alloc _) (by have := HBel.out.size; simp; omega)))
      clear hown' hgrow hrow
      go_roundw
      case rel => exact ⟨(m : Int) - 1, m, by omega, by go_num, rfl, by rw [HTk.out, ns_snoc, ← HE.out]; exact HO3.out, HB3.out⟩
      case measure => simp [intOf]

theorem kraftTurn_law (A : Option Addr) (c : Nat) (xs : List Int) (i : Int) (w : World) (hb : ∀ x ∈ xs, -9223372036854775808 ≤ x ∧ x ≤ 9223372036854775807) (h : RdV w w.heap.size A (zc xs)) (hs : xs.length ≤ 9223372036854775807 ∧ xs.length ≤ c ∧ c ≤ 9223372036854775807) (hi : -9223372036854775808 ≤ i ∧ i ≤ 9223372036854775807) :
    Calls Try.prog 9 #[.slice A xs.length c, .int .i64 i] w fun e w' => e = .returned (.bool true) ∧ Below w.heap.size w w' := by
  by_cases hk : kchk xs = 0
  · obtain ⟨l, rfl, h64, h24⟩ := kchk_zero xs hk
    have hl : (l.map (fun (x : Nat) => (x : Int))).length = l.length := by simp
    rw [hl] at hs ⊢
    exact lturn_ok l l.length rfl h64 h24 A c hs.2.1 hs.2.2 i w h
  · refine lturn_k A xs.length c i w (kchk xs) hk ?_
    have hR : RoomC A xs.length c w (roR xs) (kchk xs) := fun V hV => room_any xs _ rfl hs.1 A c V (h.on hV)
    unfold roR at hR
    rwa [if_neg hk] at hR
end Go.Proofs.Ytlmoidblglmdgaa
