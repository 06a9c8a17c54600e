/- The law GapsAhead: fewer numbers have fewer gaps, the first ones; those behind are told from the last of these; for whatever list. -/
import Derived.Test.YthldcdcpflamaaaJGNBegun
import Derived.Test.YthldcdcpflamaaaJGNOpen
import Derived.Deep.RegionHeld3
namespace Go.Proofs.Ythldcdcpflamaaa
set_option maxRecDepth 100000
set_option linter.unusedVariables false
open Go.RowKit Go.Shelf

section
open Go.ChangeShapes Go.WideShapes Go.ChangeAt Go.RowKit Go.Joins
set_option maxRecDepth 100000 in
/-- Numbers that were handed in. -/
theorem open_zcb {H : Type} {enc : TypeId × Value → H} {W : World} {base : Nat} {v : Value} {d : DataW H} {p : List MemPlace}
    (hv : Value.okWide Try.prog W .any base 22 v) (h : DataW.Trod enc Try.prog W 0 (fun _ => true) true 22 v d p) :
    ∃ (A : Option Addr) (c : Nat) (xs : List Int), v = .slice A xs.length c ∧ xs.length ≤ c ∧ (A = none → c = 0) ∧ RdV W W.heap.size A (zc xs) ∧ (∀ x ∈ xs, -9223372036854775808 ≤ x ∧ x ≤ 9223372036854775807) ∧ xs.length ≤ 9223372036854775807 ∧ c ≤ 9223372036854775807 := by
  obtain ⟨a0, len0, cap0, rfl⟩ := okWide_slice Try.underlying22 hv
  obtain ⟨fuel, hf⟩ := h
  rcases open_ints Try.underlying22 Try.underlying3 cells3i hf with ⟨hcs, _⟩ | ⟨x, l, c, zs, hcs, _, hl, hm, hz, _, hcell, hwz⟩
  · simp [Value.cells] at hcs
    obtain ⟨rfl, rfl, rfl⟩ := hcs
    exact ⟨none, 0, [], rfl, by simp, fun _ => rfl, .inl rfl, by simp, by simp, by simp⟩
  · simp [Value.cells] at hcs
    obtain ⟨rfl, rfl, rfl⟩ := hcs
    have hzc : zs.length = cap0 := by simpa using hz
    have hlen : (zs.take len0).length = len0 := by rw [List.length_take]; omega
    unfold maxLen at hm
    refine ⟨some x, cap0, zs.take len0, by rw [hlen], by rw [hlen]; exact hl, (fun h => by cases h), ?_, ?_, by rw [hlen]; omega, by omega⟩
    · rcases Nat.eq_zero_or_pos len0 with h0 | h0
      · left; rw [h0]; rfl
      · obtain ⟨b, off, rfl, hc⟩ := ints_at hcell (by omega)
        refine .inr ⟨b, off, rfl, lt_of_cell (hc 0 (by omega)), fun i v hi => ?_⟩
        have hil : i < len0 := by
          rcases Nat.lt_or_ge i len0 with h | h
          · exact h
          · rw [List.getElem?_eq_none (by rw [zc_length, hlen]; exact h)] at hi; cases hi
        rw [zc_get _ i (by rw [hlen]; exact hil)] at hi
        cases hi
        rw [hc i (by omega)]
        have hz0 : zs.getD i 0 = zs[i]'(by omega) := by rw [List.getD_eq_getElem?_getD, List.getElem?_eq_getElem (by omega)]; rfl
        have e1 : (zs.take len0)[i]?.getD 0 = zs[i]'(by omega) := by
          rw [List.getElem?_take_of_lt hil, List.getElem?_eq_getElem (by omega)]; rfl
        rw [e1, hz0]
    · intro n hn
      exact bounds_i64 (hwz n (List.mem_of_mem_take hn))
end
theorem add_pl (b off k : Nat) : (⟨b, off, none⟩ : Addr).add k = ⟨b, off + k, none⟩ := by unfold Addr.add; split <;> simp_all
theorem RdV.dropT {w : World} {B b off : Nat} {vs : List Value} (h : RdV w B (some ⟨b, off, none⟩) vs) (k : Nat) : RdV w B (some ⟨b, off + k, none⟩) (vs.drop k) := by
  have := h.cut k vs.length
  rw [Option.map_some, add_pl, List.take_of_length_le (by rw [List.length_drop]; omega)] at this
  exact this
theorem RdV.takeT {w : World} {B : Nat} {A : Option Addr} {vs : List Value} (h : RdV w B A vs) (k : Nat) : RdV w B A (vs.take k) := by
  rcases h with h | ⟨b, off, e, hb, hc⟩
  · left; rw [h]; simp
  · refine .inr ⟨b, off, e, hb, fun i v hi => ?_⟩
    rw [List.getElem?_take] at hi
    split at hi
    · exact hc i v hi
    · cases hi
set_option maxHeartbeats 8000000 in
theorem ahead_in (l : List Nat) (hl : Rising l) (n : Nat) (hn : l.length = n) (A : Option Addr) (c : Nat) (hc : n ≤ c) (hc2 : c ≤ 9223372036854775807) (m : Nat) (hm : m ≤ 1048576) (w : World) (hA : RdV w w.heap.size A (zc (ns l))) (j : Nat) (hj1 : 1 ≤ j) (hj2 : j < n) :
    Calls Try.prog 8 #[.slice A n c, .int .i64 (m : Int), .int .i64 (j : Int)] w fun e w' => e = .returned (.bool true) ∧ Below w.heap.size w w' := by
  have h300 : n ≤ 300 := by have := hl.1; omega
  have hgl := gps_length (m : Int) l
  have hah := gps_ahead (m : Int) l j hl hj1 (by omega)
  have htk := gps_take (m : Int) l j
  have hgle := gps_le m hm l hl
  have H1 : Hid (∀ w, RdV w w.heap.size A (zc (ns l)) → Calls Try.prog 15 #[.slice A n c, .int .i64 (m : Int)] w (NumsP w (gps (m : Int) l) 0)) := fun w h => gaps_ok l hl n hn m hm A c w h
  have hlt1 : (l.take j).length = j := by rw [List.length_take]; omega
  have hld1 : (l.drop j).length = n - j := by rw [List.length_drop]; omega
  have H2 : Hid (∀ w, RdV w w.heap.size A (zc (ns l)) → Calls Try.prog 15 #[.slice A j c, .int .i64 (m : Int)] w (NumsP w ((gps (m : Int) l).take j) 0)) := fun w h => by
    have := gaps_ok (l.take j) (rising_take l j hl) j hlt1 m hm A c w (by have := h.takeT j; rwa [show (zc (ns l)).take j = zc (ns (l.take j)) by simp [zc, ns, List.map_take]] at this)
    rwa [htk] at this
  obtain ⟨bA, oA, rfl, hbA, hcA⟩ := hA.at_ (ns_get l (j - 1) (by omega))
  have hym := (ris_le l _ hl.2 _ (at_mem l (j - 1) (by omega))).2
  have H3 : Hid (∀ w, RdV w w.heap.size (some ⟨bA, oA, none⟩) (zc (ns l)) → Calls Try.prog 15 #[.slice (some ⟨bA, oA + j, none⟩) (n - j) (c - j), .int .i64 ((l[j - 1]?.getD 0 : Nat) : Int)] w (NumsP w (2 * ((gps (m : Int) l)[j]?.getD 0 + 1) :: (gps (m : Int) l).drop (j + 1)) 0)) := fun w h => by
    have := gaps_ok (l.drop j) (rising_drop l j hl) (n - j) hld1 (l[j - 1]?.getD 0) hym _ (c - j) w (by have := h.dropT j; rwa [show (zc (ns l)).drop j = zc (ns (l.drop j)) by simp [zc, ns, List.map_drop]] at this)
    rwa [hah] at this
  have HA0 := Lib.hid hA
  have HX : Hid (∀ V, Below w.heap.size w V → V.cell? ⟨bA, oA + (j - 1), none⟩ = some (.int .i64 ((l[j - 1]?.getD 0 : Nat) : Int))) := fun V hV => (hV.cell (p := ⟨bA, oA + (j - 1), none⟩) hbA).trans hcA
  rw [hn] at hgl
  generalize hG : gps (m : Int) l = G at *
  have hq := hgle _ (at_mem G j (by omega))
  have HGl := Lib.hid hgl
  have hGd : (G.drop (j + 1)).length = n - j - 1 := by rw [List.length_drop]; omega
  have HGd := Lib.hid hGd
  have hGt : (G.take j).length = j := by rw [List.length_take]; omega
  have HGt := Lib.hid hGt
  have HS1 : Hid (∀ P Q c1 c2 w, RdV w w.heap.size P (nc (G.take j)) → RdV w w.heap.size Q (nc (G.take j)) → Calls Try.prog 24 #[.slice P j c1, .slice Q j c2] w fun e w' => e = .returned (.bool true) ∧ Below w.heap.size w w') := fun P Q c1 c2 w h1 h2 => sameN_x _ j hGt (by omega) P Q c1 c2 w h1 h2
  have HS2 : Hid (∀ P Q c1 c2 w, RdV w w.heap.size P (nc (G.drop (j + 1))) → RdV w w.heap.size Q (nc (G.drop (j + 1))) → Calls Try.prog 24 #[.slice P (n - j - 1) c1, .slice Q (n - (j + 1)) c2] w fun e w' => e = .returned (.bool true) ∧ Below w.heap.size w w') := fun P Q c1 c2 w h1 h2 => by
    have := sameN_x _ (n - j - 1) hGd (by omega) P Q c1 c2 w h1 h2
    rwa [show n - (j + 1) = n - j - 1 by omega]
  have HGx : Hid (∀ w A, RdV w w.heap.size A (nc G) → ∃ b off, A = some ⟨b, off, none⟩ ∧ b < w.heap.size ∧ w.cell? ⟨b, off + j, none⟩ = some (.int .u64 ((G[j]?.getD 0 : Nat) : Int))) := fun w A h => h.at_ (nc_get G j (by omega))
  obtain ⟨YL, hYL⟩ : ∃ YL, 2 * (G[j]?.getD 0 + 1) :: G.drop (j + 1) = YL := ⟨_, rfl⟩
  have HYl : Hid (YL.length = n - j) := by show _ = _; rw [← hYL, List.length_cons, hGd]; omega
  rw [hYL] at H3
  have HYv : Hid (nc YL = Value.int .u64 ((2 * (G[j]?.getD 0 + 1) : Nat) : Int) :: nc (G.drop (j + 1))) := by show _ = _; rw [← hYL]; rfl
  clear hYL
  generalize l[j - 1]?.getD 0 = y at *
  generalize G[j]?.getD 0 = q at *
  clear hA hcA hl hn htk hah hgle hlt1 hld1 hG hgl hGd hGt hbA
  have s0 : (0 : Int) ≤ (j : Int) := by omega
  have s1 : (j : Int) ≤ (c : Int) := by omega
  have s2 : (0 : Int) ≤ (j : Int) - 1 := by omega
  have s3 : (j : Int) ≤ (n : Int) := by omega
  have s4 : (n : Int) ≤ (c : Int) := by omega
  have s5 : ((j : Int) - 1).toNat = j - 1 := by omega
  have s6 : (j : Int) - 1 < (n : Int) := by omega
  have s7 : j - 1 < n := by omega
  have s8 : (1 : Int) ≤ (j : Int) := by omega
  have s9 : (j : Int) < (n : Int) + 1 := by omega
  have s10 : (j : Int) ≤ (n : Int) := by omega
  have sw : IntKind.i64.wrap ((j : Int) - 1) = (j : Int) - 1 := IntWalk.i64_in _ (by omega)
  have u1 : decide ((j : Int) < 1) = false := by simp; omega
  have u2 : decide ((n : Int) ≤ (j : Int)) = false := by simp; omega
  have u3 : decide (n ≤ j) = false := by simp; omega
  have u4 : decide (j < 1) = false := by simp; omega
  have hcj : (c = j) = False := eq_false (by omega)
  go_enter Try.func8, Try.ntmps8
  go_wp2_with fail
  refine (H1.out w HA0.out).mono ?_
  rintro e w1 ⟨A1, c1, rfl, hcap1, -, r1, B1⟩
  rw [HGl.out] at hcap1 ⊢
  have HB1 := Lib.hid B1
  have HA1 := Lib.hid (HA0.out.on B1)
  have G1 := Lib.hid r1
  have HC1 := Lib.hid hcap1
  clear B1 r1 hcap1
  go_wp2_with fail
  refine (gapsbegun_true w1).mono ?_
  rintro e w2 ⟨rfl, B2⟩
  have HB2 := Lib.hid (HB1.out.trans (B2.mono HB1.out.size))
  have HA2 := Lib.hid (HA1.out.on B2)
  have G2 := Lib.hid (G1.out.on B2)
  clear B2
  go_wp2_with fail
  refine (H2.out w2 HA2.out).mono ?_
  rintro e w3 ⟨A3, c3, rfl, -, -, r3, B3⟩
  rw [HGt.out]
  have HB3 := Lib.hid (HB2.out.trans (B3.mono HB2.out.size))
  have HA3 := Lib.hid (HA2.out.on B3)
  have G3 := Lib.hid (G2.out.on B3)
  have K3 := Lib.hid r3
  clear B3 r3
  go_wp2_with fail
  go_region_held3 (fun w' => w'.cell? ⟨bA, oA + (j - 1), none⟩ = some (.int .i64 (y : Int))) ((first | exact HX.out _ (HB3.out.trans (hb4.out.mono HB3.out.size)) | exact HX.out _ HB3.out.drew | exact HX.out _ HB3.out))
    ((go_at_call 15; refine (H3.out w3.drew (HA3.out)).mono ?_; rintro e w4 ⟨A4, c4, rfl, hcap4, -, r4, b4⟩; have hb4 : Hid (Below w3.heap.size w3 w4) := ((Below.refl _ w3).drew).trans b4; have K4 := Lib.hid r4; clear b4 r4))
  rw [HYl.out] at hcap4 ⊢
  have HB4 := Lib.hid (HB3.out.trans (hb4.out.mono HB3.out.size))
  have G4 := Lib.hid (G3.out.on hb4.out)
  have K34 := Lib.hid (K3.out.on hb4.out)
  have hc1 := HC1.out
  have v1 : (j : Int) ≤ (c1 : Int) := by omega
  have v2 : (((n - j : Nat) : Int) != (n : Int) - (j : Int)) = false := by simp; omega
  have v3 : j ≤ c1 := by omega
  clear hb4
  go_wp2_with fail
  refine (HS1.out A3 A1 c3 c1 w4 K34.out (by have := G4.out.takeT j; rwa [show (nc G).take j = nc (G.take j) by simp [nc, List.map_take]] at this)).mono ?_
  rintro e w5 ⟨rfl, B5⟩
  have HB5 := Lib.hid (HB4.out.trans (B5.mono HB4.out.size))
  have G5 := Lib.hid (G4.out.on B5)
  have k5 := K4.out.on B5
  rw [HYv.out] at k5
  have K5 := Lib.hid k5
  clear B5 k5
  obtain ⟨bG, oG, rfl, hbG, kG⟩ := HGx.out w5 A1 G5.out
  obtain ⟨bY, oY, rfl, hbY, kY⟩ := K5.out.at_ (i := 0) (v := .int .u64 ((2 * (q + 1) : Nat) : Int)) rfl
  rw [Nat.add_zero] at kY
  obtain ⟨y0, hy0⟩ : ∃ y0 : Int, ((2 * (q + 1) : Nat) : Int) = y0 := ⟨_, rfl⟩
  have x1 : (y0 == 2 * ((q : Int) + 1)) = true := by simp; omega
  rw [hy0] at kY
  clear hy0
  have x2 : IntKind.u64.wrap ((q : Int) + 1) = (q : Int) + 1 := by rw [IntKind.wrap_u64]; omega
  have x3 : IntKind.u64.wrap (2 * ((q : Int) + 1)) = 2 * ((q : Int) + 1) := by rw [IntKind.wrap_u64]; omega
  have x4 : IntKind.i64.wrap ((j : Int) + 1) = (j : Int) + 1 := IntWalk.i64_in _ (by omega)
  have x5 : (0 : Int) ≤ (j : Int) + 1 := by omega
  have x6 : (j : Int) + 1 ≤ (n : Int) := by omega
  have x7 : (n : Int) ≤ (c1 : Int) := by omega
  have x8 : (1 : Int) ≤ ((n - j : Nat) : Int) := by omega
  have x9 : ((n - j : Nat) : Int) ≤ (c4 : Int) := by omega
  have x10 : ((j : Int) + 1).toNat = j + 1 := by omega
  have x11 : (j : Int) < (n : Int) := by omega
  have x12 : 0 < n - j := by omega
  have x13 : (0 : Int) < ((n - j : Nat) : Int) := by omega
  have x14 : 1 ≤ n - j := by omega
  have x15 : j + 1 ≤ n := by omega
  have x16 : (1 : Int) ≤ (c4 : Int) := by omega
  have x17 : (j : Int) + 1 ≤ (c1 : Int) := by omega
  have HTy0 : Hid (c4 ≠ 1 → RdV w5 w5.heap.size (some ⟨bY, oY + 1, none⟩) (nc (G.drop (j + 1)))) := fun _ => K5.out.dropT 1
  have HTg0 : Hid (RdV w5 w5.heap.size (some ⟨bG, oG + (j + 1), none⟩) (nc (G.drop (j + 1)))) := by
    have := G5.out.dropT (j + 1)
    rwa [show (nc G).drop (j + 1) = nc (G.drop (j + 1)) by simp [nc, List.map_drop]] at this
  have HE : Hid (n - j = 1 → nc (G.drop (j + 1)) = []) := fun h => by
    have : (G.drop (j + 1)).length = 0 := by rw [HGd.out, h]
    rw [List.eq_nil_of_length_eq_zero this]; rfl
  have HKw : Hid (∀ V, Below w5.heap.size w5 V → V.cell? ⟨bY, oY, none⟩ = some (.int .u64 y0) ∧ V.cell? ⟨bG, oG + j, none⟩ = some (.int .u64 (q : Int))) := fun V hV => ⟨(hV.cell (p := ⟨bY, oY, none⟩) hbY).trans kY, (hV.cell (p := ⟨bG, oG + j, none⟩) hbG).trans kG⟩
  have HK5 : Hid (w5.cell? ⟨bY, oY, none⟩ = some (.int .u64 y0) ∧ w5.cell? ⟨bG, oG + j, none⟩ = some (.int .u64 (q : Int))) := HKw.out w5 (Below.refl _ _)
  generalize G.drop (j + 1) = T at *
  clear HX H1 H2 H3 HGx HS1 hq
  by_cases e1 : c4 = 1
  · have HTy : Hid (RdV w5 w5.heap.size (some ⟨bY, oY, none⟩) (nc T)) := .inl (HE.out (by omega))
    have f1 : (c4 = 1) = True := eq_true e1
    have f1' : ((c4 : Int) = 1) = True := eq_true (by omega)
    by_cases e2 : c1 = j + 1
    · have HTg : Hid (RdV w5 w5.heap.size (some ⟨bG, oG, none⟩) (nc T)) := .inl (HE.out (by omega))
      have f2 : (c1 = j + 1) = True := eq_true e2
      clear e1 e2
      go_wp2_with fail
      go_region_held3 (fun w' => w'.cell? ⟨bY, oY, none⟩ = some (.int .u64 y0) ∧ w'.cell? ⟨bG, oG + j, none⟩ = some (.int .u64 (q : Int))) ((first | exact HK5.out | exact HKw.out _ hb6.out))
        ((go_at_call 24; refine (HS2.out (some ⟨bY, oY, none⟩) (some ⟨bG, oG, none⟩) _ _ w5.drew (HTy.out) (HTg.out)).mono ?_; rintro e w6 ⟨rfl, b6⟩; have hb6 : Hid (Below w5.heap.size w5 w6) := ((Below.refl _ w5).drew).trans b6; clear b6))
      go_wp2
      go_ret
      exact ⟨rfl, HB5.out.trans (hb6.out.mono HB5.out.size)⟩
    · have HTg := HTg0
      have f2 : (c1 = j + 1) = False := eq_false e2
      clear e1 e2
      go_wp2_with fail
      go_region_held3 (fun w' => w'.cell? ⟨bY, oY, none⟩ = some (.int .u64 y0) ∧ w'.cell? ⟨bG, oG + j, none⟩ = some (.int .u64 (q : Int))) ((first | exact HK5.out | exact HKw.out _ hb6.out))
        ((go_at_call 24; refine (HS2.out (some ⟨bY, oY, none⟩) (some ⟨bG, oG + (j + 1), none⟩) _ _ w5.drew (HTy.out) (HTg.out)).mono ?_; rintro e w6 ⟨rfl, b6⟩; have hb6 : Hid (Below w5.heap.size w5 w6) := ((Below.refl _ w5).drew).trans b6; clear b6))
      go_wp2
      go_ret
      exact ⟨rfl, HB5.out.trans (hb6.out.mono HB5.out.size)⟩
  · have HTy := Lib.hid (HTy0.out e1)
    have f1 : (c4 = 1) = False := eq_false e1
    by_cases e2 : c1 = j + 1
    · have HTg : Hid (RdV w5 w5.heap.size (some ⟨bG, oG, none⟩) (nc T)) := .inl (HE.out (by omega))
      have f2 : (c1 = j + 1) = True := eq_true e2
      clear e1 e2
      go_wp2_with fail
      go_region_held3 (fun w' => w'.cell? ⟨bY, oY, none⟩ = some (.int .u64 y0) ∧ w'.cell? ⟨bG, oG + j, none⟩ = some (.int .u64 (q : Int))) ((first | exact HK5.out | exact HKw.out _ hb6.out))
        ((go_at_call 24; refine (HS2.out (some ⟨bY, oY + 1, none⟩) (some ⟨bG, oG, none⟩) _ _ w5.drew (HTy.out) (HTg.out)).mono ?_; rintro e w6 ⟨rfl, b6⟩; have hb6 : Hid (Below w5.heap.size w5 w6) := ((Below.refl _ w5).drew).trans b6; clear b6))
      go_wp2
      go_ret
      exact ⟨rfl, HB5.out.trans (hb6.out.mono HB5.out.size)⟩
    · have HTg := HTg0
      have f2 : (c1 = j + 1) = False := eq_false e2
      clear e1 e2
      go_wp2_with fail
      go_region_held3 (fun w' => w'.cell? ⟨bY, oY, none⟩ = some (.int .u64 y0) ∧ w'.cell? ⟨bG, oG + j, none⟩ = some (.int .u64 (q : Int))) ((first | exact HK5.out | exact HKw.out _ hb6.out))
        ((go_at_call 24; refine (HS2.out (some ⟨bY, oY + 1, none⟩) (some ⟨bG, oG + (j + 1), none⟩) _ _ w5.drew (HTy.out) (HTg.out)).mono ?_; rintro e w6 ⟨rfl, b6⟩; have hb6 : Hid (Below w5.heap.size w5 w6) := ((Below.refl _ w5).drew).trans b6; clear b6))
      go_wp2
      go_ret
      exact ⟨rfl, HB5.out.trans (hb6.out.mono HB5.out.size)⟩
end Go.Proofs.Ythldcdcpflamaaa
