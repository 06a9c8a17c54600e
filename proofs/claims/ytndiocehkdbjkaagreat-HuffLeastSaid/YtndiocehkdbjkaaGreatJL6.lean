/- Texts of this proof, one behind the other (KBeg2, KOpen, KOpenB, KLCodes, KLMust, KJoinF, KLBack, HUnp, HLen, HCountE, HEnc, HBackP, HFits, HPack, KRefA, KSame, HCost, HUnpE, HLw, HBegun); each fact names its conditions. -/
import Derived.Test.YtndiocehkdbjkaaGreatJL5
import Derived.Test.YtndiocehkdbjkaaGreatJL2
import Derived.Deep.SlicePairs
import Derived.Deep.QuietTactic
import Derived.BigQuiet
import Derived.Test.YtndiocehkdbjkaaGreatJL1
import Derived.Deep.RegionHeld3
import Derived.Test.YtndiocehkdbjkaaGreatJL3
import Derived.Test.YtndiocehkdbjkaaGreatJL4
import Derived.Deep.RegionWith
namespace Go.Proofs.YtndiocehkdbjkaaGreat

section
set_option maxRecDepth 100000
set_option linter.unusedVariables false
open Go.RowKit Go.Shelf Go.Sort

theorem kb_apart : apart [[true, false], [], [false], [true, true, false], [true, true, true]] := by rw [← kb_codes]; exact codes_apart _ (by decide) (by rw [kb_tkn]; exact Nat.le_refl _)
theorem kb_room (V : World) (A : Option Addr) (h : RdV V V.heap.size A (zc [2, 0, 1, 3, 3])) : Calls Tryz.prog 17 #[.slice A 5 5] V fun e w' => e = .returned (.tuple #[.int .i64 0, .int .i64 0]) ∧ Below V.heap.size V w' := by
  have := room_ok [2, 0, 1, 3, 3] 5 rfl (by decide) (by decide) A 5 V h
  rw [kb_tkn] at this
  exact this
theorem kb_cod (V : World) (A : Option Addr) (h : RdV V V.heap.size A (zc [2, 0, 1, 3, 3])) : Calls Tryz.prog 50 #[.slice A 5 5] V (GotC V [[true, false], [], [false], [true, true, false], [true, true, true]]) := by
  have := codes_ok [2, 0, 1, 3, 3] 5 rfl (by decide) (by decide) (by rw [kb_tkn]; exact Nat.le_refl _) A 5 V h
  rw [kb_codes] at this
  exact this
theorem kb_sg1 (V : World) (A B : Option Addr) (h : RdV V V.heap.size A (zc [2, 0, 1, 3, 3])) (h2 : Rd V V.heap.size B [96]) : Calls Tryz.prog 52 #[.slice A 5 5, .agg #[.int .i64 4, .slice B 1 1], .int .i64 1] V (SgP V 3 4 0) := by
  rw [← kb_pack1] at h2
  exact sign_ok [2, 0, 1, 3, 3] 5 rfl (by decide) (by decide) (by rw [kb_tkn]; exact Nat.le_refl _) A 5 V h [false, true, true, false] (by decide) B 1 h2 1 (by decide) 3 4 0 kb_sgn1
theorem kb_sg2 (V : World) (A B : Option Addr) (h : RdV V V.heap.size A (zc [2])) (h2 : Rd V V.heap.size B [128]) : Calls Tryz.prog 52 #[.slice A 1 1, .agg #[.int .i64 1, .slice B 1 1], .int .i64 0] V (SgP V 0 0 5) := by
  rw [← kb_pack2] at h2
  exact sign_ok [2] 1 rfl (by decide) (by decide) (by decide) A 1 V h [true] (by decide) B 1 h2 0 (by decide) 0 0 5 kb_sgn2
theorem kb_cf (V : World) (A : Option Addr) (h : RdV V V.heap.size A (zc [1, 1, 1])) : Calls Tryz.prog 50 #[.slice A 3 3] V (CoP V 8) :=
  codes_w A 3 3 V 8 (by decide) (wordsOf_no [1, 1, 1] 3 rfl (by decide) 8 kb_full (by decide) A 3 V h)
theorem kb_ap (V : World) (A : Option Addr) (c : Nat) (bs : List Bx) (hb : bs.map (fun x : Bx => x.1) = [[true, false], [], [false], [true, true, false], [true, true, true]]) (h : RdR V V.heap.size A (bs.map rx)) : Calls Tryz.prog 51 #[.slice A 5 c] V fun e w' => e = .returned (.tuple #[.bool true, .int .i64 0]) ∧ Below V.heap.size V w' := by
  have hl : bs.length = 5 := by have := congrArg List.length hb; simpa using this
  refine (apart_ok bs 5 hl (by decide) A c V h (fun x hx => ?_)).mono ?_
  · have : x.1 ∈ bs.map (fun x : Bx => x.1) := List.mem_map_of_mem hx
    rw [hb] at this
    simp at this
    rcases this with h | h | h | h | h <;> rw [h] <;> decide
  · rintro e w' ⟨b, h1, h2, h3⟩
    rw [hb] at h1
    have : b = true := h1.2 kb_apart
    subst this
    exact ⟨h2, h3⟩
theorem kb_same (L : List Bool) (n x : Nat) (hp : pack L = [x]) (hn : L.length = n) (V : World) (A B : Option Addr) (c d : Nat) (h1 : Rd V V.heap.size A [x]) (h2 : Rd V V.heap.size B [x]) : Calls Tryz.prog 25 #[.agg #[.int .i64 (n : Int), .slice A 1 c], .agg #[.int .i64 (n : Int), .slice B 1 d]] V fun e w' => e = .returned (.bool true) ∧ Below V.heap.size V w' := by
  have h := sameBits_any V (n : Int) (n : Int) A B c d [x] [x] (by simp) h1 h2
  simpa using h

set_option maxHeartbeats 4000000 in
theorem kbegun (w : World) : Calls Tryz.prog 15 #[] w fun e w' => e = .returned (.bool true) ∧ Below w.heap.size w w' := by
  go_enter Tryz.func15, Tryz.ntmps15
  go_wp2_with fail
  have r1 := rdv_row w (zc [2, 0, 1, 3, 3]) 3
  have HV1 : Hid (Below w.heap.size w (w.alloc (.cells (zc [2, 0, 1, 3, 3]).toArray 3))) := one_below w _
  obtain ⟨V1, hV1⟩ : ∃ V1, w.alloc (.cells (zc [2, 0, 1, 3, 3]).toArray 3) = V1 := ⟨_, rfl⟩
  rw [hV1] at r1 HV1
  have e1 : w.alloc (.cells #[.int .i64 2, .int .i64 0, .int .i64 1, .int .i64 3, .int .i64 3] 3) = V1 := hV1
  rw [e1]
  clear e1 hV1
  have HL := Lib.hid r1; clear r1
  refine (kb_room V1 _ HL.out).mono ?_
  rintro e w2 ⟨rfl, b2⟩
  have HB2 := Lib.hid b2; clear b2
  go_wp2_with fail
  refine (kb_cod w2 _ (HL.out.on HB2.out)).mono ?_
  rintro e w3 ⟨Ac, cc, bs, rfl, hbs, rr, b3⟩
  have HB3 : Hid (Below V1.heap.size V1 w3) := HB2.out.trans (b3.mono HB2.out.size)
  have HRR := Lib.hid rr; have HBs := Lib.hid hbs
  clear b3 rr hbs
  go_wp2_with fail
  refine (kb_ap w3 Ac cc bs HBs.out HRR.out).mono ?_
  rintro e w4 ⟨rfl, b4⟩
  have HB4 : Hid (Below V1.heap.size V1 w4) := HB3.out.trans (b4.mono HB3.out.size)
  have HR4 := Lib.hid (HRR.out.on b4)
  clear b4 HRR
  go_wp2_with fail
  refine (kb_sg1 _ _ _ (HL.out.on (HB4.out.trans ((one_below w4 _).mono HB4.out.size))) (rd_row1 w4 96)).mono ?_
  rintro e w5 ⟨rfl, b5⟩
  have HB45 : Hid (Below w4.heap.size w4 w5) := (one_below w4 _).trans (b5.mono (by simp))
  have HB5 : Hid (Below V1.heap.size V1 w5) := HB4.out.trans (HB45.out.mono HB4.out.size)
  clear b5
  go_wp2_with fail
  have r5 : RdV (w5.alloc (.cells #[.int .i64 1, .int .i64 1, .int .i64 1] 3)) (w5.alloc (.cells #[.int .i64 1, .int .i64 1, .int .i64 1] 3)).heap.size (some ⟨w5.heap.size, 0, none⟩) (zc [1, 1, 1]) := rdv_row w5 (zc [1, 1, 1]) 3
  refine (kb_cf _ _ r5).mono ?_
  clear r5
  rintro e w6 ⟨rfl, b6⟩
  have HB56 : Hid (Below w5.heap.size w5 w6) := (one_below w5 _).trans (b6.mono (by simp))
  clear b6
  go_wp2_with fail
  have r6 : RdV (w6.alloc (.cells #[.int .i64 2] 3)) (w6.alloc (.cells #[.int .i64 2] 3)).heap.size (some ⟨w6.heap.size, 0, none⟩) (zc [2]) := rdv_row w6 (zc [2]) 3
  have hs6 : (w6.alloc (.cells #[.int .i64 2] 3)).heap.size = w6.heap.size + 1 := World.size_alloc _ _
  have r6' := rd_row1 (w6.alloc (.cells #[.int .i64 2] 3)) 128
  rw [hs6] at r6'
  refine (kb_sg2 _ _ _ (r6.on (one_below _ _)) r6').mono ?_
  clear r6 r6' hs6
  rintro e w7 ⟨rfl, b7⟩
  have HB67 : Hid (Below w6.heap.size w6 w7) := ((one_below w6 _).trans ((one_below _ _).mono (by simp))).trans (b7.mono (by simp only [World.size_alloc]; omega))
  have HB47 : Hid (Below w4.heap.size w4 w7) := (HB45.out.trans (HB56.out.mono HB45.out.size)).trans (HB67.out.mono (Nat.le_trans HB45.out.size HB56.out.size))
  have HB7 : Hid (Below w.heap.size w w7) := HV1.out.trans ((HB4.out.trans (HB47.out.mono HB4.out.size)).mono HV1.out.size)
  have HR7 := Lib.hid (HR4.out.on HB47.out)
  clear b7 HL HV1 HB45 HB56 HB67 HB4 HB3 HB2
  have hx : ∀ (i : Nat) (L : List Bool), ([[true, false], [], [false], [true, true, false], [true, true, true]] : List (List Bool))[i]? = some L → ∃ x : Rx, (bs.map rx)[i]? = some x ∧ x.1 = (L.length : Int) ∧ x.2.2.2 = pack L := by
    intro i L hL
    rw [← HBs.out, List.getElem?_map] at hL
    obtain ⟨y, hy, rfl⟩ := Option.map_eq_some_iff.1 hL
    exact ⟨rx y, by rw [List.getElem?_map, hy]; rfl, rfl, rfl⟩
  obtain ⟨x0, a0, q0, s0⟩ := hx 0 [true, false] rfl
  obtain ⟨x2, a2, q2, s2⟩ := hx 2 [false] rfl
  obtain ⟨x4, a4, q4, s4⟩ := hx 4 [true, true, true] rfl
  obtain ⟨b, off, rfl, hb, c00, c01, d0⟩ := HR7.out.at_ a0
  obtain ⟨b', off', hE', _, c20, c21, d2⟩ := HR7.out.at_ a2
  obtain ⟨b'', off'', hE'', _, c40, c41, d4⟩ := HR7.out.at_ a4
  simp only [Option.some.injEq, Addr.mk.injEq, and_true] at hE' hE''
  obtain ⟨rfl, rfl⟩ := hE'
  obtain ⟨rfl, rfl⟩ := hE''
  rw [q0] at c00; rw [s0, kb_p0] at c01 d0
  rw [q2] at c20; rw [s2, kb_p2] at c21 d2
  rw [q4] at c40; rw [s4, kb_p4] at c41 d4
  clear a0 a2 a4 q0 q2 q4 s0 s2 s4 hx HR7 HR4
  obtain ⟨_, A0, k0, _⟩ := x0
  obtain ⟨_, A2, k2, _⟩ := x2
  obtain ⟨_, A4, k4, _⟩ := x4
  simp only [List.length_cons, List.length_nil] at c00 c01 c20 c21 c40 c41 d0 d2 d4
  rw [show off + 0 * 2 = off by omega] at c00 c01
  have HD0 := Lib.hid d0; have HD2 := Lib.hid d2; have HD4 := Lib.hid d4
  clear d0 d2 d4
  go_wp2_with fail
  refine (kb_same [true, false] 2 128 kb_p0 rfl _ _ _ _ _ (HD0.out.on (one_below w7 _)) (rd_row1 w7 128)).mono ?_
  rintro e w8 ⟨rfl, b8⟩
  have HB8 : Hid (Below w7.heap.size w7 w8) := ((one_below w7 _).trans (b8.mono (by simp)))
  clear b8
  have c20' := (World.cell?_of_block (w := w7) (a := ⟨b, off + 2 * 2, none⟩) (HB8.out.block b hb)).trans c20
  rw [show off + 2 * 2 = off + 4 by omega] at c20'
  have c21' := (World.cell?_of_block (w := w7) (a := ⟨b, off + 2 * 2 + 1, none⟩) (HB8.out.block b hb)).trans c21
  rw [show off + 2 * 2 = off + 4 by omega] at c21'
  go_wp2_with fail
  refine (kb_same [false] 1 0 kb_p2 rfl _ _ _ _ _ (HD2.out.on (HB8.out.trans ((one_below w8 _).mono HB8.out.size))) (rd_row1 w8 0)).mono ?_
  rintro e w9 ⟨rfl, b9⟩
  have HB9 : Hid (Below w7.heap.size w7 w9) := HB8.out.trans (((one_below w8 _).trans (b9.mono (by simp))).mono HB8.out.size)
  clear b9
  have c40' := (World.cell?_of_block (w := w7) (a := ⟨b, off + 4 * 2, none⟩) (HB9.out.block b hb)).trans c40
  rw [show off + 4 * 2 = off + 8 by omega] at c40'
  have c41' := (World.cell?_of_block (w := w7) (a := ⟨b, off + 4 * 2 + 1, none⟩) (HB9.out.block b hb)).trans c41
  rw [show off + 4 * 2 = off + 8 by omega] at c41'
  go_wp2_with fail
  refine (kb_same [true, true, true] 3 224 kb_p4 rfl _ _ _ _ _ (HD4.out.on (HB9.out.trans ((one_below w9 _).mono HB9.out.size))) (rd_row1 w9 224)).mono ?_
  rintro e w10 ⟨rfl, b10⟩
  have HB10 : Hid (Below w7.heap.size w7 w10) := HB9.out.trans (((one_below w9 _).trans (b10.mono (by simp))).mono HB9.out.size)
  clear b10
  go_wp2
  go_ret
  exact ⟨rfl, HB7.out.trans (HB10.out.mono HB7.out.size)⟩
end

section
open Go.ChangeShapes Go.WideShapes Go.ChangeAt Go.RowKit Go.Joins

theorem cells3i : Tryz.prog.cellsOf 3 = 1 := by kernel_rfl

set_option maxRecDepth 100000 in
/-- Numbers that were handed in. -/
theorem open_zs {H : Type} {enc : TypeId × Value → H} {W : World} {base : Nat} {v : Value} {d : DataW H} {p : List MemPlace}
    (hv : Value.okWide Tryz.prog W .any base 22 v) (h : DataW.Trod enc Tryz.prog W 0 (fun _ => true) true 22 v d p) :
    ∃ (A : Option Addr) (c : Nat) (xs : List Int), v = .slice A xs.length c ∧ RdV W W.heap.size A (zc xs) ∧ (∀ x ∈ xs, -9223372036854775808 ≤ x ∧ x ≤ 9223372036854775807) ∧ xs.length ≤ 9223372036854775807 := by
  obtain ⟨a0, len0, cap0, rfl⟩ := okWide_slice Tryz.underlying22 hv
  obtain ⟨fuel, hf⟩ := h
  rcases open_ints Tryz.underlying22 Tryz.underlying3 cells3i hf with ⟨hcs, _⟩ | ⟨x, l, c, zs, hcs, _, hl, hm, hz, _, hcell, hwz⟩
  · simp [Value.cells] at hcs
    obtain ⟨rfl, rfl, rfl⟩ := hcs
    exact ⟨none, 0, [], rfl, .inl rfl, by simp, by simp⟩
  · simp [Value.cells] at hcs
    obtain ⟨rfl, rfl, rfl⟩ := hcs
    have hzc : zs.length = cap0 := by simpa using hz
    have hlen : (zs.take len0).length = len0 := by rw [List.length_take]; omega
    unfold maxLen at hm
    refine ⟨some x, cap0, zs.take len0, by rw [hlen], ?_, ?_, by rw [hlen]; omega⟩
    · rcases Nat.eq_zero_or_pos len0 with h0 | h0
      · left; rw [h0]; rfl
      · obtain ⟨b, off, rfl, hc⟩ := ints_at hcell (by omega)
        refine .inr ⟨b, off, rfl, lt_of_cell (hc 0 (by omega)), fun i v hi => ?_⟩
        have hil : i < len0 := by
          rcases Nat.lt_or_ge i len0 with h | h
          · exact h
          · rw [List.getElem?_eq_none (by rw [zc_length, hlen]; exact h)] at hi; cases hi
        rw [zc_get _ i (by rw [hlen]; exact hil)] at hi
        cases hi
        rw [hc i (by omega)]
        have hz0 : zs.getD i 0 = zs[i]'(by omega) := by rw [List.getD_eq_getElem?_getD, List.getElem?_eq_getElem (by omega)]; rfl
        have e1 : (zs.take len0)[i]?.getD 0 = zs[i]'(by omega) := by
          rw [List.getElem?_take_of_lt hil, List.getElem?_eq_getElem (by omega)]; rfl
        rw [e1, hz0]
    · intro n hn
      exact bounds_i64 (hwz n (List.mem_of_mem_take hn))
/-- What Room answers. -/
def roR (xs : List Int) : Int := if kchk xs = 0 then 16777216 - (tkn (xs.map Int.toNat) : Int) else 0
theorem room_any (xs : List Int) (n : Nat) (hn : xs.length = n) (hn2 : n ≤ 9223372036854775807) (A : Option Addr) (c : Nat) (w : World) (h : RdV w w.heap.size A (zc xs)) :
    Calls Tryz.prog 17 #[.slice A n c] w fun e w' => e = .returned (.tuple #[.int .i64 (roR xs), .int .i64 (kchk xs)]) ∧ Below w.heap.size w w' := by
  unfold roR
  by_cases hk : kchk xs = 0
  · obtain ⟨l, rfl, h64, h24⟩ := kchk_zero xs hk
    rw [if_pos hk, hk, show (l.map (fun (x : Nat) => (x : Int))).map Int.toNat = l from ns_nat l]
    exact room_ok l n (by simpa using hn) (by simp at hn; omega) h24 A c w h
  · rw [if_neg hk]
    exact room_e xs n hn hn2 _ rfl hk A c w h
end

section
open Go.ChangeShapes Go.WideShapes Go.ChangeAt Go.RowKit Go.Joins Go.Deep

theorem cells26 : Tryz.prog.cellsOf 35 = 2 := by kernel_rfl
theorem cellsInt : Tryz.prog.cellsOf 3 = 1 := by kernel_rfl
theorem cellsBs : Tryz.prog.cellsOf 33 = 1 := by kernel_rfl

set_option maxRecDepth 100000 in
/-- A list of bits that was handed in. -/
theorem open_bl {H : Type} {enc : TypeId × Value → H} {W : World} {base : Nat} {v : Value} {d : DataW H} {p : List MemPlace}
    (hv : Value.okWide Tryz.prog W .any base 83 v) (h : DataW.Trod enc Tryz.prog W 0 (fun _ => true) true 83 v d p) :
    ∃ (A : Option Addr) (c : Nat) (rs : List Rx), v = .slice A rs.length c ∧ RdR W W.heap.size A rs ∧ (∀ x ∈ rs, ∀ b ∈ x.2.2.2, b < 256) ∧ rs.length ≤ 9223372036854775807 := by
  obtain ⟨a0, len0, cap0, rfl⟩ := okWide_slice Tryz.underlying83 hv
  obtain ⟨fuel, hf⟩ := h
  rcases open_slice_pairs Tryz.underlying83 Tryz.underlying35 cells26 rfl rfl cellsInt cellsBs hf with ⟨hcs, _⟩ | ⟨a, len, cap, m, n, V0, V1, D0, D1, P0, P1, hcs, _, hl, hm, hmm, _, hx⟩
  · simp [Value.cells] at hcs
    obtain ⟨rfl, rfl, rfl⟩ := hcs
    exact ⟨none, 0, [], rfl, .inl rfl, by simp, by simp⟩
  · simp [Value.cells] at hcs
    obtain ⟨rfl, rfl, rfl⟩ := hcs
    have hlm : len0 ≤ m := by rw [hmm]; simp; exact hl
    have each : ∀ i, i < len0 → ∃ x : Rx, W.cell? (a.add (i * 2)) = some (.int .i64 x.1) ∧ W.cell? (a.add (i * 2 + 1)) = some (.slice x.2.1 x.2.2.2.length x.2.2.1) ∧ Rd W W.heap.size x.2.1 x.2.2.2 ∧ ∀ b ∈ x.2.2.2, b < 256 := by
      intro i hi
      obtain ⟨k0, k1, t0, t1⟩ := hx i (by omega)
      obtain ⟨z, e0, _, _⟩ := DataW.trod_int Tryz.underlying3 t0
      simp at e0
      rw [e0] at k0
      rcases open_ints Tryz.underlying33 Tryz.underlying5 cells5 t1 with ⟨hcs, _⟩ | ⟨x, l, c, zs, hcs, _, hl2, hm2, hz, _, hcell, hwz⟩
      · simp at hcs
        rw [hcs] at k1
        exact ⟨(z, none, 0, []), k0, k1, .inl rfl, by simp⟩
      · simp at hcs
        rw [hcs] at k1
        have hzc : zs.length = c := by simpa using hz
        have hbl : ((zs.take l).map Int.toNat).length = l := by rw [List.length_map, List.length_take]; omega
        refine ⟨(z, some x, c, (zs.take l).map Int.toNat), k0, by rw [hbl]; exact k1, ?_, ?_⟩
        · rcases Nat.eq_zero_or_pos l with h0 | h0
          · left; rw [h0]; rfl
          · obtain ⟨b, off, rfl, hc⟩ := ints_at hcell (by omega)
            refine .inr ⟨b, off, rfl, lt_of_cell (hc 0 (by omega)), fun j hj => ?_⟩
            have hjl : j < l := by rw [hbl] at hj; exact hj
            rw [hc j (by omega)]
            have hz0 : zs.getD j 0 = zs[j]'(by omega) := by rw [List.getD_eq_getElem?_getD, List.getElem?_eq_getElem (by omega)]; rfl
            have hw := bounds_u8 (hwz _ (List.getElem_mem (show j < zs.length by omega)))
            have e1 : ((zs.take l).map Int.toNat)[j]?.getD 0 = (zs[j]'(by omega)).toNat := by
              rw [List.getElem?_map, List.getElem?_take_of_lt hjl, List.getElem?_eq_getElem (by omega)]; rfl
            rw [e1, hz0]
            congr 2
            omega
        · intro b hb
          simp only [List.mem_map] at hb
          obtain ⟨z', hz1, rfl⟩ := hb
          have hw := bounds_u8 (hwz z' (List.mem_of_mem_take hz1))
          omega
    obtain ⟨q, hq⟩ := choose_lt each
    have hrl : ((List.range len0).map q).length = len0 := by simp
    unfold maxLen at hm
    refine ⟨some a, cap0, (List.range len0).map q, by rw [hrl], ?_, ?_, by rw [hrl]; omega⟩
    · rcases Nat.eq_zero_or_pos len0 with h0 | h0
      · left; rw [h0]; rfl
      · obtain ⟨b, off, spot⟩ := a
        have hspot : spot = none := by simpa [Addr.add] using World.cell?_spot (hq 0 h0).1
        subst hspot
        refine .inr ⟨b, off, rfl, ?_, fun i x hi => ?_⟩
        · have := (hq 0 h0).1
          exact lt_of_cell (p := ⟨b, off + 0 * 2, none⟩) (by rw [← add_plain]; exact this)
        · rw [List.getElem?_map] at hi
          obtain ⟨j, hj, rfl⟩ := Option.map_eq_some_iff.1 hi
          have hjl : i < len0 := by have := (List.getElem?_eq_some_iff.1 hj).1; simpa using this
          rw [List.getElem?_range hjl] at hj
          cases hj
          obtain ⟨g0, g1, g2, _⟩ := hq i hjl
          rw [add_plain] at g0 g1
          exact ⟨g0, g1, g2⟩
    · intro x hx'
      obtain ⟨i, hi, rfl⟩ := List.mem_map.1 hx'
      exact (hq i (List.mem_range.1 hi)).2.2.2
end

section
set_option maxRecDepth 100000
set_option linter.unusedVariables false
open Go.RowKit Go.Shelf Go.Sort

abbrev RoomC (A : Option Addr) (n c : Nat) (w : World) (r k : Int) : Prop := ∀ V, Below w.heap.size w V → Calls Tryz.prog 17 #[.slice A n c] V fun e w' => e = .returned (.tuple #[.int .i64 r, .int .i64 k]) ∧ Below V.heap.size V w'
end

section
set_option maxRecDepth 100000
set_option linter.unusedVariables false
open Go.RowKit Go.Shelf Go.Sort

theorem tkn_ks : ∀ ls : List (List Bool), tkn (ls.map List.length) = ks 24 (ls.filter (fun x => !x.isEmpty))
  | [] => rfl
  | x :: t => by
    have ih := tkn_ks t
    cases x with
    | nil => simp [tkn, tk] at ih ⊢; exact ih
    | cons b c => simp [tkn, tk, ks] at ih ⊢; exact ih
theorem must_room (ls : List (List Bool)) (h : apart ls) (h24 : ∀ x ∈ ls, x.length ≤ 24) : tkn (ls.map List.length) ≤ 16777216 := by
  rw [tkn_ks]
  exact kraft_le 24 _ (fun c hc => h24 c (List.mem_filter.1 hc).1) h
/-- At each round's head: the first i lengths are laid. -/
def MuRel (ls : List Nat) (B : Nat) (w2 : World) (v p : Value) (wr : World) : Prop :=
  ∃ i : Nat, i ≤ ls.length ∧ p = .int .i64 (i : Int) ∧ wr.ownsRow B 3 1 v i (zc (ns (ls.take i))) ∧ (∀ x ∈ ls.take i, x ≤ 24) ∧ Below B w2 wr
theorem ns_snoc (l : List Nat) (x : Nat) : zc (ns (l ++ [x])) = zc (ns l) ++ [.int .i64 (x : Int)] := by simp [zc, ns]
theorem own_rdi {w : World} {base : Nat} {v : Value} {n : Nat} {xs : List Value} (h : w.ownsRow base 3 1 v n xs) : ∃ A c, v = .slice A n c ∧ RdV w w.heap.size A xs := by
  rcases h.2 with ⟨rfl, rfl⟩ | ⟨g, cap, cur, rfl, _⟩
  · exact ⟨none, 0, rfl, .inl (List.eq_nil_of_length_eq_zero (by simpa using h.1))⟩
  · exact ⟨_, cap, rfl, own_rdv h⟩
end

section
set_option maxRecDepth 100000
set_option linter.unusedVariables false
open Go.RowKit

/-- Bits come back that lie in no old block. -/
def GaveF (w : World) (l : List Bool) (e : Ending) (w' : World) : Prop :=
  ∃ A c, e = .returned (.tuple #[.agg #[.int .i64 (l.length : Int), .slice A (pack l).length c], .int .i64 0]) ∧ Rd w' w'.heap.size A (pack l) ∧ Below w.heap.size w w' ∧ ∀ g, (Value.slice A (pack l).length c).ownBlock = some g → w.heap.size ≤ g
theorem finishF {w wr : World} {S : Nat → Prop} {W r : Nat} {L : List Bool} {a b : Value} (hw : Wr wr S W L) (hS : ∀ k, k < w.heap.size → S k) (hr : w.heap.size ≤ r) (hSr : S r) (hrb : wr.heap[r]? = some (.cells #[a, b] 35 (0, 0))) (hb : Below w.heap.size w wr) :
    ∃ A c, (wr.cell? ⟨W, 0, none⟩ = some (.int .i64 (L.length : Int)) ∧ wr.cell? ⟨W, 1, none⟩ = some (.slice A (pack L).length c)) ∧
      (wr.cell? ⟨r, 0, none⟩ = some a ∧ wr.cell? ⟨r, 1, none⟩ = some b ∧ wr.frozen? ⟨r, 0, none⟩ = false ∧ wr.frozen? ⟨r, 1, none⟩ = false) ∧
      Hid (GaveF w L (.returned (.tuple #[.agg #[.int .i64 (L.length : Int), .slice A (pack L).length c], .int .i64 0])) ((wr.setCell ⟨r, 0, none⟩ (.int .i64 (L.length : Int))).setCell ⟨r, 1, none⟩ (.slice A (pack L).length c))) := by
  have hw' := hw
  obtain ⟨v, hW, ho, _, hg⟩ := hw
  obtain ⟨A0, c0, rfl⟩ := own_slice ho
  obtain ⟨A, c, h1, h2, h3⟩ := finish hw' hr hSr hrb hb
  have e1 := (blk_cells hW).2.1
  have e2 := h1.2
  rw [e1] at e2
  simp only [Option.some.injEq, Value.slice.injEq] at e2
  obtain ⟨rfl, _, rfl⟩ := e2
  obtain ⟨A', c', g1, g2, g3⟩ := h3.out
  simp only [Ending.returned.injEq, Value.tuple.injEq] at g1
  refine ⟨A0, c0, h1, h2, A0, c0, rfl, ?_, g3, fun g hgg => ?_⟩
  · have : A' = A0 := by simp at g1; exact g1.1.symm
    rw [this] at g2
    exact g2
  · rcases Nat.lt_or_ge g w.heap.size with hlt | hge
    · exact absurd (hS g hlt) (hg g hgg)
    · exact hge
set_option maxHeartbeats 1000000 in
theorem join_f (a b L : List Bool) (ha : a.length ≤ 8192) (hb : b.length ≤ 8192) (A B : Option Addr) (c d : Nat) (w : World) (hA : Rd w w.heap.size A (pack a)) (hB : Rd w w.heap.size B (pack b)) (hL : L = a ++ b) (hf' : a.length + b.length ≤ 8192) :
    Calls Tryz.prog 41 #[.agg #[.int .i64 (a.length : Int), .slice A (pack a).length c], .agg #[.int .i64 (b.length : Int), .slice B (pack b).length d]] w (GaveF w L) := by
  have hX := check_later (a.length : Int) A c (pack a) w (pack_lt a) hA (begun3 w (.int .i64 (a.length : Int)) (.int .i64 (b.length : Int)) (.slice A (pack a).length c) (.slice B (pack b).length d)) (begun3_below _ _ _ _ _)
  rw [chk_pack a ha, begun3_size] at hX
  have HX := Lib.hid hX; clear hX
  have hY := check_later (b.length : Int) B d (pack b) w (pack_lt b) hB
  rw [chk_pack b hb] at hY
  have HY := Lib.hid hY; clear hY
  have HBz := Lib.hid (begun3_below w (.int .i64 (a.length : Int)) (.int .i64 (b.length : Int)) (.slice A (pack a).length c) (.slice B (pack b).length d))
  have HCP : Hid (∀ w2, Below w.heap.size w w2 → Calls Tryz.prog 84 #[.agg #[.int .i64 (a.length : Int), .slice A (pack a).length c]] w2 (Copied w2 (a.length : Int) (pack a).length (pack a))) := fun w2 hq =>
    copy_any _ w2 A c (pack a) (by rw [pack_length]; omega) (hA.below hq hq.size)
  have HL := Lib.hid hL; clear hL
  have HBR := Lib.hid hB; clear hB hA
  go_enter Tryz.func41, Tryz.ntmps41
  go_wp2_with fail
  refine HX.out.mono ?_
  rintro e w1 ⟨rfl, hq⟩
  unfold begun3 at hq
  obtain ⟨hc1, hf1⟩ := old_cells hq
  have HS : Hid (w.heap.size + 3 ≤ w1.heap.size) := by have := hq.size; rw [show (((w.alloc _).alloc _).alloc _).heap.size = w.heap.size + 3 from begun3_size w _ _ _ _] at this; exact this
  go_wp2_with fail
  refine (HY.out w1 (HBz.out.trans (hq.mono (by omega)))).mono ?_
  rintro e w2 ⟨rfl, hq2⟩
  have hq3 := hq.trans (hq2.mono HS.out)
  have HS2 : Hid (w.heap.size + 3 ≤ w2.heap.size) := by have h1 := HS.out; have h2 := hq2.size; show _ ≤ _; omega
  clear hc1 hf1 hq hq2
  obtain ⟨hc1, hf1⟩ := old_cells hq3
  go_wp2_with fail
  refine (HCP.out w2 (HBz.out.trans (hq3.mono (by omega)))).mono ?_
  rintro e w3 ⟨A2, c2, rfl, ho3, hb3⟩
  have hq4 := hq3.trans (hb3.mono HS2.out)
  have HS3 : Hid (w.heap.size + 3 ≤ w3.heap.size) := by have h1 := HS2.out; have h2 := hb3.size; show _ ≤ _; omega
  have HW : Hid (Wr (w3.alloc (.cells #[.int .i64 (a.length : Int), .slice A2 (pack a).length c2] 124)) (fun k => k < w.heap.size + 3) w3.heap.size a) := Wr.laid ho3 (fun j hj => by have := HS2.out; omega) hb3.size
  have HR : Hid (Rd (w3.alloc (.cells #[.int .i64 (a.length : Int), .slice A2 (pack a).length c2] 124)) w.heap.size B (pack b)) := HBR.out.below ((HBz.out.trans (hq4.mono (by omega))).alloc (by have := HS3.out; omega) _) (Nat.le_refl _)
  clear hc1 hf1 ho3 hb3
  obtain ⟨hc1, hf1⟩ := old_cells hq4
  have hs1 : w.heap.size + 1 < w3.heap.size := by have := HS3.out; omega
  go_wp2_with fail
  have hz0 : ((0 : Nat) : Int) = 0 := rfl
  rw [← hz0]
  refine (addBits_any _ (fun k => k < w.heap.size + 3) (fun j hj => by have := HS3.out; simp only [World.size_alloc]; omega) w3.heap.size a b hb B d w.heap.size (fun k hk => by omega) (by have := HS3.out; simp only [World.size_alloc]; omega) 0 b.length (by omega) (Nat.le_refl _) (by omega) HW.out HR.out).mono ?_
  rintro e w4 ⟨rfl, hw4, hf4⟩
  rw [List.drop_zero, Nat.sub_zero, List.take_length, ← HL.out] at hw4
  have hwb : w4.heap[w.heap.size + 1 + 1]? = some (.cells #[.int .i64 0, .slice none 0 0] 35 (0, 0)) := by
    rw [hf4.block _ (by omega), Below.heap_alloc _ _ _ (by have := HS3.out; omega), hq4.block _ (by omega)]
    exact begun3_res w _ _ _ _
  have hlow : Below w.heap.size w w4 := ((HBz.out.trans (hq4.mono (by omega))).alloc (by have := HS3.out; omega) _).trans (hf4.below (fun j hj => by omega))
  obtain ⟨A3, c3, ⟨d0, d1⟩, ⟨d2, d3, g0, g1⟩, HG⟩ := finishF hw4 (fun k hk => by omega) (r := w.heap.size + 1 + 1) (by omega) (by omega) hwb hlow
  clear hwb hlow hw4 hf4 hc1 hf1 hz0
  go_wp2
  exact bodyPost_ret (v := .tuple #[.agg #[.int .i64 (L.length : Int), .slice A3 (pack L).length c3], .int .i64 0]) (by simp [results, Tryz.results41, go_sem, d2, d3]) rfl HG.out
end

section
set_option maxRecDepth 100000
set_option linter.unusedVariables false
open Go.RowKit Go.Shelf Go.Sort

/-- The codes of signs, one behind the other. -/
def cat (l : List Nat) (ps : List Nat) : List Bool := ps.flatMap (codOf (words l))
theorem cat_snoc (l ps : List Nat) (s : Nat) : cat l (ps ++ [s]) = cat l ps ++ codOf (words l) s := by simp [cat]
/-- A sign is read from its code. -/
theorem cat_sign (l : List Nat) (h24 : ∀ x ∈ l, x ≤ 24) (hr : tkn l ≤ 16777216) (ps : List Nat) (hps : ∀ p ∈ ps, p < l.length ∧ codOf (words l) p ≠ []) (k : Nat) (hk : k < ps.length) :
    sgA (cat l (ps.take k)).length (sgn ((cat l ps).drop (cat l (ps.take k)).length) (words l)) = (ps[k]?.getD 0, (cat l (ps.take (k + 1))).length, 0) ∧ (cat l (ps.take k)).length < (cat l (ps.take (k + 1))).length ∧ (cat l (ps.take (k + 1))).length ≤ (cat l ps).length := by
  have h := words_ok l h24
  have e1 : ps = ps.take k ++ ps.drop k := (List.take_append_drop k ps).symm
  have e2 : ps.drop k = ps[k]?.getD 0 :: ps.drop (k + 1) := by rw [List.drop_eq_getElem_cons hk, List.getElem?_eq_getElem hk]; rfl
  have e3 : cat l ps = cat l (ps.take k) ++ (codOf (words l) (ps[k]?.getD 0) ++ cat l (ps.drop (k + 1))) := by
    conv => lhs; rw [e1, e2]
    simp [cat]
  have e4 : ps.take (k + 1) = ps.take k ++ [ps[k]?.getD 0] := take_snoc ps k hk
  have hm : ps[k]?.getD 0 ∈ ps := by rw [List.getElem?_eq_getElem hk]; exact List.getElem_mem hk
  obtain ⟨p1, p2⟩ := hps _ hm
  generalize ps[k]?.getD 0 = p at *
  have ep : l[p]? = some l[p] := List.getElem?_eq_getElem p1
  have h0 : l[p] ≠ 0 := fun h0 => p2 (codOf_none h (fun w hw => by rw [ep] at hw; cases hw; exact h0))
  obtain ⟨a, ha⟩ := h.has p _ ep h0
  have hc := codOf_mem h ha
  have hf := sgn_found h hr (left := (cat l ps).drop (cat l (ps.take k)).length) (x := (p, l[p], a)) (by
    rw [e3, List.drop_left, ← hc]
    exact List.prefix_append _ _) (words l) (fun y hy => hy) ha
  have hlen : (codOf (words l) p).length = l[p] := by rw [hc, code_length]
  refine ⟨?_, ?_, ?_⟩
  · rw [hf, e4, cat_snoc, List.length_append, hlen]
    rfl
  · rw [e4, cat_snoc, List.length_append, hlen]; omega
  · rw [e4, cat_snoc, e3]; simp only [List.length_append]; omega

theorem frz_at {w : World} {W : Nat} {t : TypeId} {cs : Array Value} (h : w.heap[W]? = some (.cells cs t (0, 0))) (i : Nat) : w.frozen? ⟨W, i, none⟩ = false := by simp [World.frozen?, h]
theorem row_ne3 {w : World} {K base n : Nat} {T : TypeId} {cs : Array Value} {v : Value} {xs : List Value} (h : w.ownsRow base 3 1 v n xs) (hK : w.heap[K]? = some (.cells cs T (0, 0))) (ht : T ≠ 3) : ∀ g, v.ownBlock = some g → g ≠ K := by
  rintro g hg rfl
  rcases h.2 with ⟨rfl, _⟩ | ⟨g', cap, cur, rfl, _, hh, _⟩
  · simp [Value.ownBlock] at hg
  · simp only [Value.ownBlock, Option.some.injEq] at hg
    subst hg
    rw [hK] at hh
    simp at hh
    exact ht hh.2
theorem own_lt {w : World} {base : Nat} {e : TypeId} {k n : Nat} {v : Value} {xs : List Value} (h : w.ownsRow base e k v n xs) : ∀ g, v.ownBlock = some g → g < w.heap.size := by
  intro g hg
  rcases h.2 with ⟨rfl, _⟩ | ⟨g', cap, cur, rfl, _, hh, _⟩
  · simp [Value.ownBlock] at hg
  · simp only [Value.ownBlock, Option.some.injEq] at hg
    subst hg
    exact (Array.getElem?_eq_some_iff.1 hh).1
theorem own_keep2 {w w' : World} {base : Nat} {e : TypeId} {k n : Nat} {v : Value} {xs : List Value} (h : w.ownsRow base e k v n xs) (hk : ∀ j, v.ownBlock = some j → j < w.heap.size → w'.heap[j]? = w.heap[j]?) : w'.ownsRow base e k v n xs := by
  refine ⟨h.1, ?_⟩
  rcases h.2 with h | ⟨g, cap, cur, rfl, h2, h3, h4⟩
  · exact .inl h
  · exact .inr ⟨g, cap, cur, rfl, h2, (hk g rfl (Array.getElem?_eq_some_iff.1 h3).1).trans h3, h4⟩
/-- At each round's head: the first signs are put. -/
def Ba1 (l : List Nat) (m Ba : Nat) (w3 : World) (v p : Value) (wr : World) : Prop :=
  ∃ (i : Nat) (ps : List Nat) (Aa : Option Addr) (ca : Nat), i ≤ m ∧ i ≤ 100 ∧ p = .int .i64 (i : Int) ∧ ps.length ≤ i ∧ (∀ p ∈ ps, p < l.length ∧ codOf (words l) p ≠ []) ∧ (cat l ps).length ≤ 24 * i ∧
    wr.ownsRow w3.heap.size 3 1 v ps.length (zc (ns ps)) ∧
    wr.heap[Ba]? = some (.cells #[.int .i64 ((cat l ps).length : Int), .slice Aa (pack (cat l ps)).length ca] 35 (0, 0)) ∧ Rd wr wr.heap.size Aa (pack (cat l ps)) ∧ Below w3.heap.size w3 wr
end

section
set_option maxRecDepth 100000
set_option linter.unusedVariables false
open Go.RowKit Go.Shelf Go.Sort

/-- The first i signs, the place behind them, and the error, if any. -/
def unS (l : List Nat) (lb : List Bool) : Nat → List Nat × Nat × Int
  | 0 => ([], 0, 0)
  | i + 1 =>
    if (unS l lb i).2.2 = 0 then
      (if (sgA (unS l lb i).2.1 (sgn (lb.drop (unS l lb i).2.1) (words l))).2.2 = 0 then
        ((unS l lb i).1 ++ [(sgA (unS l lb i).2.1 (sgn (lb.drop (unS l lb i).2.1) (words l))).1], (sgA (unS l lb i).2.1 (sgn (lb.drop (unS l lb i).2.1) (words l))).2.1, 0)
      else ([], 0, (sgA (unS l lb i).2.1 (sgn (lb.drop (unS l lb i).2.1) (words l))).2.2))
    else unS l lb i
theorem unS_stay (l : List Nat) (lb : List Bool) (i : Nat) (h : (unS l lb i).2.2 ≠ 0) : ∀ k, i ≤ k → unS l lb k = unS l lb i
  | 0, hk => by obtain rfl : i = 0 := by omega
                rfl
  | k + 1, hk => by
    rcases Nat.lt_or_ge k i with h1 | h1
    · obtain rfl : i = k + 1 := by omega
      rfl
    · have ih := unS_stay l lb i h k h1
      show (if (unS l lb k).2.2 = 0 then _ else unS l lb k) = _
      rw [ih, if_neg h]
theorem unS_one (l : List Nat) (lb : List Bool) (i : Nat) (ps : List Nat) (at_ : Nat) (h : unS l lb i = (ps, at_, 0)) (s to : Nat) (e : Int) (hs : sgA at_ (sgn (lb.drop at_) (words l)) = (s, to, e)) :
    unS l lb (i + 1) = if e = 0 then (ps ++ [s], to, 0) else ([], 0, e) := by
  show (if (unS l lb i).2.2 = 0 then _ else unS l lb i) = _
  rw [h, if_pos rfl]
  simp only [hs]
theorem sgA_le (l : List Nat) (h24 : ∀ x ∈ l, x ≤ 24) (hr : tkn l ≤ 16777216) (lb : List Bool) (p s to : Nat) (hp : p ≤ lb.length) (h : sgA p (sgn (lb.drop p) (words l)) = (s, to, 0)) : to ≤ lb.length ∧ s < l.length := by
  rcases sgn_cases (words_ok l h24) hr (lb.drop p) (words l) (fun y hy => hy) with ⟨x, hx, hpre, e⟩ | ⟨x, hx, hpre, hl, e⟩ | ⟨hn, e⟩
  · rw [e] at h
    unfold sgA at h
    rw [if_pos rfl] at h
    simp only [Prod.mk.injEq] at h
    have h1 := hpre.length_le
    rw [code_length, List.length_drop] at h1
    refine ⟨by omega, ?_⟩
    have hm := ((words_ok l h24).mem x hx).1
    rw [← h.1]
    exact (List.getElem?_eq_some_iff.1 hm).1
  · rw [e] at h; simp [sgA] at h
  · rw [e] at h; simp [sgA] at h
/-- What Unpack answers. -/
def unA (l : List Nat) (lb : List Bool) (k : Nat) : List Nat × Int := if (unS l lb k).2.2 ≠ 0 then ([], (unS l lb k).2.2) else if (unS l lb k).2.1 < lb.length then ([], 1) else ((unS l lb k).1, 0)
/-- Numbers of the call's own, or none and an error. -/
def GotZ (w : World) (r : List Nat × Int) (e : Ending) (w' : World) : Prop :=
  ∃ v, e = .returned (.tuple #[v, .int .i64 r.2]) ∧ w'.ownsRow w.heap.size 3 1 v r.1.length (zc (ns r.1)) ∧ Below w.heap.size w w'
theorem gotZ_err {w w' : World} {r : List Nat × Int} {k : Int} (h : r = ([], k)) (hb : Below w.heap.size w w') : GotZ w r (.returned (.tuple #[.slice none 0 0, .int .i64 k])) w' := by
  subst h
  exact ⟨_, rfl, ⟨rfl, .inl ⟨rfl, rfl⟩⟩, hb⟩
theorem gotZ_ok {w w' : World} {r : List Nat × Int} {ps : List Nat} {v : Value} (h : r = (ps, 0)) (ho : w'.ownsRow w.heap.size 3 1 v ps.length (zc (ns ps))) (hb : Below w.heap.size w w') : GotZ w r (.returned (.tuple #[v, .int .i64 0])) w' := by
  subst h
  exact ⟨_, rfl, ho, hb⟩
def UnRel (l : List Nat) (lb : List Bool) (k : Nat) (w w3 : World) (v a p : Value) (wr : World) : Prop :=
  ∃ (i at_ : Nat) (ps : List Nat), i ≤ k ∧ p = .int .i64 (i : Int) ∧ a = .int .i64 (at_ : Int) ∧ unS l lb i = (ps, at_, 0) ∧ at_ ≤ lb.length ∧ ps.length = i ∧
    wr.ownsRow w3.heap.size 3 1 v ps.length (zc (ns ps)) ∧ Below w3.heap.size w3 wr

set_option maxHeartbeats 4000000 in
theorem unpack_ok (l : List Nat) (n1 : Nat) (hn : l.length = n1) (h64 : n1 ≤ 64) (h24 : ∀ x ∈ l, x ≤ 24) (hr : tkn l ≤ 16777216) (A1 : Option Addr) (c1 : Nat) (lb : List Bool) (hlb : lb.length ≤ 8192) (A2 : Option Addr) (c2 : Nat) (k : Nat) (hk : k ≤ 1000) (w : World) (h1 : RdV w w.heap.size A1 (zc (ns l))) (h2 : Rd w w.heap.size A2 (pack lb)) :
    Calls Tryz.prog 49 #[.slice A1 n1 c1, .agg #[.int .i64 (lb.length : Int), .slice A2 (pack lb).length c2], .int .i64 (k : Int)] w (GotZ w (unA l lb k)) := by
  obtain ⟨i0, hi, hz0, hz1, hz2⟩ := info_parts info3i
  have HC : Hid (∀ V, Below w.heap.size w V → Calls Tryz.prog 50 #[.slice A1 n1 c1] V (GotC V (codes l))) := fun V hV => codes_ok l n1 hn h64 h24 hr A1 c1 V (h1.on hV)
  have HB : Hid (∀ V, Below w.heap.size w V → Calls Tryz.prog 59 #[.agg #[.int .i64 (lb.length : Int), .slice A2 (pack lb).length c2]] V fun e w' => e = .returned (.int .i64 0) ∧ Below V.heap.size V w') := fun V hV => check_l lb hlb A2 c2 V (h2.on hV)
  have HSg : Hid (∀ V, Below w.heap.size w V → ∀ (p : Nat), p ≤ lb.length → ∀ (s to : Nat) (e0 : Int), sgA p (sgn (lb.drop p) (words l)) = (s, to, e0) →
      Calls Tryz.prog 52 #[.slice A1 n1 c1, .agg #[.int .i64 (lb.length : Int), .slice A2 (pack lb).length c2], .int .i64 (p : Int)] V (SgP V s to e0)) := fun V hV p hp s to e0 hres =>
    sign_ok l n1 hn h64 h24 hr A1 c1 V (h1.on hV) lb hlb A2 c2 (h2.on hV) p hp s to e0 hres
  have HLe : Hid (∀ p s to, p ≤ lb.length → sgA p (sgn (lb.drop p) (words l)) = (s, to, 0) → to ≤ lb.length ∧ s < l.length) := fun p s to hp h => sgA_le l h24 hr lb p s to hp h
  have HCL : Hid ((codes l).length = n1) := by show _ = _; rw [codes_length, hn]
  have HR := Lib.hid (range2 0 (decide (0 ≤ (k : Int))) (decide ((k : Int) ≤ 1000)) 0 (by rw [rg_eq 1000 (k : Int), rg_zero]; omega))
  have HN := Lib.hid hn
  clear h1 h2 hn hr h24
  generalize hNB : (pack lb).length = NB at *
  clear hNB
  go_enter Tryz.func49, Tryz.ntmps49
  go_wp2_with fail
  generalize hV : w.alloc (.cells #[.int .i64 (lb.length : Int), .slice A2 NB c2] 35) = V0
  have HV : Hid (Below w.heap.size w V0) := hV ▸ one_below _ _
  have HVs : Hid (w.heap.size + 1 = V0.heap.size) := by show _ = _; rw [← hV, World.size_alloc]
  have HK : Hid (∀ w' : World, Below V0.heap.size V0 w' → w'.cell? ⟨w.heap.size, 0, none⟩ = some (.int .i64 (lb.length : Int)) ∧ w'.cell? ⟨w.heap.size, 1, none⟩ = some (.slice A2 NB c2)) := by
    subst hV
    exact fun w' h => box_at (by rwa [World.size_alloc] at h)
  clear hV
  refine (HC.out V0 HV.out).mono ?_
  rintro e w1 ⟨Ac, cc, bs, rfl, _hbs, _rr, b1⟩
  rw [HCL.out]
  have HB1 := Lib.hid b1
  clear _rr _hbs b1 HC
  obtain ⟨p1, q1⟩ := HK.out w1 HB1.out
  go_wp2_with fail
  refine (HB.out w1 (HV.out.trans (HB1.out.mono HV.out.size))).mono ?_
  rintro e w2 ⟨rfl, b2⟩
  have HB2 : Hid (Below V0.heap.size V0 w2) := HB1.out.trans (b2.mono HB1.out.size)
  clear b2 p1 q1
  go_wp2_with fail
  refine (HR.out w2 _ rfl).mono ?_
  rintro e w3 ⟨rfl, b3⟩
  have HB3 : Hid (Below V0.heap.size V0 w3) := HB2.out.trans (b3.mono HB2.out.size)
  have HL3 : Hid (Below w.heap.size w w3) := HV.out.trans (HB3.out.mono HV.out.size)
  clear b3
  go_wp2
  go_loopw [11, 12, 36] (fun v a p wr => UnRel l lb k w w3 v a p wr) (fun _ _ p _ => k - (intOf p).toNat)
  case atStart => exact ⟨0, 0, [], Nat.zero_le _, rfl, rfl, rfl, Nat.zero_le _, rfl, ⟨rfl, .inl ⟨rfl, rfl⟩⟩, Below.refl _ _⟩
  case round =>
    obtain ⟨i, at_, ps, hik, rfl, rfl, hun, hat, hpl, hrow, hbel⟩ := hrel
    obtain ⟨p4, q4⟩ := HK.out wr (HB3.out.trans (hbel.mono HB3.out.size))
    have HBl : Hid (Below w.heap.size w wr) := HL3.out.trans (hbel.mono HL3.out.size)
    by_cases hlt : i < k
    · obtain ⟨s, to, e0, hs⟩ : ∃ s to e0, sgA at_ (sgn (lb.drop at_) (words l)) = (s, to, e0) := ⟨_, _, _, rfl⟩
      have hone := unS_one l lb i ps at_ hun s to e0 hs
      have HJ := Lib.hid (HSg.out wr HBl.out at_ hat s to e0 hs)
      by_cases h0 : e0 = 0
      · subst h0
        obtain ⟨hto, hsl⟩ := HLe.out at_ s to hat hs
        rw [if_pos rfl] at hone
        have HOne := Lib.hid hone
        have HBel := Lib.hid hbel
        clear hone hun hs hbel
        have hs64 : s < 64 := by have := HN.out; omega
        go_wp2_with fail
        refine HJ.out.mono ?_
        rintro e w5 ⟨rfl, b5⟩
        have HB5 : Hid (Below w3.heap.size w3 w5) := HBel.out.trans (b5.mono HBel.out.size)
        have hrow5 := own_below hrow b5
        have hB5' : w3.heap.size ≤ w5.heap.size := HB5.out.size
        clear b5 hrow
        go_wp2_with (at_builtin; refine wpList_append_own _ rfl _ _ 22 rfl w3.heap.size 3 i0 (.int .i64 0) 1 8 Tryz.underlying22 hi hz0 hz1 hz2 rfl (by decide) _ _ _ rfl (hrow5.alloc _) ⟨w5.heap.size, 0, none⟩ 1 1 [.int .i64 (s : Int)] rfl rfl (news_row w5 [.int .i64 (s : Int)] _) (by simp [Value.oneCell']) (by unfold maxLen; omega) (by omega) (by simp; omega) ?_; intro v' w6 hown' hgrow _)
        have HO6 := Lib.hid hown'
        have HB6 : Hid (Below w3.heap.size w3 w6) := HB5.out.trans (((Below.refl w3.heap.size w5).alloc hB5' _).trans (grown_low hgrow (hrow5.alloc _) (by simp; omega)))
        clear hown' hgrow hrow5
        go_roundw
        case rel => exact ⟨i + 1, to, ps ++ [s], by omega, by go_num, rfl, HOne.out, hto, by rw [List.length_append]; simp; omega, by rw [ns_snoc, List.length_append]; exact HO6.out, HB6.out⟩
        case measure => simp [intOf]; omega
      · rw [if_neg h0] at hone
        have HA : Hid (unA l lb k = ([], e0)) := by
          show _ = _
          have := unS_stay l lb (i + 1) (by rw [hone]; exact h0) k (by omega)
          unfold unA
          rw [this, hone, if_pos h0]
        have t0 : (e0 != 0) = true := by simpa using h0
        clear hone hun hs hrow h0
        go_wp2_with fail
        refine HJ.out.mono ?_
        rintro e w5 ⟨rfl, b5⟩
        have HB5 : Hid (Below w.heap.size w w5) := HBl.out.trans (b5.mono HBl.out.size)
        clear b5
        go_wp2
        go_ret2
        exact gotZ_err HA.out HB5.out
    · obtain rfl : i = k := by omega
      by_cases hat2 : at_ < lb.length
      · have HA : Hid (unA l lb i = ([], 1)) := by
          show _ = _
          unfold unA
          rw [hun, if_neg (by simp), if_pos hat2]
        have t0 : decide ((at_ : Int) < (lb.length : Int)) = true := by simp; omega
        have t1 : decide (at_ < lb.length) = true := by simpa using hat2
        clear hun hrow hat2
        go_wp2
        go_ret2
        exact gotZ_err HA.out HBl.out
      · have HA : Hid (unA l lb i = (ps, 0)) := by
          show _ = _
          unfold unA
          rw [hun, if_neg (by simp), if_neg hat2]
        have t0 : decide ((at_ : Int) < (lb.length : Int)) = false := by simp; omega
        have t1 : decide (at_ < lb.length) = false := by simpa using hat2
        have HRow : Hid (wr.ownsRow w.heap.size 3 1 _ ps.length (zc (ns ps))) := own_base hrow HL3.out.size
        clear hun hrow hat2
        go_wp2
        go_ret2
        exact gotZ_ok HA.out HRow.out HBl.out
end

section
set_option maxRecDepth 100000
set_option linter.unusedVariables false
open Go.RowKit Go.Shelf Go.Sort

def d8 (x : Int) : Int := if 24 < x then 8 else 0
theorem d8_all (l : List Nat) (h : ∀ x ∈ l, x ≤ 24) : eachE d8 (ns l) = 0 := by
  rw [eachE_zero]
  intro x hx
  obtain ⟨y, hy, rfl⟩ := List.mem_map.1 hx
  have := h y hy
  unfold d8
  rw [if_neg (by omega)]
theorem d8_two : ∀ l : List Int, eachE d8 l = 0 ∨ eachE d8 l = 8
  | [] => .inl rfl
  | x :: t => by
    unfold eachE
    have := d8_two t
    by_cases h : 24 < x
    · have e : d8 x = 8 := if_pos h
      rw [e]; simp
    · have e : d8 x = 0 := if_neg h
      rw [e]; simpa using this
theorem d8_no (l : List Nat) (h : ¬ ∀ x ∈ l, x ≤ 24) : eachE d8 (ns l) = 8 := by
  rcases d8_two (ns l) with h0 | h0
  · exfalso
    refine h fun x hx => ?_
    have := (eachE_zero d8 (ns l)).1 h0 (x : Int) (List.mem_map.2 ⟨x, hx, rfl⟩)
    unfold d8 at this
    split at this <;> omega
  · exact h0
/-- What Lengths answers. -/
def lnA (os : List Nat) : List Nat × Int := if eachE d8 (ns (hl os)) = 0 then (hl os, 0) else ([], 8)
def hlA (xs : List Int) : List Nat × Int := if 64 < xs.length then ([], 2) else if ofE xs ≠ 0 then ([], ofE xs) else lnA (xs.map Int.toNat)

set_option maxHeartbeats 1000000 in
theorem len_m (n c : Nat) (A : Option Addr) (h : 64 < n) (w : World) : Calls Tryz.prog 13 #[.slice A n c] w (GotZ w ([], 2)) := by
  have t0 : decide ((64 : Int) < (n : Int)) = true := by simp; omega
  have t1 : decide (64 < n) = true := by simpa using h
  go_enter Tryz.func13, Tryz.ntmps13
  go_wp2
  go_ret2
  exact gotZ_err rfl (Below.refl _ _)
set_option maxHeartbeats 1000000 in
theorem len_o (n c : Nat) (A : Option Addr) (h : n ≤ 64) (k : Int) (hk : k ≠ 0) (w : World) (hO : Calls Tryz.prog 43 #[.slice A n c] w fun e w' => e = .returned (.int .i64 k) ∧ Below w.heap.size w w') : Calls Tryz.prog 13 #[.slice A n c] w (GotZ w ([], k)) := by
  have t0 : decide ((64 : Int) < (n : Int)) = false := by simp; omega
  have t1 : decide (64 < n) = false := by simp; omega
  have t2 : (k != 0) = true := by simpa using hk
  have HO := Lib.hid hO
  clear hO hk
  go_enter Tryz.func13, Tryz.ntmps13
  go_wp2_with fail
  refine HO.out.mono ?_
  rintro e w1 ⟨rfl, b1⟩
  have HB := Lib.hid b1; clear b1
  go_wp2
  go_ret2
  exact gotZ_err rfl HB.out
set_option maxHeartbeats 2000000 in
theorem len_ok (os : List Nat) (n : Nat) (hn : os.length = n) (h64 : n ≤ 64) (hb : ∀ x ∈ os, x ≤ 1048576) (A : Option Addr) (c : Nat) (w : World) (h : RdV w w.heap.size A (zc (ns os))) : Calls Tryz.prog 13 #[.slice A n c] w (GotZ w (lnA os)) := by
  have t0 : decide ((64 : Int) < (n : Int)) = false := by simp; omega
  have t1 : decide (64 < n) = false := by simp; omega
  have HO : Hid (Calls Tryz.prog 43 #[.slice A n c] w fun e w' => e = .returned (.int .i64 0) ∧ Below w.heap.size w w') := by
    have := often_any (ns os) n (by rw [ns_length]; exact hn) (by omega) A c w h
    rwa [ofE_ok os hb] at this
  have HG : Hid (∀ V, Below w.heap.size w V → Calls Tryz.prog 45 #[.slice A n c] V fun e w' => ∃ v, e = .returned v ∧ GRow w' V.heap.size v (groups 0 os) ∧ Below V.heap.size V w') := fun V hV => groupsOf_ok os n hn h64 A c V (h.on hV)
  have HD : Hid (∀ (base : Nat) (v : Value) (V : World), GRow V base v (groups 0 os) → base ≤ V.heap.size → Calls Tryz.prog 44 #[v, .int .i64 (n : Int)] V fun e w' => ∃ g, e = .returned (.slice (some ⟨g, 0, none⟩) n n) ∧ w'.ownsRow V.heap.size 3 1 (.slice (some ⟨g, 0, none⟩) n n) n (zc (ns (hl os))) ∧ Below base V w') := fun base v V hg hbase => deepen_ok os n hn h64 hb base v V hg hbase
  have hll : (hl os).length = n := by rw [hl_length]; exact hn
  have HE : Hid (∀ (g : Nat) (V : World), RdV V V.heap.size (some ⟨g, 0, none⟩) (zc (ns (hl os))) → Calls Tryz.prog 46 #[.slice (some ⟨g, 0, none⟩) n n, .func (.func 47) #[] #[]] V fun e w' => e = .returned (.int .i64 (eachE d8 (ns (hl os)))) ∧ Below V.heap.size V w') := fun g V hV => each_int 47 #[] d8 (ns (hl os)) n (by rw [ns_length]; exact hll) (by omega) (some ⟨g, 0, none⟩) n V hV entersDeep1 (fun x V' _ => deepOne x V')
  unfold lnA
  have HLL := Lib.hid hll
  clear h hb hn hll
  generalize hl os = l at *
  generalize groups 0 os = gs at *
  rcases d8_two (ns l) with he | he
  · rw [he] at HE
    rw [if_pos he]
    clear he
    go_enter Tryz.func13, Tryz.ntmps13
    go_wp2_with fail
    refine HO.out.mono ?_
    rintro e w1 ⟨rfl, b1⟩
    have HB := Lib.hid b1; clear b1
    go_wp2_with fail
    refine (HG.out w1 HB.out).mono ?_
    rintro e w2 ⟨v, rfl, g2, b2⟩
    have HD2 := Lib.hid (HD.out w1.heap.size v w2 g2 b2.size)
    have HB2 := Lib.hid (HB.out.trans (b2.mono HB.out.size))
    have HS2 : Hid (w.heap.size ≤ w1.heap.size) := HB.out.size
    have HS3 : Hid (w1.heap.size ≤ w2.heap.size) := b2.size
    clear g2 b2
    go_wp2_with fail
    refine HD2.out.mono ?_
    rintro e w3 ⟨g, rfl, o3, b3⟩
    have HO3 := Lib.hid o3
    have HB3 := Lib.hid (HB2.out.trans (b3.mono HS2.out))
    have HE3 := Lib.hid (HE.out g w3 (own_rdv o3))
    clear o3 b3
    go_wp2_with fail
    refine HE3.out.mono ?_
    rintro e w4 ⟨rfl, b4⟩
    have HO4 := Lib.hid (own_below HO3.out b4)
    have HB4 := Lib.hid (HB3.out.trans (b4.mono HB3.out.size))
    clear b4
    go_wp2
    go_ret2
    exact gotZ_ok rfl (by rw [HLL.out]; exact own_base HO4.out (Nat.le_trans HS2.out HS3.out)) HB4.out
  · rw [he] at HE
    rw [if_neg (by omega)]
    clear he
    go_enter Tryz.func13, Tryz.ntmps13
    go_wp2_with fail
    refine HO.out.mono ?_
    rintro e w1 ⟨rfl, b1⟩
    have HB := Lib.hid b1; clear b1
    go_wp2_with fail
    refine (HG.out w1 HB.out).mono ?_
    rintro e w2 ⟨v, rfl, g2, b2⟩
    have HD2 := Lib.hid (HD.out w1.heap.size v w2 g2 b2.size)
    have HB2 := Lib.hid (HB.out.trans (b2.mono HB.out.size))
    have HS2 : Hid (w.heap.size ≤ w1.heap.size) := HB.out.size
    clear g2 b2
    go_wp2_with fail
    refine HD2.out.mono ?_
    rintro e w3 ⟨g, rfl, o3, b3⟩
    have HB3 := Lib.hid (HB2.out.trans (b3.mono HS2.out))
    have HE3 := Lib.hid (HE.out g w3 (own_rdv o3))
    clear o3 b3
    go_wp2_with fail
    refine HE3.out.mono ?_
    rintro e w4 ⟨rfl, b4⟩
    have HB4 := Lib.hid (HB3.out.trans (b4.mono HB3.out.size))
    clear b4
    go_wp2
    go_ret2
    exact gotZ_err rfl HB4.out
theorem lengths_any (xs : List Int) (n : Nat) (hn : xs.length = n) (hn2 : n ≤ 9223372036854775807) (A : Option Addr) (c : Nat) (w : World) (h : RdV w w.heap.size A (zc xs)) : Calls Tryz.prog 13 #[.slice A n c] w (GotZ w (hlA xs)) := by
  unfold hlA
  by_cases h1 : 64 < xs.length
  · rw [if_pos h1]
    exact len_m n c A (by omega) w
  · rw [if_neg h1]
    by_cases h2 : ofE xs = 0
    · rw [if_neg (by simpa using h2)]
      obtain ⟨os, rfl, hb⟩ := ofE_zero xs h2
      rw [ns_length] at hn h1
      rw [ns_nat]
      exact len_ok os n hn (by omega) hb A c w h
    · rw [if_pos (by simpa using h2)]
      exact len_o n c A (by omega) _ h2 w (often_any xs n hn hn2 A c w h)
end

section
set_option maxRecDepth 100000
set_option linter.unusedVariables false
open Go.RowKit Go.Shelf

theorem eachE_two {α : Type} (f : α → Int) (h : ∀ x, f x = 0 ∨ f x = 3) : ∀ l, eachE f l = 0 ∨ eachE f l = 3
  | [] => .inl rfl
  | x :: t => by
    unfold eachE
    rcases h x with h1 | h1
    · rw [if_pos h1]; exact eachE_two f h t
    · rw [if_neg (by omega)]; exact .inr h1
set_option maxHeartbeats 2000000 in
theorem count_f (n c : Nat) (m e0 e1 : Int) (hm : rg 64 m = 0) (A : Option Addr) (w : World)
    (hE : ∀ V, Below (w.heap.size + 1) (w.alloc (.cells #[.int .i64 m] 3)) V → Calls Tryz.prog 46 #[.slice A n c, .func (.func 131) #[] #[.pointer (some ⟨w.heap.size, 0, none⟩)]] V fun e w' => e = .returned (.int .i64 e0) ∧ Below V.heap.size V w')
    (h : (e0 ≠ 0 ∧ e1 = e0) ∨ (e0 = 0 ∧ 1000 < n ∧ e1 = 2)) :
    Calls Tryz.prog 91 #[.slice A n c, .int .i64 m] w (CntE w e1) := by
  have HR := Lib.hid (range2 0 (decide (0 ≤ m)) (decide (m ≤ 64)) 0 (by rw [rg_eq 64 m]; exact hm))
  have HV : Hid (Below w.heap.size w (w.alloc (.cells #[.int .i64 m] 3)) ∧ (w.alloc (.cells #[.int .i64 m] 3)).heap.size = w.heap.size + 1 ∧ ∀ w', Below (w.heap.size + 1) (w.alloc (.cells #[.int .i64 m] 3)) w' → w'.cell? ⟨w.heap.size, 0, none⟩ = some (.int .i64 m)) := ⟨one_below _ _, by simp, fun w' h => box_here w w' m h⟩
  have HE := Lib.hid hE; clear hE hm
  rcases h with ⟨h0, rfl⟩ | ⟨rfl, hn, rfl⟩
  · have t0 : (e1 != 0) = true := by simpa using h0
    clear h0
    go_enter Tryz.func91, Tryz.ntmps91
    go_wp2_with fail
    generalize w.alloc (.cells #[.int .i64 m] 3) = V0 at *
    refine (HR.out V0 _ HV.out.2.1).mono ?_
    rintro e w1 ⟨rfl, b1⟩
    have HB1 : Hid (Below (w.heap.size + 1) V0 w1) := by rw [HV.out.2.1] at b1; exact b1
    clear b1
    go_wp2_with fail
    refine (HE.out w1 HB1.out).mono ?_
    rintro e w2 ⟨rfl, b2⟩
    have HB2 : Hid (Below (w.heap.size + 1) V0 w2) := HB1.out.trans (b2.mono (by have := HB1.out.size; have := HV.out.2.1; omega))
    clear b2
    go_wp2
    go_ret2
    exact ⟨rfl, HV.out.1.trans (HB2.out.mono (by omega))⟩
  · have t0 : decide ((1000 : Int) < (n : Int)) = true := by simp; omega
    have t1 : decide (1000 < n) = true := by simp; omega
    clear hn
    go_enter Tryz.func91, Tryz.ntmps91
    go_wp2_with fail
    generalize w.alloc (.cells #[.int .i64 m] 3) = V0 at *
    refine (HR.out V0 _ HV.out.2.1).mono ?_
    rintro e w1 ⟨rfl, b1⟩
    have HB1 : Hid (Below (w.heap.size + 1) V0 w1) := by rw [HV.out.2.1] at b1; exact b1
    clear b1
    go_wp2_with fail
    refine (HE.out w1 HB1.out).mono ?_
    rintro e w2 ⟨rfl, b2⟩
    have HB2 : Hid (Below (w.heap.size + 1) V0 w2) := HB1.out.trans (b2.mono (by have := HB1.out.size; have := HV.out.2.1; omega))
    clear b2
    go_wp2
    go_ret2
    exact ⟨rfl, HV.out.1.trans (HB2.out.mono (by omega))⟩
/-- The error of count. -/
def cnE (xs : List Int) (m : Int) : Int := if rg 64 m ≠ 0 then 3 else if eachE (rb m) xs ≠ 0 then 3 else if 1000 < xs.length then 2 else 0
theorem count_e (xs : List Int) (n : Nat) (hn : xs.length = n) (hn2 : n ≤ 9223372036854775807) (m : Int) (he : cnE xs m ≠ 0) (A : Option Addr) (c : Nat) (w : World) (h : RdV w w.heap.size A (zc xs)) :
    Calls Tryz.prog 91 #[.slice A n c, .int .i64 m] w (CntE w (cnE xs m)) := by
  unfold cnE at he ⊢
  by_cases h1 : rg 64 m = 0
  · rw [if_neg (by omega)] at he ⊢
    refine count_f n c m (eachE (rb m) xs) _ h1 A w (fun V hV => signs_each xs n hn hn2 m A c w h V hV) ?_
    by_cases h2 : eachE (rb m) xs = 0
    · rw [if_neg (by omega)] at he ⊢
      by_cases h3 : 1000 < xs.length
      · rw [if_pos h3]; exact .inr ⟨h2, by omega, rfl⟩
      · rw [if_neg h3] at he; exact absurd rfl he
    · rw [if_pos h2]
      rcases eachE_two (rb m) (rb_or m) xs with h3 | h3
      · exact absurd h3 h2
      · exact .inl ⟨h2, h3.symm⟩
  · rw [if_pos h1]
    exact count_m n c m h1 A w
theorem cnE_zero (xs : List Int) (m : Int) (h : cnE xs m = 0) : ∃ (k : Nat) (ss : List Nat), m = (k : Int) ∧ k ≤ 64 ∧ xs = ns ss ∧ ss.length ≤ 1000 ∧ ∀ x ∈ ss, x < k := by
  unfold cnE at h
  by_cases h1 : rg 64 m = 0
  · rw [if_neg (by omega)] at h
    by_cases h2 : eachE (rb m) xs = 0
    · rw [if_neg (by omega)] at h
      by_cases h3 : 1000 < xs.length
      · rw [if_pos h3] at h; omega
      · rw [rg_zero] at h1
        rw [eachE_zero] at h2
        refine ⟨m.toNat, xs.map Int.toNat, by omega, by omega, ?_, by rw [List.length_map]; omega, ?_⟩
        · unfold ns
          rw [List.map_map]
          conv => lhs; rw [← List.map_id xs]
          refine List.map_congr_left fun x hx => ?_
          have := (rb_zero m x).1 (h2 x hx)
          simp only [id, Function.comp]
          omega
        · intro y hy
          obtain ⟨x, hx, rfl⟩ := List.mem_map.1 hy
          have := (rb_zero m x).1 (h2 x hx)
          omega
    · rw [if_pos h2] at h; omega
  · rw [if_pos h1] at h; omega
end

section
set_option maxRecDepth 100000
set_option linter.unusedVariables false
open Go.RowKit Go.Shelf Go.Sort

theorem cat_take (l ss : List Nat) (i : Nat) : (cat l (ss.take i)).length ≤ (cat l ss).length := by
  conv => rhs; rw [← List.take_append_drop i ss]
  simp only [cat, List.flatMap_append, List.length_append]
  omega
/-- At each round's head: the codes of the first i signs are joined. -/
def EnRel (l ss : List Nat) (Ba : Nat) (w1 : World) (p : Value) (wr : World) : Prop :=
  ∃ (i : Nat) (Aa : Option Addr) (ca : Nat), i ≤ ss.length ∧ p = .int .i64 (i : Int) ∧
    wr.heap[Ba]? = some (.cells #[.int .i64 ((cat l (ss.take i)).length : Int), .slice Aa (pack (cat l (ss.take i))).length ca] 35 (0, 0)) ∧ Rd wr wr.heap.size Aa (pack (cat l (ss.take i))) ∧ Below w1.heap.size w1 wr

set_option maxHeartbeats 4000000 in
theorem encode_ok (l : List Nat) (n1 : Nat) (hn : l.length = n1) (h64 : n1 ≤ 64) (h24 : ∀ x ∈ l, x ≤ 24) (hr : tkn l ≤ 16777216) (A1 : Option Addr) (c1 : Nat) (ss : List Nat) (n2 : Nat) (hm : ss.length = n2) (hm2 : n2 ≤ 1000) (hss : ∀ s ∈ ss, s < n1) (htot : (cat l ss).length ≤ 8192) (A2 : Option Addr) (c2 : Nat) (w : World) (h1 : RdV w w.heap.size A1 (zc (ns l))) (h2 : RdV w w.heap.size A2 (zc (ns ss))) :
    Calls Tryz.prog 92 #[.slice A2 n2 c2, .slice A1 n1 c1] w (Gave w (cat l ss) 0) := by
  obtain ⟨w0, hw0⟩ : ∃ w0, w.alloc (.cells #[.int .i64 0, .slice none 0 0] 35) = w0 := ⟨_, rfl⟩
  have HW0 : Hid (Below w.heap.size w w0 ∧ w0.heap.size = w.heap.size + 1 ∧ w0.heap[w.heap.size]? = some (.cells #[.int .i64 0, .slice none 0 0] 35 (0, 0))) := by
    rw [← hw0]; exact ⟨one_below _ _, by simp, World.alloc_heap_new w _⟩
  have HC : Hid (Calls Tryz.prog 50 #[.slice A1 n1 c1] w0 (GotC w0 (codes l))) := codes_ok l n1 hn h64 h24 hr A1 c1 w0 (h1.on HW0.out.1)
  have HX := Lib.hid h2; have HM := Lib.hid hm
  have HN := Lib.hid hn
  have HSs := Lib.hid hss; have HTot := Lib.hid htot
  have HCL : Hid ((codes l).length = n1) := by show _ = _; rw [codes_length, hn]
  have HLen : Hid (∀ s, s < n1 → (codOf (words l) s).length ≤ 24) := by
    intro s hs
    rw [codOf_len (words_ok l h24) (by omega)]
    exact h24 _ (at_mem l s (by omega))
  clear h1 h2 hm hn hr h24 hss htot
  go_enter Tryz.func92, Tryz.ntmps92
  go_wp2_with fail
  refine HC.out.mono ?_
  rintro e w1 ⟨Ac, cc, bs, rfl, hbs, rr, b1⟩
  rw [HCL.out]
  have HRR := Lib.hid rr; have HBs := Lib.hid hbs; have HB1 := Lib.hid b1
  clear rr hbs b1
  have HLow : Hid (Below w.heap.size w w1) := HW0.out.1.trans (HB1.out.mono (by have := HW0.out.2.1; omega))
  have HCell : Hid (∀ s, s < n1 → ∃ y : Bx, (bs.map rx)[s]? = some (rx y) ∧ y.1 = codOf (words l) s) := by
    intro i hi
    have e1 : (bs.map (fun x : Bx => x.1))[i]? = some (codOf (words l) i) := by
      rw [HBs.out]
      have := codes_get l (show i < l.length by rw [HN.out]; exact hi)
      rw [List.getElem?_eq_getElem (by rw [HCL.out]; exact hi)] at this ⊢
      exact congrArg some this
    rw [List.getElem?_map] at e1
    obtain ⟨y, hy, hy2⟩ := Option.map_eq_some_iff.1 e1
    exact ⟨y, by rw [List.getElem?_map, hy]; rfl, hy2⟩
  clear hw0
  go_wp2
  go_loopw [23] (fun p wr => EnRel l ss w1.heap.size w1 p wr) (fun p _ => n2 - (intOf p).toNat)
  case atStart => exact ⟨0, none, 0, Nat.zero_le _, rfl, (by have e := World.alloc_heap_new w1 (.cells #[.int .i64 0, .slice none 0 0] 35); simpa [cat, pack_nil] using e), .inl (by simp [cat, pack_nil]), one_below w1 _⟩
  case round =>
    obtain ⟨i, Aa, ca, him, rfl, hbox, hrd, hbel⟩ := hrel
    rw [HM.out] at him
    have HBox := Lib.hid hbox; have HRd := Lib.hid hrd; have HBel := Lib.hid hbel
    clear hbox hrd
    by_cases hlt : i < n2
    · have hil : i < ss.length := by rw [HM.out]; exact hlt
      obtain ⟨bx, ox, rfl, hbx, kx⟩ := ((HX.out.on HLow.out).below hbel hbel.size).at_ (ns_get ss i hil)
      have hsn := HSs.out _ (at_mem ss i hil)
      have htk := take_snoc ss i hil
      have hct := cat_take l ss i
      have hct2 := cat_take l ss (i + 1)
      rw [htk] at hct2
      generalize ss[i]?.getD 0 = s at *
      have HTk := Lib.hid htk
      obtain ⟨y, hy, ey⟩ := HCell.out s hsn
      obtain ⟨b, off, rfl, hb, k0, k1, k2⟩ := (HRR.out.below HBel.out HBel.out.size).at_ hy
      have hC24 := HLen.out s hsn
      obtain ⟨yC, As, cs⟩ := y
      simp only [rx] at k0 k1 k2 ey
      have hcat := cat_snoc l (ss.take i) s
      rw [← ey] at hcat hC24
      have hjl : (cat l (ss.take i)).length + yC.length ≤ 8192 := by
        have := HTot.out
        rw [hcat, List.length_append] at hct2; omega
      have HJ : Hid (∀ V, Below wr.heap.size wr V → Calls Tryz.prog 41 #[.agg #[.int .i64 ((cat l (ss.take i)).length : Int), .slice Aa (pack (cat l (ss.take i))).length ca], .agg #[.int .i64 (yC.length : Int), .slice As (pack yC).length cs]] V (fun e w' => ∃ (A5 : Option Addr) (c5 : Nat), e = .returned (.tuple #[.agg #[.int .i64 ((cat l (ss.take (i + 1))).length : Int), .slice A5 (pack (cat l (ss.take (i + 1)))).length c5], .int .i64 0]) ∧ Rd w' w'.heap.size A5 (pack (cat l (ss.take (i + 1)))) ∧ Below V.heap.size V w')) := fun V hV =>
        (join_f (cat l (ss.take i)) yC (cat l (ss.take (i + 1))) (by omega) (by omega) Aa As ca cs V (HRd.out.on hV) (k2.below hV hV.size) (by rw [HTk.out]; exact hcat) hjl).mono fun e w' ⟨A5, c5, q1, q2, q3, q4⟩ => ⟨A5, c5, q1, q2, q3⟩
      have hBaw : w1.heap.size < wr.heap.size := (Array.getElem?_eq_some_iff.1 HBox.out).1
      have n0 : wr.cell? ⟨w1.heap.size, 0, none⟩ = some (.int .i64 ((cat l (ss.take i)).length : Int)) := (cell_at HBox.out _).trans rfl
      have n1' : wr.cell? ⟨w1.heap.size, 1, none⟩ = some (.slice Aa (pack (cat l (ss.take i))).length ca) := (cell_at HBox.out _).trans rfl
      clear hcat ey hy k2 hjl hC24 htk hct hct2 hbel hil
      generalize (cat l (ss.take i)).length = Ll at *
      generalize (pack (cat l (ss.take i))).length = NL at *
      generalize yC.length = lc at *
      generalize (pack yC).length = NC at *
      generalize hL2 : (cat l (ss.take (i + 1))).length = L2 at *
      generalize hB2 : pack (cat l (ss.take (i + 1))) = bs2 at *
      have HL2 := Lib.hid hL2; have HB2 := Lib.hid hB2
      clear hL2 hB2
      go_wp2_with fail
      go_region_with (go_at_call 41; refine (HJ.out wr.drew (Below.refl _ wr).drew).mono ?_; rintro e w5 ⟨A5, c5, rfl, r5, B5⟩; have hk1 : Hid (Below wr.heap.size wr w5) := ((Below.refl _ wr).drew).trans B5; have hr5 := Lib.hid r5; have hb7 := (hk1.out.block w1.heap.size hBaw).trans HBox.out; have q0 : w5.cell? ⟨w1.heap.size, 0, none⟩ = some (.int .i64 (Ll : Int)) := (cell_at hb7 _).trans rfl; have q1 : w5.cell? ⟨w1.heap.size, 1, none⟩ = some (.slice Aa NL ca) := (cell_at hb7 _).trans rfl; have f0 := frz_at hb7 0; have f1 := frz_at hb7 1; have Hb7 := Lib.hid hb7; clear B5 r5 hb7)
      all_goals (
        have HBx8 : Hid (((w5.setCell ⟨w1.heap.size, 0, none⟩ (.int .i64 (L2 : Int))).setCell ⟨w1.heap.size, 1, none⟩ (.slice A5 bs2.length c5)).heap[w1.heap.size]? = some (.cells #[.int .i64 (L2 : Int), .slice A5 bs2.length c5] 35 (0, 0))) := by
          show _ = _
          rw [heap_set_same _ _ _ _ _ _ (heap_set_same _ _ _ _ _ _ Hb7.out)]
          simp
        have HRd8 : Hid (Rd ((w5.setCell ⟨w1.heap.size, 0, none⟩ (.int .i64 (L2 : Int))).setCell ⟨w1.heap.size, 1, none⟩ (.slice A5 bs2.length c5)) ((w5.setCell ⟨w1.heap.size, 0, none⟩ (.int .i64 (L2 : Int))).setCell ⟨w1.heap.size, 1, none⟩ (.slice A5 bs2.length c5)).heap.size A5 bs2) := by
          have e1 : (w5.setCell ⟨w1.heap.size, 0, none⟩ (.int .i64 (L2 : Int))).heap[w1.heap.size]? = some (.cells #[.int .i64 (L2 : Int), .slice Aa NL ca] 35 (0, 0)) := by
            rw [heap_set_same _ _ _ _ _ _ Hb7.out]; simp
          have r8 := (hr5.out.setK (i := 0) (.int .i64 (L2 : Int)) Hb7.out).setK (i := 1) (.slice A5 bs2.length c5) e1
          have hsz : ((w5.setCell ⟨w1.heap.size, 0, none⟩ (.int .i64 (L2 : Int))).setCell ⟨w1.heap.size, 1, none⟩ (.slice A5 bs2.length c5)).heap.size = w5.heap.size := by simp [World.setCell]
          show Rd _ _ A5 bs2
          rw [hsz]; exact r8
        have HB8 : Hid (Below w1.heap.size w1 ((w5.setCell ⟨w1.heap.size, 0, none⟩ (.int .i64 (L2 : Int))).setCell ⟨w1.heap.size, 1, none⟩ (.slice A5 bs2.length c5))) := ((HBel.out.trans (hk1.out.mono HBel.out.size)).setCell (Nat.le_refl _) _).setCell (Nat.le_refl _) _
        clear q0 q1 f0 f1
        go_wp2
        go_roundw
        case rel => exact ⟨i + 1, A5, c5, by rw [HM.out]; omega, by go_num, by rw [HL2.out, HB2.out]; exact HBx8.out, by rw [HB2.out]; exact HRd8.out, HB8.out⟩
        case measure => simp [intOf]; omega)
    · have e : ss.take i = ss := List.take_of_length_le (by rw [HM.out]; omega)
      rw [e] at HBox HRd
      have n0 : wr.cell? ⟨w1.heap.size, 0, none⟩ = some (.int .i64 ((cat l ss).length : Int)) := (cell_at HBox.out _).trans rfl
      have n1' : wr.cell? ⟨w1.heap.size, 1, none⟩ = some (.slice Aa (pack (cat l ss)).length ca) := (cell_at HBox.out _).trans rfl
      have hrb : wr.heap[w.heap.size]? = some (.cells #[.int .i64 0, .slice none 0 0] 35 (0, 0)) := by
        have h1 := HW0.out.2.1
        have h2 := HB1.out.size
        rw [hbel.block _ (by omega), HB1.out.block _ (by omega)]
        exact HW0.out.2.2
      obtain ⟨⟨d0, d1, g0, g1⟩, HG⟩ := gv_store (w := w) (w1 := wr) (L := cat l ss) (A := Aa) (c := ca) (r := w.heap.size) HRd.out (Nat.le_refl _) hrb (HLow.out.trans (hbel.mono HLow.out.size))
      clear hrb hbel e
      go_wp2
      exact bodyPost_ret (v := .tuple #[.agg #[.int .i64 ((cat l ss).length : Int), .slice Aa (pack (cat l ss)).length ca], .int .i64 0]) (by simp [results, Tryz.results92, go_sem, d0, d1]) rfl HG.out
end

section
set_option maxRecDepth 100000
set_option linter.unusedVariables false

theorem unS_cat (l : List Nat) (h24 : ∀ x ∈ l, x ≤ 24) (hr : tkn l ≤ 16777216) (ps : List Nat) (hps : ∀ p ∈ ps, p < l.length ∧ codOf (words l) p ≠ []) : ∀ k, k ≤ ps.length → unS l (cat l ps) k = (ps.take k, (cat l (ps.take k)).length, 0)
  | 0, _ => by simp [unS, cat]
  | k + 1, hk => by
    have ih := unS_cat l h24 hr ps hps k (by omega)
    obtain ⟨h1, _, _⟩ := cat_sign l h24 hr ps hps k (by omega)
    have h2 := unS_one l (cat l ps) k (ps.take k) _ ih _ _ _ h1
    rw [h2, if_pos rfl, take_snoc ps k (by omega)]
theorem unA_cat (l : List Nat) (h24 : ∀ x ∈ l, x ≤ 24) (hr : tkn l ≤ 16777216) (ps : List Nat) (hps : ∀ p ∈ ps, p < l.length ∧ codOf (words l) p ≠ []) : unA l (cat l ps) ps.length = (ps, 0) := by
  have h := unS_cat l h24 hr ps hps ps.length (Nat.le_refl _)
  rw [List.take_length] at h
  unfold unA
  rw [h, if_neg (by simp), if_neg (by simp)]
theorem dot_zero : ∀ (k : Nat) (ls : List Nat), dot (List.replicate k 0) ls = 0
  | 0, ls => by simp [dot]
  | k + 1, [] => by simp [List.replicate_succ, dot]
  | k + 1, y :: ls => by rw [List.replicate_succ]; simp only [dot]; rw [dot_zero k ls]; omega
theorem cat_cost (l : List Nat) (h24 : ∀ x ∈ l, x ≤ 24) (ps : List Nat) (hps : ∀ p ∈ ps, p < l.length) : ∀ k, k ≤ ps.length → (cat l (ps.take k)).length = dot (cntL l.length (ps.take k)) l
  | 0, _ => by rw [List.take_zero, cntL_nil, dot_zero]; rfl
  | k + 1, hk => by
    have ih := cat_cost l h24 ps hps k (by omega)
    have hp := hps _ (at_mem ps k (by omega))
    rw [take_snoc ps k (by omega)]
    generalize ps[k]?.getD 0 = p at *
    rw [cat_snoc, List.length_append, ih, codOf_len (words_ok l h24) hp, cntL_snoc _ _ _ hp]
    have hd := dot_set_l (cntL l.length (ps.take k)) l p ((ps.take k).count p + 1) (by rw [cntL_length]; exact hp) hp
    have hc := cntL_at l.length (ps.take k) p hp
    unfold oAt at hd
    rw [hc, Nat.add_mul, Nat.one_mul] at hd
    omega
theorem cat_costs (l : List Nat) (h24 : ∀ x ∈ l, x ≤ 24) (ps : List Nat) (hps : ∀ p ∈ ps, p < l.length) : (cat l ps).length = dot (cntL l.length ps) l := by
  have h := cat_cost l h24 ps hps ps.length (Nat.le_refl _)
  rwa [List.take_length] at h
end

section
set_option maxRecDepth 100000
set_option linter.unusedVariables false

theorem cnt_six (n : Nat) (ps : List Nat) (hps : ∀ p ∈ ps, p < n) : ∀ k, k ≤ ps.length → dot (cntL n (ps.take k)) (List.replicate n 6) = 6 * k
  | 0, _ => by rw [List.take_zero, cntL_nil, dot_zero]
  | k + 1, hk => by
    have ih := cnt_six n ps hps k (by omega)
    have hp := hps _ (at_mem ps k (by omega))
    rw [take_snoc ps k (by omega)]
    generalize ps[k]?.getD 0 = p at *
    rw [cntL_snoc _ _ _ hp]
    have hd := dot_set_l (cntL n (ps.take k)) (List.replicate n 6) p ((ps.take k).count p + 1) (by rw [cntL_length]; exact hp) (by rw [List.length_replicate]; exact hp)
    have hc := cntL_at n (ps.take k) p hp
    have h6 : oAt (List.replicate n 6) p = 6 := by unfold oAt; rw [List.getElem?_replicate, if_pos hp]; rfl
    unfold oAt at hd h6
    rw [hc, h6] at hd
    omega
theorem tkn_six : ∀ n, tkn (List.replicate n 6) = n * 2 ^ 18
  | 0 => by simp [tkn]
  | n + 1 => by rw [List.replicate_succ]; simp only [tkn, tkn_six n]; unfold tk; rw [if_neg (by omega)]; omega
theorem pack_fits (n : Nat) (h64 : n ≤ 64) (ps : List Nat) (hps : ∀ p ∈ ps, p < n) (h1000 : ps.length ≤ 1000) : dot (cntL n ps) (hl (cntL n ps)) ≤ 6000 := by
  have h := cnt_six n ps hps ps.length (Nat.le_refl _)
  rw [List.take_length] at h
  have hle := least (cntL n ps) (List.replicate n 6) (by rw [cntL_length, List.length_replicate]) (fun i o l _ h2 _ => by
    rw [List.getElem?_replicate] at h2
    split at h2
    · cases h2; omega
    · cases h2) (fun l hl => by rw [(List.mem_replicate.1 hl).2]; omega) (by rw [tkn_six]; omega)
  omega
/-- Who stands has a code. -/
theorem cnt_pos (n : Nat) (ps : List Nat) (p : Nat) (hp : p ∈ ps) (hn : p < n) : oAt (cntL n ps) p ≠ 0 := by
  unfold oAt
  rw [cntL_at n ps p hn]
  have := List.count_pos_iff.2 hp
  omega
theorem cnt_code (n : Nat) (ps : List Nat) (hps : ∀ p ∈ ps, p < n) (h24 : ∀ x ∈ hl (cntL n ps), x ≤ 24) : ∀ p ∈ ps, p < (hl (cntL n ps)).length ∧ codOf (words (hl (cntL n ps))) p ≠ [] := by
  intro p hp
  have hpn := hps p hp
  have hlen : p < (hl (cntL n ps)).length := by rw [hl_length, cntL_length]; exact hpn
  refine ⟨hlen, fun he => ?_⟩
  have h1 := codOf_len (words_ok (hl (cntL n ps)) h24) hlen
  rw [he] at h1
  have h2 := (hl_pos (cntL n ps) p (oAt (cntL n ps) p) ((hl (cntL n ps))[p]?.getD 0) (by
    unfold oAt
    rw [List.getElem?_eq_getElem (by rw [cntL_length]; exact hpn)]; rfl) (by rw [List.getElem?_eq_getElem hlen]; rfl)).1 (cnt_pos n ps p hp hpn)
  exact h2 h1.symm
end

section
set_option maxRecDepth 100000
set_option linter.unusedVariables false
open Go.RowKit Go.Shelf Go.Sort

/-- Lengths, bits and an error come back. -/
def PakP (w : World) (l : List Nat) (b : List Bool) (err : Int) (e : Ending) (w' : World) : Prop :=
  ∃ (v : Value) (A : Option Addr) (c : Nat), e = .returned (.tuple #[v, .agg #[.int .i64 (b.length : Int), .slice A (pack b).length c], .int .i64 err]) ∧ w'.ownsRow w.heap.size 3 1 v l.length (zc (ns l)) ∧ Rd w' w'.heap.size A (pack b) ∧ Below w.heap.size w w'
/-- The place of the bits that are handed back, as it was laid and as it is behind calls. -/
theorem res_laid (w V : World) (h : Below (w.alloc (.cells #[.int .i64 0, .slice none 0 0] 35)).heap.size (w.alloc (.cells #[.int .i64 0, .slice none 0 0] 35)) V) :
    Below w.heap.size w V ∧ V.heap[w.heap.size]? = some (.cells #[.int .i64 0, .slice none 0 0] 35 (0, 0)) := by
  have h1 : (w.alloc (.cells #[.int .i64 0, .slice none 0 0] 35)).heap.size = w.heap.size + 1 := World.size_alloc _ _
  refine ⟨(one_below w _).trans (h.mono (by omega)), ?_⟩
  rw [h.block _ (by omega)]; exact World.alloc_heap_new w _
theorem pk_err {w V : World} (k : Int) (hb : Below w.heap.size w V) : PakP w [] [] k (.returned (.tuple #[.slice none 0 0, .agg #[.int .i64 0, .slice none 0 0], .int .i64 k])) ((V.setCell ⟨w.heap.size, 0, none⟩ (.int .i64 0)).setCell ⟨w.heap.size, 1, none⟩ (.slice none 0 0)) :=
  ⟨.slice none 0 0, none, 0, by simp [pack_nil], ⟨rfl, .inl ⟨rfl, rfl⟩⟩, .inl (by simp [pack_nil]), (hb.setCell (p := ⟨w.heap.size, 0, none⟩) (Nat.le_refl _) _).setCell (p := ⟨w.heap.size, 1, none⟩) (Nat.le_refl _) _⟩
theorem res_cells {w V : World} (h : V.heap[w.heap.size]? = some (.cells #[.int .i64 0, .slice none 0 0] 35 (0, 0))) (l : Int) (v : Value) :
    (V.cell? ⟨w.heap.size, 0, none⟩ = some (.int .i64 0) ∧ V.cell? ⟨w.heap.size, 1, none⟩ = some (.slice none 0 0) ∧ V.frozen? ⟨w.heap.size, 0, none⟩ = false ∧ V.frozen? ⟨w.heap.size, 1, none⟩ = false) ∧
    (((V.setCell ⟨w.heap.size, 0, none⟩ (.int .i64 l)).setCell ⟨w.heap.size, 1, none⟩ v).cell? ⟨w.heap.size, 0, none⟩ = some (.int .i64 l) ∧ ((V.setCell ⟨w.heap.size, 0, none⟩ (.int .i64 l)).setCell ⟨w.heap.size, 1, none⟩ v).cell? ⟨w.heap.size, 1, none⟩ = some v) := by
  have e0 : (V.setCell ⟨w.heap.size, 0, none⟩ (.int .i64 l)).heap[w.heap.size]? = some (.cells #[.int .i64 l, .slice none 0 0] 35 (0, 0)) := by rw [heap_set_same _ _ _ _ _ _ h]; rfl
  have e1 : ((V.setCell ⟨w.heap.size, 0, none⟩ (.int .i64 l)).setCell ⟨w.heap.size, 1, none⟩ v).heap[w.heap.size]? = some (.cells #[.int .i64 l, v] 35 (0, 0)) := by rw [heap_set_same _ _ _ _ _ _ e0]; rfl
  exact ⟨⟨(cell_at h 0).trans rfl, (cell_at h 1).trans rfl, frz_at h 0, frz_at h 1⟩, (cell_at e1 0).trans rfl, (cell_at e1 1).trans rfl⟩

theorem pak_drew {w W : World} {l : List Nat} {b : List Bool} {k : Int} {e : Ending} (h : PakP w l b k e W) : PakP w l b k e W.drew := by
  obtain ⟨v, A, c, h1, h2, h3, h4⟩ := h
  exact ⟨v, A, c, h1, h2, h3, h4.drew⟩
set_option maxHeartbeats 2000000 in
theorem pack_c (n c : Nat) (A : Option Addr) (m k : Int) (hk : k ≠ 0) (w : World) (HC : Hid (∀ V, Below w.heap.size w V → Calls Tryz.prog 91 #[.slice A n c, .int .i64 m] V (CntE V k))) :
    Calls Tryz.prog 48 #[.slice A n c, .int .i64 m] w (PakP w [] [] k) := by
  have t0 : (k != 0) = true := by simpa using hk
  clear hk
  go_enter Tryz.func48, Tryz.ntmps48
  go_wp2_with fail
  refine (HC.out _ (one_below w _)).mono ?_
  rintro e w1 ⟨rfl, b1⟩
  obtain ⟨h1, h2⟩ := res_laid w w1 b1
  obtain ⟨⟨d0, d1, f0, f1⟩, r0, r1⟩ := res_cells h2 0 (.slice none 0 0)
  have HB := Lib.hid h1
  clear b1 h1 h2
  go_wp2
  exact bodyPost_ret (v := .tuple #[.slice none 0 0, .agg #[.int .i64 0, .slice none 0 0], .int .i64 k]) (by simp [results, Tryz.results48, go_sem, r0, r1]) rfl (pk_err k HB.out)
set_option maxHeartbeats 2000000 in
theorem pack_l (n c : Nat) (A : Option Addr) (m k : Int) (hk : k ≠ 0) (j : Nat) (os : List Nat) (w : World)
    (HC : Hid (∀ V, Below w.heap.size w V → Calls Tryz.prog 91 #[.slice A n c, .int .i64 m] V fun e w' => ∃ g, e = .returned (.tuple #[.slice (some ⟨g, 0, none⟩) j j, .int .i64 0]) ∧ w'.ownsRow V.heap.size 3 1 (.slice (some ⟨g, 0, none⟩) j j) j (zc (ns os)) ∧ Below V.heap.size V w'))
    (HL : Hid (∀ g V, RdV V V.heap.size (some ⟨g, 0, none⟩) (zc (ns os)) → Calls Tryz.prog 13 #[.slice (some ⟨g, 0, none⟩) j j] V (GotZ V ([], k)))) :
    Calls Tryz.prog 48 #[.slice A n c, .int .i64 m] w (PakP w [] [] k) := by
  have t0 : (k != 0) = true := by simpa using hk
  clear hk
  go_enter Tryz.func48, Tryz.ntmps48
  go_wp2_with fail
  refine (HC.out _ (one_below w _)).mono ?_
  rintro e w1 ⟨g, rfl, o1, b1⟩
  have HR := Lib.hid (own_rdv o1)
  have HB1 := Lib.hid b1
  clear o1 b1
  go_wp2_with fail
  refine (HL.out g w1 HR.out).mono ?_
  rintro e w2 ⟨v, rfl, o2, b2⟩
  obtain ⟨h1, h2⟩ := res_laid w w2 (HB1.out.trans (b2.mono HB1.out.size))
  obtain ⟨⟨d0, d1, f0, f1⟩, r0, r1⟩ := res_cells h2 0 (.slice none 0 0)
  have HB := Lib.hid h1
  clear b2 h1 h2 o2
  go_wp2
  exact bodyPost_ret (v := .tuple #[.slice none 0 0, .agg #[.int .i64 0, .slice none 0 0], .int .i64 k]) (by simp [results, Tryz.results48, go_sem, r0, r1]) rfl (pk_err k HB.out)
set_option maxHeartbeats 4000000 in
theorem pack_g (n c : Nat) (A : Option Addr) (m : Int) (j : Nat) (os l : List Nat) (b : List Bool) (w : World)
    (HC : Hid (∀ V, Below w.heap.size w V → Calls Tryz.prog 91 #[.slice A n c, .int .i64 m] V fun e w' => ∃ g, e = .returned (.tuple #[.slice (some ⟨g, 0, none⟩) j j, .int .i64 0]) ∧ w'.ownsRow V.heap.size 3 1 (.slice (some ⟨g, 0, none⟩) j j) j (zc (ns os)) ∧ Below V.heap.size V w'))
    (HL : Hid (∀ g V, RdV V V.heap.size (some ⟨g, 0, none⟩) (zc (ns os)) → Calls Tryz.prog 13 #[.slice (some ⟨g, 0, none⟩) j j] V (GotZ V (l, 0))))
    (HE : Hid (∀ A1 c1 V, RdV V V.heap.size A1 (zc (ns l)) → Below w.heap.size w V → Calls Tryz.prog 92 #[.slice A n c, .slice A1 l.length c1] V (Gave V b 0))) :
    Calls Tryz.prog 48 #[.slice A n c, .int .i64 m] w (PakP w l b 0) := by
  go_enter Tryz.func48, Tryz.ntmps48
  go_wp2_with fail
  refine (HC.out _ (one_below w _)).mono ?_
  rintro e w1 ⟨g, rfl, o1, b1⟩
  have HR := Lib.hid (own_rdv o1)
  have HB1 := Lib.hid b1
  clear o1 b1
  go_wp2_with fail
  refine (HL.out g w1 HR.out).mono ?_
  rintro e w2 ⟨v, rfl, o2, b2⟩
  obtain ⟨A2, c2, rfl⟩ := own_slice3 o2
  have HB2 := Lib.hid (HB1.out.trans (b2.mono HB1.out.size))
  have HO2 := Lib.hid o2
  have HR2 := Lib.hid (own_rdv o2)
  have HSz : Hid (w.heap.size ≤ w1.heap.size) := by have := HB1.out.size; show _ ≤ _; simp at this; omega
  have HL2 : Hid (Below w.heap.size w w2) := (res_laid w w2 HB2.out).1
  clear b2 o2
  simp only at HO2 HR2
  go_wp2_with fail
  refine (HE.out A2 c2 w2 HR2.out HL2.out).mono ?_
  rintro e w3 ⟨A3, c3, rfl, r3, b3⟩
  have HR3 := Lib.hid r3
  have HB3 := Lib.hid (HB2.out.trans (b3.mono HB2.out.size))
  have HO3 := Lib.hid (own_below HO2.out b3)
  clear r3 b3
  obtain ⟨w4, hw4⟩ : ∃ w4, w3.alloc (.cells #[.int .i64 (b.length : Int), .slice A3 (pack b).length c3] 35) = w4 := ⟨_, rfl⟩
  have hb4 : Below (w.alloc (.cells #[.int .i64 0, .slice none 0 0] 35)).heap.size (w.alloc (.cells #[.int .i64 0, .slice none 0 0] 35)) w4 := by subst hw4; exact HB3.out.alloc HB3.out.size _
  obtain ⟨h1, h2⟩ := res_laid w w4 hb4
  have hx4 : w4.heap[w3.heap.size]? = some (.cells #[.int .i64 (b.length : Int), .slice A3 (pack b).length c3] 35 (0, 0)) := by subst hw4; exact World.alloc_heap_new w3 _
  have x0 : w4.cell? ⟨w3.heap.size, 0, none⟩ = some (.int .i64 (b.length : Int)) := (cell_at hx4 0).trans rfl
  have x1 : w4.cell? ⟨w3.heap.size, 1, none⟩ = some (.slice A3 (pack b).length c3) := (cell_at hx4 1).trans rfl
  obtain ⟨⟨d0, d1, f0, f1⟩, r0, r1⟩ := res_cells h2 (b.length : Int) (.slice A3 (pack b).length c3)
  have HF : Hid (PakP w l b 0 (.returned (.tuple #[.slice A2 l.length c2, .agg #[.int .i64 (b.length : Int), .slice A3 (pack b).length c3], .int .i64 0])) ((w4.setCell ⟨w.heap.size, 0, none⟩ (.int .i64 (b.length : Int))).setCell ⟨w.heap.size, 1, none⟩ (.slice A3 (pack b).length c3))) := by
    have e0 : (w4.setCell ⟨w.heap.size, 0, none⟩ (.int .i64 (b.length : Int))).heap[w.heap.size]? = some (.cells #[.int .i64 (b.length : Int), .slice none 0 0] 35 (0, 0)) := by rw [heap_set_same _ _ _ _ _ _ h2]; rfl
    have hR4 : Rd w4 w4.heap.size A3 (pack b) := by subst hw4; exact HR3.out.on (one_below w3 _)
    have r8 := (hR4.setK (i := 0) (.int .i64 (b.length : Int)) h2).setK (i := 1) (.slice A3 (pack b).length c3) e0
    have hsz : ((w4.setCell ⟨w.heap.size, 0, none⟩ (.int .i64 (b.length : Int))).setCell ⟨w.heap.size, 1, none⟩ (.slice A3 (pack b).length c3)).heap.size = w4.heap.size := by simp [World.setCell]
    refine ⟨.slice A2 l.length c2, A3, c3, rfl, own_base (own_sameC HO3.out fun g hg hv => ?_) HSz.out, by rw [hsz]; exact r8, (h1.setCell (p := ⟨w.heap.size, 0, none⟩) (Nat.le_refl _) _).setCell (p := ⟨w.heap.size, 1, none⟩) (Nat.le_refl _) _⟩
    have hlt := (HO3.out.lt g hv).2
    have hne : g ≠ w.heap.size := by
      have := HB1.out.size
      have e1 : (w.alloc (.cells #[.int .i64 0, .slice none 0 0] 35)).heap.size = w.heap.size + 1 := World.size_alloc _ _
      omega
    rw [Below.heap_setCell _ _ _ _ hne, Below.heap_setCell _ _ _ _ hne]
    subst hw4
    exact Below.heap_alloc _ _ _ hlt
  have q0 : ((w4.setCell ⟨w.heap.size, 0, none⟩ (.int .i64 (b.length : Int))).setCell ⟨w.heap.size, 1, none⟩ (.slice A3 (pack b).length c3)).drew.cell? ⟨w.heap.size, 0, none⟩ = some (.int .i64 (b.length : Int)) := r0
  have q1 : ((w4.setCell ⟨w.heap.size, 0, none⟩ (.int .i64 (b.length : Int))).setCell ⟨w.heap.size, 1, none⟩ (.slice A3 (pack b).length c3)).drew.cell? ⟨w.heap.size, 1, none⟩ = some (.slice A3 (pack b).length c3) := r1
  clear h1 h2 hb4 hx4
  generalize b.length = lb at *
  generalize pack b = pb at *
  generalize l.length = ll at *
  go_wp2_with fail
  try rw [hw4]
  clear hw4
  go_region
  all_goals (
    go_wp2
    exact bodyPost_ret (v := .tuple #[.slice A2 ll c2, .agg #[.int .i64 (lb : Int), .slice A3 pb.length c3], .int .i64 0]) (by simp [results, Tryz.results48, go_sem, q0, q1]) rfl (pak_drew HF.out))
/-- What Pack answers: lengths, bits, an error. -/
def pkA (xs : List Int) (m : Int) : List Nat × List Bool × Int :=
  if cnE xs m ≠ 0 then ([], [], cnE xs m) else if (lnA (cntL m.toNat (xs.map Int.toNat))).2 ≠ 0 then ([], [], (lnA (cntL m.toNat (xs.map Int.toNat))).2) else
    ((lnA (cntL m.toNat (xs.map Int.toNat))).1, cat (lnA (cntL m.toNat (xs.map Int.toNat))).1 (xs.map Int.toNat), 0)
theorem lnA_zero (os : List Nat) (h : (lnA os).2 = 0) : lnA os = (hl os, 0) ∧ ∀ x ∈ hl os, x ≤ 24 := by
  unfold lnA at h ⊢
  by_cases h1 : eachE d8 (ns (hl os)) = 0
  · rw [if_pos h1]
    refine ⟨rfl, fun x hx => ?_⟩
    have := (eachE_zero d8 (ns (hl os))).1 h1 (x : Int) (List.mem_map.2 ⟨x, hx, rfl⟩)
    unfold d8 at this
    split at this <;> omega
  · rw [if_neg h1] at h; simp at h
theorem lnA_err (os : List Nat) (h : (lnA os).2 ≠ 0) : lnA os = ([], (lnA os).2) := by
  unfold lnA at h ⊢
  by_cases h1 : eachE d8 (ns (hl os)) = 0
  · rw [if_pos h1] at h; exact absurd rfl h
  · rw [if_neg h1]
theorem cntL_le (k : Nat) (ss : List Nat) (h : ss.length ≤ 1000) : ∀ x ∈ cntL k ss, x ≤ 1048576 := fun x hx => by
  unfold cntL at hx
  obtain ⟨s, _, rfl⟩ := List.mem_map.1 hx
  have := List.count_le_length (a := s) (l := ss)
  omega
theorem packs_any (xs : List Int) (n : Nat) (hn : xs.length = n) (hn2 : n ≤ 9223372036854775807) (m : Int) (A : Option Addr) (c : Nat) (w : World) (h : RdV w w.heap.size A (zc xs)) :
    Calls Tryz.prog 48 #[.slice A n c, .int .i64 m] w (PakP w (pkA xs m).1 (pkA xs m).2.1 (pkA xs m).2.2) := by
  by_cases h0 : cnE xs m = 0
  · obtain ⟨k, ss, rfl, hk, rfl, hss, hlt⟩ := cnE_zero xs m h0
    rw [ns_length] at hn
    have hC : ∀ V, Below w.heap.size w V → _ := fun V hV => count_ok ss n hn (by omega) k hk hlt A c V (h.on hV)
    have hL : ∀ g V, RdV V V.heap.size (some ⟨g, 0, none⟩) (zc (ns (cntL k ss))) → Calls Tryz.prog 13 #[.slice (some ⟨g, 0, none⟩) k k] V (GotZ V (lnA (cntL k ss))) := fun g V hV => len_ok (cntL k ss) k (cntL_length k ss) hk (cntL_le k ss hss) (some ⟨g, 0, none⟩) k V hV
    unfold pkA
    rw [if_neg (by simpa using h0), ns_nat, Int.toNat_natCast]
    by_cases h1 : (lnA (cntL k ss)).2 = 0
    · obtain ⟨e1, h24⟩ := lnA_zero _ h1
      rw [if_neg (by simpa using h1), e1]
      rw [e1] at hL
      have hhl : (hl (cntL k ss)).length = k := by rw [hl_length, cntL_length]
      refine pack_g n c A (k : Int) k (cntL k ss) (hl (cntL k ss)) (cat (hl (cntL k ss)) ss) w (Lib.hid hC) (Lib.hid hL) (Lib.hid fun A1 c1 V hR hV => ?_)
      refine encode_ok (hl (cntL k ss)) _ rfl (by omega) h24 (hl_room _ h24) A1 c1 ss n hn (by omega) (fun s hs => by rw [hhl]; exact hlt s hs) ?_ A c V hR (h.on hV)
      rw [cat_costs _ h24 ss (fun p hp => by rw [hhl]; exact hlt p hp), hhl]
      have := pack_fits k hk ss hlt hss
      omega
    · rw [if_pos (by simpa using h1)]
      rw [lnA_err _ h1] at hL
      exact pack_l n c A (k : Int) _ h1 k (cntL k ss) w (Lib.hid hC) (Lib.hid hL)
  · unfold pkA
    rw [if_pos (by simpa using h0)]
    exact pack_c n c A m _ h0 w (Lib.hid fun V hV => count_e xs n hn hn2 m h0 A c V (h.on hV))
end

section
set_option maxRecDepth 100000
set_option linter.unusedVariables false
open Go.RowKit Go.Shelf

/-- What lengths up to n take of the room at n. -/
def tkU (n : Nat) : List Nat → Nat
  | [] => 0
  | x :: t => (if x = 0 ∨ n < x then 0 else 2 ^ (n - x)) + tkU n t
theorem tkU_succ (n : Nat) : ∀ l : List Nat, tkU (n + 1) l = 2 * tkU n l + l.count (n + 1)
  | [] => by simp [tkU]
  | x :: t => by
    have ih := tkU_succ n t
    unfold tkU
    rw [ih, List.count_cons]
    by_cases h0 : x = 0
    · subst h0; simp <;> omega
    · by_cases h1 : x ≤ n
      · rw [if_neg (by omega), if_neg (by omega), if_neg (by simp; omega), show n + 1 - x = (n - x) + 1 by omega, Nat.pow_succ]; omega
      · by_cases h2 : x = n + 1
        · subst h2
          rw [if_neg (by omega), if_pos (by omega), if_pos (by simp)]
          simp <;> omega
        · rw [if_pos (by omega), if_pos (by omega), if_neg (by simp; omega)]; omega
theorem tkU_zero : ∀ l : List Nat, tkU 0 l = 0
  | [] => rfl
  | x :: t => by unfold tkU; rw [if_pos (by omega), tkU_zero t]
theorem tkU_24 : ∀ l : List Nat, (∀ x ∈ l, x ≤ 24) → tkU 24 l = tkn l
  | [], _ => rfl
  | x :: t, h => by
    have h1 := h x (by simp)
    unfold tkU tkn tk
    rw [tkU_24 t (fun y hy => h y (by simp [hy]))]
    by_cases h0 : x = 0
    · subst h0; simp
    · rw [if_neg (by omega), if_neg h0]
theorem tkU_bd (n : Nat) (hn : n ≤ 24) : ∀ l : List Nat, tkU n l ≤ l.length * 8388608
  | [] => by simp [tkU]
  | x :: t => by
    have ih := tkU_bd n hn t
    unfold tkU
    have : (if x = 0 ∨ n < x then 0 else 2 ^ (n - x)) ≤ 8388608 := by
      by_cases h : x = 0 ∨ n < x
      · rw [if_pos h]; omega
      · rw [if_neg h]; exact Nat.le_trans (Nat.pow_le_pow_right (by omega) (show n - x ≤ 23 by omega)) (by decide)
    simp only [List.length_cons]; omega
/-- The room that is left at n. -/
def lfU (n : Nat) (l : List Nat) : Int := ((2 ^ n : Nat) : Int) - (tkU n l : Int)
theorem lfU_succ (n : Nat) (l : List Nat) : 2 * lfU n l - (l.count (n + 1) : Int) = lfU (n + 1) l := by
  unfold lfU; rw [tkU_succ, Nat.pow_succ]; omega
theorem lfU_bd (n : Nat) (hn : n ≤ 24) (l : List Nat) (hl : l.length ≤ 64) : -1000000000 ≤ lfU n l ∧ lfU n l ≤ 1000000000 := by
  have h1 := tkU_bd n hn l
  have h2 : (2 : Nat) ^ n ≤ 16777216 := Nat.le_trans (Nat.pow_le_pow_right (by omega) hn) (by decide)
  unfold lfU
  generalize (2 : Nat) ^ n = q at *
  omega
def KrO (l : List Nat) (w : World) (v p : Value) (wr : World) : Prop :=
  ∃ n : Nat, 1 ≤ n ∧ n ≤ 25 ∧ p = .int .i64 (n : Int) ∧ v = .int .i64 (lfU (n - 1) l) ∧ Below w.heap.size w wr
def KrI (l : List Nat) (n : Nat) (L : Int) (w : World) (v p : Value) (wr : World) : Prop :=
  ∃ s : Nat, s ≤ l.length ∧ p = .int .i64 (s : Int) ∧ v = .int .i64 (2 * L - ((l.take s).count n : Int)) ∧ Below w.heap.size w wr
end

section
set_option maxRecDepth 100000
set_option linter.unusedVariables false
open Go.RowKit Go.Shelf

/-- At each round's head: so many bytes are alike. -/
def SameRelI (w : World) (xs ys : List Int) (p : Value) (wr : World) : Prop := ∃ i : Nat, i ≤ xs.length ∧ p = .int .i64 (i : Int) ∧ xs.take i = ys.take i ∧ Below w.heap.size w wr
theorem take_succ_sameI (xs ys : List Int) (i : Nat) (h1 : i < xs.length) (h2 : i < ys.length) (h : xs.take i = ys.take i) (he : xs[i]?.getD 0 = ys[i]?.getD 0) : xs.take (i + 1) = ys.take (i + 1) := by
  rw [List.take_succ_eq_append_getElem h1, List.take_succ_eq_append_getElem h2, h]
  rw [List.getElem?_eq_getElem h1, List.getElem?_eq_getElem h2] at he
  simp only [Option.getD_some] at he
  rw [he]
theorem ne_of_atI (xs ys : List Int) (i : Nat) (he : xs[i]?.getD 0 ≠ ys[i]?.getD 0) : ¬ xs = ys := fun h => he (by rw [h])
set_option maxHeartbeats 400000 in
theorem sameI_len (w : World) (A B : Option Addr) (n m c d : Nat) (hl : n ≠ m) :
    Calls Tryz.prog 26 #[.slice A n c, .slice B m d] w fun e w' => e = .returned (.bool false) ∧ Below w.heap.size w w' := by
  have h1 : ((n : Int) != (m : Int)) = true := by simp; omega
  clear hl
  go_enter Tryz.func26, Tryz.ntmps26
  go_wp2
  go_ret
  exact ⟨rfl, Below.refl _ _⟩
set_option maxHeartbeats 1000000 in
theorem same_ints (w : World) (A B : Option Addr) (c d : Nat) (xs ys : List Int) (n : Nat) (hn : xs.length = n) (hm : ys.length = n) (h2 : n ≤ 9223372036854775807) (hA : RdV w w.heap.size A (zc xs)) (hB : RdV w w.heap.size B (zc ys)) :
    Calls Tryz.prog 26 #[.slice A n c, .slice B n d] w fun e w' => e = .returned (.bool (decide (xs = ys))) ∧ Below w.heap.size w w' := by
  have HA := Lib.hid hA; clear hA
  have HB := Lib.hid hB; clear hB
  have HN := Lib.hid hn; clear hn
  have HM := Lib.hid hm; clear hm
  have t0 : ((n : Int) != (n : Int)) = false := by simp
  go_enter Tryz.func26, Tryz.ntmps26
  go_wp2
  go_loopw [5] (fun p wr => SameRelI w xs ys p wr) (fun p _ => n - (intOf p).toNat)
  case atStart => exact ⟨0, Nat.zero_le _, rfl, rfl, Below.refl _ _⟩
  case round =>
    obtain ⟨i, hi, hp, ht, hb⟩ := hrel
    subst hp
    rw [HN.out] at hi
    by_cases hlt : i < n
    · obtain ⟨b1, o1, rfl, hb1, hc1⟩ := HA.out.at_ (zc_get xs i (by rw [HN.out]; exact hlt))
      obtain ⟨b2, o2, rfl, hb2, hc2⟩ := HB.out.at_ (zc_get ys i (by rw [HM.out]; exact hlt))
      have e1 := (hb.cell (p := ⟨b1, o1 + i, none⟩) hb1).trans hc1
      have e2 := (hb.cell (p := ⟨b2, o2 + i, none⟩) hb2).trans hc2
      have hstep := fun he => take_succ_sameI xs ys i (by rw [HN.out]; exact hlt) (by rw [HM.out]; exact hlt) ht he
      have hno := ne_of_atI xs ys i
      clear hc1 hc2 ht
      generalize xs[i]?.getD 0 = x at *
      generalize ys[i]?.getD 0 = y at *
      by_cases hxy : x = y
      · subst hxy
        have HT := Lib.hid (hstep rfl)
        clear hstep hno
        have t1 : (x != x) = false := by simp
        go_wp2
        go_region
        go_wp2
        go_roundw
        case rel => exact ⟨i + 1, by rw [HN.out]; omega, by go_num, HT.out, hb.drew⟩
        case measure => simp [intOf]; omega
      · have HT := Lib.hid (hno hxy)
        clear hstep hno
        have t1 : (x != y) = true := by simpa using hxy
        clear hxy
        go_wp2
        go_region
        go_wp2
        go_ret
        exact ⟨by rw [decide_eq_false HT.out]; rfl, hb.drew⟩
    · have HT : Hid (xs = ys) := by
        have e : i = n := by omega
        rw [e, List.take_of_length_le (by rw [HN.out]; omega), List.take_of_length_le (by rw [HM.out]; omega)] at ht
        exact ht
      clear ht
      go_wp2
      go_ret
      exact ⟨by rw [decide_eq_true HT.out]; rfl, hb⟩
theorem sameI_any (w : World) (A B : Option Addr) (c d : Nat) (xs ys : List Int) (h2 : xs.length ≤ 9223372036854775807) (hA : RdV w w.heap.size A (zc xs)) (hB : RdV w w.heap.size B (zc ys)) :
    Calls Tryz.prog 26 #[.slice A xs.length c, .slice B ys.length d] w fun e w' => e = .returned (.bool (decide (xs = ys))) ∧ Below w.heap.size w w' := by
  by_cases h : xs.length = ys.length
  · rw [← h]; exact same_ints w A B c d xs ys xs.length rfl h.symm h2 hA hB
  · have e : decide (xs = ys) = false := by rw [decide_eq_false_iff_not]; intro he; exact h (by rw [he])
    rw [e]
    exact sameI_len w A B _ _ c d h

/-- Bits as numbers. -/
def zi (l : List Bool) : List Int := l.map fun b => ((b.toNat : Nat) : Int)
theorem zi_ic (l : List Bool) : zc (zi l) = ic l := by simp [zc, zi, ic]
theorem zi_length (l : List Bool) : (zi l).length = l.length := by simp [zi]
theorem zi_take (l : List Bool) (k : Nat) : (zi l).take k = zi (l.take k) := by simp [zi, List.map_take]
theorem zi_inj {a b : List Bool} (h : zi a = zi b) : a = b := by
  have hi : ∀ x y : Bool, ((x.toNat : Nat) : Int) = ((y.toNat : Nat) : Int) → x = y := by decide
  exact (List.map_inj_right (fun x y => hi x y)).1 h
theorem RdV.takeK {w : World} {B : Nat} {A : Option Addr} {vs : List Value} (h : RdV w B A vs) (k : Nat) : RdV w B A (vs.take k) := by
  rcases h with h | ⟨b, off, e, hb, hc⟩
  · exact .inl (by rw [h]; simp)
  · refine .inr ⟨b, off, e, hb, fun i v hi => hc i v ?_⟩
    rw [List.getElem?_take] at hi
    split at hi
    · exact hi
    · cases hi
end

section
set_option maxRecDepth 100000
set_option linter.unusedVariables false
open Go.RowKit Go.Shelf

theorem cost_k (A A2 : Option Addr) (n m c c2 : Nat) (k : Int) (hk : k ≠ 0) (w : World) (hC : Calls Tryz.prog 53 #[.slice A2 m c2] w fun e w' => e = .returned (.int .i64 k) ∧ Below w.heap.size w w') :
    Calls Tryz.prog 16 #[.slice A n c, .slice A2 m c2] w fun e w' => e = .returned (.tuple #[.int .i64 0, .int .i64 k]) ∧ Below w.heap.size w w' := by
  have HC := Lib.hid hC; clear hC
  have t0 : (k != 0) = true := by simpa using hk
  go_enter Tryz.func16, Tryz.ntmps16
  go_wp2_with fail
  refine HC.out.mono ?_
  rintro e w1 ⟨rfl, b1⟩
  have HB := Lib.hid b1; clear b1
  go_wp2
  go_ret2
  exact ⟨rfl, HB.out⟩
theorem cost_l (A A2 : Option Addr) (n m c c2 : Nat) (hk : n ≠ m) (w : World) (hC : Calls Tryz.prog 53 #[.slice A2 m c2] w fun e w' => e = .returned (.int .i64 0) ∧ Below w.heap.size w w') :
    Calls Tryz.prog 16 #[.slice A n c, .slice A2 m c2] w fun e w' => e = .returned (.tuple #[.int .i64 0, .int .i64 1]) ∧ Below w.heap.size w w' := by
  have HC := Lib.hid hC; clear hC
  have t0 : ((n : Int) != (m : Int)) = true := by simp; omega
  have t1 : (n != m) = true := by simpa using hk
  go_enter Tryz.func16, Tryz.ntmps16
  go_wp2_with fail
  refine HC.out.mono ?_
  rintro e w1 ⟨rfl, b1⟩
  have HB := Lib.hid b1; clear b1
  go_wp2
  go_ret2
  exact ⟨rfl, HB.out⟩
theorem cost_o (A A2 : Option Addr) (n c c2 : Nat) (f : Int) (hk : f ≠ 0) (w : World) (hC : Calls Tryz.prog 53 #[.slice A2 n c2] w fun e w' => e = .returned (.int .i64 0) ∧ Below w.heap.size w w')
    (hO : ∀ V, Below w.heap.size w V → Calls Tryz.prog 43 #[.slice A n c] V fun e w' => e = .returned (.int .i64 f) ∧ Below V.heap.size V w') :
    Calls Tryz.prog 16 #[.slice A n c, .slice A2 n c2] w fun e w' => e = .returned (.tuple #[.int .i64 0, .int .i64 f]) ∧ Below w.heap.size w w' := by
  have HC := Lib.hid hC; clear hC
  have HO := Lib.hid hO; clear hO
  have t0 : (f != 0) = true := by simpa using hk
  go_enter Tryz.func16, Tryz.ntmps16
  go_wp2_with fail
  refine HC.out.mono ?_
  rintro e w1 ⟨rfl, b1⟩
  have HB1 := Lib.hid b1; clear b1
  go_wp2_with fail
  refine (HO.out w1 HB1.out).mono ?_
  rintro e w2 ⟨rfl, b2⟩
  have HB : Hid (Below w.heap.size w w2) := HB1.out.trans (b2.mono HB1.out.size)
  clear b2
  go_wp2
  go_ret2
  exact ⟨rfl, HB.out⟩
/-- The error of Cost. -/
def coE (xs ys : List Int) : Int := if kchk ys ≠ 0 then kchk ys else if xs.length ≠ ys.length then 1 else if ofE xs ≠ 0 then ofE xs else stE (xs.map Int.toNat) (ys.map Int.toNat)
def coV (xs ys : List Int) : Int := if coE xs ys = 0 then (dot (xs.map Int.toNat) (ys.map Int.toNat) : Int) else 0
theorem coE_ok (os ls : List Nat) (hn : os.length = ls.length) (h64 : ls.length ≤ 64) (ho : ∀ x ∈ os, x ≤ 1048576) (h24 : ∀ x ∈ ls, x ≤ 24) : coE (ns os) (ns ls) = stE os ls := by
  have h1 : kchk (ns ls) = 0 := kchk_ok ls h64 h24
  have h2 : ofE (ns os) = 0 := ofE_ok os ho
  have h3 : (ns os).length = (ns ls).length := by rw [ns_length, ns_length, hn]
  unfold coE
  rw [if_neg (by omega), if_neg (by omega), if_neg (by omega), ns_nat, ns_nat]
theorem coE_cases (xs ys : List Int) : (kchk ys ≠ 0 ∧ coE xs ys = kchk ys) ∨ (kchk ys = 0 ∧ xs.length ≠ ys.length ∧ coE xs ys = 1) ∨ (kchk ys = 0 ∧ xs.length = ys.length ∧ ofE xs ≠ 0 ∧ coE xs ys = ofE xs) ∨
    (∃ os ls, xs = ns os ∧ ys = ns ls ∧ os.length = ls.length ∧ ls.length ≤ 64 ∧ (∀ x ∈ os, x ≤ 1048576) ∧ ∀ x ∈ ls, x ≤ 24) := by
  by_cases h1 : kchk ys = 0
  · by_cases h2 : xs.length = ys.length
    · by_cases h3 : ofE xs = 0
      · obtain ⟨ls, rfl, h64, h24⟩ := kchk_zero ys h1
        obtain ⟨os, rfl, ho⟩ := ofE_zero xs h3
        refine .inr (.inr (.inr ⟨os, ls, rfl, rfl, ?_, h64, ho, h24⟩))
        simpa [ns] using h2
      · refine .inr (.inr (.inl ⟨h1, h2, h3, ?_⟩))
        unfold coE
        rw [if_neg (by omega), if_neg (by omega), if_pos h3]
    · refine .inr (.inl ⟨h1, h2, ?_⟩)
      unfold coE
      rw [if_neg (by omega), if_pos h2]
  · refine .inl ⟨h1, ?_⟩
    unfold coE
    rw [if_pos h1]
theorem cost_any (xs ys : List Int) (n m : Nat) (hn : xs.length = n) (hm : ys.length = m) (hn2 : n ≤ 9223372036854775807) (hm2 : m ≤ 9223372036854775807) (A A2 : Option Addr) (c c2 : Nat) (w : World) (h : RdV w w.heap.size A (zc xs)) (h2 : RdV w w.heap.size A2 (zc ys)) :
    Calls Tryz.prog 16 #[.slice A n c, .slice A2 m c2] w fun e w' => e = .returned (.tuple #[.int .i64 (coV xs ys), .int .i64 (coE xs ys)]) ∧ Below w.heap.size w w' := by
  have hC := kcheck_any ys m hm hm2 A2 c2 w h2
  rcases coE_cases xs ys with ⟨h1, he⟩ | ⟨h1, h3, he⟩ | ⟨h1, h3, h4, he⟩ | ⟨os, ls, rfl, rfl, hl, h64, ho, h24⟩
  · have hv : coV xs ys = 0 := by unfold coV; rw [if_neg (by omega)]
    rw [hv, he]
    exact cost_k A A2 n m c c2 _ h1 w hC
  · have hv : coV xs ys = 0 := by unfold coV; rw [if_neg (by omega)]
    rw [hv, he]
    rw [h1] at hC
    exact cost_l A A2 n m c c2 (by omega) w hC
  · have hv : coV xs ys = 0 := by unfold coV; rw [if_neg (by omega)]
    rw [hv, he]
    rw [h1] at hC
    obtain rfl : n = m := by omega
    exact cost_o A A2 n c c2 _ h4 w hC (fun V hV => often_any xs n hn hn2 A c V (h.on hV))
  · have hv : coV (ns os) (ns ls) = coA os ls := by unfold coV coA; rw [coE_ok os ls hl h64 ho h24, ns_nat, ns_nat]
    rw [hv, coE_ok os ls hl h64 ho h24]
    rw [ns_length] at hn hm
    obtain rfl : n = m := by omega
    exact cost_ok os ls n hn hm (by omega) ho h24 A A2 c c2 w h h2
end

section
set_option maxRecDepth 100000
set_option linter.unusedVariables false
open Go.RowKit Go.Shelf Go.Sort

set_option maxHeartbeats 1000000 in
theorem unp_c (A1 : Option Addr) (n1 c1 : Nat) (len : Int) (A2 : Option Addr) (N c2 : Nat) (n : Int) (w : World) (k : Int) (hk : k ≠ 0) (hC : ∀ V, Below w.heap.size w V → Calls Tryz.prog 50 #[.slice A1 n1 c1] V (CoP V k)) :
    Calls Tryz.prog 49 #[.slice A1 n1 c1, .agg #[.int .i64 len, .slice A2 N c2], .int .i64 n] w (CoP w k) := by
  have HC := Lib.hid hC; clear hC
  have t0 : (k != 0) = true := by simpa using hk
  clear hk
  go_enter Tryz.func49, Tryz.ntmps49
  go_wp2_with fail
  generalize hV : w.alloc (.cells #[.int .i64 len, .slice A2 N c2] 35) = V0
  have HV : Hid (Below w.heap.size w V0) := hV ▸ one_below _ _
  clear hV
  refine (HC.out V0 HV.out).mono ?_
  rintro e w1 ⟨rfl, b1⟩
  have HB1 : Hid (Below w.heap.size w w1) := HV.out.trans (b1.mono HV.out.size)
  clear b1
  go_wp2
  go_ret2
  exact ⟨rfl, HB1.out⟩
set_option maxHeartbeats 1000000 in
theorem unp_r (A1 : Option Addr) (n1 c1 : Nat) (len : Int) (A2 : Option Addr) (N c2 : Nat) (n : Int) (w : World) (ls : List (List Bool)) (hl : ls.length = n1) (ec e0 : Int) (he : rgE ec [decide (0 ≤ n), decide (n ≤ 1000)] = e0) (h0 : e0 ≠ 0) (hC : ∀ V, Below w.heap.size w V → Calls Tryz.prog 50 #[.slice A1 n1 c1] V (GotC V ls))
    (hB : ∀ V, Below w.heap.size w V → Calls Tryz.prog 59 #[.agg #[.int .i64 len, .slice A2 N c2]] V fun e w' => e = .returned (.int .i64 ec) ∧ Below V.heap.size V w') :
    Calls Tryz.prog 49 #[.slice A1 n1 c1, .agg #[.int .i64 len, .slice A2 N c2], .int .i64 n] w (CoP w e0) := by
  have HC := Lib.hid hC; clear hC
  have HB := Lib.hid hB; clear hB
  have HL := Lib.hid hl; clear hl
  have HR := Lib.hid (range2 ec (decide (0 ≤ n)) (decide (n ≤ 1000)) e0 he)
  have t0 : (e0 != 0) = true := by simpa using h0
  clear h0 he
  go_enter Tryz.func49, Tryz.ntmps49
  go_wp2_with fail
  generalize hV : w.alloc (.cells #[.int .i64 len, .slice A2 N c2] 35) = V0
  have HV : Hid (Below w.heap.size w V0) := hV ▸ one_below _ _
  have HVs : Hid (w.heap.size + 1 = V0.heap.size) := by show _ = _; rw [← hV, World.size_alloc]
  have HK : Hid (∀ w' : World, Below V0.heap.size V0 w' → w'.cell? ⟨w.heap.size, 0, none⟩ = some (.int .i64 len) ∧ w'.cell? ⟨w.heap.size, 1, none⟩ = some (.slice A2 N c2)) := by
    subst hV
    exact fun w' h => box_at (by rwa [World.size_alloc] at h)
  clear hV
  refine (HC.out V0 HV.out).mono ?_
  rintro e w1 ⟨Ac, cc, bs, rfl, _hbs, _rr, b1⟩
  rw [HL.out]
  have HB1 := Lib.hid b1
  clear _rr _hbs b1 HC
  obtain ⟨p1, q1⟩ := HK.out w1 HB1.out
  go_wp2_with fail
  refine (HB.out w1 (HV.out.trans (HB1.out.mono HV.out.size))).mono ?_
  rintro e w2 ⟨rfl, b2⟩
  have HB2 : Hid (Below V0.heap.size V0 w2) := HB1.out.trans (b2.mono HB1.out.size)
  clear b2 p1 q1
  go_wp2_with fail
  refine (HR.out w2 _ rfl).mono ?_
  rintro e w3 ⟨rfl, b3⟩
  have HB3 : Hid (Below V0.heap.size V0 w3) := HB2.out.trans (b3.mono HB2.out.size)
  have HL3 : Hid (Below w.heap.size w w3) := HV.out.trans (HB3.out.mono HV.out.size)
  clear b3
  go_wp2
  go_ret2
  exact ⟨rfl, HL3.out⟩
end

section
set_option maxRecDepth 100000
set_option linter.unusedVariables false
open Go.RowKit Go.Shelf

theorem al1 {w V : World} {c0 : Array Value} {t0 : TypeId} (h : Below (w.alloc (.cells c0 t0)).heap.size (w.alloc (.cells c0 t0)) V) :
    Below w.heap.size w V ∧ w.heap.size < V.heap.size ∧ V.heap[w.heap.size]? = some (.cells c0 t0 (0, 0)) := by
  have h1 : (w.alloc (.cells c0 t0)).heap.size = w.heap.size + 1 := World.size_alloc _ _
  have hb : Below w.heap.size w (w.alloc (.cells c0 t0)) := one_below w _
  refine ⟨hb.trans (h.mono (by omega)), by have := h.size; omega, ?_⟩
  rw [h.block _ (by omega)]; exact World.alloc_heap_new w _
theorem low2 (w : World) (o p : Obj) : Below w.heap.size w ((w.alloc o).alloc p) := ((Below.refl _ w).alloc (Nat.le_refl _) _).alloc (by simp) _
theorem low3 (w : World) (o p q : Obj) : Below w.heap.size w (((w.alloc o).alloc p).alloc q) := (((Below.refl _ w).alloc (Nat.le_refl _) _).alloc (by simp) _).alloc (by simp; omega) _
theorem al2 {w V : World} {c0 c1 : Array Value} {t0 t1 : TypeId} (h : Below ((w.alloc (.cells c0 t0)).alloc (.cells c1 t1)).heap.size ((w.alloc (.cells c0 t0)).alloc (.cells c1 t1)) V) :
    Below w.heap.size w V ∧ w.heap.size + 1 < V.heap.size ∧ V.heap[w.heap.size]? = some (.cells c0 t0 (0, 0)) ∧ V.heap[w.heap.size + 1]? = some (.cells c1 t1 (0, 0)) := by
  have h1 : (w.alloc (.cells c0 t0)).heap.size = w.heap.size + 1 := World.size_alloc _ _
  have h2 : ((w.alloc (.cells c0 t0)).alloc (.cells c1 t1)).heap.size = w.heap.size + 2 := by rw [World.size_alloc, h1]
  obtain ⟨g1, g2, g3⟩ := al1 h
  refine ⟨(one_below w _).trans (g1.mono (by omega)), by omega, ?_, by rw [h1] at g3; exact g3⟩
  rw [g1.block _ (by omega)]; exact World.alloc_heap_new w _
theorem al3 {w V : World} {c0 c1 c2 : Array Value} {t0 t1 t2 : TypeId} (h : Below (((w.alloc (.cells c0 t0)).alloc (.cells c1 t1)).alloc (.cells c2 t2)).heap.size (((w.alloc (.cells c0 t0)).alloc (.cells c1 t1)).alloc (.cells c2 t2)) V) :
    Below w.heap.size w V ∧ w.heap.size + 1 + 1 < V.heap.size ∧ V.heap[w.heap.size]? = some (.cells c0 t0 (0, 0)) ∧ V.heap[w.heap.size + 1]? = some (.cells c1 t1 (0, 0)) ∧ V.heap[w.heap.size + 1 + 1]? = some (.cells c2 t2 (0, 0)) := by
  have h1 : (w.alloc (.cells c0 t0)).heap.size = w.heap.size + 1 := World.size_alloc _ _
  have h2 : ((w.alloc (.cells c0 t0)).alloc (.cells c1 t1)).heap.size = w.heap.size + 1 + 1 := by rw [World.size_alloc, h1]
  obtain ⟨g1, g2, g3⟩ := al1 h
  obtain ⟨k1, k2, k3, k4⟩ := al2 g1
  rw [h2] at g2 g3
  exact ⟨k1, g2, k3, k4, g3⟩

theorem lit_row (L : List Nat) (w : World) : RdV (w.alloc (.cells (zc (ns L)).toArray 3)) (w.alloc (.cells (zc (ns L)).toArray 3)).heap.size (some ⟨w.heap.size, 0, none⟩) (zc (ns L)) := by
  refine .inr ⟨w.heap.size, 0, rfl, by simp, fun i v hi => ?_⟩
  rw [cell_at (World.alloc_heap_new w (.cells (zc (ns L)).toArray 3)), Nat.zero_add]
  simpa using hi
/-- Numbers and an error come back. -/
def GzM (w : World) (n : Nat) (l : List Nat) (err : Int) (e : Ending) (w' : World) : Prop :=
  ∃ A c, e = .returned (.tuple #[.slice A n c, .int .i64 err]) ∧ n ≤ c ∧ (A = none → c = 0) ∧ RdV w' w'.heap.size A (zc (ns l)) ∧ Below w.heap.size w w'
theorem own_caps {w : World} {base n c : Nat} {e : TypeId} {A : Option Addr} {xs : List Value} (h : w.ownsRow base e 1 (.slice A n c) n xs) : n ≤ c := by
  rcases h.2 with ⟨h, h0⟩ | ⟨g, cap, cur, h, _, _, h1, _⟩
  · omega
  · simp only [Value.slice.injEq] at h; omega
theorem gzM {w : World} {n : Nat} {r : List Nat × Int} {e : Ending} {w' : World} (h : GotZ w r e w') (hn : r.1.length = n) : GzM w n r.1 r.2 e w' := by
  obtain ⟨v, h1, h2, h3⟩ := h
  rw [hn] at h2
  obtain ⟨A, c, rfl⟩ := own_slice3 h2
  exact ⟨A, c, h1, own_caps h2, own_none h2, own_rdv h2, h3⟩
/-- Lengths, bits and an error come back. -/
def PkM (w : World) (n : Nat) (l : List Nat) (lb : Int) (nb : Nat) (bb : List Nat) (err : Int) (e : Ending) (w' : World) : Prop :=
  ∃ A c A3 c3, e = .returned (.tuple #[.slice A n c, .agg #[.int .i64 lb, .slice A3 nb c3], .int .i64 err]) ∧ RdV w' w'.heap.size A (zc (ns l)) ∧ Rd w' w'.heap.size A3 bb ∧ Below w.heap.size w w'
theorem pkM {w : World} {n : Nat} {l : List Nat} {b : List Bool} {err : Int} {e : Ending} {w' : World} (h : PakP w l b err e w') (hn : l.length = n) : PkM w n l (b.length : Int) (pack b).length (pack b) err e w' := by
  obtain ⟨v, A3, c3, h1, h2, h3, h4⟩ := h
  rw [hn] at h2
  obtain ⟨A, c, rfl⟩ := own_slice3 h2
  exact ⟨A, c, A3, c3, h1, own_rdv h2, h3, h4⟩
theorem sameI_x (xs : List Int) (n : Nat) (hn : xs.length = n) (h2 : n ≤ 9223372036854775807) (A B : Option Addr) (c d : Nat) (w : World) (hA : RdV w w.heap.size A (zc xs)) (hB : RdV w w.heap.size B (zc xs)) :
    Calls Tryz.prog 26 #[.slice A n c, .slice B n d] w fun e w' => e = .returned (.bool true) ∧ Below w.heap.size w w' := by
  subst hn
  have h := sameI_any w A B c d xs xs h2 hA hB
  simpa using h
theorem hlA_zero (xs : List Int) (h : (hlA xs).2 = 0) : ∃ os : List Nat, xs = ns os ∧ os.length ≤ 64 ∧ (∀ x ∈ os, x ≤ 1048576) ∧ hlA xs = (hl os, 0) ∧ ∀ x ∈ hl os, x ≤ 24 := by
  unfold hlA at h ⊢
  by_cases h1 : 64 < xs.length
  · rw [if_pos h1] at h; simp at h
  · rw [if_neg h1] at h ⊢
    by_cases h2 : ofE xs = 0
    · rw [if_neg (by simpa using h2)] at h ⊢
      obtain ⟨os, rfl, hb⟩ := ofE_zero xs h2
      rw [ns_nat] at h ⊢
      obtain ⟨e1, h24⟩ := lnA_zero os h
      exact ⟨os, rfl, by rw [ns_length] at h1; omega, hb, e1, h24⟩
    · rw [if_pos (by simpa using h2)] at h
      exact absurd h h2
theorem hlA_err (xs : List Int) (h : (hlA xs).2 ≠ 0) : hlA xs = ([], (hlA xs).2) := by
  unfold hlA at h ⊢
  by_cases h1 : 64 < xs.length
  · rw [if_pos h1]
  · rw [if_neg h1] at h ⊢
    by_cases h2 : ofE xs = 0
    · rw [if_neg (by simpa using h2)] at h ⊢
      exact lnA_err _ h
    · rw [if_pos (by simpa using h2)]
theorem hlA_nat (os : List Nat) (h64 : os.length ≤ 64) (hb : ∀ x ∈ os, x ≤ 1048576) : hlA (ns os) = lnA os := by
  unfold hlA
  rw [if_neg (by rw [ns_length]; omega), if_neg (by rw [ofE_ok os hb]; simp), ns_nat]
theorem lnA_two (os : List Nat) : ((lnA os).2 = 0 ∧ lnA os = (hl os, 0) ∧ ∀ x ∈ hl os, x ≤ 24) ∨ lnA os = ([], 8) := by
  by_cases h : (lnA os).2 = 0
  · exact .inl ⟨h, (lnA_zero os h).1, (lnA_zero os h).2⟩
  · right
    have h2 := lnA_err os h
    unfold lnA at h h2 ⊢
    by_cases h1 : eachE d8 (ns (hl os)) = 0
    · rw [if_pos h1] at h; exact absurd rfl h
    · rw [if_neg h1]
theorem coE_hl (os : List Nat) (h64 : os.length ≤ 64) (hb : ∀ x ∈ os, x ≤ 1048576) (h24 : ∀ x ∈ hl os, x ≤ 24) : coE (ns os) (ns (hl os)) = 0 ∧ coV (ns os) (ns (hl os)) = (dot os (hl os) : Int) := by
  have hst : ∀ (ls qs : List Nat), (∀ i o l : Nat, ls[i]? = some o → qs[i]? = some l → (o ≠ 0 → l ≠ 0)) → stE ls qs = 0 := by
    intro ls
    induction ls with
    | nil => intro qs _; cases qs <;> rfl
    | cons o t ih =>
      intro qs h
      cases qs with
      | nil => rfl
      | cons l r =>
        have h0 := h 0 o l rfl rfl
        have ht := ih r (fun i o l h1 h2 => h (i + 1) o l (by simpa using h1) (by simpa using h2))
        unfold stE
        rw [ht]
        split
        · rename_i hc
          exact absurd hc.2 (h0 hc.1)
        · rfl
  have h1 := coE_ok os (hl os) (by rw [hl_length]) (by rw [hl_length]; exact h64) hb h24
  have h2 := hst os (hl os) (fun i o l h1 h2 => (hl_pos os i o l h1 h2).1)
  have h3 : coE (ns os) (ns (hl os)) = 0 := by rw [h1, h2]
  refine ⟨h3, ?_⟩
  unfold coV
  rw [if_pos h3, ns_nat, ns_nat]
end

section
set_option maxRecDepth 100000
set_option linter.unusedVariables false
open Go.RowKit Go.Shelf

theorem hlA_ok (os : List Nat) (h64 : os.length ≤ 64) (hb : ∀ x ∈ os, x ≤ 1048576) (l : List Nat) (h : hl os = l) (h24 : ∀ x ∈ l, x ≤ 24) : hlA (ns os) = (l, 0) := by
  subst h
  unfold hlA
  rw [if_neg (by rw [ns_length]; omega), if_neg (by rw [ofE_ok os hb]; simp), ns_nat]
  unfold lnA
  rw [if_pos (d8_all _ h24)]
theorem hl5 : hl [5, 0, 1, 2, 1] = [1, 0, 3, 2, 3] := by decide +kernel
theorem hl2 : hl [0, 7] = [0, 1] := by decide +kernel
theorem co5 : coE (ns [5, 0, 1, 2, 1]) (ns [1, 0, 3, 2, 3]) = 0 ∧ coV (ns [5, 0, 1, 2, 1]) (ns [1, 0, 3, 2, 3]) = 15 := by decide +kernel
def lb3 : List Bool := (pkA (ns [0, 2, 0]) 3).2.1
theorem pk3 : pkA (ns [0, 2, 0]) 3 = ([1, 0, 1], [false, true, false], 0) := by decide +kernel
theorem un3 : unA [1, 0, 1] [false, true, false] 3 = ([0, 2, 0], 0) := by decide +kernel
theorem un2 : unA [1, 0, 1] [false, true, false] 2 = ([], 1) := by decide +kernel
theorem pb3 : pack [false, true, false] = [64] := by decide +kernel
theorem tk3 : tkn [1, 0, 1] ≤ 16777216 := by decide +kernel
theorem hb1 (w : World) : Calls Tryz.prog 13 #[.slice (some ⟨w.heap.size, 0, none⟩) 5 5] (w.alloc (.cells #[.int .i64 5, .int .i64 0, .int .i64 1, .int .i64 2, .int .i64 1] 3)) (GzM (w.alloc (.cells #[.int .i64 5, .int .i64 0, .int .i64 1, .int .i64 2, .int .i64 1] 3)) 5 [1, 0, 3, 2, 3] 0) := by
  have h := lengths_any (ns [5, 0, 1, 2, 1]) 5 rfl (by decide) (some ⟨w.heap.size, 0, none⟩) 5 (w.alloc (.cells #[.int .i64 5, .int .i64 0, .int .i64 1, .int .i64 2, .int .i64 1] 3)) (lit_row [5, 0, 1, 2, 1] w)
  rw [hlA_ok [5, 0, 1, 2, 1] (by decide) (by decide) [1, 0, 3, 2, 3] hl5 (by decide)] at h
  exact h.mono fun _ _ q => gzM q rfl
theorem hb2 (A : Option Addr) (c : Nat) (w : World) (hA : RdV w w.heap.size A (zc (ns [1, 0, 3, 2, 3]))) : Calls Tryz.prog 16 #[.slice (some ⟨w.heap.size, 0, none⟩) 5 5, .slice A 5 c] (w.alloc (.cells #[.int .i64 5, .int .i64 0, .int .i64 1, .int .i64 2, .int .i64 1] 3)) fun e w' => e = .returned (.tuple #[.int .i64 15, .int .i64 0]) ∧ Below (w.alloc (.cells #[.int .i64 5, .int .i64 0, .int .i64 1, .int .i64 2, .int .i64 1] 3)).heap.size (w.alloc (.cells #[.int .i64 5, .int .i64 0, .int .i64 1, .int .i64 2, .int .i64 1] 3)) w' := by
  have h := cost_any (ns [5, 0, 1, 2, 1]) (ns [1, 0, 3, 2, 3]) 5 5 rfl rfl (by decide) (by decide) (some ⟨w.heap.size, 0, none⟩) A 5 c (w.alloc (.cells #[.int .i64 5, .int .i64 0, .int .i64 1, .int .i64 2, .int .i64 1] 3)) (lit_row [5, 0, 1, 2, 1] w) (hA.on (one_below w _))
  rw [co5.1, co5.2] at h
  exact h
theorem hb3 (w : World) : Calls Tryz.prog 48 #[.slice (some ⟨w.heap.size, 0, none⟩) 3 3, .int .i64 3] (w.alloc (.cells #[.int .i64 0, .int .i64 2, .int .i64 0] 3)) (PkM (w.alloc (.cells #[.int .i64 0, .int .i64 2, .int .i64 0] 3)) 3 [1, 0, 1] 3 1 [64] 0) := by
  have h := packs_any (ns [0, 2, 0]) 3 rfl (by decide) 3 (some ⟨w.heap.size, 0, none⟩) 3 (w.alloc (.cells #[.int .i64 0, .int .i64 2, .int .i64 0] 3)) (lit_row [0, 2, 0] w)
  rw [pk3] at h
  refine h.mono fun _ _ q => ?_
  have q2 := pkM q (n := 3) rfl
  rw [pb3] at q2
  exact q2
theorem hb4 (A A3 : Option Addr) (c c3 : Nat) (w : World) (hA : RdV w w.heap.size A (zc (ns [1, 0, 1]))) (hB : Rd w w.heap.size A3 [64]) : Calls Tryz.prog 49 #[.slice A 3 c, .agg #[.int .i64 3, .slice A3 1 c3], .int .i64 3] w (GzM w 3 [0, 2, 0] 0) := by
  have h := unpack_ok [1, 0, 1] 3 rfl (by decide) (by decide) tk3 A c [false, true, false] (by decide) A3 c3 3 (by decide) w hA (by rw [pb3]; exact hB)
  rw [un3, pb3] at h
  exact h.mono fun _ _ q => gzM q rfl
theorem hb5 (A A3 : Option Addr) (c c3 : Nat) (w : World) (hA : RdV w w.heap.size A (zc (ns [1, 0, 1]))) (hB : Rd w w.heap.size A3 [64]) : Calls Tryz.prog 49 #[.slice A 3 c, .agg #[.int .i64 3, .slice A3 1 c3], .int .i64 2] w (GzM w 0 [] 1) := by
  have h := unpack_ok [1, 0, 1] 3 rfl (by decide) (by decide) tk3 A c [false, true, false] (by decide) A3 c3 2 (by decide) w hA (by rw [pb3]; exact hB)
  rw [un2, pb3] at h
  exact h.mono fun _ _ q => gzM q rfl
theorem hb6 (w : World) : Calls Tryz.prog 13 #[.slice (some ⟨w.heap.size, 0, none⟩) 2 2] (w.alloc (.cells #[.int .i64 0, .int .i64 7] 3)) (GzM (w.alloc (.cells #[.int .i64 0, .int .i64 7] 3)) 2 [0, 1] 0) := by
  have h := lengths_any (ns [0, 7]) 2 rfl (by decide) (some ⟨w.heap.size, 0, none⟩) 2 (w.alloc (.cells #[.int .i64 0, .int .i64 7] 3)) (lit_row [0, 7] w)
  rw [hlA_ok [0, 7] (by decide) (by decide) [0, 1] hl2 (by decide)] at h
  exact h.mono fun _ _ q => gzM q rfl
set_option maxHeartbeats 8000000 in
theorem huffbegun_true (w : World) : Calls Tryz.prog 14 #[] w fun e w' => e = .returned (.bool true) ∧ Below w.heap.size w w' := by
  go_enter Tryz.func14, Tryz.ntmps14
  go_wp2_with fail
  refine (hb1 w).mono ?_
  rintro e w1_ ⟨A1, c1, rfl, -, -, Rq, Bq⟩
  obtain ⟨Sq, Zq, X1_0⟩ := al1 Bq
  clear Zq X1_0
  have HB : Hid (Below w.heap.size w w1_) := Sq
  clear Bq Sq
  have HR1 := Lib.hid Rq; clear Rq
  go_wp2_with fail
  refine (hb2 A1 c1 w1_ HR1.out).mono ?_
  rintro e w2_ ⟨rfl, Bq⟩
  obtain ⟨Sq, Zq, X2_0⟩ := al1 Bq
  clear Zq X2_0
  replace HR1 : Hid (RdV w2_ w2_.heap.size A1 (zc (ns [1, 0, 3, 2, 3]))) := HR1.out.on Sq
  replace HB : Hid (Below w.heap.size w w2_) := HB.out.trans (Sq.mono HB.out.size)
  clear Bq Sq
  go_wp2_with fail
  refine (hb3 w2_).mono ?_
  rintro e w3_ ⟨A3, c3, A4, c4, rfl, Rq, Rq2, Bq⟩
  obtain ⟨Sq, Zq, X3_0⟩ := al1 Bq
  clear Zq X3_0
  replace HR1 : Hid (RdV w3_ w3_.heap.size A1 (zc (ns [1, 0, 3, 2, 3]))) := HR1.out.on Sq
  replace HB : Hid (Below w.heap.size w w3_) := HB.out.trans (Sq.mono HB.out.size)
  clear Bq Sq
  have HR3 := Lib.hid Rq; clear Rq
  have HR4 := Lib.hid Rq2; clear Rq2
  go_wp2_with fail
  refine (hb4 A3 A4 c3 c4 _ (HR3.out.on (one_below w3_ _)) (HR4.out.on (one_below w3_ _))).mono ?_
  rintro e w4_ ⟨A5, c5, rfl, -, -, Rq, Bq⟩
  obtain ⟨Sq, Zq, X4_0⟩ := al1 Bq
  have Hp : Hid (w4_.heap[w3_.heap.size]? = some (.cells #[.int .i64 3, .slice A4 1 c4] 35 (0, 0))) := X4_0
  have zp : w3_.heap.size < w4_.heap.size := by omega
  have pp0 : w4_.cell? ⟨w3_.heap.size, 0, none⟩ = some (.int .i64 3) := (cell_at Hp.out _).trans rfl
  have pp1 : w4_.cell? ⟨w3_.heap.size, 1, none⟩ = some (.slice A4 1 c4) := (cell_at Hp.out _).trans rfl
  clear Zq X4_0
  replace HR1 : Hid (RdV w4_ w4_.heap.size A1 (zc (ns [1, 0, 3, 2, 3]))) := HR1.out.on Sq
  replace HR3 : Hid (RdV w4_ w4_.heap.size A3 (zc (ns [1, 0, 1]))) := HR3.out.on Sq
  replace HR4 : Hid (Rd w4_ w4_.heap.size A4 [64]) := HR4.out.on Sq
  replace HB : Hid (Below w.heap.size w w4_) := HB.out.trans (Sq.mono HB.out.size)
  clear Bq Sq
  have HR5 := Lib.hid Rq; clear Rq
  go_wp2_with fail
  refine (hb5 A3 A4 c3 c4 _ HR3.out HR4.out).mono ?_
  rintro e w5_ ⟨A6, c6, rfl, -, -, -, Bq⟩
  have Sq : Below w4_.heap.size w4_ w5_ := Bq
  replace Hp : Hid (w5_.heap[w3_.heap.size]? = some (.cells #[.int .i64 3, .slice A4 1 c4] 35 (0, 0))) := (Sq.block _ zp).trans Hp.out
  replace pp0 : w5_.cell? ⟨w3_.heap.size, 0, none⟩ = some (.int .i64 3) := (cell_at Hp.out _).trans rfl
  replace pp1 : w5_.cell? ⟨w3_.heap.size, 1, none⟩ = some (.slice A4 1 c4) := (cell_at Hp.out _).trans rfl
  replace zp : w3_.heap.size < w5_.heap.size := Nat.lt_of_lt_of_le zp Sq.size
  replace HR1 : Hid (RdV w5_ w5_.heap.size A1 (zc (ns [1, 0, 3, 2, 3]))) := HR1.out.on Sq
  replace HR3 : Hid (RdV w5_ w5_.heap.size A3 (zc (ns [1, 0, 1]))) := HR3.out.on Sq
  replace HR4 : Hid (Rd w5_ w5_.heap.size A4 [64]) := HR4.out.on Sq
  replace HR5 : Hid (RdV w5_ w5_.heap.size A5 (zc (ns [0, 2, 0]))) := HR5.out.on Sq
  replace HB : Hid (Below w.heap.size w w5_) := HB.out.trans (Sq.mono HB.out.size)
  clear Bq Sq
  go_wp2_with fail
  refine (hb6 w5_).mono ?_
  rintro e w6_ ⟨A7, c7, rfl, -, -, Rq, Bq⟩
  obtain ⟨Sq, Zq, X6_0⟩ := al1 Bq
  clear Zq X6_0
  replace Hp : Hid (w6_.heap[w3_.heap.size]? = some (.cells #[.int .i64 3, .slice A4 1 c4] 35 (0, 0))) := (Sq.block _ zp).trans Hp.out
  replace pp0 : w6_.cell? ⟨w3_.heap.size, 0, none⟩ = some (.int .i64 3) := (cell_at Hp.out _).trans rfl
  replace pp1 : w6_.cell? ⟨w3_.heap.size, 1, none⟩ = some (.slice A4 1 c4) := (cell_at Hp.out _).trans rfl
  replace zp : w3_.heap.size < w6_.heap.size := Nat.lt_of_lt_of_le zp Sq.size
  replace HR1 : Hid (RdV w6_ w6_.heap.size A1 (zc (ns [1, 0, 3, 2, 3]))) := HR1.out.on Sq
  replace HR3 : Hid (RdV w6_ w6_.heap.size A3 (zc (ns [1, 0, 1]))) := HR3.out.on Sq
  replace HR4 : Hid (Rd w6_ w6_.heap.size A4 [64]) := HR4.out.on Sq
  replace HR5 : Hid (RdV w6_ w6_.heap.size A5 (zc (ns [0, 2, 0]))) := HR5.out.on Sq
  replace HB : Hid (Below w.heap.size w w6_) := HB.out.trans (Sq.mono HB.out.size)
  clear Bq Sq
  have HR7 := Lib.hid Rq; clear Rq
  go_wp2_with fail
  refine (sameI_x (ns [1, 0, 3, 2, 3]) 5 rfl (by decide) A1 (some ⟨w6_.heap.size, 0, none⟩) c1 5 _ (HR1.out.on (one_below w6_ _)) (lit_row [1, 0, 3, 2, 3] w6_)).mono ?_
  rintro e w7_ ⟨rfl, Bq⟩
  obtain ⟨Sq, Zq, X7_0⟩ := al1 Bq
  clear Zq X7_0
  replace Hp : Hid (w7_.heap[w3_.heap.size]? = some (.cells #[.int .i64 3, .slice A4 1 c4] 35 (0, 0))) := (Sq.block _ zp).trans Hp.out
  replace pp0 : w7_.cell? ⟨w3_.heap.size, 0, none⟩ = some (.int .i64 3) := (cell_at Hp.out _).trans rfl
  replace pp1 : w7_.cell? ⟨w3_.heap.size, 1, none⟩ = some (.slice A4 1 c4) := (cell_at Hp.out _).trans rfl
  replace zp : w3_.heap.size < w7_.heap.size := Nat.lt_of_lt_of_le zp Sq.size
  replace HR1 : Hid (RdV w7_ w7_.heap.size A1 (zc (ns [1, 0, 3, 2, 3]))) := HR1.out.on Sq
  replace HR3 : Hid (RdV w7_ w7_.heap.size A3 (zc (ns [1, 0, 1]))) := HR3.out.on Sq
  replace HR4 : Hid (Rd w7_ w7_.heap.size A4 [64]) := HR4.out.on Sq
  replace HR5 : Hid (RdV w7_ w7_.heap.size A5 (zc (ns [0, 2, 0]))) := HR5.out.on Sq
  replace HR7 : Hid (RdV w7_ w7_.heap.size A7 (zc (ns [0, 1]))) := HR7.out.on Sq
  replace HB : Hid (Below w.heap.size w w7_) := HB.out.trans (Sq.mono HB.out.size)
  clear Bq Sq
  go_wp2_with fail
  refine (sameI_x (ns [1, 0, 1]) 3 rfl (by decide) A3 (some ⟨w7_.heap.size, 0, none⟩) c3 3 _ (HR3.out.on (one_below w7_ _)) (lit_row [1, 0, 1] w7_)).mono ?_
  rintro e w8_ ⟨rfl, Bq⟩
  obtain ⟨Sq, Zq, X8_0⟩ := al1 Bq
  clear Zq X8_0
  replace Hp : Hid (w8_.heap[w3_.heap.size]? = some (.cells #[.int .i64 3, .slice A4 1 c4] 35 (0, 0))) := (Sq.block _ zp).trans Hp.out
  replace pp0 : w8_.cell? ⟨w3_.heap.size, 0, none⟩ = some (.int .i64 3) := (cell_at Hp.out _).trans rfl
  replace pp1 : w8_.cell? ⟨w3_.heap.size, 1, none⟩ = some (.slice A4 1 c4) := (cell_at Hp.out _).trans rfl
  replace zp : w3_.heap.size < w8_.heap.size := Nat.lt_of_lt_of_le zp Sq.size
  replace HR1 : Hid (RdV w8_ w8_.heap.size A1 (zc (ns [1, 0, 3, 2, 3]))) := HR1.out.on Sq
  replace HR3 : Hid (RdV w8_ w8_.heap.size A3 (zc (ns [1, 0, 1]))) := HR3.out.on Sq
  replace HR4 : Hid (Rd w8_ w8_.heap.size A4 [64]) := HR4.out.on Sq
  replace HR5 : Hid (RdV w8_ w8_.heap.size A5 (zc (ns [0, 2, 0]))) := HR5.out.on Sq
  replace HR7 : Hid (RdV w8_ w8_.heap.size A7 (zc (ns [0, 1]))) := HR7.out.on Sq
  replace HB : Hid (Below w.heap.size w w8_) := HB.out.trans (Sq.mono HB.out.size)
  clear Bq Sq
  go_wp2_with fail
  refine (sameI_x (ns [0, 2, 0]) 3 rfl (by decide) A5 (some ⟨w8_.heap.size, 0, none⟩) c5 3 _ (HR5.out.on (one_below w8_ _)) (lit_row [0, 2, 0] w8_)).mono ?_
  rintro e w9_ ⟨rfl, Bq⟩
  obtain ⟨Sq, Zq, X9_0⟩ := al1 Bq
  clear Zq X9_0
  replace Hp : Hid (w9_.heap[w3_.heap.size]? = some (.cells #[.int .i64 3, .slice A4 1 c4] 35 (0, 0))) := (Sq.block _ zp).trans Hp.out
  replace pp0 : w9_.cell? ⟨w3_.heap.size, 0, none⟩ = some (.int .i64 3) := (cell_at Hp.out _).trans rfl
  replace pp1 : w9_.cell? ⟨w3_.heap.size, 1, none⟩ = some (.slice A4 1 c4) := (cell_at Hp.out _).trans rfl
  replace zp : w3_.heap.size < w9_.heap.size := Nat.lt_of_lt_of_le zp Sq.size
  replace HR1 : Hid (RdV w9_ w9_.heap.size A1 (zc (ns [1, 0, 3, 2, 3]))) := HR1.out.on Sq
  replace HR3 : Hid (RdV w9_ w9_.heap.size A3 (zc (ns [1, 0, 1]))) := HR3.out.on Sq
  replace HR4 : Hid (Rd w9_ w9_.heap.size A4 [64]) := HR4.out.on Sq
  replace HR5 : Hid (RdV w9_ w9_.heap.size A5 (zc (ns [0, 2, 0]))) := HR5.out.on Sq
  replace HR7 : Hid (RdV w9_ w9_.heap.size A7 (zc (ns [0, 1]))) := HR7.out.on Sq
  replace HB : Hid (Below w.heap.size w w9_) := HB.out.trans (Sq.mono HB.out.size)
  clear Bq Sq
  go_wp2_with fail
  refine (sameI_x (ns [0, 1]) 2 rfl (by decide) A7 (some ⟨w9_.heap.size, 0, none⟩) c7 2 _ (HR7.out.on (one_below w9_ _)) (lit_row [0, 1] w9_)).mono ?_
  rintro e w10_ ⟨rfl, Bq⟩
  obtain ⟨Sq, Zq, X10_0⟩ := al1 Bq
  clear Zq X10_0
  replace Hp : Hid (w10_.heap[w3_.heap.size]? = some (.cells #[.int .i64 3, .slice A4 1 c4] 35 (0, 0))) := (Sq.block _ zp).trans Hp.out
  replace pp0 : w10_.cell? ⟨w3_.heap.size, 0, none⟩ = some (.int .i64 3) := (cell_at Hp.out _).trans rfl
  replace pp1 : w10_.cell? ⟨w3_.heap.size, 1, none⟩ = some (.slice A4 1 c4) := (cell_at Hp.out _).trans rfl
  replace zp : w3_.heap.size < w10_.heap.size := Nat.lt_of_lt_of_le zp Sq.size
  replace HR1 : Hid (RdV w10_ w10_.heap.size A1 (zc (ns [1, 0, 3, 2, 3]))) := HR1.out.on Sq
  replace HR3 : Hid (RdV w10_ w10_.heap.size A3 (zc (ns [1, 0, 1]))) := HR3.out.on Sq
  replace HR4 : Hid (Rd w10_ w10_.heap.size A4 [64]) := HR4.out.on Sq
  replace HR5 : Hid (RdV w10_ w10_.heap.size A5 (zc (ns [0, 2, 0]))) := HR5.out.on Sq
  replace HR7 : Hid (RdV w10_ w10_.heap.size A7 (zc (ns [0, 1]))) := HR7.out.on Sq
  replace HB : Hid (Below w.heap.size w w10_) := HB.out.trans (Sq.mono HB.out.size)
  clear Bq Sq
  go_wp2
  go_ret
  exact ⟨rfl, HB.out⟩
end
end Go.Proofs.YtndiocehkdbjkaaGreat
