/- What must be in any case (packBegun). -/
import Derived.Test.YticdnodlapafoaaGreatPkBc
import Derived.Deep.RegionHeld3
namespace Go.Proofs.YticdnodlapafoaaGreat
set_option maxRecDepth 100000
set_option linter.unusedVariables false
open Go.RowKit Go.Shelf

theorem six_z {V : World} {b : Nat} (h : V.heap[b]? = some (.cells #[.int .i64 0, .int .i64 0, .int .i64 0, .int .i64 0, .int .i64 0, .slice none 0 0] 54 (0, 0))) :
    (V.cell? ⟨b, 0, none⟩ = some (.int .i64 0) ∧ V.cell? ⟨b, 1, none⟩ = some (.int .i64 0) ∧ V.cell? ⟨b, 2, none⟩ = some (.int .i64 0) ∧ V.cell? ⟨b, 3, none⟩ = some (.int .i64 0) ∧ V.cell? ⟨b, 4, none⟩ = some (.int .i64 0) ∧ V.cell? ⟨b, 5, none⟩ = some (.slice none 0 0)) ∧
    V.frozen? ⟨b, 0, none⟩ = false ∧ V.frozen? ⟨b, 1, none⟩ = false ∧ V.frozen? ⟨b, 2, none⟩ = false ∧ V.frozen? ⟨b, 3, none⟩ = false ∧ V.frozen? ⟨b, 4, none⟩ = false ∧ V.frozen? ⟨b, 5, none⟩ = false :=
  ⟨⟨(cell_at h 0).trans rfl, (cell_at h 1).trans rfl, (cell_at h 2).trans rfl, (cell_at h 3).trans rfl, (cell_at h 4).trans rfl, (cell_at h 5).trans rfl⟩, frz_at h 0, frz_at h 1, frz_at h 2, frz_at h 3, frz_at h 4, frz_at h 5⟩
/-- The six values in their place: a list of bytes is still read. -/
theorem six_put {V : World} {b : Nat} (h : V.heap[b]? = some (.cells #[.int .i64 0, .int .i64 0, .int .i64 0, .int .i64 0, .int .i64 0, .slice none 0 0] 54 (0, 0))) (v0 v1 v2 v3 v4 v5 : Value) (A : Option Addr) (bs : List Nat) (R : Rd V V.heap.size A bs) :
    ∃ X, (((((V.setCell ⟨b, 0, none⟩ v0).setCell ⟨b, 1, none⟩ v1).setCell ⟨b, 2, none⟩ v2).setCell ⟨b, 3, none⟩ v3).setCell ⟨b, 4, none⟩ v4).setCell ⟨b, 5, none⟩ v5 = X ∧ X.heap[b]? = some (.cells #[v0, v1, v2, v3, v4, v5] 54 (0, 0)) ∧ Rd X X.heap.size A bs ∧ ∀ B, B ≤ b → Below B V X := by
  obtain ⟨h6, hk6, hs6, hB6⟩ := stored_all [v0, v1, v2, v3, v4, v5] (cs := [.int .i64 0, .int .i64 0, .int .i64 0, .int .i64 0, .int .i64 0, .slice none 0 0]) h rfl
  refine ⟨V.setCells b 0 [v0, v1, v2, v3, v4, v5], rfl, h6, ?_, hB6⟩
  rcases R with h1 | ⟨g, off, rfl, hg, hc⟩
  · exact .inl h1
  · by_cases h0 : bs = []
    · exact .inl h0
    · refine .inr ⟨g, off, rfl, by rw [hs6]; exact hg, fun i hi => ?_⟩
      have h1 := hc i hi
      have hne : g ≠ b := by
        rintro rfl
        simp only [World.cell?, h] at h1
        rcases hoi : off + i with _ | _ | _ | _ | _ | _ | m <;> rw [hoi] at h1 <;> simp at h1
      unfold World.cell? at h1 ⊢
      simp only at h1 ⊢
      rw [hk6 g hne]; exact h1
/-- Behind the writing. -/
def BgS (w W : World) (b : Nat) (A : Option Addr) (c : Nat) : Prop :=
  Below w.heap.size w W ∧ W.heap[w.heap.size]? = some (.cells #[.int .i64 3, .int .i64 3, .int .i64 2] 24 (0, 0)) ∧ W.heap[b]? = some (.cells #[.int .i64 6, .int .i64 3, .int .i64 3, .int .i64 2, .int .i64 (sgL.length : Int), .slice A (pack sgL).length c] 54 (0, 0)) ∧ Rd W W.heap.size A (pack sgL)
theorem BgS.on {w W X : World} {b : Nat} {A : Option Addr} {c : Nat} (h : BgS w W b A c) (hb : Below W.heap.size W X) : BgS w X b A c :=
  ⟨h.1.trans (hb.mono h.1.size), (hb.block _ (Array.getElem?_eq_some_iff.1 h.2.1).1).trans h.2.1, (hb.block _ (Array.getElem?_eq_some_iff.1 h.2.2.1).1).trans h.2.2.1, h.2.2.2.on hb⟩
/-- The graph that was read back lies in its own place. -/
def BgG (W : World) (g : Nat) (A : Option Addr) (c : Nat) (R : List Rw) : Prop := W.heap[g]? = some (.cells #[.slice A 6 c] 52 (0, 0)) ∧ RdG W W.heap.size A R
theorem BgG.on {W X : World} {g : Nat} {A : Option Addr} {c : Nat} {R : List Rw} (h : BgG W g A c R) (hb : Below W.heap.size W X) : BgG X g A c R :=
  ⟨(hb.block _ (Array.getElem?_eq_some_iff.1 h.1).1).trans h.1, h.2.on hb⟩
theorem run_build_one (a b c : Int) (w : World) : (Instr.build 54 #[(0, .int .i64 1), (1, .agg #[.int .i64 a, .int .i64 b, .int .i64 c])]).run Tryz.prog w = .ok (.agg #[.int .i64 1, .int .i64 a, .int .i64 b, .int .i64 c, .int .i64 0, .slice none 0 0]) w := by kernel_rfl
theorem sg_same {W V : World} {g : Nat} {A B : Option Addr} {c d : Nat} {R S : List Rw} (hG : BgG W g A c R) (h1 : gs R = sgG.map ns ∧ R.length = 6) (hV : Below W.heap.size W V) (h2 : gs S = sgG.map ns) (hS : RdG V V.heap.size B S) :
    Calls Tryz.prog 38 #[.agg #[.slice A 6 c], .agg #[.slice B 6 d]] V fun e w' => e = .returned (.bool true) ∧ Below V.heap.size V w' := by
  have hl : S.length = 6 := by have := congrArg List.length h2; rw [gs_length] at this; rw [this]; rfl
  have := sameG_any V A B c d R S 6 6 h1.2 hl (by omega) ((hG.on hV).2) hS
  rw [h1.1, h2] at this
  simpa using this
set_option maxHeartbeats 8000000 in
theorem packbegun_ok (w : World) :
    Calls Tryz.prog 36 #[] w fun e w' => e = .returned (.bool true) ∧ Below w.heap.size w w' := by
  obtain ⟨V1, hV1⟩ : ∃ V1, w.alloc (.cells #[.int .i64 3, .int .i64 3, .int .i64 2] 24) = V1 := ⟨_, rfl⟩
  have hh := World.alloc_heap_new w (.cells #[.int .i64 3, .int .i64 3, .int .i64 2] 24)
  rw [hV1] at hh
  have hw1 : Below w.heap.size w V1 := by rw [← hV1]; exact one_below w _
  have HHb : Hid (∀ V, Below V1.heap.size V1 V → V.heap[w.heap.size]? = some (.cells #[.int .i64 3, .int .i64 3, .int .i64 2] 24 (0, 0))) := fun V hV => (hV.block _ (Array.getElem?_eq_some_iff.1 hh).1).trans hh
  have HH : Hid (∀ V, Below V1.heap.size V1 V → V.cell? ⟨w.heap.size, 0, none⟩ = some (.int .i64 3) ∧ V.cell? ⟨w.heap.size, 1, none⟩ = some (.int .i64 3) ∧ V.cell? ⟨w.heap.size, 2, none⟩ = some (.int .i64 2)) := fun V hV => how_at (HHb.out V hV)
  have HW1 : Hid (w.heap.size < V1.heap.size ∧ Below w.heap.size w V1) := ⟨(Array.getElem?_eq_some_iff.1 hh).1, hw1⟩
  have HD : Hid (Below V1.heap.size V1 V1.drew) := (Below.refl _ _).drew
  have HDz : Hid (Below V1.heap.size V1 (V1.alloc (.cells #[.int .i64 0, .int .i64 0, .int .i64 0, .int .i64 0, .int .i64 0, .slice none 0 0] 54)).drew) := (one_below V1 _).drew
  have HDz2 : Hid (Below V1.heap.size V1 (V1.drew.alloc (.cells #[.int .i64 0, .int .i64 0, .int .i64 0, .int .i64 0, .int .i64 0, .slice none 0 0] 54))) := HD.out.trans (one_below V1.drew _)
  clear hh hw1
  go_enter Tryz.func36, Tryz.ntmps36
  go_wp2
  try rw [hV1]
  go_region_held3 (fun V => V.cell? ⟨w.heap.size, 0, none⟩ = some (.int .i64 3) ∧ V.cell? ⟨w.heap.size, 1, none⟩ = some (.int .i64 3) ∧ V.cell? ⟨w.heap.size, 2, none⟩ = some (.int .i64 2))
    ((first | exact HH.out _ HB6.out | exact HH.out _ HBbz.out | exact HH.out _ HBb.out | exact HH.out _ HBaz.out | exact HH.out _ HBa.out | exact HH.out _ HDz.out | exact HH.out _ HDz2.out | exact HH.out _ HD.out))
    ((first
      | (go_at_call 30; first
          | (refine (sg_write g1 g2 c1 (wa.alloc (.cells #[.int .i64 0, .int .i64 0, .int .i64 0, .int .i64 0, .int .i64 0, .slice none 0 0] 54)) (g3.on (one_below wa _)).here).mono ?_; rintro e wb ⟨A2, c2, rfl, r2, bq⟩; have hzb : wb.heap[wa.heap.size]? = some (.cells #[.int .i64 0, .int .i64 0, .int .i64 0, .int .i64 0, .int .i64 0, .slice none 0 0] 54 (0, 0)) := (bq.block _ (by rw [World.size_alloc]; exact Nat.lt_succ_self _)).trans (World.alloc_heap_new wa _); have HBb : Hid (Below V1.heap.size V1 wb) := HBaz.out.trans (bq.mono HBaz.out.size); obtain ⟨⟨y0, y1, y2, y3, y4, y5⟩, f0, f1, f2, f3, f4, f5⟩ := six_z hzb; obtain ⟨W6, hW6, hp6, r6, b6⟩ := six_put hzb (.int .i64 6) (.int .i64 3) (.int .i64 3) (.int .i64 2) (.int .i64 (sgL.length : Int)) (.slice A2 (pack sgL).length c2) A2 _ r2; have HB6 : Hid (Below V1.heap.size V1 W6) := HBb.out.trans (b6 _ HBa.out.size); have HS6 : Hid (BgS w W6 wa.heap.size A2 c2) := ⟨HW1.out.2.trans (HB6.out.mono HW1.out.2.size), HHb.out _ HB6.out, hp6, r6⟩; clear bq r2 hzb hp6 r6 b6)
          | (refine (sg_write g1 g2 c1 wa g3.here).mono ?_; rintro e wb ⟨A2, c2, rfl, r2, bq⟩; have HBb : Hid (Below V1.heap.size V1 wb) := HBa.out.trans (bq.mono HBa.out.size); first
              | (have hzb : wb.heap[V1.heap.size]? = some (.cells #[.int .i64 0, .int .i64 0, .int .i64 0, .int .i64 0, .int .i64 0, .slice none 0 0] 54 (0, 0)) := (bq.block _ (Array.getElem?_eq_some_iff.1 hz1).1).trans hz1; obtain ⟨⟨y0, y1, y2, y3, y4, y5⟩, f0, f1, f2, f3, f4, f5⟩ := six_z hzb; obtain ⟨W6, hW6, hp6, r6, b6⟩ := six_put hzb (.int .i64 6) (.int .i64 3) (.int .i64 3) (.int .i64 2) (.int .i64 (sgL.length : Int)) (.slice A2 (pack sgL).length c2) A2 _ r2; have HB6 : Hid (Below V1.heap.size V1 W6) := HBb.out.trans (b6 _ (Nat.le_refl _)); have HS6 : Hid (BgS w W6 V1.heap.size A2 c2) := ⟨HW1.out.2.trans (HB6.out.mono HW1.out.2.size), HHb.out _ HB6.out, hp6, r6⟩; clear bq r2 hzb hp6 r6 b6)
              | (have HBbz : Hid (Below V1.heap.size V1 (wb.alloc (.cells #[.int .i64 0, .int .i64 0, .int .i64 0, .int .i64 0, .int .i64 0, .slice none 0 0] 54))) := HBb.out.trans ((one_below wb _).mono HBb.out.size); obtain ⟨W6, hW6⟩ : ∃ W6, wb.alloc (.cells #[.int .i64 6, .int .i64 3, .int .i64 3, .int .i64 2, .int .i64 (sgL.length : Int), .slice A2 (pack sgL).length c2] 54) = W6 := ⟨_, rfl⟩; have hb6 : Below wb.heap.size wb W6 := by { rw [← hW6]; exact one_below wb _ }; have HB6 : Hid (Below V1.heap.size V1 W6) := HBb.out.trans (hb6.mono HBb.out.size); have HS6 : Hid (BgS w W6 wb.heap.size A2 c2) := ⟨HW1.out.2.trans (HB6.out.mono HW1.out.2.size), HHb.out _ HB6.out, by { rw [← hW6]; exact World.alloc_heap_new wb _ }, r2.on hb6⟩; clear bq r2 hb6)))
      | (go_at_call 70; refine (some_ok _).mono ?_; rintro e wa ⟨A1, c1, R1, rfl, g1, g2, g3, bq1⟩; have HBa : Hid (Below V1.heap.size V1 wa) := by { first | exact HD.out.trans (bq1.mono HD.out.size) | exact HDz.out.trans (bq1.mono HDz.out.size) }; have HBaz : Hid (Below V1.heap.size V1 (wa.alloc (.cells #[.int .i64 0, .int .i64 0, .int .i64 0, .int .i64 0, .int .i64 0, .slice none 0 0] 54))) := HBa.out.trans ((one_below wa _).mono HBa.out.size); first | (have hz1 : wa.heap[V1.heap.size]? = some (.cells #[.int .i64 0, .int .i64 0, .int .i64 0, .int .i64 0, .int .i64 0, .slice none 0 0] 54 (0, 0)) := (bq1.block _ (by show V1.heap.size < (V1.alloc _).heap.size; rw [World.size_alloc]; exact Nat.lt_succ_self _)).trans (World.alloc_heap_new V1 _); clear bq1) | clear bq1)))
  all_goals (
    clear HH HHb HW1 HD HDz HDz2 HB6 hV1 hW6
    try clear HBbz
    try clear HBaz
    try clear HBb
    try clear HBa
    try clear hz1
    try clear g1 g2 g3
    first
      | (obtain ⟨b9, hb9⟩ : ∃ b9, wb.heap.size = b9 := ⟨_, rfl⟩; rw [hb9] at HS6 ⊢)
      | (obtain ⟨b9, hb9⟩ : ∃ b9, wa.heap.size = b9 := ⟨_, rfl⟩; rw [hb9] at HS6 ⊢)
      | (obtain ⟨b9, hb9⟩ : ∃ b9, V1.heap.size = b9 := ⟨_, rfl⟩; rw [hb9] at HS6 ⊢)
    clear hb9
    have hrg := range_all (cs := [.int .i64 6, .int .i64 3, .int .i64 3, .int .i64 2, .int .i64 (sgL.length : Int), .slice A2 (pack sgL).length c2]) HS6.out.2.2.1
    go_wp2_with (refine wpList_load_mid rfl 54 _ rfl _ 0 rfl [.int .i64 6, .int .i64 3, .int .i64 3, .int .i64 2, .int .i64 (sgL.length : Int), .slice A2 (pack sgL).length c2] _ hrg Tryz.underlying54 rfl info_pd ?_)
    refine (sg_read c2 W6 HS6.out.2.2.2).mono ?_
    rintro e w3 ⟨AG, cG, RG, rfl, k1, k2, k3, bq3⟩
    clear hrg
    have hb4 : Below W6.heap.size W6 (w3.alloc (.cells #[.slice AG 6 cG] 52)) := bq3.trans ((one_below w3 _).mono bq3.size)
    have HS4 := Lib.hid (HS6.out.on hb4)
    have HG4 : Hid (BgG (w3.alloc (.cells #[.slice AG 6 cG] 52)) w3.heap.size AG cG RG) := ⟨World.alloc_heap_new w3 _, (k3.on (one_below w3 _)).here⟩
    have HRG : Hid (gs RG = sgG.map ns ∧ RG.length = 6) := ⟨k1, by have := congrArg List.length k1; rw [gs_length] at this; rw [this]; rfl⟩
    obtain ⟨b4, hb4e⟩ : ∃ b4, w3.heap.size = b4 := ⟨_, rfl⟩
    rw [hb4e] at HG4
    obtain ⟨W4, hW4⟩ : ∃ W4, w3.alloc (.cells #[.slice AG 6 cG] 52) = W4 := ⟨_, rfl⟩
    rw [hW4] at HS4 HG4
    clear hb4 k1 k2 k3 bq3 HS6
    go_wp2
    try rw [hb4e]
    try rw [hW4]
    clear hb4e hW4
    have HK4 : Hid (∀ V, Below W4.heap.size W4 V → V.cell? ⟨w.heap.size, 0, none⟩ = some (.int .i64 3) ∧ V.cell? ⟨w.heap.size, 1, none⟩ = some (.int .i64 3) ∧ V.cell? ⟨w.heap.size, 2, none⟩ = some (.int .i64 2)) := fun V hV => how_at (HS4.out.on hV).2.1
    have HD4 : Hid (Below W4.heap.size W4 W4.drew) := (Below.refl _ _).drew
    go_region_held3 (fun V => V.cell? ⟨w.heap.size, 0, none⟩ = some (.int .i64 3) ∧ V.cell? ⟨w.heap.size, 1, none⟩ = some (.int .i64 3) ∧ V.cell? ⟨w.heap.size, 2, none⟩ = some (.int .i64 2))
      ((first | exact HK4.out _ HY.out | exact HK4.out _ HX.out | exact HK4.out _ HD4.out))
      ((first
        | (go_at_call 32; refine (sg_told g1 g2 c5 wx g3.here).mono ?_; rintro e wy ⟨A6, c6, A7, c7, rfl, r6, r7, bq⟩; have HY : Hid (Below W4.heap.size W4 wy) := HX.out.trans (bq.mono HX.out.size); have HV6 : Hid (RdV wy wy.heap.size A6 (zc (ns (pkA 3 3 2 sgG 6))) ∧ RdV wy wy.heap.size A7 (zc (ns (pkS 3 3 2 sgG 6)))) := ⟨r6, r7⟩; clear r6 r7 bq)
        | (go_at_call 70; refine (some_ok _).mono ?_; rintro e wx ⟨A5, c5, R5, rfl, g1, g2, g3, bq1⟩; have HX : Hid (Below W4.heap.size W4 wx) := HD4.out.trans (bq1.mono HD4.out.size); clear bq1)))
    have HS5 := Lib.hid (HS4.out.on HY.out)
    have HG5 := Lib.hid (HG4.out.on HY.out)
    obtain ⟨h0, h1, h2⟩ := how_at HS5.out.2.1
    clear HK4 HD4 HY HX HS4 HG4 g1 g2 g3
    go_wp2_with (refine wpList_build rfl _ _ rfl #[(0, .int .i64 1), (1, .agg #[.int .i64 3, .int .i64 3, .int .i64 2])] (by kernel_rfl) _ (run_build_one _ _ _ _) ?_)
    refine (none_read 0 wy).mono ?_
    rintro e w6 ⟨rfl, bq6⟩
    clear h0 h1 h2
    go_wp2
    have hb7 : Below wy.heap.size wy (w6.alloc (.cells #[.slice none 0 0] 52)) := bq6.trans ((one_below w6 _).mono bq6.size)
    obtain ⟨W7, hW7⟩ : ∃ W7, w6.alloc (.cells #[.slice none 0 0] 52) = W7 := ⟨_, rfl⟩
    rw [hW7] at hb7
    have HS7 := Lib.hid (HS5.out.on hb7)
    have HG7 := Lib.hid (HG5.out.on hb7)
    obtain ⟨t6, e6, -⟩ := sg_backs
    obtain ⟨t7, e7, -⟩ := sg_starts
    obtain ⟨x6, y6, rfl, l6, m6⟩ := (HV6.out.1.on hb7).at_ (i := 0) (v := .int .i64 0) (by rw [e6]; rfl)
    obtain ⟨x6', y6', ex, l6', m6'⟩ := (HV6.out.1.on hb7).at_ (i := 1) (v := .int .i64 1) (by rw [e6]; rfl)
    obtain ⟨x7, y7, rfl, l7, m7⟩ := (HV6.out.2.on hb7).at_ (i := 0) (v := .int .i64 0) (by rw [e7]; rfl)
    obtain ⟨rfl, rfl⟩ : x6' = x6 ∧ y6' = y6 := by { injection ex with ex; injection ex with a b c; exact ⟨a.symm, b.symm⟩ }
    rw [Nat.add_zero] at m6 m7
    have HK7 : Hid (∀ V, Below W7.heap.size W7 V → (V.cell? ⟨w.heap.size, 0, none⟩ = some (.int .i64 3) ∧ V.cell? ⟨w.heap.size, 1, none⟩ = some (.int .i64 3) ∧ V.cell? ⟨w.heap.size, 2, none⟩ = some (.int .i64 2)) ∧ (V.cell? ⟨b9, 0, none⟩ = some (.int .i64 6) ∧ V.cell? ⟨b9, 1, none⟩ = some (.int .i64 3) ∧ V.cell? ⟨b9, 2, none⟩ = some (.int .i64 3) ∧ V.cell? ⟨b9, 3, none⟩ = some (.int .i64 2)) ∧ V.cell? ⟨b4, 0, none⟩ = some (.slice AG 6 cG) ∧ V.cell? ⟨x6', y6', none⟩ = some (.int .i64 0) ∧ V.cell? ⟨x6', y6' + 1, none⟩ = some (.int .i64 1) ∧ V.cell? ⟨x7, y7, none⟩ = some (.int .i64 0)) := fun V hV =>
      have h := HS7.out.on hV
      ⟨how_at h.2.1, ⟨(cell_at h.2.2.1 0).trans rfl, (cell_at h.2.2.1 1).trans rfl, (cell_at h.2.2.1 2).trans rfl, (cell_at h.2.2.1 3).trans rfl⟩, (cell_at (HG7.out.on hV).1 0).trans rfl, (hV.cell (p := ⟨x6', y6', none⟩) l6).trans m6, (hV.cell (p := ⟨x6', y6' + 1, none⟩) l6).trans m6', (hV.cell (p := ⟨x7, y7, none⟩) l7).trans m7⟩
    have HD7 : Hid (Below W7.heap.size W7 W7.drew) := (Below.refl _ _).drew
    have he : ∀ w : World, (binOp .eql 24 (.agg #[.int .i64 3, .int .i64 3, .int .i64 2]) (.agg #[.int .i64 3, .int .i64 3, .int .i64 2])).run Tryz.prog w = .ok (.bool true) w := fun w => by { rw [eqh_run]; simp }
    have HF7 := Lib.hid HS7.out.1
    clear hb7 bq6 HS5 HG5 e6 e7 ex l6 l6' l7 m6 m6' m7 HV6 HS7
    try rw [hW7]
    clear hW7
    go_region_held3 (fun V => (V.cell? ⟨w.heap.size, 0, none⟩ = some (.int .i64 3) ∧ V.cell? ⟨w.heap.size, 1, none⟩ = some (.int .i64 3) ∧ V.cell? ⟨w.heap.size, 2, none⟩ = some (.int .i64 2)) ∧ (V.cell? ⟨b9, 0, none⟩ = some (.int .i64 6) ∧ V.cell? ⟨b9, 1, none⟩ = some (.int .i64 3) ∧ V.cell? ⟨b9, 2, none⟩ = some (.int .i64 3) ∧ V.cell? ⟨b9, 3, none⟩ = some (.int .i64 2)) ∧ V.cell? ⟨b4, 0, none⟩ = some (.slice AG 6 cG) ∧ V.cell? ⟨x6', y6', none⟩ = some (.int .i64 0) ∧ V.cell? ⟨x6', y6' + 1, none⟩ = some (.int .i64 1) ∧ V.cell? ⟨x7, y7, none⟩ = some (.int .i64 0))
      ((first | exact HK7.out _ HY.out | exact HK7.out _ HX.out | exact HK7.out _ HD7.out))
      ((first
        | (go_at_call 38; refine (sg_same HG7.out HRG.out HX.out g1 g3.here).mono ?_; rintro e wy2 ⟨rfl, bq⟩; have HY : Hid (Below W7.heap.size W7 wy2) := HX.out.trans (bq.mono HX.out.size); clear bq)
        | (go_at_call 70; refine (some_ok _).mono ?_; rintro e wx ⟨A5', c5', R5', rfl, g1, g2, g3, bq1⟩; have HX : Hid (Below W7.heap.size W7 wx) := HD7.out.trans (bq1.mono HD7.out.size); clear bq1)))
    all_goals (
      have HFin : Hid (Below w.heap.size w wy2) := HF7.out.trans (HY.out.mono HF7.out.size)
      go_wp2
      go_ret
      exact ⟨rfl, HFin.out⟩))
end Go.Proofs.YticdnodlapafoaaGreat
