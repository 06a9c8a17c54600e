/- The law SuccCopy: a list told by itself is no longer than two numbers; for whatever is handed in. -/
import Derived.Test.YticdnodlapafoaaGreatJSSBegun
import Derived.Test.YticdnodlapafoaaGreatJS2
import Derived.Test.YticdnodlapafoaaGreatJS10
import Derived.Deep.RegionHeld3
namespace Go.Proofs.YticdnodlapafoaaGreat
set_option maxRecDepth 100000
set_option linter.unusedVariables false
open Go.RowKit Go.Shelf

set_option maxHeartbeats 4000000 in
theorem scopy_0 (a : Int) (A1 : Option Addr) (c1 n : Nat) (b s k : Int) (w : World) (lW : Int) (nW : Nat) (bW : List Nat) (eW : Int) (h0 : eW ≠ 0) (hl : lW = 0) (hn : nW = 0) (hbw : bW = pack []) (HX : Hid (∀ V, Below w.heap.size w V → Calls Tryz.prog 15 #[.int .i64 a, .slice A1 n c1, .slice A1 n c1, .agg #[.int .i64 1, .int .i64 s, .int .i64 k]] V (Gv V lW nW bW eW))) :
    Calls Tryz.prog 7 #[.int .i64 a, .slice A1 n c1, .agg #[.int .i64 b, .int .i64 s, .int .i64 k]] w fun e w' => e = .returned (.bool true) ∧ Below w.heap.size w w' := by
  subst hl; subst hn; subst hbw
  have t0 : (eW != 0) = true := by simpa using h0
  clear h0
  go_enter Tryz.func7, Tryz.ntmps7
  go_wp2_with fail
  refine (succbegun_true _).mono ?_
  rintro e w1_ ⟨rfl, Bq⟩
  obtain ⟨Sq, Zq, X1_0⟩ := al1 Bq
  have Hh : Hid (w1_.heap[w.heap.size]? = some (.cells #[.int .i64 b, .int .i64 s, .int .i64 k] 24 (0, 0))) := X1_0
  have zh : w.heap.size < w1_.heap.size := by omega
  have ph0 : w1_.cell? ⟨w.heap.size, 0, none⟩ = some (.int .i64 b) := (cell_at Hh.out _).trans rfl
  have ph1 : w1_.cell? ⟨w.heap.size, 1, none⟩ = some (.int .i64 s) := (cell_at Hh.out _).trans rfl
  have ph2 : w1_.cell? ⟨w.heap.size, 2, none⟩ = some (.int .i64 k) := (cell_at Hh.out _).trans rfl
  clear Zq X1_0
  have HB : Hid (Below w.heap.size w w1_) := Sq
  clear Bq Sq
  have hf0 := frz_at Hh.out 0
  have hs1 : (w1_.setCell ⟨w.heap.size, 0, none⟩ (.int .i64 1)).heap[w.heap.size]? = some (.cells #[.int .i64 1, .int .i64 s, .int .i64 k] 24 (0, 0)) := by rw [heap_set_same _ _ _ _ _ _ Hh.out]; rfl
  have hb1 : Below w.heap.size w (w1_.setCell ⟨w.heap.size, 0, none⟩ (.int .i64 1)) := HB.out.setCell (p := ⟨w.heap.size, 0, none⟩) (Nat.le_refl _) _
  have r0 : (w1_.setCell ⟨w.heap.size, 0, none⟩ (.int .i64 1)).cell? ⟨w.heap.size, 0, none⟩ = some (.int .i64 1) := (cell_at hs1 _).trans rfl
  have r1 : (w1_.setCell ⟨w.heap.size, 0, none⟩ (.int .i64 1)).cell? ⟨w.heap.size, 1, none⟩ = some (.int .i64 s) := (cell_at hs1 _).trans rfl
  have r2 : (w1_.setCell ⟨w.heap.size, 0, none⟩ (.int .i64 1)).cell? ⟨w.heap.size, 2, none⟩ = some (.int .i64 k) := (cell_at hs1 _).trans rfl
  have HX1 := Lib.hid (HX.out _ hb1)
  have HB1 := Lib.hid hb1
  clear hs1 hb1 HX HB Hh zh
  go_wp2_with fail
  refine HX1.out.mono ?_
  rintro e w2_ ⟨A3, c3, rfl, Rq, Bq⟩
  have HB : Hid (Below w.heap.size w w2_) := HB1.out.trans (Bq.mono HB1.out.size)
  have HR3 : Hid (Rd w2_ w2_.heap.size A3 (pack [])) := Lib.hid Rq
  clear Bq Rq HX1 HB1 ph0 ph1 ph2 hf0 r0 r1 r2
  go_wp2_with fail
  refine (same_0 A3 none c3 0 _ (HR3.out.on (one_below w2_ _))).mono ?_
  rintro e w3_ ⟨rfl, Bq⟩
  obtain ⟨Sq, Zq, X3_0⟩ := al1 Bq
  have Hx : Hid (w3_.heap[w2_.heap.size]? = some (.cells #[.int .i64 0, .slice A3 0 c3] 27 (0, 0))) := X3_0
  have zx : w2_.heap.size < w3_.heap.size := by omega
  have px0 : w3_.cell? ⟨w2_.heap.size, 0, none⟩ = some (.int .i64 0) := (cell_at Hx.out _).trans rfl
  have px1 : w3_.cell? ⟨w2_.heap.size, 1, none⟩ = some (.slice A3 0 c3) := (cell_at Hx.out _).trans rfl
  clear Zq X3_0
  replace HR3 : Hid (Rd w3_ w3_.heap.size A3 (pack [])) := HR3.out.on Sq
  replace HB : Hid (Below w.heap.size w w3_) := HB.out.trans (Sq.mono HB.out.size)
  clear Bq Sq
  go_wp2
  go_ret
  exact ⟨rfl, HB.out⟩
set_option maxHeartbeats 4000000 in
theorem scopy_1 (a : Int) (A1 : Option Addr) (c1 n : Nat) (b s k : Int) (w : World) (lW : Int) (nW : Nat) (bW : List Nat) (eW : Int) (he : eW = 0) (g mn : Nat) (hg : g ≤ 100) (hmn : mn ≤ 1) (hmin : min n 1 = mn) (hn : n ≤ 300) (hl : lW = ((g + mn : Nat) : Int)) (HX : Hid (∀ V, Below w.heap.size w V → Calls Tryz.prog 15 #[.int .i64 a, .slice A1 n c1, .slice A1 n c1, .agg #[.int .i64 1, .int .i64 s, .int .i64 k]] V (Gv V lW nW bW eW)))
    (HG : Hid (∀ V, Calls Tryz.prog 28 #[.int .u64 (n : Int)] V fun e w' => ∃ A c, e = .returned (.slice A g c) ∧ Below V.heap.size V w')) :
    Calls Tryz.prog 7 #[.int .i64 a, .slice A1 n c1, .agg #[.int .i64 b, .int .i64 s, .int .i64 k]] w fun e w' => e = .returned (.bool true) ∧ Below w.heap.size w w' := by
  subst he
  have u1 : IntKind.i64.wrap ((g : Int) + (mn : Int)) = lW := by rw [hl, ← Int.natCast_add]; exact IntWalk.i64_in _ (by omega)
  have t9 : (lW == lW) = true := by simp
  have u8 : IntKind.u64.wrap (n : Int) = (n : Int) := by simp [IntKind.wrap, IntKind.bits, IntKind.signed]; omega
  rcases (show (1 < n ∧ mn = 1) ∨ (¬ 1 < n ∧ mn = n) by omega) with ⟨hq, hm⟩ | ⟨hq, hm⟩
  all_goals (
  have hmI : Hid (IntKind.i64.wrap ((g : Int) + min (n : Int) 1) = lW) := by show _ = _; rw [show min (n : Int) 1 = (mn : Int) by omega]; exact u1
  rw [hm] at u1
  clear hl hm hmin hmn
  go_enter Tryz.func7, Tryz.ntmps7
  go_wp2_with fail
  refine (succbegun_true _).mono ?_
  rintro e w1_ ⟨rfl, Bq⟩
  obtain ⟨Sq, Zq, X1_0⟩ := al1 Bq
  have Hh : Hid (w1_.heap[w.heap.size]? = some (.cells #[.int .i64 b, .int .i64 s, .int .i64 k] 24 (0, 0))) := X1_0
  have zh : w.heap.size < w1_.heap.size := by omega
  have ph0 : w1_.cell? ⟨w.heap.size, 0, none⟩ = some (.int .i64 b) := (cell_at Hh.out _).trans rfl
  have ph1 : w1_.cell? ⟨w.heap.size, 1, none⟩ = some (.int .i64 s) := (cell_at Hh.out _).trans rfl
  have ph2 : w1_.cell? ⟨w.heap.size, 2, none⟩ = some (.int .i64 k) := (cell_at Hh.out _).trans rfl
  clear Zq X1_0
  have HB : Hid (Below w.heap.size w w1_) := Sq
  clear Bq Sq
  have hf0 := frz_at Hh.out 0
  have hs1 : (w1_.setCell ⟨w.heap.size, 0, none⟩ (.int .i64 1)).heap[w.heap.size]? = some (.cells #[.int .i64 1, .int .i64 s, .int .i64 k] 24 (0, 0)) := by rw [heap_set_same _ _ _ _ _ _ Hh.out]; rfl
  have hb1 : Below w.heap.size w (w1_.setCell ⟨w.heap.size, 0, none⟩ (.int .i64 1)) := HB.out.setCell (p := ⟨w.heap.size, 0, none⟩) (Nat.le_refl _) _
  have r0 : (w1_.setCell ⟨w.heap.size, 0, none⟩ (.int .i64 1)).cell? ⟨w.heap.size, 0, none⟩ = some (.int .i64 1) := (cell_at hs1 _).trans rfl
  have r1 : (w1_.setCell ⟨w.heap.size, 0, none⟩ (.int .i64 1)).cell? ⟨w.heap.size, 1, none⟩ = some (.int .i64 s) := (cell_at hs1 _).trans rfl
  have r2 : (w1_.setCell ⟨w.heap.size, 0, none⟩ (.int .i64 1)).cell? ⟨w.heap.size, 2, none⟩ = some (.int .i64 k) := (cell_at hs1 _).trans rfl
  have HX1 := Lib.hid (HX.out _ hb1)
  have HB1 := Lib.hid hb1
  clear hs1 hb1 HX HB Hh zh
  go_wp2_with fail
  refine HX1.out.mono ?_
  rintro e w2_ ⟨A3, c3, rfl, Rq, Bq⟩
  have HB : Hid (Below w.heap.size w w2_) := HB1.out.trans (Bq.mono HB1.out.size)
  have HR3 : Hid (Rd w2_ w2_.heap.size A3 bW) := Lib.hid Rq
  clear Bq Rq HX1 HB1 ph0 ph1 ph2 hf0 r0 r1 r2
  go_wp2_with fail
  obtain ⟨V0, hV⟩ : ∃ V0, w2_.alloc (.cells #[.int .i64 lW, .slice A3 nW c3] 27) = V0 := ⟨_, rfl⟩
  have HV : Hid (Below w.heap.size w V0) := by subst hV; exact HB.out.alloc HB.out.size _
  have HV2 : Hid (w2_.heap.size < V0.heap.size) := by subst hV; show _ < _; simp
  have hk0 : V0.cell? ⟨w2_.heap.size, 0, none⟩ = some (.int .i64 lW) := by subst hV; exact (cell_at (World.alloc_heap_new w2_ (.cells #[.int .i64 lW, .slice A3 nW c3] 27)) 0).trans rfl
  have HK : Hid (∀ V, Below V0.heap.size V0 V → V.cell? ⟨w2_.heap.size, 0, none⟩ = some (.int .i64 lW)) := fun V h => (h.cell (p := ⟨w2_.heap.size, 0, none⟩) HV2.out).trans hk0
  try rw [hV]
  clear hV HR3
  go_region_held3 (fun w' => w'.cell? ⟨w2_.heap.size, 0, none⟩ = some (.int .i64 lW))
    ((refine HK.out _ ?_; first | exact hk5.out | exact (Below.refl _ _).drew))
    (first | (go_at_call 28; refine (HG.out _).mono ?_; rintro e w5 ⟨A4, c4, rfl, Bq⟩; have hk5 : Hid (Below V0.heap.size V0 w5) := ((Below.refl _ _).drew).trans Bq; clear Bq))
  all_goals (
    go_wp2
    go_ret
    exact ⟨by simp; try exact hmI.out.symm, HV.out.trans (hk5.out.mono HV.out.size)⟩))
theorem succCopy_law (a : Int) (A1 : Option Addr) (c1 : Nat) (xs : List Int) (b s k : Int) (w : World) (ha : -9223372036854775808 ≤ a ∧ a ≤ 9223372036854775807) (cp1 : xs.length ≤ c1) (nl1 : A1 = none → c1 = 0) (by1 : ∀ x ∈ xs, -9223372036854775808 ≤ x ∧ x ≤ 9223372036854775807) (rd1 : RdV w w.heap.size A1 (zc xs)) (sz1 : xs.length ≤ 9223372036854775807) (hb : -9223372036854775808 ≤ b ∧ b ≤ 9223372036854775807) (hs : -9223372036854775808 ≤ s ∧ s ≤ 9223372036854775807) (hk : -9223372036854775808 ≤ k ∧ k ≤ 9223372036854775807) :
    Calls Tryz.prog 7 #[.int .i64 a, .slice A1 xs.length c1, .agg #[.int .i64 b, .int .i64 s, .int .i64 k]] w fun e w' => e = .returned (.bool true) ∧ Below w.heap.size w w' := by
  have HX0 : ∀ V, Below w.heap.size w V → Calls Tryz.prog 15 #[.int .i64 a, .slice A1 xs.length c1, .slice A1 xs.length c1, .agg #[.int .i64 1, .int .i64 s, .int .i64 k]] V (Gave V (swL a xs xs 1 s k) (swF a xs xs 1 s k)) := fun V hV => swrite_any a xs _ rfl sz1 xs _ rfl sz1 1 s k A1 A1 c1 c1 cp1 V (rd1.on hV) (rd1.on hV)
  by_cases h0 : swF a xs xs 1 s k = 0
  · obtain ⟨a', l, b', s', k', rfl, ha', rfl, hl, e1, rfl, rfl, hb', hs', hk', hF, hlen, hL⟩ := swF_some _ _ _ _ _ _ h0
    obtain rfl : b' = 1 := by omega
    have hsb : (sbits a' 1 s' k' l (tn (ns l))).length = (gam l.length).length + min l.length 1 := by
      rw [tn_ns]
      unfold sbits bksB bksR restB
      have e10 : ((1 : Nat) = 0) = False := by simp
      simp only [e10, if_false, bks_self, notin_self, if_true]
      by_cases hl0 : l = []
      · subst hl0; simp
      · have : l.length ≠ 0 := fun e => hl0 (List.eq_nil_of_length_eq_zero e)
        rw [if_neg hl0]
        have e : (gam ([] : List Nat).length ++ gams (bnums [])).length = 1 := by decide
        rw [List.append_nil, List.length_append, e]; omega
    have hg : (gam l.length).length ≤ 100 := by
      have h1 := hl.1
      rw [gam_length]
      have : lg l.length ≤ 20 := by
        rcases Nat.lt_or_ge 20 (lg l.length) with h | h
        · have h2 := lg_le l.length
          have h3 : 2 ^ 21 ≤ 2 ^ lg l.length := Nat.pow_le_pow_right (by decide) h
          omega
        · exact h
      omega
    rw [h0, hL] at HX0
    simp only [ns_length] at *
    refine scopy_1 _ A1 c1 _ b _ _ w _ _ _ _ rfl (gam l.length).length (min l.length 1) hg (by omega) rfl hl.1 (by rw [hsb]) (Lib.hid HX0) (Lib.hid fun V => ?_)
    refine (gammaList_any l.length (by have := hl.1; omega) _ rfl V).mono fun e w' h => ?_
    obtain ⟨A, c, h1, h2, h3⟩ := h
    exact ⟨A, c, h1, h3⟩
  · rw [swL_no _ _ _ _ _ _ h0] at HX0
    exact scopy_0 a A1 c1 _ b s k w _ _ _ _ h0 rfl rfl rfl (Lib.hid HX0)
end Go.Proofs.YticdnodlapafoaaGreat
