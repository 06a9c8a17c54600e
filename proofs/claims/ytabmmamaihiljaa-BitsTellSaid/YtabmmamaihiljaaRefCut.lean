/- The document's own Cut answers what Cut answers, for whatever it is handed. -/
import Derived.Test.YtabmmamaihiljaaRefGet
namespace Go.Proofs.Ytabmmamaihiljaa
open Go.RowKit

set_option maxRecDepth 100000 in
set_option maxHeartbeats 1000000 in
theorem rcut_bad (len : Int) (A : Option Addr) (c : Nat) (bs : List Nat) (fr to : Int) (w : World) (hb : ∀ b ∈ bs, b < 256) (h : Rd w w.heap.size A bs) (e0 : Int) (he : chk len bs = e0) (h0 : e0 ≠ 0) :
    Calls Try.prog 21 #[.agg #[.int .i64 len, .slice A bs.length c], .int .i64 fr, .int .i64 to] w (Gave w [] e0) := by
  have HC := Lib.hid (rcheck_begun len A c bs w hb h e0 he)
  have t1 : (e0 == 0) = false := by simpa using h0
  have t2 : (e0 != 0) = true := by simpa using h0
  clear h0 he hb h
  have HB := Lib.hid (begun_below w len A bs.length c)
  generalize bs.length = nn at *
  go_enter Try.func21, Try.ntmps21
  go_wp2_with fail
  refine HC.out.mono ?_
  rintro e w1 ⟨rfl, hq⟩
  obtain ⟨hc1, hf1⟩ := old_cells hq
  go_wp2
  exact bodyPost_ret (v := .tuple #[.agg #[.int .i64 0, .slice none 0 0], .int .i64 e0]) (by simp [results, Try.results21, go_sem, hc1]) rfl (gave_zero (HB.out.trans (hq.mono (by omega))) _ (by omega) e0)

set_option maxRecDepth 100000 in
set_option maxHeartbeats 1000000 in
theorem rcut_err (l : List Bool) (hl : l.length ≤ 8192) (A : Option Addr) (c : Nat) (fr to : Int) (w : World) (h : Rd w w.heap.size A (pack l))
    (hw : ¬ (0 ≤ fr ∧ fr ≤ (l.length : Int)) ∨ ((0 ≤ fr ∧ fr ≤ (l.length : Int)) ∧ ¬ (fr ≤ to ∧ to ≤ (l.length : Int)))) :
    Calls Try.prog 21 #[.agg #[.int .i64 (l.length : Int), .slice A (pack l).length c], .int .i64 fr, .int .i64 to] w (Gave w [] 3) := by
  have HC := Lib.hid (rcheck_begun (l.length : Int) A c (pack l) w (pack_lt l) h 0 (chk_pack l hl))
  clear h
  have HB := Lib.hid (begun_below w (l.length : Int) A (pack l).length c)
  generalize (pack l).length = nn at *
  generalize l.length = ln at *
  rcases hw with hw | ⟨hw, hp⟩
  · have HW := Lib.hid (between_no fr 0 (ln : Int) hw)
    clear hw
    go_enter Try.func21, Try.ntmps21
    go_wp2_with fail
    refine HC.out.mono ?_
    rintro e w1 ⟨rfl, hq⟩
    obtain ⟨hc1, hf1⟩ := old_cells hq
    go_wp2_with (go_at_call 42; refine (HW.out _).mono ?_; rintro e w2 ⟨rfl, rfl⟩)
    exact bodyPost_ret (v := .tuple #[.agg #[.int .i64 0, .slice none 0 0], .int .i64 3]) (by simp [results, Try.results21, go_sem, hc1]) rfl (gave_zero (HB.out.trans (hq.mono (by omega))) _ (by omega) 3)
  · have HW := Lib.hid (between_yes fr 0 (ln : Int) hw)
    have HP := Lib.hid (between_no to fr (ln : Int) hp)
    clear hw hp
    go_enter Try.func21, Try.ntmps21
    go_wp2_with fail
    refine HC.out.mono ?_
    rintro e w1 ⟨rfl, hq⟩
    obtain ⟨hc1, hf1⟩ := old_cells hq
    go_wp2_with fail
    refine (HW.out _).mono ?_
    rintro e w2 ⟨rfl, rfl⟩
    go_wp2_with fail
    refine (HP.out _).mono ?_
    rintro e w2 ⟨rfl, rfl⟩
    go_wp2
    exact bodyPost_ret (v := .tuple #[.agg #[.int .i64 0, .slice none 0 0], .int .i64 3]) (by simp [results, Try.results21, go_sem, hc1]) rfl (gave_zero (HB.out.trans (hq.mono (by omega))) _ (by omega) 3)

set_option maxRecDepth 100000 in
set_option maxHeartbeats 2000000 in
theorem rcut_ok (l L : List Bool) (hl : l.length ≤ 8192) (A : Option Addr) (c : Nat) (f t : Nat) (w : World) (h : Rd w w.heap.size A (pack l)) (h1 : f ≤ t) (h2 : t ≤ l.length) (hL : L = (l.drop f).take (t - f)) :
    Calls Try.prog 21 #[.agg #[.int .i64 (l.length : Int), .slice A (pack l).length c], .int .i64 (f : Int), .int .i64 (t : Int)] w (Gave w L 0) := by
  have HC := Lib.hid (rcheck_begun (l.length : Int) A c (pack l) w (pack_lt l) h 0 (chk_pack l hl))
  have HB := Lib.hid (begun_below w (l.length : Int) A (pack l).length c)
  have HBL : Hid (∀ w1, Below w.heap.size w w1 → Calls Try.prog 33 #[.agg #[.int .i64 (l.length : Int), .slice A (pack l).length c]] w1 (Listed w1 l)) := fun w1 hq =>
    bitList_any l.length (by omega) A (pack l).length c (pack l) rfl (by rw [pack_length]; omega) (pack_lt l) w1 (h.below hq hq.size) l (unpack_pack l).symm
  have HW := Lib.hid (between_yes (f : Int) 0 (l.length : Int) ⟨by omega, by omega⟩)
  have HP := Lib.hid (between_yes (t : Int) (f : Int) (l.length : Int) ⟨by omega, by omega⟩)
  have hLe : L.length = t - f := by rw [hL, List.length_take, List.length_drop]; omega
  have HLe := Lib.hid hLe; clear hLe
  have HL := Lib.hid hL; clear hL h
  go_enter Try.func21, Try.ntmps21
  go_wp2_with fail
  refine HC.out.mono ?_
  rintro e w1 ⟨rfl, hq⟩
  have hs1 : w.heap.size + 2 ≤ w1.heap.size := by have := hq.size; rw [begun_size'] at this; exact this
  have HQ1 : Hid (Below w.heap.size w w1) := HB.out.trans (hq.mono (by omega))
  have hrb1 : w1.heap[w.heap.size + 1]? = some (.cells #[.int .i64 0, .slice none 0 0] 24 (0, 0)) := (hq.block _ (by omega)).trans (begun_res w _ A _ c)
  have HRB1 := Lib.hid hrb1; clear hrb1
  obtain ⟨hc1, hf1⟩ := old_cells hq
  go_wp2_with fail
  refine (HW.out _).mono ?_
  rintro e w2 ⟨rfl, rfl⟩
  go_wp2_with fail
  refine (HP.out _).mono ?_
  rintro e w2 ⟨rfl, rfl⟩
  go_wp2_with fail
  refine (HBL.out _ HQ1.out).mono ?_
  rintro e w2 ⟨A1, c1, rfl, ho1, hb1⟩
  have hcap := own_cap ho1
  have HO1 := Lib.hid ho1
  have HB1 := Lib.hid hb1
  clear ho1 hb1 hc1 hf1 hq
  have s1 : (0 : Int) ≤ (f : Int) := by omega
  have s2 : (f : Int) ≤ (t : Int) := by omega
  have s3 : (t : Int) ≤ (c1 : Int) := by omega
  have s4 : ((t : Int) - (f : Int)).toNat = t - f := by omega
  have HRc : Hid (RdV w2 w2.heap.size (A1.map (·.add f)) (ic L)) := by
    have := (own_rdv HO1.out).cut f (t - f)
    rw [← ic_cut, ← HL.out] at this
    exact this
  have HLow : Hid (Below w.heap.size w w2) := HQ1.out.trans (HB1.out.mono HQ1.out.size)
  have HFin : Hid (∀ w5 A4 c4, Rd w5 w5.heap.size A4 (pack L) → Below w2.heap.size w2 w5 → (w5.cell? ⟨w.heap.size + 1, 0, none⟩ = some (.int .i64 0) ∧ w5.cell? ⟨w.heap.size + 1, 1, none⟩ = some (.slice none 0 0) ∧ w5.frozen? ⟨w.heap.size + 1, 0, none⟩ = false ∧ w5.frozen? ⟨w.heap.size + 1, 1, none⟩ = false) ∧ Hid (Gave w L 0 (.returned (.tuple #[.agg #[.int .i64 (L.length : Int), .slice A4 (pack L).length c4], .int .i64 0])) ((w5.setCell ⟨w.heap.size + 1, 0, none⟩ (.int .i64 (L.length : Int))).setCell ⟨w.heap.size + 1, 1, none⟩ (.slice A4 (pack L).length c4)))) := by
    intro w5 A4 c4 R4 B4
    have hz := HB1.out.size
    refine gv_store R4 (by omega) ?_ (HLow.out.trans (B4.mono HLow.out.size))
    rw [B4.block _ (by omega), HB1.out.block _ (by omega)]
    exact HRB1.out
  have HRc0 : c1 = f → Hid (RdV w2 w2.heap.size A1 (ic L)) := fun hcp => .inl (by
    have hk0 : t - f = 0 := by omega
    rw [HL.out, hk0]; rfl)
  go_wp2_with fail
  · have HR0 := HRc0 ‹c1 = f›
    refine (packBits_any L (t - f) HLe.out (by omega) A1 0 w2 HR0.out).mono ?_
    rintro e w5 ⟨A4, c4, rfl, R4, B4⟩
    obtain ⟨⟨d0, d1, g0, g1⟩, HG⟩ := HFin.out w5 A4 c4 R4 B4
    clear R4 B4
    go_wp2
    exact bodyPost_ret (v := .tuple #[.agg #[.int .i64 (L.length : Int), .slice A4 (pack L).length c4], .int .i64 0]) (by simp [results, Try.results21, go_sem, d0, d1]) rfl HG.out
  · refine (packBits_any L (t - f) HLe.out (by omega) (Option.map (fun x => x.add f) A1) (c1 - f) w2 HRc.out).mono ?_
    rintro e w5 ⟨A4, c4, rfl, R4, B4⟩
    obtain ⟨⟨d0, d1, g0, g1⟩, HG⟩ := HFin.out w5 A4 c4 R4 B4
    clear R4 B4
    go_wp2
    exact bodyPost_ret (v := .tuple #[.agg #[.int .i64 (L.length : Int), .slice A4 (pack L).length c4], .int .i64 0]) (by simp [results, Try.results21, go_sem, d0, d1]) rfl HG.out

theorem rcut_any (len : Int) (A : Option Addr) (c : Nat) (bs : List Nat) (fr to : Int) (w : World) (hb : ∀ b ∈ bs, b < 256) (h : Rd w w.heap.size A bs) :
    Calls Try.prog 21 #[.agg #[.int .i64 len, .slice A bs.length c], .int .i64 fr, .int .i64 to] w (Gave w (if cutE len bs fr to = 0 then ((unpack len.toNat bs).drop fr.toNat).take (to.toNat - fr.toNat) else []) (cutE len bs fr to)) := by
  by_cases hc : chk len bs = 0
  · obtain ⟨l, rfl, hl, rfl⟩ := chk_zero len bs hb hc
    by_cases hw : fr < 0 ∨ to < fr ∨ (l.length : Int) < to
    · have e : cutE (l.length : Int) (pack l) fr to = 3 := by unfold cutE; rw [if_neg (by omega), if_pos hw]
      rw [e, if_neg (by decide)]
      refine rcut_err l hl A c fr to w h ?_
      by_cases h1 : 0 ≤ fr ∧ fr ≤ (l.length : Int)
      · exact .inr ⟨h1, by omega⟩
      · exact .inl h1
    · have e : cutE (l.length : Int) (pack l) fr to = 0 := by unfold cutE; rw [if_neg (by omega), if_neg hw]
      rw [e, if_pos rfl]
      obtain ⟨f, rfl⟩ := Int.eq_ofNat_of_zero_le (show 0 ≤ fr by omega)
      obtain ⟨t, rfl⟩ := Int.eq_ofNat_of_zero_le (show 0 ≤ to by omega)
      rw [Int.toNat_natCast, Int.toNat_natCast, Int.toNat_natCast, unpack_pack]
      exact rcut_ok l _ hl A c f t w h (by omega) (by omega) rfl
  · have e : cutE len bs fr to = chk len bs := by unfold cutE; rw [if_pos hc]
    rw [e, if_neg hc]
    exact rcut_bad len A c bs fr to w hb h _ rfl hc
end Go.Proofs.Ytabmmamaihiljaa
