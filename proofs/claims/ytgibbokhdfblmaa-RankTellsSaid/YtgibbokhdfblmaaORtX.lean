/- What is read of an index that is handed in. -/
import Derived.Test.YtgibbokhdfblmaaNOpen
import Derived.Test.YtgibbokhdfblmaaORv1
import Derived.Test.YtgibbokhdfblmaaORv2
import Derived.Test.YtgibbokhdfblmaaORv3
import Derived.Test.YtgibbokhdfblmaaOpen
namespace Go.Proofs.Ytgibbokhdfblmaa

section
open Go.ChangeShapes Go.WideShapes Go.ChangeAt Go.RowKit Go.Joins

theorem cellsIx : Try.prog.cellsOf 45 = 2 := by kernel_rfl
set_option maxRecDepth 100000 in
/-- An index that was handed in. -/
theorem open_index {H : Type} {enc : TypeId × Value → H} {W : World} {base : Nat} {v : Value} {d : DataW H} {p : List MemPlace}
    (hv : Value.okWide Try.prog W .any base 45 v) (h : DataW.Trod enc Try.prog W 0 (fun _ => true) true 45 v d p) :
    ∃ (ev : Int) (A : Option Addr) (c : Nat) (xs : List Int), v = .agg #[.int .i64 ev, .slice A xs.length c] ∧ RdV W W.heap.size A (zc xs) ∧ (∀ x ∈ xs, -9223372036854775808 ≤ x ∧ x ≤ 9223372036854775807) ∧ xs.length ≤ 9223372036854775807 ∧ (-9223372036854775808 ≤ ev ∧ ev ≤ 9223372036854775807) := by
  obtain ⟨c0, c1, y0, y1, m, rfl, rfl, rfl, hy0, hy1⟩ := open_agg2 Try.underlying45 (by kernel_rfl) cellsIx hv h
  obtain ⟨a, e0, _, wa⟩ := DataW.trod_int Try.underlying3 hy0
  simp at e0
  subst e0
  rcases open_ints Try.underlying38 Try.underlying3 cells3i hy1 with ⟨hcs, _⟩ | ⟨x, l, c, zs, hcs, _, hl, hm, hz, _, hcell, hwz⟩
  · simp at hcs
    subst hcs
    exact ⟨a, none, 0, [], rfl, .inl rfl, by simp, by simp, bounds_i64 wa⟩
  · simp at hcs
    subst hcs
    have hzc : zs.length = c := by simpa using hz
    have hlen : (zs.take l).length = l := by rw [List.length_take]; omega
    unfold maxLen at hm
    refine ⟨a, some x, c, zs.take l, by rw [hlen], ?_, ?_, by rw [hlen]; omega, bounds_i64 wa⟩
    · rcases Nat.eq_zero_or_pos l with h0 | h0
      · left; rw [h0]; rfl
      · obtain ⟨b, off, rfl, hc⟩ := ints_at hcell (by omega)
        refine .inr ⟨b, off, rfl, lt_of_cell (hc 0 (by omega)), fun i v hi => ?_⟩
        have hil : i < l := by
          rcases Nat.lt_or_ge i l with h | h
          · exact h
          · rw [List.getElem?_eq_none (by rw [zc_length, hlen]; exact h)] at hi; cases hi
        rw [zc_get _ i (by rw [hlen]; exact hil)] at hi
        cases hi
        rw [hc i (by omega)]
        have hz0 : zs.getD i 0 = zs[i]'(by omega) := by rw [List.getD_eq_getElem?_getD, List.getElem?_eq_getElem (by omega)]; rfl
        have e1 : (zs.take l)[i]?.getD 0 = zs[i]'(by omega) := by
          rw [List.getElem?_take_of_lt hil, List.getElem?_eq_getElem (by omega)]; rfl
        rw [e1, hz0]
    · intro n hn
      exact bounds_i64 (hwz n (List.mem_of_mem_take hn))
end

section
set_option maxRecDepth 100000
set_option linter.unusedVariables false
open Go.RowKit Go.Shelf

theorem rd_rk (len : Int) (bs : List Nat) (p : Int) : rdE len bs p = rkE len bs p := by
  unfold rdE rkE rgE
  by_cases h0 : chk len bs = 0
  · rw [if_neg (by simpa using h0)]
    by_cases h1 : p < 0 ∨ len < p
    · rw [if_pos h1, if_pos]
      refine ⟨h0, ?_⟩
      by_cases q1 : 0 ≤ p
      · have q2 : ¬ p ≤ len := by omega
        rw [decide_eq_false q2]; simp
      · rw [decide_eq_false q1]; simp
    · rw [if_neg h1, decide_eq_true (show 0 ≤ p by omega), decide_eq_true (show p ≤ len by omega)]
      simp [h0]
  · rw [if_pos h0, if_neg (fun q => h0 q.1)]
theorem slE3 (l : List Bool) (hl : l.length ≤ 8192) (bit i : Int) (h : ¬ (bit = 0 ∨ bit = 1) ∨ ¬ 0 ≤ i) : slE (l.length : Int) (pack l) bit i = 3 := by
  unfold slE rgE
  rw [chk_pack l hl, if_pos]
  refine ⟨rfl, ?_⟩
  rcases h with h | h
  · rw [decide_eq_false h]; simp
  · rw [decide_eq_false h]; simp
theorem slE0 (l : List Bool) (hl : l.length ≤ 8192) (bit i : Int) (h : bit = 0 ∨ bit = 1) (hi : 0 ≤ i) : slE (l.length : Int) (pack l) bit i = 0 := by
  unfold slE rgE
  rw [chk_pack l hl, decide_eq_true h, decide_eq_true hi]
  simp
theorem by_x {len : Int} {bs : List Nat} {ev : Int} {xs : List Int} {p : Int} (h : ckI len bs ev xs ≠ 0) : byE len bs ev xs p = ckI len bs ev xs ∧ byN len bs ev xs p = 0 := by
  have h1 : byE len bs ev xs p = ckI len bs ev xs := by unfold byE rgE; rw [if_neg (fun q => h q.1)]
  exact ⟨h1, by unfold byN; rw [if_neg (by rw [h1]; exact h)]⟩
theorem by_u {len : Int} {bs : List Nat} {ev : Int} {xs : List Int} {p : Int} (h : ckI len bs ev xs = 0) (h0 : chk len bs = 0) : byE len bs ev xs p = rkE len bs p ∧ byN len bs ev xs p = rkN len bs p := by
  have h1 : byE len bs ev xs p = rkE len bs p := by unfold byE rkE; rw [h, h0]
  exact ⟨h1, by unfold byN rkN; rw [h1]⟩
theorem bdX_len (len : Int) (bs : List Nat) (hb : ∀ b ∈ bs, b < 256) (e : Int) : (bdX len bs e).2.length ≤ 8193 := by
  unfold bdX
  by_cases h0 : bdE len bs e = 0
  · rw [if_pos h0]
    obtain ⟨l, rfl, hl, rfl, q, rfl, h1, h2⟩ := bdE_zero hb h0
    rw [Int.toNat_natCast, Int.toNat_natCast, unpack_pack]
    have := Nat.div_le_self l.length q
    simp only [ns_length, bx_length]
    omega
  · rw [if_neg h0]; exact Nat.zero_le _
theorem rankTells_law (len : Int) (A : Option Addr) (c : Nat) (bs : List Nat) (p bit i every ix : Int) (A2 : Option Addr) (c2 : Nat) (xs : List Int) (w : World) (hb : ∀ b ∈ bs, b < 256) (h : Rd w w.heap.size A bs)
    (_ : -9223372036854775808 ≤ p ∧ p ≤ 9223372036854775807) (_ : -9223372036854775808 ≤ bit ∧ bit ≤ 9223372036854775807) (_ : -9223372036854775808 ≤ i ∧ i ≤ 9223372036854775807) (_ : -9223372036854775808 ≤ every ∧ every ≤ 9223372036854775807) (h2 : RdV w w.heap.size A2 (zc xs)) (hx : xs.length ≤ 9223372036854775807) :
    Calls Try.prog 4 #[.agg #[.int .i64 len, .slice A bs.length c], .int .i64 p, .int .i64 bit, .int .i64 i, .int .i64 every, .agg #[.int .i64 ix, .slice A2 xs.length c2]] w fun e w' => e = .returned (.bool true) ∧ Below w.heap.size w w' := by
  have hRk := fun V (hV : Below w.heap.size w V) => rank_any len A c bs hb p V (h.on hV)
  have hRe := fun V (hV : Below w.heap.size w V) => readErr_any len A c bs p V hb (h.on hV) _ (rd_rk len bs p)
  have hBd := fun V (hV : Below w.heap.size w V) => build_any len A c bs hb every V (h.on hV)
  have hRb := fun V (hV : Below w.heap.size w V) => rbuild_any len A c bs hb every V (h.on hV)
  have hBy := fun V (hV : Below w.heap.size w V) => by_any len A c bs hb ix xs hx A2 c2 p V (h.on hV) (h2.on hV)
  have hCk := fun V (hV : Below w.heap.size w V) => rcheck_any len A c bs hb V (h.on hV)
  have hRc := fun V (hV : Below w.heap.size w V) => rrcheck_any len A c bs hb ix xs hx A2 c2 V (h.on hV) (h2.on hV)
  have hPc := fun V (hV : Below w.heap.size w V) => rcheck_ix len A c bs hb ix xs hx A2 c2 V (h.on hV) (h2.on hV)
  have hys := bdX_len len bs hb every
  have hSm : ∀ A B c d V, RdV V V.heap.size A (zc (bdX len bs every).2) → RdV V V.heap.size B (zc (bdX len bs every).2) → _ := fun A B c d V r1 r2 => isame (bdX len bs every).2 _ rfl (by omega) A B c d V r1 r2
  have hSl := fun (rn : Nat) (re : Int) hr V (hV : Below w.heap.size w V) => sel_any len A c bs hb bit i V (h.on hV) rn re hr
  by_cases h0 : chk len bs = 0
  · obtain ⟨l, rfl, hl, rfl⟩ := chk_zero len bs hb h0
    have hBl := fun V (hV : Below w.heap.size w V) => bitList_any l.length hl A (pack l).length c (pack l) rfl (by rw [pack_length]; omega) (pack_lt l) V (h.on hV) l (unpack_pack l).symm
    rw [h0] at hCk
    rw [Int.toNat_natCast, unpack_pack] at hSl
    have hS3 := fun (hh : ¬ (bit = 0 ∨ bit = 1) ∨ ¬ 0 ≤ i) => hSl 0 3 (.inl ⟨slE3 l hl bit i hh, by omega, rfl⟩)
    by_cases hw : rkE (l.length : Int) (pack l) p = 0
    · obtain ⟨-, h4⟩ := rgE_zero hw
      simp at h4
      obtain ⟨q, rfl⟩ := Int.eq_ofNat_of_zero_le h4.1
      have hq : q ≤ l.length := by omega
      have en : rkN (l.length : Int) (pack l) (q : Int) = cnt (l.take q) := by unfold rkN; rw [if_pos hw, Int.toNat_natCast, Int.toNat_natCast, unpack_pack]
      rw [en, hw] at hRk
      rw [hw] at hRe
      have hOa := fun A c V hr => oa_any l l.length rfl hl q hq _ rfl A c V hr
      by_cases hu : ckI (l.length : Int) (pack l) ix xs = 0
      · obtain ⟨f1, f2⟩ := by_u (p := (q : Int)) hu h0
        rw [f1, f2, en, hw] at hBy
        rw [hu] at hRc hPc
        by_cases ha : bit < 0
        · exact rt_w_ra_u _ A _ c ix A2 xs.length c2 (q : Int) bit i every (cnt (l.take q)) 0 _ 0 0 0 _ _ _ l w hRk (hS3 (.inl (by omega))) hBd hBy hRe hCk hRc hRb hPc hSm hBl hOa (by simpa using ha)
        by_cases hbb : 1 < bit
        · exact rt_w_rb_u _ A _ c ix A2 xs.length c2 (q : Int) bit i every (cnt (l.take q)) 0 _ 0 0 0 _ _ _ l w hRk (hS3 (.inl (by omega))) hBd hBy hRe hCk hRc hRb hPc hSm hBl hOa (by simpa using ha) (by simpa using hbb)
        by_cases hc : i < 0
        · exact rt_w_rc_u _ A _ c ix A2 xs.length c2 (q : Int) bit i every (cnt (l.take q)) 0 _ 0 0 0 _ _ _ l w hRk (hS3 (.inr (by omega))) hBd hBy hRe hCk hRc hRb hPc hSm hBl hOa (by simpa using ha) (by simpa using hbb) (by simpa using hc)
        obtain ⟨k, rfl⟩ := Int.eq_ofNat_of_zero_le (show 0 ≤ i by omega)
        have hbt : bit = 0 ∨ bit = 1 := by omega
        have hz := slE0 l hl bit (k : Int) hbt (by omega)
        have hRs : ∀ r : Int, ((sel (decide (bit = 1)) l k = none ∧ r = -1) ∨ (∃ s, sel (decide (bit = 1)) l k = some s ∧ r = (s : Int))) → ∀ A c V, RdV V V.heap.size A (ic l) → Calls Try.prog 35 #[.slice A l.length c, .int .i64 bit, .int .i64 (k : Int)] V fun e w' => e = .returned (.int .i64 r) ∧ Below V.heap.size V w' := fun r hr A c V hA => by
          rcases hbt with rfl | rfl
          · exact rs0_any l l.length rfl hl k r (by simpa using hr) A c V hA
          · exact rs1_any l l.length rfl hl k r (by simpa using hr) A c V hA
        rw [Int.toNat_natCast] at hSl
        cases hs : sel (decide (bit = 1)) l k with
        | none => exact rt_w_n_u _ A _ c ix A2 xs.length c2 (q : Int) bit (k : Int) every (cnt (l.take q)) 0 _ 0 0 0 _ _ _ l w hRk (hSl 0 5 (.inr ⟨hz, .inl ⟨hs, rfl, rfl⟩⟩)) hBd hBy hRe hCk hRc hRb hPc hSm hBl hOa (hRs _ (.inl ⟨hs, rfl⟩)) (by simpa using ha) (by simpa using hbb) (by simp)
        | some s => exact rt_w_s_u _ A _ c ix A2 xs.length c2 (q : Int) bit (k : Int) every (cnt (l.take q)) s _ 0 0 0 _ _ _ l w hRk (hSl s 0 (.inr ⟨hz, .inr ⟨hs, rfl⟩⟩)) hBd hBy hRe hCk hRc hRb hPc hSm hBl hOa (hRs _ (.inr ⟨s, hs, rfl⟩)) (by simpa using ha) (by simpa using hbb) (by simp) (by simp)
      · obtain ⟨f1, f2⟩ := by_x (p := (q : Int)) hu
        rw [f1, f2] at hBy
        by_cases ha : bit < 0
        · exact rt_w_ra_x _ A _ c ix A2 xs.length c2 (q : Int) bit i every (cnt (l.take q)) 0 _ 0 0 (ckI (l.length : Int) (pack l) ix xs) _ _ _ l w hRk (hS3 (.inl (by omega))) hBd hBy hRe hCk hRc hRb hPc hSm hBl hOa (by simpa using hu) (by simpa using ha)
        by_cases hbb : 1 < bit
        · exact rt_w_rb_x _ A _ c ix A2 xs.length c2 (q : Int) bit i every (cnt (l.take q)) 0 _ 0 0 (ckI (l.length : Int) (pack l) ix xs) _ _ _ l w hRk (hS3 (.inl (by omega))) hBd hBy hRe hCk hRc hRb hPc hSm hBl hOa (by simpa using hu) (by simpa using ha) (by simpa using hbb)
        by_cases hc : i < 0
        · exact rt_w_rc_x _ A _ c ix A2 xs.length c2 (q : Int) bit i every (cnt (l.take q)) 0 _ 0 0 (ckI (l.length : Int) (pack l) ix xs) _ _ _ l w hRk (hS3 (.inr (by omega))) hBd hBy hRe hCk hRc hRb hPc hSm hBl hOa (by simpa using hu) (by simpa using ha) (by simpa using hbb) (by simpa using hc)
        obtain ⟨k, rfl⟩ := Int.eq_ofNat_of_zero_le (show 0 ≤ i by omega)
        have hbt : bit = 0 ∨ bit = 1 := by omega
        have hz := slE0 l hl bit (k : Int) hbt (by omega)
        have hRs : ∀ r : Int, ((sel (decide (bit = 1)) l k = none ∧ r = -1) ∨ (∃ s, sel (decide (bit = 1)) l k = some s ∧ r = (s : Int))) → ∀ A c V, RdV V V.heap.size A (ic l) → Calls Try.prog 35 #[.slice A l.length c, .int .i64 bit, .int .i64 (k : Int)] V fun e w' => e = .returned (.int .i64 r) ∧ Below V.heap.size V w' := fun r hr A c V hA => by
          rcases hbt with rfl | rfl
          · exact rs0_any l l.length rfl hl k r (by simpa using hr) A c V hA
          · exact rs1_any l l.length rfl hl k r (by simpa using hr) A c V hA
        rw [Int.toNat_natCast] at hSl
        cases hs : sel (decide (bit = 1)) l k with
        | none => exact rt_w_n_x _ A _ c ix A2 xs.length c2 (q : Int) bit (k : Int) every (cnt (l.take q)) 0 _ 0 0 (ckI (l.length : Int) (pack l) ix xs) _ _ _ l w hRk (hSl 0 5 (.inr ⟨hz, .inl ⟨hs, rfl, rfl⟩⟩)) hBd hBy hRe hCk hRc hRb hPc hSm hBl hOa (hRs _ (.inl ⟨hs, rfl⟩)) (by simpa using hu) (by simpa using ha) (by simpa using hbb) (by simp)
        | some s => exact rt_w_s_x _ A _ c ix A2 xs.length c2 (q : Int) bit (k : Int) every (cnt (l.take q)) s _ 0 0 (ckI (l.length : Int) (pack l) ix xs) _ _ _ l w hRk (hSl s 0 (.inr ⟨hz, .inr ⟨hs, rfl⟩⟩)) hBd hBy hRe hCk hRc hRb hPc hSm hBl hOa (hRs _ (.inr ⟨s, hs, rfl⟩)) (by simpa using hu) (by simpa using ha) (by simpa using hbb) (by simp) (by simp)
    · have en : rkN (l.length : Int) (pack l) p = 0 := by unfold rkN; rw [if_neg hw]
      rw [en] at hRk
      by_cases hu : ckI (l.length : Int) (pack l) ix xs = 0
      · obtain ⟨f1, f2⟩ := by_u (p := p) hu h0
        rw [f1, f2, en] at hBy
        rw [hu] at hRc hPc
        by_cases ha : bit < 0
        · exact rt_e_ra_u _ A _ c ix A2 xs.length c2 p bit i every 0 0 _ (rkE (l.length : Int) (pack l) p) 0 0 _ _ _ l w hRk (hS3 (.inl (by omega))) hBd hBy hRe hCk hRc hRb hPc hSm (by simpa using hw) (by simpa using ha)
        by_cases hbb : 1 < bit
        · exact rt_e_rb_u _ A _ c ix A2 xs.length c2 p bit i every 0 0 _ (rkE (l.length : Int) (pack l) p) 0 0 _ _ _ l w hRk (hS3 (.inl (by omega))) hBd hBy hRe hCk hRc hRb hPc hSm (by simpa using hw) (by simpa using ha) (by simpa using hbb)
        by_cases hc : i < 0
        · exact rt_e_rc_u _ A _ c ix A2 xs.length c2 p bit i every 0 0 _ (rkE (l.length : Int) (pack l) p) 0 0 _ _ _ l w hRk (hS3 (.inr (by omega))) hBd hBy hRe hCk hRc hRb hPc hSm (by simpa using hw) (by simpa using ha) (by simpa using hbb) (by simpa using hc)
        obtain ⟨k, rfl⟩ := Int.eq_ofNat_of_zero_le (show 0 ≤ i by omega)
        have hbt : bit = 0 ∨ bit = 1 := by omega
        have hz := slE0 l hl bit (k : Int) hbt (by omega)
        have hRs : ∀ r : Int, ((sel (decide (bit = 1)) l k = none ∧ r = -1) ∨ (∃ s, sel (decide (bit = 1)) l k = some s ∧ r = (s : Int))) → ∀ A c V, RdV V V.heap.size A (ic l) → Calls Try.prog 35 #[.slice A l.length c, .int .i64 bit, .int .i64 (k : Int)] V fun e w' => e = .returned (.int .i64 r) ∧ Below V.heap.size V w' := fun r hr A c V hA => by
          rcases hbt with rfl | rfl
          · exact rs0_any l l.length rfl hl k r (by simpa using hr) A c V hA
          · exact rs1_any l l.length rfl hl k r (by simpa using hr) A c V hA
        rw [Int.toNat_natCast] at hSl
        cases hs : sel (decide (bit = 1)) l k with
        | none => exact rt_e_n_u _ A _ c ix A2 xs.length c2 p bit (k : Int) every 0 0 _ (rkE (l.length : Int) (pack l) p) 0 0 _ _ _ l w hRk (hSl 0 5 (.inr ⟨hz, .inl ⟨hs, rfl, rfl⟩⟩)) hBd hBy hRe hCk hRc hRb hPc hSm hBl (hRs _ (.inl ⟨hs, rfl⟩)) (by simpa using hw) (by simpa using ha) (by simpa using hbb) (by simp)
        | some s => exact rt_e_s_u _ A _ c ix A2 xs.length c2 p bit (k : Int) every 0 s _ (rkE (l.length : Int) (pack l) p) 0 0 _ _ _ l w hRk (hSl s 0 (.inr ⟨hz, .inr ⟨hs, rfl⟩⟩)) hBd hBy hRe hCk hRc hRb hPc hSm hBl (hRs _ (.inr ⟨s, hs, rfl⟩)) (by simpa using hw) (by simpa using ha) (by simpa using hbb) (by simp) (by simp)
      · obtain ⟨f1, f2⟩ := by_x (p := p) hu
        rw [f1, f2] at hBy
        by_cases ha : bit < 0
        · exact rt_e_ra_x _ A _ c ix A2 xs.length c2 p bit i every 0 0 _ (rkE (l.length : Int) (pack l) p) 0 (ckI (l.length : Int) (pack l) ix xs) _ _ _ l w hRk (hS3 (.inl (by omega))) hBd hBy hRe hCk hRc hRb hPc hSm (by simpa using hw) (by simpa using hu) (by simpa using ha)
        by_cases hbb : 1 < bit
        · exact rt_e_rb_x _ A _ c ix A2 xs.length c2 p bit i every 0 0 _ (rkE (l.length : Int) (pack l) p) 0 (ckI (l.length : Int) (pack l) ix xs) _ _ _ l w hRk (hS3 (.inl (by omega))) hBd hBy hRe hCk hRc hRb hPc hSm (by simpa using hw) (by simpa using hu) (by simpa using ha) (by simpa using hbb)
        by_cases hc : i < 0
        · exact rt_e_rc_x _ A _ c ix A2 xs.length c2 p bit i every 0 0 _ (rkE (l.length : Int) (pack l) p) 0 (ckI (l.length : Int) (pack l) ix xs) _ _ _ l w hRk (hS3 (.inr (by omega))) hBd hBy hRe hCk hRc hRb hPc hSm (by simpa using hw) (by simpa using hu) (by simpa using ha) (by simpa using hbb) (by simpa using hc)
        obtain ⟨k, rfl⟩ := Int.eq_ofNat_of_zero_le (show 0 ≤ i by omega)
        have hbt : bit = 0 ∨ bit = 1 := by omega
        have hz := slE0 l hl bit (k : Int) hbt (by omega)
        have hRs : ∀ r : Int, ((sel (decide (bit = 1)) l k = none ∧ r = -1) ∨ (∃ s, sel (decide (bit = 1)) l k = some s ∧ r = (s : Int))) → ∀ A c V, RdV V V.heap.size A (ic l) → Calls Try.prog 35 #[.slice A l.length c, .int .i64 bit, .int .i64 (k : Int)] V fun e w' => e = .returned (.int .i64 r) ∧ Below V.heap.size V w' := fun r hr A c V hA => by
          rcases hbt with rfl | rfl
          · exact rs0_any l l.length rfl hl k r (by simpa using hr) A c V hA
          · exact rs1_any l l.length rfl hl k r (by simpa using hr) A c V hA
        rw [Int.toNat_natCast] at hSl
        cases hs : sel (decide (bit = 1)) l k with
        | none => exact rt_e_n_x _ A _ c ix A2 xs.length c2 p bit (k : Int) every 0 0 _ (rkE (l.length : Int) (pack l) p) 0 (ckI (l.length : Int) (pack l) ix xs) _ _ _ l w hRk (hSl 0 5 (.inr ⟨hz, .inl ⟨hs, rfl, rfl⟩⟩)) hBd hBy hRe hCk hRc hRb hPc hSm hBl (hRs _ (.inl ⟨hs, rfl⟩)) (by simpa using hw) (by simpa using hu) (by simpa using ha) (by simpa using hbb) (by simp)
        | some s => exact rt_e_s_x _ A _ c ix A2 xs.length c2 p bit (k : Int) every 0 s _ (rkE (l.length : Int) (pack l) p) 0 (ckI (l.length : Int) (pack l) ix xs) _ _ _ l w hRk (hSl s 0 (.inr ⟨hz, .inr ⟨hs, rfl⟩⟩)) hBd hBy hRe hCk hRc hRb hPc hSm hBl (hRs _ (.inr ⟨s, hs, rfl⟩)) (by simpa using hw) (by simpa using hu) (by simpa using ha) (by simpa using hbb) (by simp) (by simp)
  · have e1 : rkE len bs p = chk len bs := by unfold rkE rgE; rw [if_neg (fun q => h0 q.1)]
    have e2 : rkN len bs p = 0 := by unfold rkN; rw [if_neg (by rw [e1]; exact h0)]
    have e3 : slE len bs bit i = chk len bs := by unfold slE rgE; rw [if_neg (fun q => h0 q.1)]
    have e4 : bdE len bs ix = chk len bs := by unfold bdE rgE; rw [if_neg (fun q => h0 q.1)]
    have e5 : ckI len bs ix xs = chk len bs := by unfold ckI; rw [if_neg (by rw [e4]; exact h0), e4]
    obtain ⟨e6, e7⟩ := by_x (p := p) (show ckI len bs ix xs ≠ 0 by rw [e5]; exact h0)
    rw [e1, e2] at hRk
    rw [e1] at hRe
    rw [e6, e7, e5] at hBy
    rw [e5] at hRc hPc
    exact rt_e_v_x len A bs.length c ix A2 xs.length c2 p bit i every 0 0 (bdX len bs every).2.length (chk len bs) (chk len bs) (chk len bs) (bdX len bs every).1 (bdE len bs every) (bdX len bs every).2 [] w hRk (hSl 0 _ (.inl ⟨e3, h0, rfl⟩)) hBd hBy hRe hCk hRc hRb hPc hSm (by simpa using h0) (by simpa using h0) (by simpa using h0)
end

section
open Go.ChangeShapes Go.WideShapes Go.ChangeAt Go.RowKit
open Go.ChangeMaps (open_string shut_string)

set_option linter.unusedVariables false
set_option maxRecDepth 100000 in
theorem rankTells_lifted (os : Os) (started : os.Started) (H : Type) (enc : TypeId × Value → H) :
    ReturnsInHanded {} Try.checked os 4 .any (Rows.rankTellsSpec.pre6 enc Try.prog Try.f4 Rows.rankTellsRow.domain false) (Rows.rankTellsSpec.post enc Try.prog Try.f4 false true false false) := by
  refine returnsInHanded_of_change (C := Try.checked) own started (by kernel_rfl) Try.func4
    (ChangeSpec.witness6 (enc := enc) (C := Try.checked) false ⟨#[], #[.agg #[.int .i64 0, .slice none 0 0], .int .i64 0, .int .i64 0, .int .i64 0, .int .i64 0, .agg #[.int .i64 0, .slice none 0 0]], []⟩ 8 (by kernel_rfl) (by kernel_rfl) (by kernel_rfl) (by kernel_rfl)) ?_
  intro W base args ds gs before hval0 hW hcnd _
  have hval : ∀ (j : Nat) t v, Try.f4.params[j]? = some t → args[j]? = some v → Value.okWide Try.prog W .any base t v := hval0
  have hW' := hW
  obtain ⟨p, q, hA0, hV, rfl, hfz, hnd⟩ := hW
  have hA : DataW.TrodAll enc Try.prog W 0 (fun _ => true) true Try.f4.params.toList args.toList ds p := hA0
  rw [Try.params4] at hA hval
  obtain ⟨v0, vs0, d0, ds0, p0, q0, hargs, rfl, rfl, h0, r0⟩ := trodAll_cons hA
  obtain ⟨v1, vs1, d1, ds1, p1, q1, rfl, rfl, rfl, h1, r1⟩ := trodAll_cons r0
  obtain ⟨v2, vs2, d2, ds2, p2, q2, rfl, rfl, rfl, h2, r2⟩ := trodAll_cons r1
  obtain ⟨v3, vs3, d3, ds3, p3, q3, rfl, rfl, rfl, h3, r3⟩ := trodAll_cons r2
  obtain ⟨v4, vs4, d4, ds4, p4, q4, rfl, rfl, rfl, h4, r4⟩ := trodAll_cons r3
  obtain ⟨v5, vs5, d5, ds5, p5, q5, rfl, rfl, rfl, h5, r5⟩ := trodAll_cons r4
  obtain ⟨rfl, rfl, rfl⟩ := trodAll_nil r5
  obtain rfl : args = #[v0, v1, v2, v3, v4, v5] := by cases args; simp_all
  obtain ⟨rfl, rfl⟩ := trodVars_none hV
  have k0 := h0
  have lt0 : ∀ x ∈ p0, x.block < W.heap.size := by obtain ⟨m, hm⟩ := k0; exact DataW.trod_lt m _ _ _ hm
  obtain ⟨len0, A0, c0, bs0, rfl, rd0, by0, wf0⟩ := open_bits (hval 0 25 v0 rfl rfl) h0
  obtain ⟨x1, rfl, rfl, rfl, wx1⟩ := open_int Try.underlying3 (hval 1 3 v1 rfl rfl) h1
  have bd1 := bounds_i64 wx1
  obtain ⟨x2, rfl, rfl, rfl, wx2⟩ := open_int Try.underlying3 (hval 2 3 v2 rfl rfl) h2
  have bd2 := bounds_i64 wx2
  obtain ⟨x3, rfl, rfl, rfl, wx3⟩ := open_int Try.underlying3 (hval 3 3 v3 rfl rfl) h3
  have bd3 := bounds_i64 wx3
  obtain ⟨x4, rfl, rfl, rfl, wx4⟩ := open_int Try.underlying3 (hval 4 3 v4 rfl rfl) h4
  have bd4 := bounds_i64 wx4
  have k5 := h5
  have lt5 : ∀ x ∈ p5, x.block < W.heap.size := by obtain ⟨m, hm⟩ := k5; exact DataW.trod_lt m _ _ _ hm
  obtain ⟨ev5, A5, c5, xs5, rfl, rd5, by5, sz5, be5⟩ := open_index (hval 5 45 v5 rfl rfl) h5
  clear hA0 hval0
  refine (rankTells_law len0 A0 c0 bs0 x1 x2 x3 x4 ev5 A5 c5 xs5 W by0 rd0 bd1 bd2 bd3 bd4 rd5 sz5).mono fun e W' ⟨he, bel⟩ => ?_
  subst he
  exact ⟨_, rfl, _, _, _, [], _, [], hW', trodAll_mk1 (shut_bool Try.underlying4 _), (trodAll_cons_mk (Below.trod laidOut (by kernel_rfl) (of_decide_eq_true (by kernel_rfl)) k0 bel lt0) (trodAll_cons_mk (shut_int Try.underlying3 wx1) (trodAll_cons_mk (shut_int Try.underlying3 wx2) (trodAll_cons_mk (shut_int Try.underlying3 wx3) (trodAll_cons_mk (shut_int Try.underlying3 wx4) (trodAll_cons_mk (Below.trod laidOut (by kernel_rfl) (of_decide_eq_true (by kernel_rfl)) k5 bel lt5) trodAll_mk0)))))), rfl, bel.frame _, fun h => by cases h⟩

theorem RankTells_holds : Rows.RankTellsSaid :=
  OpenClaim.holds_of_wide 4 Try.f4 rfl rfl rfl rfl rfl rfl rfl ⟨rfl, rfl, rfl, rfl, rfl⟩ rfl rfl rfl rfl rfl (by kernel_rfl) Try.func4 (by kernel_rfl)
    (of_decide_eq_true (by kernel_rfl)) (by unfold Func.isWrapper; first | (rw [if_pos (by decide +kernel)]; kernel_rfl) | (rw [if_neg (by decide +kernel)]; exact ⟨rfl, rfl⟩))
    (fun os started H enc _ => rankTells_lifted os started H enc)
#print axioms RankTells_holds
end
end Go.Proofs.Ytgibbokhdfblmaa
