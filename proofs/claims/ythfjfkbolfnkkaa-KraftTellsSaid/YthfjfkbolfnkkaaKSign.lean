/- Which sign stands at a place: what Sign answers, for whatever it is handed. -/
import Derived.Test.YthfjfkbolfnkkaaKCodes
import Derived.Deep.RegionHeld3
import Derived.Deep.QuietTactic
import Derived.BigQuiet
namespace Go.Proofs.Ythfjfkbolfnkkaa
set_option maxRecDepth 100000
set_option linter.unusedVariables false
open Go.RowKit Go.Shelf Go.Sort

theorem rdv_drew {w : World} {A : Option Addr} {vs : List Value} (h : RdV w w.heap.size A vs) : RdV w.drew w.drew.heap.size A vs := h
/-- Two numbers and an error come back. -/
def SgP (w : World) (s to : Nat) (err : Int) (e : Ending) (w' : World) : Prop := e = .returned (.tuple #[.int .i64 (s : Int), .int .i64 (to : Int), .int .i64 err]) ∧ Below w.heap.size w w'
/-- The words are none. -/
def WordsNo (A1 : Option Addr) (n1 c1 : Nat) (w : World) (e0 : Int) : Prop := ∀ V, Below w.heap.size w V → Calls Try.prog 36 #[.slice A1 n1 c1] V fun e w' => e = .returned (.tuple #[.slice none 0 0, .int .i64 e0]) ∧ Below V.heap.size V w'
set_option maxHeartbeats 1000000 in
theorem sign_w (A1 : Option Addr) (n1 c1 : Nat) (len : Int) (A2 : Option Addr) (N c2 : Nat) (p : Int) (w : World) (e0 : Int) (h0 : e0 ≠ 0) (hW : WordsNo A1 n1 c1 w e0) :
    Calls Try.prog 15 #[.slice A1 n1 c1, .agg #[.int .i64 len, .slice A2 N c2], .int .i64 p] w (SgP w 0 0 e0) := by
  have HW := Lib.hid hW; clear hW
  have t0 : (e0 == 0) = false := by simpa using h0
  clear h0
  go_enter Try.func15, Try.ntmps15
  go_wp2_with fail
  generalize hV : w.alloc (.cells #[.int .i64 len, .slice A2 N c2] 26) = V0
  have HV : Hid (Below w.heap.size w V0) := hV ▸ one_below _ _
  have HVs : Hid (w.heap.size + 1 = V0.heap.size) := by show _ = _; rw [← hV, World.size_alloc]
  have HK : Hid (∀ w' : World, Below V0.heap.size V0 w' → w'.cell? ⟨w.heap.size, 0, none⟩ = some (.int .i64 len) ∧ w'.cell? ⟨w.heap.size, 1, none⟩ = some (.slice A2 N c2)) := by
    subst hV
    exact fun w' h => box_at (by rwa [World.size_alloc] at h)
  clear hV
  refine (HW.out V0 HV.out).mono ?_
  rintro e w2 ⟨rfl, b2⟩
  have B1 := Lib.hid b2; clear b2
  go_wp2
  go_ret3
  exact ⟨rfl, HV.out.trans (B1.out.mono HV.out.size)⟩

set_option maxHeartbeats 4000000 in
theorem sign_r (l : List Nat) (n1 : Nat) (hn : l.length = n1) (h64 : n1 ≤ 64) (h24 : ∀ x ∈ l, x ≤ 24) (hr : tkn l ≤ 16777216) (A1 : Option Addr) (c1 : Nat) (w : World) (hRl : RdV w w.heap.size A1 (zc (ns l)))
    (len : Int) (A2 : Option Addr) (c2 : Nat) (bs : List Nat) (hb : ∀ b ∈ bs, b < 256) (hA : Rd w w.heap.size A2 bs) (p ec e0 : Int) (hc : chk len bs = ec) (he : rgE ec [decide (0 ≤ p), decide (p ≤ len)] = e0) (h0 : e0 ≠ 0) :
    Calls Try.prog 15 #[.slice A1 n1 c1, .agg #[.int .i64 len, .slice A2 bs.length c2], .int .i64 p] w (SgP w 0 0 e0) := by
  have HW : Hid (∀ V, Below w.heap.size w V → Calls Try.prog 36 #[.slice A1 n1 c1] V fun e w' => ∃ (Av : Option Addr) (cv : Nat), e = .returned (.tuple #[.slice Av (words l).length cv, .int .i64 0]) ∧ Below V.heap.size V w') := fun V hV =>
    (wordsOf_ok l n1 hn h64 h24 hr A1 c1 V (hRl.on hV)).mono (by
      rintro e w' ⟨v, he, ho, hbel⟩
      obtain ⟨Av, cv, rfl, _⟩ := own_rdw rfl ho
      exact ⟨Av, cv, he, hbel⟩)
  have HC : Hid (∀ V, Rd V V.heap.size A2 bs → Calls Try.prog 39 #[.agg #[.int .i64 len, .slice A2 bs.length c2]] V fun e w' => e = .returned (.int .i64 ec) ∧ Below V.heap.size V w') := fun V hV => by rw [← hc]; exact check_any len A2 c2 bs V hb hV
  have HA := Lib.hid hA
  have HE : Hid (rgE ec [decide (0 ≤ p), decide (p ≤ len)] = e0) := he
  have HR := Lib.hid (range2 ec (decide (0 ≤ p)) (decide (p ≤ len)) e0 he)
  clear he hA hc hRl hb hr h24 hn
  have t0 : (e0 == 0) = false := by simpa using h0
  clear h0
  generalize (words l).length = m at *
  generalize bs.length = N at *
  go_enter Try.func15, Try.ntmps15
  go_wp2_with fail
  generalize hV : w.alloc (.cells #[.int .i64 len, .slice A2 N c2] 26) = V0
  have HV : Hid (Below w.heap.size w V0) := hV ▸ one_below _ _
  have HVs : Hid (w.heap.size + 1 = V0.heap.size) := by show _ = _; rw [← hV, World.size_alloc]
  have HK : Hid (∀ w' : World, Below V0.heap.size V0 w' → w'.cell? ⟨w.heap.size, 0, none⟩ = some (.int .i64 len) ∧ w'.cell? ⟨w.heap.size, 1, none⟩ = some (.slice A2 N c2)) := by
    subst hV
    exact fun w' h => box_at (by rwa [World.size_alloc] at h)
  clear hV
  refine (HW.out V0 HV.out).mono ?_
  rintro e w2 ⟨Av, cv, rfl, b2⟩
  have B1 := Lib.hid b2; clear b2
  go_wp2
  go_region_held3 (fun w' => w'.cell? ⟨w.heap.size, 0, none⟩ = some (.int .i64 len) ∧ w'.cell? ⟨w.heap.size, 1, none⟩ = some (.slice A2 N c2))
    ((refine HK.out _ ?_; first | exact hk2.out | exact hk1.out.trans ((one_below _ _).mono hk1.out.size) | exact hk1.out | exact B1.out.trans (((one_below _ _).drew).mono B1.out.size) | exact B1.out.drew))
    (first
      | (go_at_call 47; have hx := hsl.out; refine (range_any ec [(decide (0 ≤ p)), (decide (p ≤ len))] 2 rfl (by decide) _ _ w5 hx).mono ?_; rintro e w6 ⟨rfl, hw⟩; have hk2 : Hid (Below V0.heap.size V0 w6) := hw ▸ hk1.out; clear hx hw hsl; rw [HE.out])
      | (go_at_call 47; have hx := hk1.out; refine (HR.out w5 _ rfl).mono ?_; rintro e w6 ⟨rfl, B2⟩; have hk2 : Hid (Below V0.heap.size V0 w6) := hx.trans (B2.mono hx.size); clear B2 hx)
      | (go_at_call 39; refine (HC.out w2.drew (HA.out.on (HV.out.trans (B1.out.mono HV.out.size)).drew)).mono ?_; rintro e w5 ⟨rfl, B5⟩; have hk1 : Hid (Below V0.heap.size V0 w5) := B1.out.trans (((Below.refl _ w2).drew).trans B5 |>.mono B1.out.size); clear B5)
      | (go_at_call 39; refine (HC.out _ (HA.out.on ((HV.out.trans (B1.out.mono HV.out.size)).trans ((one_below w2 (.cells #[.bool (decide (0 ≤ p)), .bool (decide (p ≤ len))] 4)).drew.mono (HV.out.trans (B1.out.mono HV.out.size)).size)))).mono ?_; rintro e w5 ⟨rfl, B5⟩; have hk1 : Hid (Below V0.heap.size V0 w5) := B1.out.trans ((((one_below w2 (.cells #[.bool (decide (0 ≤ p)), .bool (decide (p ≤ len))] 4)).drew).trans (B5.mono (by simp))).mono B1.out.size); have hsl : Hid (RdV w5 w5.heap.size (some ⟨w2.heap.size, 0, none⟩) (cc [(decide (0 ≤ p)), (decide (p ≤ len))])) := (rdv_drew (rdv_cc w2 [(decide (0 ≤ p)), (decide (p ≤ len))])).on B5; clear B5))
  all_goals (
    have HB2 : Hid (Below w.heap.size w w6) := HV.out.trans (hk2.out.mono HV.out.size)
    clear HK hk2 hk1
    go_wp2
    go_ret3
    exact ⟨rfl, HB2.out⟩)

/-- At each round's head: none of the first i words stands there. -/
def SgRel (W : List Wn) (left : List Bool) (w2 : World) (p : Value) (wr : World) : Prop :=
  ∃ i : Nat, i ≤ W.length ∧ p = .int .i64 (i : Int) ∧ sgn left (W.drop i) = sgn left W ∧ Below w2.heap.size w2 wr
theorem sgn_unf (left : List Bool) (x : Wn) (t : List Wn) (sh : Nat) (h : min x.2.1 left.length = sh) : sgn left (x :: t) = if num (left.take sh) = x.2.2 / 2 ^ (x.2.1 - sh) then (if sh < x.2.1 then (0, 0, 7) else (x.1, x.2.1, 0)) else sgn left t := by
  subst h; rfl
/-- What Sign answers, at place p. -/
def sgA (p : Nat) (r : Nat × Nat × Int) : Nat × Nat × Int := if r.2.2 = 0 then (r.1, p + r.2.1, 0) else (0, 0, r.2.2)

set_option maxHeartbeats 4000000 in
theorem sign_ok (l : List Nat) (n1 : Nat) (hn : l.length = n1) (h64 : n1 ≤ 64) (h24 : ∀ x ∈ l, x ≤ 24) (hr : tkn l ≤ 16777216) (A1 : Option Addr) (c1 : Nat) (w : World) (hRl : RdV w w.heap.size A1 (zc (ns l)))
    (lb : List Bool) (hlb : lb.length ≤ 8192) (A2 : Option Addr) (c2 : Nat) (hA : Rd w w.heap.size A2 (pack lb)) (p : Nat) (hp : p ≤ lb.length) (s to : Nat) (e0 : Int) (hres : sgA p (sgn (lb.drop p) (words l)) = (s, to, e0)) :
    Calls Try.prog 15 #[.slice A1 n1 c1, .agg #[.int .i64 (lb.length : Int), .slice A2 (pack lb).length c2], .int .i64 (p : Int)] w (SgP w s to e0) := by
  have HW : Hid (∀ V, Below w.heap.size w V → Calls Try.prog 36 #[.slice A1 n1 c1] V fun e w' => ∃ (Av : Option Addr) (cv : Nat), e = .returned (.tuple #[.slice Av (words l).length cv, .int .i64 0]) ∧ RdW w' w'.heap.size Av (words l) ∧ Below V.heap.size V w') := fun V hV =>
    (wordsOf_ok l n1 hn h64 h24 hr A1 c1 V (hRl.on hV)).mono (by
      rintro e w' ⟨v, he, ho, hbel⟩
      obtain ⟨Av, cv, rfl, hw⟩ := own_rdw rfl ho
      exact ⟨Av, cv, he, hw, hbel⟩)
  have HC : Hid (∀ V, Rd V V.heap.size A2 (pack lb) → Calls Try.prog 39 #[.agg #[.int .i64 (lb.length : Int), .slice A2 (pack lb).length c2]] V fun e w' => e = .returned (.int .i64 0) ∧ Below V.heap.size V w') := fun V hV => check_l lb hlb A2 c2 V hV
  have HG : Hid (∀ (V : World) (k : Nat), k ≤ 24 → p + k ≤ lb.length → Rd V V.heap.size A2 (pack lb) → Calls Try.prog 48 #[.agg #[.int .i64 (lb.length : Int), .slice A2 (pack lb).length c2], .int .i64 (p : Int), .int .i64 (k : Int)] V fun e w' => e = .returned (.tuple #[.int .u64 (num ((lb.drop p).take k) : Int), .int .i64 0]) ∧ Below V.heap.size V w') := fun V k hk hpk hV => get_l lb hlb A2 c2 p k _ (by omega) hpk rfl V hV
  have HA := Lib.hid hA
  have HE : Hid (rgE 0 [true, true] = 0) := by show _ = _; decide
  have HR := Lib.hid (range2 0 true true 0 (by decide))
  have HWd := Lib.hid (words_ok l h24)
  have HL : Hid ((words l).length ≤ 64) := by show _ ≤ _; rw [words_len]; have := uws_len l 0; omega
  have HRes := Lib.hid hres
  have HX : Hid (∀ i, i < (words l).length → 1 ≤ (wAt (words l) i).2.1 ∧ (wAt (words l) i).2.1 ≤ 24 ∧ (wAt (words l) i).2.2 < 16777216) := by
    intro i hi
    have hm := wAt_mem _ i hi
    have h1 := words_lt HWd.out hr hm
    have h2 := (HWd.out.mem _ hm).2
    have h3 : 2 ^ (wAt (words l) i).2.1 ≤ 2 ^ 24 := Nat.pow_le_pow_right (by omega) h2.2
    exact ⟨h2.1, h2.2, by omega⟩
  have hdl : (lb.drop p).length = lb.length - p := List.length_drop
  clear hA hRl hr h24 hn hres
  have hm64 : (words l).length ≤ 64 := HL.out
  generalize words l = W at *
  generalize hmm : W.length = m at *
  have HM := Lib.hid hmm; clear hmm
  generalize hlf : lb.drop p = left at *
  have HLf := Lib.hid hlf; clear hlf
  generalize pack lb = bs at *
  generalize bs.length = N at *
  generalize hln : lb.length = ln at *
  clear hln
  have t1 : decide ((0 : Int) ≤ (p : Int)) = true := by simp
  have t2 : decide ((p : Int) ≤ (ln : Int)) = true := by simp; omega
  go_enter Try.func15, Try.ntmps15
  go_wp2_with fail
  generalize hV : w.alloc (.cells #[.int .i64 (ln : Int), .slice A2 N c2] 26) = V0
  have HV : Hid (Below w.heap.size w V0) := hV ▸ one_below _ _
  have HVs : Hid (w.heap.size + 1 = V0.heap.size) := by show _ = _; rw [← hV, World.size_alloc]
  have HK : Hid (∀ w' : World, Below V0.heap.size V0 w' → w'.cell? ⟨w.heap.size, 0, none⟩ = some (.int .i64 (ln : Int)) ∧ w'.cell? ⟨w.heap.size, 1, none⟩ = some (.slice A2 N c2)) := by
    subst hV
    exact fun w' h => box_at (by rwa [World.size_alloc] at h)
  clear hV
  refine (HW.out V0 HV.out).mono ?_
  rintro e w2 ⟨Av, cv, rfl, hwW, b2⟩
  have B1 := Lib.hid b2; have HRW := Lib.hid hwW; clear b2 hwW
  have HVw : Hid (Below w.heap.size w w2) := HV.out.trans (B1.out.mono HV.out.size)
  go_wp2
  go_region_held3 (fun w' => w'.cell? ⟨w.heap.size, 0, none⟩ = some (.int .i64 (ln : Int)) ∧ w'.cell? ⟨w.heap.size, 1, none⟩ = some (.slice A2 N c2))
    ((refine HK.out _ ?_; first | exact B1.out.trans (hk2.out.mono B1.out.size) | exact (B1.out.trans (hk1.out.mono B1.out.size)).trans ((one_below _ _).mono (B1.out.trans (hk1.out.mono B1.out.size)).size) | exact B1.out.trans (hk1.out.mono B1.out.size) | exact B1.out.trans (((one_below _ _).drew).mono B1.out.size) | exact B1.out.drew))
    (first
      | (go_at_call 47; have hx := hsl.out; refine (range_any 0 [true, true] 2 rfl (by decide) _ _ w5 hx).mono ?_; rintro e w6 ⟨rfl, hw⟩; have hk2 : Hid (Below w2.heap.size w2 w6) := hw ▸ hk1.out; clear hx hw hsl; rw [HE.out])
      | (go_at_call 47; have hx := hk1.out; refine (HR.out w5 _ rfl).mono ?_; rintro e w6 ⟨rfl, B2⟩; have hk2 : Hid (Below w2.heap.size w2 w6) := hx.trans (B2.mono hx.size); clear B2 hx)
      | (go_at_call 39; refine (HC.out w2.drew (HA.out.on HVw.out.drew)).mono ?_; rintro e w5 ⟨rfl, B5⟩; have hk1 : Hid (Below w2.heap.size w2 w5) := ((Below.refl _ w2).drew).trans B5; clear B5)
      | (go_at_call 39; refine (HC.out _ (HA.out.on (HVw.out.trans ((one_below w2 (.cells #[.bool true, .bool true] 4)).drew.mono HVw.out.size)))).mono ?_; rintro e w5 ⟨rfl, B5⟩; have hk1 : Hid (Below w2.heap.size w2 w5) := ((one_below w2 (.cells #[.bool true, .bool true] 4)).drew).trans (B5.mono (by simp)); have hsl : Hid (RdV w5 w5.heap.size (some ⟨w2.heap.size, 0, none⟩) (cc [true, true])) := (rdv_drew (rdv_cc w2 [true, true])).on B5; clear B5))
  all_goals (
    have HB6 := Lib.hid hk2.out
    clear hk2 hk1
    go_wp2
    go_loopw [40] (fun p wr => SgRel W left w2 p wr) (fun p _ => m - (intOf p).toNat)
    case atStart => exact ⟨0, Nat.zero_le _, rfl, rfl, HB6.out⟩
    case round =>
      obtain ⟨i, hi, rfl, hsg, hbel⟩ := hrel
      rw [HM.out] at hi
      by_cases hlt : i < m
      · have hiw : i < W.length := by rw [HM.out]; exact hlt
        have hxi : W[i]? = some (wAt W i) := by unfold wAt; rw [List.getElem?_eq_getElem hiw]; rfl
        obtain ⟨b, off, rfl, hb, k0, k1, k2⟩ := (HRW.out.below hbel hbel.size).at_ hxi
        obtain ⟨hx1, hx2, hx3⟩ := HX.out i hlt
        have hdr : W.drop i = wAt W i :: W.drop (i + 1) := by
          rw [List.drop_eq_getElem_cons hiw]; unfold wAt; rw [List.getElem?_eq_getElem hiw]; rfl
        rw [hdr] at hsg
        have HBw : Hid (Below V0.heap.size V0 wr) := B1.out.trans (hbel.mono B1.out.size)
        obtain ⟨p1, q1⟩ := HK.out wr HBw.out
        have hbw : w.heap.size < wr.heap.size := by have := HBw.out.size; rw [← HVs.out] at this; omega
        have HBel := Lib.hid hbel
        have hwl : w.heap.size ≤ wr.heap.size := by omega
        generalize wAt W i = x at *
        obtain ⟨sy, wd, nm⟩ := x
        simp only at k0 k1 k2 hx1 hx2 hx3
        have key : ∀ sh : Nat, min wd left.length = sh → sh ≤ wd ∧ sh ≤ left.length := fun sh h => by omega
        obtain ⟨sh, hsh⟩ : ∃ sh, min wd left.length = sh := ⟨_, rfl⟩
        obtain ⟨hs1, hs2⟩ := key sh hsh
        rw [sgn_unf left (sy, wd, nm) _ sh hsh] at hsg
        have hsh2 : min (wd : Int) ((ln : Int) - (p : Int)) = (sh : Int) := by rw [hdl] at hsh; omega
        have HGk := Lib.hid (fun V => HG.out V sh (by omega) (by rw [hdl] at hs2; omega))
        simp only at hsg
        obtain ⟨st, hst⟩ : ∃ st, num (left.take sh) = st := ⟨_, rfl⟩
        obtain ⟨q, hq⟩ : ∃ q, nm / 2 ^ (wd - sh) = q := ⟨_, rfl⟩
        rw [hst, hq] at hsg
        rw [hst] at HGk
        have hq2 : (nm : Int) / 2 ^ (wd - sh) = (q : Int) := by rw [← hq]; simp
        have hq3 : (nm : Int) / 2 ^ ((wd : Int) - (sh : Int)).toNat = (q : Int) := by rw [show ((wd : Int) - (sh : Int)).toNat = wd - sh by omega]; exact hq2
        have HSg := Lib.hid hsg
        clear hsg key hdr hxi hsh hq hst hbel
        go_wp2_with fail
        refine (HGk.out _ (HA.out.on ((HVw.out.trans (HBel.out.mono HVw.out.size)).trans ((one_below wr _).mono hwl)))).mono ?_
        rintro e w7 ⟨rfl, B7⟩
        have n0 := World.alloc_heap_new wr (.cells #[.int .i64 (sy : Int), .int .i64 (wd : Int), .int .u64 (nm : Int)] 60)
        have k0' := (B7.block wr.heap.size (by simp)).trans n0
        have r0 : w7.cell? ⟨wr.heap.size, 0, none⟩ = some (.int .i64 (sy : Int)) := (cell_at k0' _).trans rfl
        have r1 : w7.cell? ⟨wr.heap.size, 1, none⟩ = some (.int .i64 (wd : Int)) := (cell_at k0' _).trans rfl
        have r2 : w7.cell? ⟨wr.heap.size, 2, none⟩ = some (.int .u64 (nm : Int)) := (cell_at k0' _).trans rfl
        have HB7 : Hid (Below w2.heap.size w2 w7) := HBel.out.trans (((one_below wr _).trans (B7.mono (by simp))).mono HBel.out.size)
        clear n0 k0' B7 k0 k1 k2 p1 q1 HGk
        by_cases hc : st = q
        · rw [if_pos hc] at HSg
          have tq : ((st : Int) == (q : Int)) = true := by simp; omega
          by_cases hd : sh < wd
          · rw [if_pos hd] at HSg
            have hres := HRes.out
            rw [← HSg.out] at hres
            have HF : Hid ((0, 0, (7 : Int)) = (s, to, e0)) := hres
            clear hres hc
            go_wp2
            go_ret3
            obtain ⟨rfl, rfl, rfl⟩ : 0 = s ∧ 0 = to ∧ (7 : Int) = e0 := by have := HF.out; simp only [Prod.mk.injEq] at this; exact this
            exact ⟨rfl, HVw.out.trans (HB7.out.mono HVw.out.size)⟩
          · rw [if_neg hd] at HSg
            have hres := HRes.out
            rw [← HSg.out] at hres
            have HF : Hid ((sy, p + wd, (0 : Int)) = (s, to, e0)) := hres
            clear hres hc
            obtain rfl : sh = wd := by omega
            obtain rfl : nm = q := by
              rw [Nat.sub_self, Int.pow_zero, Int.ediv_one] at hq2
              omega
            clear hq2 hq3
            go_wp2
            go_quiet (fail)
            go_wp2
            go_ret3
            obtain ⟨rfl, rfl, rfl⟩ : sy = s ∧ p + sh = to ∧ (0 : Int) = e0 := by have := HF.out; simp only [Prod.mk.injEq] at this; exact this
            have hbz := HVw.out.trans (HB7.out.mono HVw.out.size)
            exact ⟨by simp, ⟨hbz.os, hbz.tape, hbz.output, hbz.size, hbz.block⟩⟩
        · rw [if_neg hc] at HSg
          have tq : ((st : Int) == (q : Int)) = false := by simp; omega
          clear hc
          go_wp2
          go_roundw
          case rel => exact ⟨i + 1, by rw [HM.out]; omega, by go_num, HSg.out, HB7.out⟩
          case measure => simp [intOf]; omega
      · have hd : W.drop i = [] := List.drop_eq_nil_of_le (by rw [HM.out]; omega)
        rw [hd] at hsg
        have hres := HRes.out
        rw [← hsg] at hres
        have HF : Hid ((0, 0, (5 : Int)) = (s, to, e0)) := hres
        have HB7 := Lib.hid hbel
        clear hres hsg hd hbel
        go_wp2
        go_ret3
        obtain ⟨rfl, rfl, rfl⟩ : 0 = s ∧ 0 = to ∧ (5 : Int) = e0 := by have := HF.out; simp only [Prod.mk.injEq] at this; exact this
        exact ⟨rfl, HVw.out.trans (HB7.out.mono HVw.out.size)⟩)
end Go.Proofs.Ythfjfkbolfnkkaa
