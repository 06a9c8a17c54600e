/- What the reader of a list takes: blocks; conditions: bits that can be read, ahead of the reader's own block. -/
import Derived.Test.YtcffndfbkbchjaaGreatJ10
namespace Go.Proofs.YtcffndfbkbchjaaGreat

section
set_option maxRecDepth 100000
set_option linter.unusedVariables false
open Go.RowKit Go.Shelf

theorem pnum_le {L : List Bool} {s most x s' : Nat} (h : pnum L s most = some (x, s')) : x ≤ most ∧ s' ≤ L.length := by
  unfold pnum at h
  split at h
  · rename_i hh
    simp only [Option.some.injEq, Prod.mk.injEq] at h
    have := (thenR_bound L (uR L s)).1
    obtain ⟨rfl, rfl⟩ := h
    exact ⟨hh.2, this⟩
  · cases h
/-- What is new lies ahead of the block, which is changed in no other way. -/
theorem WB.then {P B : Nat} {w a b : World} (h : WB P w a) (k : Below B a b) (hw : w.heap.size ≤ B) : WB P w b :=
  ⟨k.os.trans h.os, k.tape.trans h.tape, k.output.trans h.output, Nat.le_trans h.size k.size, fun j hj hne => (k.block j (Nat.lt_of_lt_of_le hj hw)).trans (h.block j hj hne)⟩
theorem RB.low {w V : World} {B Q : Nat} {L : List Bool} {A : Option Addr} {c s : Nat} (h : RB w Q L A c s) (hb : Below B w V) (hQ : Q < B) : RB V Q L A c s := (hb.block Q hQ).trans h
/-- Where a round's number fails, so do all. -/
theorem pbl_none (L : List Bool) (m : Nat) (acc : List Nat) (s : Nat) (h : pnum L s 300 = none) : pbl L (m + 1) acc s = none := by unfold pbl; rw [h]
theorem pbl_some (L : List Bool) (m : Nat) (acc : List Nat) (s x s' : Nat) (h : pnum L s 300 = some (x, s')) : pbl L (m + 1) acc s = pbl L m (acc ++ [x + (if acc = [] then 0 else 1)]) s' := by
  show (match pnum L s 300 with | none => none | some (x, s') => pbl L m (acc ++ [x + (if acc = [] then 0 else 1)]) s') = _
  rw [h]
/-- Blocks come back, or the reader gives up. -/
def TbP (Q : Nat) (L : List Bool) (A : Option Addr) (c : Nat) (w : World) (o : Option (List Nat × Nat)) (e : Ending) (w' : World) : Prop :=
  WB Q w w' ∧ match o with
    | none => Bad e
    | some (B, s) => (∃ A1 c1, e = .returned (.slice A1 B.length c1) ∧ w'.ownsRow w.heap.size 3 1 (.slice A1 B.length c1) B.length (zc (ns B))) ∧ RB w' Q L A c s ∧ s ≤ L.length
def TbRel (L : List Bool) (A : Option Addr) (c Q n : Nat) (o : Option (List Nat × Nat)) (w : World) (v p : Value) (wr : World) : Prop :=
  ∃ (i s : Nat) (acc : List Nat), i ≤ n ∧ p = .int .i64 (i : Int) ∧ acc.length = i ∧ s ≤ L.length ∧ pbl L (n - i) acc s = o ∧ wr.ownsRow w.heap.size 3 1 v acc.length (zc (ns acc)) ∧ RB wr Q L A c s ∧ Rd wr Q A (pack L) ∧ WB Q w wr
set_option maxHeartbeats 4000000 in
theorem take_blocks (L : List Bool) (hL : L.length ≤ 8192) (A : Option Addr) (c Q s : Nat) (hs : s ≤ L.length) (w : World) (hQ : RB w Q L A c s) (hR : Rd w Q A (pack L)) :
    Calls Tryz.prog 119 #[.pointer (some ⟨Q, 0, none⟩)] w (TbP Q L A c w (pblocks L s)) := by
  have hlt := hQ.lt
  have HTk : Hid (∀ (V : World) (s : Nat), s ≤ L.length → RB V Q L A c s → Rd V Q A (pack L) → Calls Tryz.prog 117 #[.pointer (some ⟨Q, 0, none⟩), .int .i64 300] V (TkP Q L A c V (pnum L s 300))) := fun V s h1 h2 h3 => take_num L hL A c Q s h1 300 (by omega) V h2 h3
  have HT0 := Lib.hid (HTk.out w s hs hQ hR)
  have HR := Lib.hid hR
  obtain ⟨i0, hi, hz0, hz1, hz2⟩ := info_parts info3
  have HP : Hid (pblocks L s = match pnum L s 300 with | none => none | some (n, s') => pbl L n [] s') := rfl
  generalize pblocks L s = o at *
  clear hQ hR
  rcases hpn : pnum L s 300 with _ | ⟨n, s1⟩
  · rw [hpn] at HT0 HP
    clear hpn
    go_enter Tryz.func119, Tryz.ntmps119
    go_wp2_with fail
    refine HT0.out.mono ?_
    rintro e w1 ⟨hwb, rfl⟩
    have HW := Lib.hid hwb
    clear hwb
    go_wp2
    exact ⟨rfl, HW.out, by rw [HP.out]; rfl⟩
  · rw [hpn] at HT0 HP
    obtain ⟨hn, hs1⟩ := pnum_le hpn
    clear hpn
    go_enter Tryz.func119, Tryz.ntmps119
    go_wp2_with fail
    refine HT0.out.mono ?_
    rintro e w1 ⟨hwb, rfl, hrb⟩
    have HW1 := Lib.hid hwb; have HRB1 := Lib.hid hrb
    clear hwb hrb HT0
    go_wp2
    go_loopw [3, 7] (fun v p wr => TbRel L A c Q n o w v p wr) (fun _ p _ => n - (intOf p).toNat)
    case atStart => exact ⟨0, s1, [], Nat.zero_le _, rfl, rfl, hs1, HP.out.symm, ⟨rfl, .inl ⟨rfl, rfl⟩⟩, HRB1.out, rd_low HR.out HW1.out hlt, HW1.out⟩
    case round =>
      obtain ⟨i, s2, acc, hi', rfl, hai, hs2, hpb, hrow, hrb, hrd, hwb⟩ := hrel
      clear HW1 HRB1
      obtain ⟨Av, cv, rfl⟩ := own_slice3 hrow
      by_cases hlt2 : i < n
      · have HT := Lib.hid (HTk.out wr s2 hs2 hrb hrd)
        obtain ⟨m, hm⟩ : ∃ m, n - i = m + 1 := ⟨n - i - 1, by omega⟩
        rw [hm] at hpb
        have HWB := Lib.hid hwb; have HRow := Lib.hid hrow; have HRd := Lib.hid hrd
        clear hwb hrb hrd
        rcases hpn : pnum L s2 300 with _ | ⟨x, s3⟩
        · rw [hpn] at HT
          rw [pbl_none L m acc s2 hpn] at hpb
          subst hpb
          clear hpn hrow
          go_wp2_with fail
          refine HT.out.mono ?_
          rintro e w2 ⟨hwb, rfl⟩
          have HW := Lib.hid (HWB.out.trans hwb)
          clear hwb
          go_wp2
          exact ⟨rfl, HW.out, rfl⟩
        · rw [hpn] at HT
          rw [pbl_some L m acc s2 x s3 hpn] at hpb
          obtain ⟨hx, hs3⟩ := pnum_le hpn
          have hpe : (if acc = [] then (0 : Nat) else 1) = if i = 0 then 0 else 1 := by
            by_cases h0 : i = 0
            · rw [if_pos h0, if_pos (List.eq_nil_of_length_eq_zero (by omega))]
            · rw [if_neg h0, if_neg (fun e => h0 (by rw [← hai, e]; rfl))]
          rw [hpe] at hpb
          obtain ⟨y, hy⟩ : ∃ y : Nat, (if i = 0 then (0 : Nat) else 1) = y := ⟨_, rfl⟩
          have hyi : (if i = 0 then (0 : Int) else 1) = (y : Int) := by rw [← hy]; split <;> rfl
          have HLb := Lib.hid (fun V => lblock_any i (by omega) V)
          rw [hy] at hpb
          rw [hyi] at HLb
          have hy1 : y ≤ 1 := by rw [← hy]; split <;> omega
          clear hy hyi hpe hpn
          have HPb := Lib.hid hpb
          have t1 : IntKind.i64.wrap ((x : Int) + (y : Int)) = (x : Int) + (y : Int) := IntWalk.i64_in _ (by omega)
          have HZc : Hid (zc (ns acc) ++ [Value.int .i64 ((x : Int) + (y : Int))] = zc (ns (acc ++ [x + y]))) := by show _ = _; rw [ns_append, zc_append]; rfl
          have HLn : Hid ((acc ++ [x + y]).length = i + 1) := by show _ = _; rw [List.length_append, hai]; rfl
          clear hpb hrow
          rw [hai] at HRow ⊢
          go_wp2_with fail
          refine HT.out.mono ?_
          rintro e w2 ⟨hwb, rfl, hrb⟩
          have HW2 := Lib.hid hwb; have HRB2 := Lib.hid hrb
          have hrow := own_wb HRow.out hwb hlt
          have hws : w.heap.size ≤ w2.heap.size := Nat.le_trans HWB.out.size hwb.size
          clear hwb hrb HRow HT
          go_wp2_with fail
          refine (HLb.out _).mono ?_
          rintro e w' ⟨rfl, rfl⟩
          go_wp2_with (at_builtin; refine wpList_append_own _ rfl _ _ 22 rfl w.heap.size 3 i0 (.int .i64 0) 1 8 Tryz.underlying22 hi hz0 hz1 hz2 rfl (by decide) _ _ _ rfl (hrow.alloc _) ⟨w2.heap.size, 0, none⟩ 1 1 [.int .i64 ((x : Int) + (y : Int))] rfl rfl (news_row w2 [.int .i64 ((x : Int) + (y : Int))] _) (by simp [Value.oneCell']) (by unfold maxLen; omega) (by omega) (by simp; omega) ?_; intro v' w3 hown' hgrow _; obtain ⟨Av', cv', rfl⟩ := own_slice3 hown')
          rw [HZc.out] at hown'
          have HO3 := Lib.hid hown'
          have hBw : Below w.heap.size w2 w3 := ((Below.refl w.heap.size w2).alloc hws _).trans (grown_low hgrow (hrow.alloc _) (by simp; omega))
          have HWB3 : Hid (WB Q w w3) := (HWB.out.trans HW2.out).then hBw (Nat.le_refl _)
          have HRB3 := Lib.hid (HRB2.out.low hBw hlt)
          clear hown' hgrow hrow hBw
          go_wp2
          go_roundw
          case rel => exact ⟨i + 1, s3, acc ++ [x + y], hlt2, by go_num, HLn.out, hs3, by rw [show n - (i + 1) = m by omega]; exact HPb.out, by rw [HLn.out]; exact HO3.out, HRB3.out, rd_low HR.out HWB3.out hlt, HWB3.out⟩
          case measure => simp [intOf]; omega
      · have e0 : n - i = 0 := by omega
        rw [e0] at hpb
        have HPb : Hid (o = some (acc, s2)) := hpb.symm
        have HRow := Lib.hid hrow; have HRB := Lib.hid hrb; have HWB := Lib.hid hwb
        clear hpb hrow hrb hrd hwb e0
        generalize hk : acc.length = k at *
        have HK := Lib.hid hk
        clear hk
        go_wp2
        go_ret
        exact ⟨HWB.out, by rw [HPb.out]; exact ⟨⟨_, _, by rw [HK.out]; rfl, by rw [HK.out]; exact HRow.out⟩, HRB.out, hs2⟩⟩
end

section
set_option maxRecDepth 100000
set_option linter.unusedVariables false
open Go.RowKit Go.Shelf

theorem getLast_getD (r : List Ri) (n : Nat) (hn : r.length = n) (h1 : 1 ≤ n) : r.getLast? = some (r[n - 1]?.getD (0, 0)) := by
  rw [List.getLast?_eq_getElem?, hn, List.getElem?_eq_getElem (by omega)]; rfl
theorem unfold_lim (g : Nat) (hg : g ≤ 2097152) : -1048577 ≤ unfold_ g ∧ unfold_ g ≤ 1048577 := by unfold unfold_; split <;> omega
/-- How far the runs go that were taken. -/
def InLim (r : List Ri) : Prop := ∀ p ∈ r, -4000000 ≤ p.1 ∧ p.1 ≤ 4000000 * (r.length : Int) ∧ 0 ≤ p.2 ∧ p.2 ≤ 700
theorem fro_lim (r : List Ri) (h : InLim r) (a g : Nat) (ha : a ≤ 1048576) (hg : g ≤ 2097152) : -4000000 ≤ fro a g r ∧ fro a g r ≤ 4000000 * ((r.length : Int) + 1) := by
  have hu := unfold_lim g hg
  unfold fro
  cases hl : r.getLast? with
  | none => simp only; omega
  | some p =>
    have := h p (List.mem_of_getLast? hl)
    simp only
    omega
theorem inLim_snoc (r : List Ri) (h : InLim r) (f m : Int) (h1 : -4000000 ≤ f) (h2 : f ≤ 4000000 * ((r.length : Int) + 1)) (h3 : 0 ≤ m) (h4 : m ≤ 700) : InLim (r ++ [(f, m)]) := by
  intro p hp
  rw [List.length_append]
  rcases List.mem_append.1 hp with hp | hp
  · have := h p hp
    simp only [List.length_singleton]
    omega
  · obtain rfl : p = (f, m) := by simpa using hp
    simp only [List.length_singleton]
    omega
set_option maxHeartbeats 1000000 in
theorem fromOf_any (r : List Ri) (n : Nat) (hn : r.length = n) (hn2 : n ≤ 300) (hb : InLim r) (a g : Nat) (ha : a ≤ 1048576) (hg : g ≤ 2097152) (A : Option Addr) (c : Nat) (w : World) (h : RdV w w.heap.size A (rcs r)) :
    Calls Tryz.prog 191 #[.int .u64 (g : Int), .slice A n c, .int .i64 (a : Int)] w fun e w' => e = .returned (.int .i64 (fro a g r)) ∧ Below w.heap.size w w' := by
  have hlim := fro_lim r hb a g ha hg
  by_cases h0 : n = 0
  · subst h0
    obtain rfl : r = [] := List.eq_nil_of_length_eq_zero hn
    have HU := Lib.hid (unfold_any g (by omega) w)
    have hu := unfold_lim g hg
    have e : fro a g [] = (a : Int) + unfold_ g := rfl
    rw [e]
    clear h hn hb e hlim
    generalize unfold_ g = u at *
    have t1 : IntKind.i64.wrap ((a : Int) + u) = (a : Int) + u := IntWalk.i64_in _ (by omega)
    go_enter Tryz.func191, Tryz.ntmps191
    go_wp2_with fail
    refine HU.out.mono ?_
    rintro e w' ⟨rfl, rfl⟩
    go_wp2
    go_ret
    exact ⟨rfl, Below.refl _ _⟩
  · obtain ⟨f, m, hfm⟩ : ∃ f m, r[n - 1]?.getD ((0, 0) : Ri) = (f, m) := ⟨_, _, rfl⟩
    have hgl := getLast_getD r n hn (by omega)
    rw [hfm] at hgl
    have hfb := hb _ (List.mem_of_getLast? hgl)
    simp only at hfb
    rw [hn] at hfb
    have HL := Lib.hid (lfrom_any r n hn (by omega) (by omega) f m hfm (by omega) (by omega) A c w h)
    have e : fro a g r = f + m + 1 + (g : Int) := by unfold fro; rw [hgl]
    rw [e]
    rw [e] at hlim
    have t1 : IntKind.i64.wrap (f + m + 1 + (g : Int)) = f + m + 1 + (g : Int) := IntWalk.i64_in _ (by omega)
    have t2 : IntKind.i64.wrap (g : Int) = (g : Int) := IntWalk.i64_in _ (by omega)
    have t0 : ((n : Int) == 0) = false := by simp; omega
    clear h hn hb e hlim hgl hfm
    go_enter Tryz.func191, Tryz.ntmps191
    go_wp2_with fail
    refine HL.out.mono ?_
    rintro e w1 ⟨rfl, B1⟩
    have HB := Lib.hid B1
    clear B1
    go_wp2
    go_ret
    exact ⟨by first | rfl | (simp [t1, t2]; done) | simp [t1], HB.out⟩
theorem prn_none (L : List Bool) (a ls m : Nat) (acc : List Ri) (s : Nat) (h : pnum L s 2097152 = none) : prn L a ls (m + 1) acc s = none := by unfold prn; rw [h]
theorem prn_none2 (L : List Bool) (a ls m : Nat) (acc : List Ri) (s g s1 : Nat) (h : pnum L s 2097152 = some (g, s1)) (h2 : pnum L s1 300 = none) : prn L a ls (m + 1) acc s = none := by
  unfold prn; rw [h]; simp only; rw [h2]
theorem prn_some (L : List Bool) (a ls m : Nat) (acc : List Ri) (s g s1 x s2 : Nat) (h : pnum L s 2097152 = some (g, s1)) (h2 : pnum L s1 300 = some (x, s2)) : prn L a ls (m + 1) acc s = prn L a ls m (acc ++ [(fro a g acc, ((ls + x : Nat) : Int))]) s2 := by
  show (match pnum L s 2097152 with | none => none | some (g, s1) => match pnum L s1 300 with | none => none | some (x, s2) => prn L a ls m (acc ++ [(fro a g acc, ((ls + x : Nat) : Int))]) s2) = _
  rw [h]; simp only; rw [h2]
/-- Runs come back, or the reader gives up. -/
def TrP (Q : Nat) (L : List Bool) (A : Option Addr) (c : Nat) (w : World) (o : Option (List Ri × Nat)) (e : Ending) (w' : World) : Prop :=
  WB Q w w' ∧ match o with
    | none => Bad e
    | some (r, s) => (∃ A1 c1, e = .returned (.slice A1 r.length c1) ∧ w'.ownsRow w.heap.size 134 2 (.slice A1 r.length c1) r.length (rcs r)) ∧ RB w' Q L A c s ∧ s ≤ L.length ∧ r.length ≤ 300
def TrRel (L : List Bool) (A : Option Addr) (c Q n a ls : Nat) (o : Option (List Ri × Nat)) (w : World) (v p : Value) (wr : World) : Prop :=
  ∃ (i s : Nat) (acc : List Ri), i ≤ n ∧ p = .int .i64 (i : Int) ∧ acc.length = i ∧ InLim acc ∧ s ≤ L.length ∧ prn L a ls (n - i) acc s = o ∧ wr.ownsRow w.heap.size 134 2 v acc.length (rcs acc) ∧ RB wr Q L A c s ∧ Rd wr Q A (pack L) ∧ WB Q w wr
set_option maxHeartbeats 8000000 in
theorem take_runs (L : List Bool) (hL : L.length ≤ 8192) (A : Option Addr) (c Q s : Nat) (hs : s ≤ L.length) (a ls : Nat) (ha : a ≤ 1048576) (hls : ls ≤ 300) (w : World) (hQ : RB w Q L A c s) (hR : Rd w Q A (pack L)) :
    Calls Tryz.prog 157 #[.pointer (some ⟨Q, 0, none⟩), .int .i64 (a : Int), .int .i64 (ls : Int)] w (TrP Q L A c w (pruns L a ls s)) := by
  have hlt := hQ.lt
  have HTk : Hid (∀ (V : World) (s : Nat), s ≤ L.length → RB V Q L A c s → Rd V Q A (pack L) → Calls Tryz.prog 117 #[.pointer (some ⟨Q, 0, none⟩), .int .i64 300] V (TkP Q L A c V (pnum L s 300))) := fun V s h1 h2 h3 => take_num L hL A c Q s h1 300 (by omega) V h2 h3
  have HTg : Hid (∀ (V : World) (s : Nat), s ≤ L.length → RB V Q L A c s → Rd V Q A (pack L) → Calls Tryz.prog 117 #[.pointer (some ⟨Q, 0, none⟩), .int .i64 2097152] V (TkP Q L A c V (pnum L s 2097152))) := fun V s h1 h2 h3 => take_num L hL A c Q s h1 2097152 (by omega) V h2 h3
  have HT0 := Lib.hid (HTk.out w s hs hQ hR)
  have HR := Lib.hid hR
  obtain ⟨i0, hi, hz0, hz1, hz2⟩ := info_parts info_run
  have HP : Hid (pruns L a ls s = match pnum L s 300 with | none => none | some (n, s') => prn L a ls n [] s') := rfl
  generalize pruns L a ls s = o at *
  clear hQ hR
  rcases hpn : pnum L s 300 with _ | ⟨n, s1⟩
  · rw [hpn] at HT0 HP
    clear hpn
    go_enter Tryz.func157, Tryz.ntmps157
    go_wp2_with fail
    refine HT0.out.mono ?_
    rintro e w1 ⟨hwb, rfl⟩
    have HW := Lib.hid hwb
    clear hwb
    go_wp2
    exact ⟨rfl, HW.out, by rw [HP.out]; rfl⟩
  · rw [hpn] at HT0 HP
    obtain ⟨hn, hs1⟩ := pnum_le hpn
    clear hpn
    go_enter Tryz.func157, Tryz.ntmps157
    go_wp2_with fail
    refine HT0.out.mono ?_
    rintro e w1 ⟨hwb, rfl, hrb⟩
    have HW1 := Lib.hid hwb; have HRB1 := Lib.hid hrb
    clear hwb hrb HT0
    go_wp2
    go_loopw [7, 11] (fun v p wr => TrRel L A c Q n a ls o w v p wr) (fun _ p _ => n - (intOf p).toNat)
    case atStart => exact ⟨0, s1, [], Nat.zero_le _, rfl, rfl, (fun p hp => by cases hp), hs1, HP.out.symm, ⟨rfl, .inl ⟨rfl, rfl⟩⟩, HRB1.out, rd_low HR.out HW1.out hlt, HW1.out⟩
    case round =>
      obtain ⟨i, s2, acc, hi', rfl, hai, hlim, hs2, hpb, hrow, hrb, hrd, hwb⟩ := hrel
      clear HW1 HRB1
      obtain ⟨Av, cv, rfl⟩ := own_sliceT hrow
      by_cases hlt2 : i < n
      · have HT := Lib.hid (HTg.out wr s2 hs2 hrb hrd)
        obtain ⟨m, hm⟩ : ∃ m, n - i = m + 1 := ⟨n - i - 1, by omega⟩
        rw [hm] at hpb
        have HWB := Lib.hid hwb; have HRow := Lib.hid hrow; have HRd := Lib.hid hrd
        clear hwb hrb hrd
        rcases hpn : pnum L s2 2097152 with _ | ⟨g, s3⟩
        · rw [hpn] at HT
          rw [prn_none L a ls m acc s2 hpn] at hpb
          subst hpb
          clear hpn hrow
          go_wp2_with fail
          refine HT.out.mono ?_
          rintro e w2 ⟨hwb, rfl⟩
          have HW := Lib.hid (HWB.out.trans hwb)
          clear hwb
          go_wp2
          exact ⟨rfl, HW.out, rfl⟩
        · rw [hpn] at HT
          obtain ⟨hg, hs3⟩ := pnum_le hpn
          have hfl := fro_lim acc hlim a g ha hg
          have c1 : IntKind.u64.wrap (g : Int) = (g : Int) := u64w _ (by omega) (by omega)
          have HFr : Hid (∀ V, WB Q wr V → Calls Tryz.prog 191 #[.int .u64 (g : Int), .slice Av i cv, .int .i64 (a : Int)] V fun e w' => e = .returned (.int .i64 (fro a g acc)) ∧ Below V.heap.size V w') := fun V hV => by
            have := own_rdvT (own_wb HRow.out hV hlt)
            exact fromOf_any acc i hai (by omega) hlim a g ha hg Av cv V this
          have HLim := Lib.hid hlim
          rw [hai] at HRow
          clear hrow hlim
          rcases hpn2 : pnum L s3 300 with _ | ⟨x, s4⟩
          · rw [prn_none2 L a ls m acc s2 g s3 hpn hpn2] at hpb
            subst hpb
            clear hpn
            rw [hai]
            generalize fro a g acc = f at *
            go_wp2_with fail
            refine HT.out.mono ?_
            rintro e w2 ⟨hwb, rfl, hrb⟩
            have HW2 := Lib.hid (HWB.out.trans hwb); have HRB2 := Lib.hid hrb
            have HWr := Lib.hid hwb
            clear hwb hrb
            go_wp2_with fail
            refine (HFr.out w2 HWr.out).mono ?_
            rintro e w3 ⟨rfl, B3⟩
            have HW3 := Lib.hid (HW2.out.trans (wb_below B3))
            have HTx := Lib.hid (HTk.out w3 s3 hs3 (HRB2.out.on B3) (rd_low HR.out HW3.out hlt))
            rw [hpn2] at HTx
            clear B3 hpn2
            go_wp2_with fail
            refine HTx.out.mono ?_
            rintro e w4 ⟨hwb, rfl⟩
            have HW := Lib.hid (HW3.out.trans hwb)
            clear hwb
            go_wp2
            exact ⟨rfl, HW.out, rfl⟩
          · rw [prn_some L a ls m acc s2 g s3 x s4 hpn hpn2] at hpb
            obtain ⟨hx, hs4⟩ := pnum_le hpn2
            clear hpn
            rw [hai] at hfl ⊢
            obtain ⟨f, hf⟩ : ∃ f, fro a g acc = f := ⟨_, rfl⟩
            rw [hf] at hpb HFr hfl
            clear hf
            have HPb := Lib.hid hpb
            have t1 : IntKind.i64.wrap ((ls : Int) + (x : Int)) = (ls : Int) + (x : Int) := IntWalk.i64_in _ (by omega)
            have HZc : Hid (rcs acc ++ [Value.int .i64 f, Value.int .i64 ((ls : Int) + (x : Int))] = rcs (acc ++ [(f, ((ls + x : Nat) : Int))])) := by show _ = _; rw [rcs_append]; rfl
            have HLn : Hid ((acc ++ [(f, ((ls + x : Nat) : Int))]).length = i + 1) := by show _ = _; rw [List.length_append, hai]; rfl
            have HLm : Hid (InLim (acc ++ [(f, ((ls + x : Nat) : Int))])) := inLim_snoc acc HLim.out f _ hfl.1 (by rw [hai]; exact hfl.2) (by omega) (by omega)
            clear hpb hfl
            go_wp2_with fail
            refine HT.out.mono ?_
            rintro e w2 ⟨hwb, rfl, hrb⟩
            have HW2 := Lib.hid (HWB.out.trans hwb); have HRB2 := Lib.hid hrb
            have HWr := Lib.hid hwb
            clear hwb hrb
            go_wp2_with fail
            refine (HFr.out w2 HWr.out).mono ?_
            rintro e w3 ⟨rfl, B3⟩
            have HW3 := Lib.hid (HW2.out.trans (wb_below B3))
            have HWr3 := Lib.hid (HWr.out.trans (wb_below B3))
            have HTx := Lib.hid (HTk.out w3 s3 hs3 (HRB2.out.on B3) (rd_low HR.out HW3.out hlt))
            rw [hpn2] at HTx
            clear B3 hpn2 HWr HRB2
            go_wp2_with fail
            refine HTx.out.mono ?_
            rintro e w4 ⟨hwb, rfl, hrb⟩
            have HW4 := Lib.hid (HW3.out.trans hwb); have HRB4 := Lib.hid hrb
            have hrow := own_wb HRow.out (HWr3.out.trans hwb) hlt
            have hws : w.heap.size ≤ w4.heap.size := HW4.out.size
            clear hwb hrb HRow HT HTx HWr3
            go_wp2_with (at_builtin; refine wpList_append_own _ rfl _ _ 129 rfl w.heap.size 134 i0 (.agg #[.int .i64 0, .int .i64 0]) 2 16 Tryz.underlying129 hi hz0 hz1 hz2 rfl (by decide) _ _ _ rfl (hrow.alloc _) ⟨w4.heap.size, 0, none⟩ 1 1 [.int .i64 f, .int .i64 ((ls : Int) + (x : Int))] rfl rfl (news_row w4 [.int .i64 f, .int .i64 ((ls : Int) + (x : Int))] _) (by simp [Value.oneCell']) (by unfold maxLen; omega) (by omega) (by simp; omega) ?_; intro v' w5 hown' hgrow _; obtain ⟨Av', cv', rfl⟩ := own_sliceT hown')
            rw [HZc.out] at hown'
            have HO3 := Lib.hid hown'
            have hBw : Below w.heap.size w4 w5 := ((Below.refl w.heap.size w4).alloc hws _).trans (grown_low hgrow (hrow.alloc _) (by simp; omega))
            have HWB3 : Hid (WB Q w w5) := HW4.out.then hBw (Nat.le_refl _)
            have HRB3 := Lib.hid (HRB4.out.low hBw hlt)
            clear hown' hgrow hrow hBw
            go_wp2
            go_roundw
            case rel => exact ⟨i + 1, s4, _, hlt2, by go_num, HLn.out, HLm.out, hs4, by rw [show n - (i + 1) = m by omega]; exact HPb.out, by rw [HLn.out]; exact HO3.out, HRB3.out, rd_low HR.out HWB3.out hlt, HWB3.out⟩
            case measure => simp [intOf]; omega
      · have e0 : n - i = 0 := by omega
        rw [e0] at hpb
        have HPb : Hid (o = some (acc, s2)) := hpb.symm
        have HRow := Lib.hid hrow; have HRB := Lib.hid hrb; have HWB := Lib.hid hwb
        clear hpb hrow hrb hrd hwb e0
        generalize hk : acc.length = k at *
        have HK := Lib.hid hk
        clear hk
        go_wp2
        go_ret
        exact ⟨HWB.out, by rw [HPb.out]; exact ⟨⟨_, _, by rw [HK.out]; rfl, by rw [HK.out]; exact HRow.out⟩, HRB.out, hs2, by rw [HK.out]; omega⟩⟩
end

section
set_option maxRecDepth 100000
set_option linter.unusedVariables false
open Go.RowKit Go.Shelf

/-- A list of the call's own and an error come back. -/
def IntsO (w : World) (l : List Nat) (err : Int) (e : Ending) (w' : World) : Prop :=
  ∃ A c, e = .returned (.tuple #[.slice A l.length c, .int .i64 err]) ∧ w'.ownsRow w.heap.size 3 1 (.slice A l.length c) l.length (zc (ns l)) ∧ Below w.heap.size w w'
set_option maxHeartbeats 8000000 in
theorem union_own (l1 l2 : List Nat) (n1 n2 : Nat) (hn1 : l1.length = n1) (hn2 : l2.length = n2) (h1 : n1 ≤ 100000) (h2 : n2 ≤ 100000) (M1 : List Nat) (M2 : Int) (hM : un l1 l2 = (M1, M2)) (A1 A2 : Option Addr) (c1 c2 : Nat) (hA1 : A1 = none → c1 = 0) (hA2 : A2 = none → c2 = 0) (w : World) (r1 : RdV w w.heap.size A1 (zc (ns l1))) (r2 : RdV w w.heap.size A2 (zc (ns l2))) :
    Calls Tryz.prog 163 #[.slice A1 n1 c1, .slice A2 n2 c2] w (IntsO w M1 M2) := by
  have hB1 := one_below w (.cells #[.slice A1 n1 c1, .slice A2 n2 c2] 22)
  have HC := Lib.hid (concat_two l1 l2 n1 n2 hn1 hn2 h1 h2 A1 A2 c1 c2 hA1 hA2 w.heap.size (w.alloc (.cells #[.slice A1 n1 c1, .slice A2 n2 c2] 22)) (World.alloc_heap_new _ _) (r1.on hB1) (r2.on hB1))
  have HB1 := Lib.hid hB1
  have HLen : Hid ((l1 ++ l2).length = n1 + n2) := by show _ = _; rw [List.length_append, hn1, hn2]
  have HMM := Lib.hid hM
  have HSz : Hid ((w.alloc (.cells #[.slice A1 n1 c1, .slice A2 n2 c2] 22)).heap.size = w.heap.size + 1) := World.size_alloc _ _
  clear hB1 hM r1 r2 hn1 hn2
  go_enter Tryz.func163, Tryz.ntmps163
  go_wp2_with fail
  refine HC.out.mono ?_
  rintro e w1 ⟨Av, cv, rfl, hr1, hb1⟩
  have HR1 : Hid (w1.ownsRow w.heap.size 3 1 (.slice Av (n1 + n2) cv) (n1 + n2) (zc (ns (l1 ++ l2)))) := own_base hr1 (by rw [HSz.out]; omega)
  have HB : Hid (Below w.heap.size w w1) := HB1.out.trans (hb1.mono (by rw [HSz.out]; omega))
  clear hr1 hb1 HC HB1 HSz
  have hN0 : n1 + n2 ≤ 200000 := by omega
  generalize n1 + n2 = N0 at *
  have HS := Lib.hid (sort_own (l1 ++ l2) N0 HLen.out (by omega) w.heap.size _ _ HR1.out HB.out.size)
  go_wp2_with fail
  refine HS.out.mono ?_
  rintro e w4 ⟨rfl, hr4, hb4⟩
  have HB4 : Hid (Below w.heap.size w w4) := HB.out.trans hb4
  have hl4 : (nso (l1 ++ l2)).length = N0 := by rw [(nso_perm _).length_eq]; exact HLen.out
  have HT := Lib.hid (twice_in (nso (l1 ++ l2)) N0 hl4 (by omega) Av cv w4 (own_rdv hr4))
  have HO4 := Lib.hid hr4
  have HL4 := Lib.hid hl4
  have HM : Hid ((M1, M2) = if tw (nso (l1 ++ l2)) = true then ([], 6) else if 300 < (nso (l1 ++ l2)).length then ([], 2) else (nso (l1 ++ l2), 0)) := HMM.out.symm
  rw [hl4] at HM
  clear hr4 hb4 hl4 HS HR1 HB HMM
  generalize nso (l1 ++ l2) = L at *
  cases htw : tw L with
  | true =>
    rw [htw] at HT HM
    rw [if_pos rfl] at HM
    obtain ⟨rfl, rfl⟩ : M1 = [] ∧ M2 = 6 := by have := HM.out; simpa using this
    clear HM htw
    go_wp2_with fail
    refine HT.out.mono ?_
    rintro e w5 ⟨rfl, B5⟩
    have HB5 := Lib.hid (HB4.out.trans (B5.mono HB4.out.size)); clear B5
    go_wp2
    go_ret2
    exact ⟨none, 0, rfl, ⟨rfl, .inl ⟨rfl, rfl⟩⟩, HB5.out⟩
  | false =>
    rw [htw] at HT HM
    rw [if_neg (by decide)] at HM
    by_cases h3 : 300 < N0
    · rw [if_pos h3] at HM
      obtain ⟨rfl, rfl⟩ : M1 = [] ∧ M2 = 2 := by have := HM.out; simpa using this
      clear HM htw
      go_wp2_with fail
      refine HT.out.mono ?_
      rintro e w5 ⟨rfl, B5⟩
      have HB5 := Lib.hid (HB4.out.trans (B5.mono HB4.out.size)); clear B5
      go_wp2
      go_ret2
      exact ⟨none, 0, rfl, ⟨rfl, .inl ⟨rfl, rfl⟩⟩, HB5.out⟩
    · rw [if_neg h3] at HM
      obtain ⟨rfl, rfl⟩ : M1 = L ∧ M2 = 0 := by have := HM.out; simpa using this
      clear HM htw
      go_wp2_with fail
      refine HT.out.mono ?_
      rintro e w5 ⟨rfl, B5⟩
      have HR5 := Lib.hid (own_keep HO4.out B5)
      have HB5 := Lib.hid (HB4.out.trans (B5.mono HB4.out.size)); clear B5
      go_wp2
      go_ret2
      exact ⟨Av, cv, by rw [HL4.out]; rfl, by rw [HL4.out]; exact HR5.out, HB5.out⟩
set_option maxHeartbeats 8000000 in
theorem merge_eo (r : List Ri) (n1 : Nat) (hn1 : r.length = n1) (hz1 : n1 ≤ 9223372036854775807) (xs : List Int) (n2 : Nat) (hn2 : xs.length = n2) (hz2 : n2 ≤ 9223372036854775807) (h0 : mgE0 r xs ≠ 0) (A1 A2 : Option Addr) (c1 c2 : Nat) (w : World) (h1 : RdV w w.heap.size A1 (rcs r)) (h2 : RdV w w.heap.size A2 (zc xs)) :
    Calls Tryz.prog 160 #[.slice A1 n1 c1, .slice A2 n2 c2] w (IntsO w [] (mgE0 r xs)) := by
  have HC1 := Lib.hid (rnck_any r n1 hn1 hz1 A1 c1 w h1)
  have HC2 : Hid (∀ V, Below w.heap.size w V → Calls Tryz.prog 43 #[.slice A2 n2 c2] V fun e w' => e = .returned (.int .i64 (rchk xs)) ∧ Below V.heap.size V w') := fun V hV => gcheck_any xs n2 hn2 hz2 A2 c2 V (h2.on hV)
  unfold mgE0 at *
  clear h1 h2 hn1 hn2
  by_cases hr : rkchk r = 0
  · rw [if_neg (by simpa using hr)] at *
    rw [hr] at HC1
    generalize rchk xs = e2 at *
    have t0 : (e2 != 0) = true := by simpa using h0
    clear h0 hr
    go_enter Tryz.func160, Tryz.ntmps160
    go_wp2_with fail
    refine HC1.out.mono ?_
    rintro e w1 ⟨rfl, B1⟩
    have HB1 := Lib.hid B1; clear B1
    go_wp2_with fail
    refine (HC2.out w1 HB1.out).mono ?_
    rintro e w2 ⟨rfl, B2⟩
    have HB2 := Lib.hid (HB1.out.trans (B2.mono HB1.out.size)); clear B2
    go_wp2
    go_ret2
    exact ⟨none, 0, rfl, ⟨rfl, .inl ⟨rfl, rfl⟩⟩, HB2.out⟩
  · rw [if_pos hr] at *
    generalize rkchk r = e1 at *
    have t0 : (e1 != 0) = true := by simpa using hr
    clear h0 hr HC2
    go_enter Tryz.func160, Tryz.ntmps160
    go_wp2_with fail
    refine HC1.out.mono ?_
    rintro e w1 ⟨rfl, B1⟩
    have HB1 := Lib.hid B1; clear B1
    go_wp2
    go_ret2
    exact ⟨none, 0, rfl, ⟨rfl, .inl ⟨rfl, rfl⟩⟩, HB1.out⟩
set_option maxHeartbeats 8000000 in
theorem merge_ino (R : List Rn) (hR : OkR R) (M1 : List Nat) (M2 : Int) (n1 : Nat) (hn1 : R.length = n1) (l : List Nat) (hl : Rising l) (hM : mg R l = (M1, M2)) (n2 : Nat) (hn2 : l.length = n2) (A1 A2 : Option Addr) (c1 c2 : Nat) (hA2 : A2 = none → c2 = 0) (w : World) (h1 : RdV w w.heap.size A1 (rcs (rz R))) (h2 : RdV w w.heap.size A2 (zc (ns l))) :
    Calls Tryz.prog 160 #[.slice A1 n1 c1, .slice A2 n2 c2] w (IntsO w M1 M2) := by
  have h300 : n1 ≤ 300 := by have := hR.1; omega
  have h3002 : n2 ≤ 300 := by have := hl.1; omega
  have HC1 : Hid (Calls Tryz.prog 194 #[.slice A1 n1 c1] w fun e w' => e = .returned (.int .i64 0) ∧ Below w.heap.size w w') := by
    have := rnck_any (rz R) n1 (by rw [rz_length, hn1]) (by omega) A1 c1 w h1
    rwa [rkchk_ok R hR] at this
  have HC2 : Hid (∀ V, Below w.heap.size w V → Calls Tryz.prog 43 #[.slice A2 n2 c2] V fun e w' => e = .returned (.int .i64 0) ∧ Below V.heap.size V w') := fun V hV => by
    have := gcheck_any (ns l) n2 (by rw [ns_length, hn2]) (by omega) A2 c2 V (h2.on hV)
    rwa [rchk_ok l hl] at this
  have HFl : Hid (∀ i, i ≤ n1 → (flatR (R.take i)).length ≤ 90000) := fun i hi => by
    have := flat_len (R.take i) (fun p hp => (hR.2.2 p (List.mem_of_mem_take hp)).1)
    have := List.length_take_le i R
    omega
  have HBd : Hid (∀ p ∈ R, p.1 ≤ 1048576 ∧ p.2 ≤ 300) := fun p hp => by have := hR.2.2 p hp; have := sep_pos R _ hR.2.1 p hp; omega
  obtain ⟨i0, hi, hz0, hz1, hz2⟩ := info_parts info3
  have HX1 := Lib.hid h1; have HX2 := Lib.hid h2; have HN1 := Lib.hid hn1; have HN2 := Lib.hid hn2; have HMM := Lib.hid hM
  clear h1 h2 hn1 hn2 hR hl hM
  go_enter Tryz.func160, Tryz.ntmps160
  go_wp2_with fail
  refine HC1.out.mono ?_
  rintro e w1 ⟨rfl, B1⟩
  have HB1 := Lib.hid B1; clear B1
  go_wp2_with fail
  refine (HC2.out w1 HB1.out).mono ?_
  rintro e w2 ⟨rfl, B2⟩
  have HB2 := Lib.hid (HB1.out.trans (B2.mono HB1.out.size)); clear B2 HB1
  go_wp2
  go_loopw [8, 23] (fun v p wr => MgRel R w v p wr) (fun _ p _ => n1 - (intOf p).toNat)
  case atStart => exact ⟨0, Nat.zero_le _, rfl, ⟨rfl, .inl ⟨rfl, rfl⟩⟩, HB2.out⟩
  case round =>
    obtain ⟨i, hi', rfl, hrow, hbel⟩ := hrel
    rw [HN1.out] at hi'
    by_cases hlt : i < n1
    · have hin : i < R.length := by rw [HN1.out]; exact hlt
      obtain ⟨r0, r1⟩ := rcs_at (rz R) i (by rw [rz_length]; exact hin)
      rw [rz_at R i hin] at r0 r1
      obtain ⟨b, off, rfl, hb, k0⟩ := (HX1.out.on hbel).at_ r0
      obtain ⟨b2, off2, hA2', hb2, k1⟩ := (HX1.out.on hbel).at_ r1
      simp only [Option.some.injEq, Addr.mk.injEq, and_true] at hA2'
      obtain ⟨rfl, rfl⟩ := hA2'
      rw [← Nat.add_assoc] at k1
      have hbd := HBd.out _ (mem_at R i hin)
      have htk := take_snocR R i hin
      have hfl := HFl.out i hi'
      generalize R[i]?.getD (0, 0) = x at *
      obtain ⟨f, m⟩ := x
      simp only at k0 k1 hbd
      have HT : Hid (flatR (R.take (i + 1)) = flatR (R.take i) ++ List.range' f m) := by show _ = _; rw [htk, flatR_snoc]; rfl
      have HB := Lib.hid hbel
      have hrow2 := (hrow.alloc (.cells #[.int .i64 (f : Int), .int .i64 (m : Int)] 134)).alloc (.cells #[.int .i64 (f : Int), .int .i64 (m : Int)] 134)
      have hbox2 : ((wr.alloc (.cells #[.int .i64 (f : Int), .int .i64 (m : Int)] 134)).alloc (.cells #[.int .i64 (f : Int), .int .i64 (m : Int)] 134)).heap[wr.heap.size + 1]? = some (.cells #[.int .i64 (f : Int), .int .i64 (m : Int)] 134 (0, 0)) := by
        have := World.alloc_heap_new (wr.alloc (.cells #[.int .i64 (f : Int), .int .i64 (m : Int)] 134)) (.cells #[.int .i64 (f : Int), .int .i64 (m : Int)] 134)
        rwa [World.size_alloc] at this
      obtain ⟨Av, cv, rfl⟩ := own_slice3 hrow
      have HA := Lib.hid (appseq_in f m hbd.1 hbd.2 (wr.heap.size + 1) w.heap.size _ _ (by omega) _ _ hrow2 hbox2 (by have := hbel.size; simp; omega))
      have hb2 : Below w.heap.size w ((wr.alloc (.cells #[.int .i64 (f : Int), .int .i64 (m : Int)] 134)).alloc (.cells #[.int .i64 (f : Int), .int .i64 (m : Int)] 134)) := (hbel.alloc hbel.size _).alloc (by have := hbel.size; simp; omega) _
      have HBB := Lib.hid hb2
      clear hrow hrow2 hbox2 hb2 hbel htk hbd r0 r1
      generalize hk : (flatR (R.take i)).length = k at *
      have HKl := Lib.hid hk; clear hk
      go_wp2_with fail
      refine (callsIn_wide.1 (nums_of 4 _ _ _)).mono ?_
      rintro e w' ⟨rfl, rfl⟩
      go_wp2_with fail
      refine HA.out.mono ?_
      rintro e w3 ⟨v', rfl, hown', hfr⟩
      obtain ⟨Av', cv', rfl⟩ := own_slice3 hown'
      have HO3 := Lib.hid hown'
      have HB3 : Hid (Below w.heap.size w w3) := HBB.out.trans (hfr.below (fun j hj => ⟨.inl hj, by have := HB.out.size; simp; omega⟩))
      clear hown' hfr
      go_wp2
      go_roundw
      case rel => exact ⟨i + 1, by rw [HN1.out]; omega, by go_num, by rw [HT.out, List.length_append, HKl.out, List.length_range', ns_append, zc_append]; exact HO3.out, HB3.out⟩
      case measure => simp [intOf]; omega
    · have e : R.take i = R := List.take_of_length_le (by rw [HN1.out]; omega)
      rw [e] at hrow
      have hfl := HFl.out n1 (Nat.le_refl _)
      rw [List.take_of_length_le (by rw [HN1.out]; omega)] at hfl
      obtain rfl : i = n1 := by omega
      obtain ⟨Av, cv, rfl⟩ := own_slice3 hrow
      have HB0 := Lib.hid hbel
      have hX2 := HX2.out.on hbel
      have HU := Lib.hid (union_own (flatR R) l (flatR R).length n2 rfl HN2.out (by omega) (by omega) M1 M2 HMM.out Av A2 cv c2 (own_none hrow) hA2 wr (own_rdv hrow) hX2)
      clear hbel e hrow hX2 HC1 HC2 HB2
      generalize (flatR R).length = N at *
      go_wp2_with fail
      refine HU.out.mono ?_
      rintro e w3 ⟨A3, c3, rfl, k3, k4⟩
      have HB3 : Hid (Below w.heap.size w w3) := HB0.out.trans (k4.mono HB0.out.size)
      have HR3 := Lib.hid (own_base k3 HB0.out.size)
      clear k3 k4 HU
      go_wp2
      go_ret2
      exact ⟨A3, c3, rfl, HR3.out, HB3.out⟩
theorem merge_own (r : List Ri) (n1 : Nat) (hn1 : r.length = n1) (hz1 : n1 ≤ 9223372036854775807) (xs : List Int) (n2 : Nat) (hn2 : xs.length = n2) (hz2 : n2 ≤ 9223372036854775807) (A1 A2 : Option Addr) (c1 c2 : Nat) (hA2 : A2 = none → c2 = 0) (w : World) (h1 : RdV w w.heap.size A1 (rcs r)) (h2 : RdV w w.heap.size A2 (zc xs)) :
    Calls Tryz.prog 160 #[.slice A1 n1 c1, .slice A2 n2 c2] w (IntsO w (mgA r xs).1 (mgA r xs).2) := by
  by_cases h0 : mgE0 r xs = 0
  · obtain ⟨R, l, rfl, hR, rfl, hl⟩ := mgA_zero r xs h0
    rw [mgA_ok R hR l hl]
    exact merge_ino R hR _ _ n1 (by rw [rz_length] at hn1; exact hn1) l hl rfl n2 (by rw [ns_length] at hn2; exact hn2) A1 A2 c1 c2 hA2 w h1 h2
  · have e : mgA r xs = ([], mgE0 r xs) := by unfold mgA; rw [if_pos h0]
    rw [e]
    exact merge_eo r n1 hn1 hz1 xs n2 hn2 hz2 h0 A1 A2 c1 c2 w h1 h2
set_option maxHeartbeats 8000000 in
theorem pjoin_own (xs : List Int) (n : Nat) (hn : xs.length = n) (hn2 : n ≤ 9223372036854775807) (bs : List Int) (m : Nat) (hm : bs.length = m) (hm2 : m ≤ 9223372036854775807) (ys : List Int) (k : Nat) (hk : ys.length = k) (hk2 : k ≤ 9223372036854775807) (A1 A2 A3 : Option Addr) (c1 c2 c3 : Nat) (hA1 : A1 = none → c1 = 0) (hc1 : n ≤ c1) (hA3 : A3 = none → c3 = 0) (w : World) (h1 : RdV w w.heap.size A1 (zc xs)) (h2 : RdV w w.heap.size A2 (zc bs)) (h3 : RdV w w.heap.size A3 (zc ys)) :
    Calls Tryz.prog 122 #[.slice A1 n c1, .slice A2 m c2, .slice A3 k c3] w (IntsO w (jnA xs bs ys).1 (jnA xs bs ys).2) := by
  have HP := Lib.hid (pcopy_any xs n hn hn2 bs m hm hm2 A1 A2 c1 c2 hA1 hc1 w h1 h2)
  have HC : Hid (∀ V, Below w.heap.size w V → Calls Tryz.prog 43 #[.slice A3 k c3] V fun e w' => e = .returned (.int .i64 (rchk ys)) ∧ Below V.heap.size V w') := fun V hV => gcheck_any ys k hk hk2 A3 c3 V (h3.on hV)
  by_cases hc : cpE xs bs = 0
  · by_cases hr : rchk ys = 0
    · obtain ⟨l, rfl, hl⟩ := rchk_zero ys hr
      have hz : rchk xs = 0 := by
        by_cases hz : rchk xs = 0
        · exact hz
        · unfold cpE at hc; rw [if_pos (by simpa using hz)] at hc; exact hc
      obtain ⟨F, rfl, hF⟩ := rchk_zero xs hz
      have e : jnA (ns F) bs (ns l) = un (cpA (ns F) bs) l := by
        have e1 : jnE (ns F) bs (ns l) = 0 := by unfold jnE; rw [if_neg (by simpa using hc)]; exact hr
        have e2 : cpA (ns F) bs = cp true (tn bs) (tn (ns F)) := by unfold cpA; rw [if_neg (by simpa using hc)]
        unfold jnA
        rw [if_neg (by simpa using e1), ← e2, tn_ns l]
      rw [e]
      rw [ns_length] at hk
      have hcl : (cpA (ns F) bs).length ≤ 300 := by
        unfold cpA
        rw [if_neg (by simpa using hc), tn_ns]
        exact Nat.le_trans (cp_len (tn bs) true F).length_le hF.1
      rw [hc] at HP
      rw [hr] at HC
      generalize hM : cpA (ns F) bs = M at *
      have HU : Hid (∀ A c V, (A = none → c = 0) → RdV V V.heap.size A (zc (ns M)) → Below w.heap.size w V → Calls Tryz.prog 163 #[.slice A M.length c, .slice A3 k c3] V (IntsO V (un M l).1 (un M l).2)) := fun A c V hA hV hb => union_own M l M.length k rfl hk (by omega) (by have := hl.1; omega) _ _ rfl A A3 c c3 hA hA3 V hV (h3.on hb)
      clear h1 h2 h3 hn hm hk e hc hr hM hz
      generalize un M l = U at *
      go_enter Tryz.func122, Tryz.ntmps122
      go_wp2_with fail
      refine HP.out.mono ?_
      rintro e w1 ⟨A, c, rfl, k1, k2, k3, k4⟩
      have HB1 := Lib.hid k4; have HR1 := Lib.hid k3
      clear k3 k4
      go_wp2_with fail
      refine (HC.out w1 HB1.out).mono ?_
      rintro e w2 ⟨rfl, B2⟩
      have HB2 := Lib.hid (HB1.out.trans (B2.mono HB1.out.size))
      have HUu := Lib.hid (HU.out A c w2 k2 (HR1.out.on B2) HB2.out)
      clear B2 HU
      generalize M.length = ml at *
      go_wp2_with fail
      refine HUu.out.mono ?_
      rintro e w3 ⟨A5, c5, rfl, j3, j4⟩
      have HB3 := Lib.hid (HB2.out.trans (j4.mono HB2.out.size)); have HR3 := Lib.hid (own_base j3 HB2.out.size)
      clear j3 j4
      go_wp2
      go_ret2
      exact ⟨_, _, rfl, HR3.out, HB3.out⟩
    · have e : jnA xs bs ys = ([], rchk ys) := by
        have e1 : jnE xs bs ys = rchk ys := by unfold jnE; rw [if_neg (by simpa using hc)]
        unfold jnA
        rw [e1, if_pos (by simpa using hr)]
      rw [e]
      rw [hc] at HP
      generalize rchk ys = er at *
      have t0 : (er != 0) = true := by simpa using hr
      generalize (cpA xs bs) = M at *
      clear h1 h2 h3 hn hm hk e hc hr
      generalize M.length = ml at *
      go_enter Tryz.func122, Tryz.ntmps122
      go_wp2_with fail
      refine HP.out.mono ?_
      rintro e w1 ⟨A, c, rfl, k1, k2, k3, k4⟩
      have HB1 := Lib.hid k4
      clear k3 k4
      go_wp2_with fail
      refine (HC.out w1 HB1.out).mono ?_
      rintro e w2 ⟨rfl, B2⟩
      have HB2 := Lib.hid (HB1.out.trans (B2.mono HB1.out.size))
      clear B2
      go_wp2
      go_ret2
      exact ⟨none, 0, rfl, ⟨rfl, .inl ⟨rfl, rfl⟩⟩, HB2.out⟩
  · have e : jnA xs bs ys = ([], cpE xs bs) := by
      have e1 : jnE xs bs ys = cpE xs bs := by unfold jnE; rw [if_pos (by simpa using hc)]
      unfold jnA
      rw [e1, if_pos (by simpa using hc)]
    rw [e]
    generalize cpE xs bs = er at *
    have t0 : (er != 0) = true := by simpa using hc
    clear h1 h2 h3 hn hm hk e hc HC
    generalize (cpA xs bs) = M at *
    generalize M.length = ml at *
    go_enter Tryz.func122, Tryz.ntmps122
    go_wp2_with fail
    refine HP.out.mono ?_
    rintro e w1 ⟨A, c, rfl, k1, k2, k3, k4⟩
    have HB1 := Lib.hid k4
    clear k3 k4
    go_wp2
    go_ret2
    exact ⟨none, 0, rfl, ⟨rfl, .inl ⟨rfl, rfl⟩⟩, HB1.out⟩
end
end Go.Proofs.YtcffndfbkbchjaaGreat
