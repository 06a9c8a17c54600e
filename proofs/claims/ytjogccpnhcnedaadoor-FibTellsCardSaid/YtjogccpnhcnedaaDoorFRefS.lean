/- The document's own sums and lists: what FibSum and FibList answer; each fact names its conditions. -/
import Derived.Test.YtjogccpnhcnedaaDoorFRefN
import Derived.BigQuiet
import Derived.Deep.QuietTactic
namespace Go.Proofs.YtjogccpnhcnedaaDoor
set_option maxRecDepth 100000
set_option linter.unusedVariables false
open Go.RowKit Go.Shelf

theorem below_drewN {B : Nat} {a w : World} (h : Below B a w) (n : Nat) : Below B a (w.drewN n) := ⟨h.os, h.tape, h.output, h.size, h.block⟩

set_option maxHeartbeats 4000000 in
theorem fsumr_any (l : List Int) (n : Nat) (hn : l.length = n) (hn2 : n ≤ 9223372036854775807) (A : Option Addr) (c : Nat) (w : World) (h : RdV w w.heap.size A (zc l)) (s : Nat) (e0 : Int) (hr : sumR [] l = (s, e0)) :
    Calls Tryd.prog 18 #[.slice A n c] w fun e w' => e = .returned (.tuple #[.int .u64 (s : Int), .int .i64 e0]) ∧ Below w.heap.size w w' := by
  have HR := Lib.hid h; clear h
  have HN := Lib.hid hn; clear hn
  have HS := Lib.hid hr; clear hr
  go_enter Tryd.func18, Tryd.ntmps18
  go_wp2
  go_loopw [4, 5] (fun v p wr => SmRel l v p ∧ Below w.heap.size w wr) (fun _ p _ => n - (intOf p).toNat)
  case atStart => exact ⟨⟨0, [], rfl, rfl, Nat.zero_le _, trivial, by rw [List.drop_zero], fun _ => rfl, fun h => absurd h (Nat.lt_irrefl _)⟩, Below.refl _ _⟩
  case round =>
    obtain ⟨⟨k, d, rfl, rfl, hk, hd, hs, hz, hp⟩, hbel⟩ := hrel
    rw [HN.out] at hk
    have HD := Lib.hid hd; clear hd
    have HBl := Lib.hid hbel
    by_cases hlt : k < n
    · have hkl : k < l.length := by rw [HN.out]; exact hlt
      rw [zc_take_succ l k hkl] at hs
      obtain ⟨b, off, rfl, hb, hc⟩ := HR.out.at_ (zc_get l k hkl)
      have hc2 := fun j (hj : j < l.length) => HR.out.at_ (zc_get l j hj)
      have e1 := (hbel.cell (p := ⟨b, off + k, none⟩) hb).trans hc
      generalize hx : l[k]?.getD 0 = x at *
      have HX := Lib.hid hx; clear hx
      have HZ := Lib.hid hz; have HP := Lib.hid hp; have HSS := Lib.hid hs
      clear hz hp hs hc hbel
      by_cases h1 : x < 0 ∨ 63 < x
      · have HW := Lib.hid (between_no x 0 63 (by omega))
        have hq : (0, (3 : Int)) = (s, e0) := by rw [← HS.out, ← HSS.out, sumR_range d x _ h1]
        simp only [Prod.mk.injEq] at hq
        obtain ⟨rfl, rfl⟩ := hq
        clear h1 HS hc2
        go_wp2_with fail
        refine (HW.out _).mono ?_
        rintro e w1 ⟨rfl, rfl⟩
        go_wp2
        go_ret2
        exact ⟨rfl, HBl.out⟩
      · have HW := Lib.hid (between_yes x 0 63 (by omega))
        obtain ⟨y, rfl⟩ := Int.eq_ofNat_of_zero_le (show 0 ≤ x by omega)
        have hy : y < 64 := by omega
        have HF1 := Lib.hid (fnumr_any y (by omega))
        have hfy := fb_u64 y hy
        have hfl := fsum_lt d 64 HD.out
        rw [fb64] at hfl
        have HF : Hid (((fsum d : Nat) : Int) + (fb y : Int) = ((fsum (y :: d) : Nat) : Int)) := by show _ = _; simp only [fsum]; omega
        have HFw : Hid (IntKind.u64.wrap (((fsum d : Nat) : Int) + (fb y : Int)) = ((fsum (y :: d) : Nat) : Int)) := by
          show _ = _
          rw [HF.out, IntKind.wrap_u64]
          simp only [fsum]
          have := fb_mono (show y ≤ 64 by omega)
          rw [fb64] at this
          omega
        rcases Nat.eq_zero_or_pos k with hk0 | hk0
        · have hd0 := HZ.out hk0
          have hnot : ¬ (d ≠ [] ∧ (y : Int) < (d.headD 0 : Int) + 2) := fun h => h.1 hd0
          have HSM : Hid (sumR (y :: d) (l.drop (k + 1)) = sumR [] l) := by
            show _ = _
            rw [← HSS.out, sumR_more d _ _ h1 hnot, Int.toNat_natCast]
          have HDZ := Lib.hid (dz_more d y HD.out hy hnot)
          have t0 : decide ((0 : Int) < (k : Int)) = false := by simp; omega
          have t0' : decide (0 < k) = false := by simp; omega
          clear h1 hc2 hd0 hnot hk0
          generalize hfs : fsum d = fs at *
          generalize fb y = fy at *
          have HFS := Lib.hid hfs; clear hfs
          go_wp2_with fail
          refine (HW.out _).mono ?_
          rintro e w1 ⟨rfl, rfl⟩
          go_wp2_with fail
          go_quiet (fail)
          go_wp2_with fail
          refine (HF1.out _).mono ?_
          rintro e w2 ⟨rfl, rfl⟩
          go_wp2
          go_roundw
          case rel => exact ⟨⟨k + 1, y :: d, by go_num, by first | rw [HFw.out] | rw [HF.out], by rw [HN.out]; omega, HDZ.out, HSM.out, fun h => by omega, fun _ => ⟨by simp, by have := HX.out; simpa using this⟩⟩, below_drewN HBl.out _⟩
          case measure => simp [intOf]; omega
        · obtain ⟨j, rfl⟩ : ∃ j, k = j + 1 := ⟨k - 1, by omega⟩
          obtain ⟨hdn, hdh⟩ := HP.out hk0
          rw [Nat.add_sub_cancel] at hdh
          obtain ⟨b', off', eA, hb', hc'⟩ := hc2 j (by rw [HN.out]; omega)
          simp only [Option.some.injEq, Addr.mk.injEq, and_true] at eA
          obtain ⟨rfl, rfl⟩ := eA
          have e0' := (HBl.out.cell (p := ⟨b, off + j, none⟩) hb).trans hc'
          rw [hdh] at e0'
          have hph : d.headD 0 < 64 := by
            cases d with
            | nil => exact absurd rfl hdn
            | cons z zs => exact HD.out.1
          have hnd : (d ≠ [] ∧ (y : Int) < (d.headD 0 : Int) + 2) ↔ (y : Int) < (d.headD 0 : Int) + 2 := ⟨fun h => h.2, fun h => ⟨hdn, h⟩⟩
          have i1 : ((j : Int) + 1) < (n : Int) := by omega
          have i2 : ((j : Int)) < (n : Int) := by omega
          have t0 : decide ((0 : Int) < (j : Int) + 1) = true := decide_eq_true (by omega)
          clear hc2 hc' hdh hk0 hdn
          generalize hdd : d.headD 0 = dh at *
          have HDD := Lib.hid hdd; clear hdd
          by_cases hst : (y : Int) < (dh : Int) + 2
          · have hq : (0, (4 : Int)) = (s, e0) := by rw [← HS.out, ← HSS.out, sumR_state d _ _ h1 (by rw [HDD.out]; exact hnd.2 hst)]
            simp only [Prod.mk.injEq] at hq
            obtain ⟨rfl, rfl⟩ := hq
            have t1 : decide ((y : Int) < (dh : Int) + 2) = true := by simpa using hst
            clear HS h1 hnd hst
            go_wp2_with fail
            refine (HW.out _).mono ?_
            rintro e w1 ⟨rfl, rfl⟩
            go_wp2_with fail
            go_quiet (fail)
            go_wp2
            go_ret2
            exact ⟨rfl, below_drewN HBl.out _⟩
          · have hnot : ¬ (d ≠ [] ∧ (y : Int) < (d.headD 0 : Int) + 2) := by rw [HDD.out]; exact fun h => hst (hnd.1 h)
            have HSM : Hid (sumR (y :: d) (l.drop (j + 1 + 1)) = sumR [] l) := by
              show _ = _
              rw [← HSS.out, sumR_more d _ _ h1 hnot, Int.toNat_natCast]
            have HDZ := Lib.hid (dz_more d y HD.out hy hnot)
            have t1 : decide ((y : Int) < (dh : Int) + 2) = false := by simp; omega
            clear h1 hnd hst hnot
            generalize hfs : fsum d = fs at *
            generalize fb y = fy at *
            have HFS := Lib.hid hfs; clear hfs
            go_wp2_with fail
            refine (HW.out _).mono ?_
            rintro e w1 ⟨rfl, rfl⟩
            go_wp2_with fail
            go_quiet (fail)
            go_wp2_with fail
            refine (HF1.out _).mono ?_
            rintro e w2 ⟨rfl, rfl⟩
            go_wp2
            go_roundw
            case rel => exact ⟨⟨j + 1 + 1, y :: d, by go_num, by first | rw [HFw.out] | rw [HF.out], by rw [HN.out]; omega, HDZ.out, HSM.out, fun h => by omega, fun _ => ⟨by simp, by have := HX.out; simpa using this⟩⟩, below_drewN HBl.out _⟩
            case measure => simp [intOf]; omega
    · have hq : (fsum d, (0 : Int)) = (s, e0) := by
        rw [← HS.out, ← hs, List.drop_of_length_le (by rw [HN.out]; omega), sumR_nil]
      simp only [Prod.mk.injEq] at hq
      rw [hq.1]
      obtain rfl := hq.2
      clear hs HS hz hp hbel hq
      go_wp2
      go_ret2
      exact ⟨rfl, HBl.out⟩

/-- Marks at the places of a list, up to x. -/
def mk2 (x : Nat) (S : List Nat) : List Bool := (List.range (x + 1)).map fun j => S.contains j
theorem mk2_length (x : Nat) (S : List Nat) : (mk2 x S).length = x + 1 := by simp [mk2]
theorem mk2_nil (x : Nat) : mk2 x [] = List.replicate (x + 1) false := by
  apply List.ext_getElem
  · simp [mk2]
  · intro i h1 h2; simp [mk2]
theorem mk2_snoc (x i : Nat) (S : List Nat) (hi : i ≤ x) : ic (mk2 x (S ++ [i])) = (ic (mk2 x S)).set i (.int .i64 1) := by
  apply List.ext_getElem
  · simp [ic, mk2]
  · intro k h1 h2
    rw [List.getElem_set]
    simp only [ic, mk2, List.getElem_map, List.getElem_range]
    by_cases e : i = k
    · subst e
      rw [if_pos rfl]
      simp
    · rw [if_neg e]
      have : (S ++ [i]).contains k = S.contains k := by
        rw [Bool.eq_iff_iff]
        simp only [List.contains_iff_mem, List.mem_append, List.mem_singleton]
        constructor
        · rintro (h | h)
          · exact h
          · exact absurd h.symm e
        · exact .inl
      rw [this]
theorem mk2_fz (N x : Nat) (xs : List Nat) (h : N < fb 64) (hx : ptd N = x :: xs) : mk2 x (pts N) = fz (x :: xs) := by
  have hd := ptd_dz N h
  rw [hx] at hd
  have hl := fz_cons_length x xs hd.2
  apply List.ext_getElem
  · rw [mk2_length, hl]
  · intro i h1 h2
    have hg := fz_get (x :: xs) (x + 1) ⟨by omega, hd.2⟩ i h2
    rw [List.getElem?_eq_getElem h2] at hg
    simp only [Option.getD_some] at hg
    rw [hg]
    simp only [mk2, List.getElem_map, List.getElem_range]
    rw [Bool.eq_iff_iff]
    simp only [List.contains_iff_mem]
    rw [pts, List.mem_reverse, hx]
/-- At each round's head: the first k parts are marked. -/
def FlRel (w w2 : World) (x : Nat) (Pl : List Nat) (p : Value) (wr : World) : Prop :=
  ∃ k : Nat, k ≤ Pl.length ∧ p = .int .i64 (k : Int) ∧ wr.ownsRow w.heap.size 3 1 (.slice (some ⟨w2.heap.size, 0, none⟩) (x + 1) (x + 1)) (x + 1) (ic (mk2 x (Pl.take k))) ∧ Below w2.heap.size w2 wr

set_option maxHeartbeats 4000000 in
theorem flistr_any (n : Nat) (hn : n ≤ 1099511627776) (w : World) :
    Calls Tryd.prog 17 #[.int .u64 (n : Int)] w (Listed w (fco n)) := by
  have h64 : n + 1 < fb 64 := by rw [fb64]; omega
  obtain ⟨x, xs, hx, hx64, hxd, hxl, hxu⟩ := ptd_ne (n + 1) h64 (by omega)
  obtain ⟨hq, hlast, hrev⟩ := pts_last (n + 1) x xs hx
  have HAt := Lib.hid (pts_at (n + 1) h64 x xs hx)
  have HS : Hid (∀ V, Calls Tryd.prog 15 #[.int .u64 ((n : Int) + 1)] V (Inted V (ints (pts (n + 1))))) := fun V => by
    have := fpartsr_any (n + 1) V h64
    rwa [show ((n + 1 : Nat) : Int) = (n : Int) + 1 from by omega] at this
  unfold Inted at HS
  rw [ints_length, hq] at HS
  have hq64 : xs.length ≤ 63 := by have h1 := spl_len 64 (n + 1); have h2 : ptd (n + 1) = spl 64 (n + 1) := rfl; rw [← h2, hx] at h1; simp at h1; omega
  have HFz : Hid (ic (fco n) = ic (mk2 x (pts (n + 1))) ++ [.int .i64 1]) := by
    show _ = _
    rw [mk2_fz (n + 1) x xs h64 hx]
    unfold fco
    rw [hx, ic_append]
    rfl
  have HFl : Hid ((fco n).length = x + 2) := by show _ = _; unfold fco; rw [hx, List.length_append, fz_cons_length x xs hxd]; rfl
  have HLa := Lib.hid hlast
  have HQ := Lib.hid hq
  obtain ⟨i0, hi, hz0, hz1, hz2⟩ := info_parts info3
  clear hq hlast hrev hx h64 hxl hxu hxd
  generalize pts (n + 1) = Pl at *
  generalize xs.length = q at *
  have HIg : Hid (∀ k, k < q + 1 → (zc (ints Pl))[k]? = some (.int .i64 ((Pl[k]?.getD 0 : Nat) : Int))) := fun k hk => by
    have h1 : k < Pl.length := by rw [HQ.out]; exact hk
    rw [zc_get (ints Pl) k (by rw [ints_length]; exact h1)]
    simp [ints, List.getElem?_map, List.getElem?_eq_getElem h1]
  go_enter Tryd.func17, Tryd.ntmps17
  go_wp2_with fail
  refine (HS.out w).mono ?_
  rintro e w2 ⟨A, c, rfl, ho, hb⟩
  have HR := Lib.hid (own_rdv ho)
  have HLow := Lib.hid hb
  clear ho hb
  obtain ⟨b, off, rfl, hbl, hcl⟩ := HR.out.at_ (HIg.out q (by omega))
  rw [HLa.out] at hcl
  have x0 : (0 : Int) ≤ (x : Int) + 1 := by omega
  go_wp2_with (at_make; refine wpList_make_full _ rfl _ _ 23 rfl w.heap.size 3 i0 (.int .i64 0) 1 Tryd.underlying23 hi hz0 hz1 _ _ _ _ (x + 1) rfl rfl (by omega) (by omega) (by rw [hz2]; omega) (by unfold maxLen; omega) HLow.out.size ?_; intro w3 hown1 hgrow1; rw [made_zero, ← mk2_nil] at hown1; have HO := Lib.hid hown1; have HG : Hid (Below w2.heap.size w2 w3) := (Below.refl _ w2).grown hgrow1 (Nat.le_refl _) (fun k hk => by cases hk); clear hown1 hgrow1)
  go_loopw [5] (fun p wr => FlRel w w2 x Pl p wr) (fun p _ => q + 1 - (intOf p).toNat)
  case atStart => exact ⟨0, Nat.zero_le _, rfl, HO.out, HG.out⟩
  case round =>
    obtain ⟨k, hk, rfl, hrow, hbel⟩ := hrel
    rw [HQ.out] at hk
    by_cases hlt : k < q + 1
    · obtain ⟨b', off', eA, hb', hc'⟩ := HR.out.at_ (HIg.out k hlt)
      simp only [Option.some.injEq, Addr.mk.injEq, and_true] at eA
      obtain ⟨rfl, rfl⟩ := eA
      obtain ⟨a1, a2, a3⟩ := HAt.out k (by rw [HQ.out]; exact hlt)
      have e1 := (hbel.cell (p := ⟨b, off + k, none⟩) hb').trans hc'
      have hts : Pl.take (k + 1) = Pl.take k ++ [Pl[k]?.getD 0] := take_snoc Pl k (by rw [HQ.out]; exact hlt)
      have hset := own_set (i := Pl[k]?.getD 0) hrow (.int .i64 1)
      rw [← mk2_snoc x _ _ a1, ← hts] at hset
      have HSet := Lib.hid hset
      obtain ⟨cq, fq⟩ := own_cell hrow (i := Pl[k]?.getD 0) (ic_get _ _ (by rw [mk2_length]; omega))
      have HBl := Lib.hid hbel
      clear hset hrow hbel hc' a2 a3 hts
      generalize ((mk2 x (Pl.take k))[Pl[k]?.getD 0]?.getD false).toNat = oldv at *
      generalize Pl[k]?.getD 0 = i at *
      have i1 : (i : Int) < (x : Int) + 1 := by omega
      go_wp2
      exact ⟨⟨k + 1, by rw [HQ.out]; omega, by go_num, HSet.out, HBl.out.setCell (p := ⟨w2.heap.size, i, none⟩) (Nat.le_refl _) _⟩, by simp [intOf]; omega⟩
    · have hkq : k = Pl.length := by rw [HQ.out]; omega
      have HF : Hid (Pl.take k = Pl) := by show _ = _; rw [hkq, List.take_length]
      rw [HF.out] at hrow
      have HO2 := Lib.hid hrow
      have HBl := Lib.hid (HLow.out.trans (hbel.mono HLow.out.size))
      clear hkq hk hrow hbel
      go_wp2_with (at_builtin; refine wpList_append_own _ rfl _ _ 23 rfl w.heap.size 3 i0 (.int .i64 0) 1 8 Tryd.underlying23 hi hz0 hz1 hz2 rfl (by decide) _ _ _ rfl (HO2.out.alloc _) ⟨wr.heap.size, 0, none⟩ 1 1 [.int .i64 1] rfl rfl (cell_one_new _ _ _) (by simp [Value.oneCell']) (by unfold maxLen; omega) (by omega) (by have := HBl.out.size; simp; omega) ?_; intro v' w4 hown' hgrow _)
      have hbel4 : Below w.heap.size w w4 := HBl.out.trans (((Below.refl w.heap.size wr).alloc HBl.out.size _).trans (grown_belowT hgrow (HO2.out.alloc _) (by have := HBl.out.size; simp; omega)))
      obtain ⟨A3, c3, rfl⟩ := own_slice3 hown'
      go_ret
      refine ⟨A3, c3, by rw [HFl.out]; rfl, ?_, hbel4⟩
      rw [HFl.out, HFz.out]
      exact hown'
end Go.Proofs.YtjogccpnhcnedaaDoor
