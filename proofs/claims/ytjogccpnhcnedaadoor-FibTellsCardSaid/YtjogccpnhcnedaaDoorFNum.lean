/- What fib's table of numbers holds, and what Number, checkIndex and Sum answer over it; each fact names its conditions. -/
import Derived.Test.YtjogccpnhcnedaaDoorFLib
import Derived.Test.YtjogccpnhcnedaaDoorFPure
namespace Go.Proofs.YtjogccpnhcnedaaDoor
set_option maxRecDepth 100000
set_option linter.unusedVariables false
open Go.RowKit Go.Shelf

/-- The table, where the program keeps it. -/
def Nm (w : World) : Prop := ∀ i, i < 64 → w.cell? ⟨0, i, none⟩ = some (.int .u64 (fb i : Int))
theorem Nm.pos {w : World} (h : Nm w) : 0 < w.heap.size := by
  have := h 0 (by omega)
  rcases Nat.lt_or_ge 0 w.heap.size with hlt | hge
  · exact hlt
  · simp [World.cell?, Array.getElem?_eq_none hge] at this
theorem Nm.on {w V : World} (h : Nm w) (hb : Below w.heap.size w V) : Nm V := fun i hi => (hb.cell (p := ⟨0, i, none⟩) h.pos).trans (h i hi)
theorem Nm.below {w V : World} {B : Nat} (h : Nm w) (hb : Below B w V) (hB : 0 < B) : Nm V := fun i hi => (hb.cell (p := ⟨0, i, none⟩) hB).trans (h i hi)
theorem fb_u64 (i : Nat) (h : i < 64) : fb i < 18446744073709551616 := by
  have := fb_mono (show i ≤ 64 by omega)
  rw [fb64] at this
  omega

/-- Cells of ints. -/
def zc (l : List Int) : List Value := l.map fun x => Value.int .i64 x
theorem zc_length (l : List Int) : (zc l).length = l.length := by simp [zc]
theorem zc_get (l : List Int) (i : Nat) (h : i < l.length) : (zc l)[i]? = some (.int .i64 (l[i]?.getD 0)) := by
  simp [zc, List.getElem?_map, List.getElem?_eq_getElem h]
theorem zc_append (a b : List Int) : zc (a ++ b) = zc a ++ zc b := by simp [zc]
theorem zc_one (l : List Int) : ∀ u ∈ zc l, u.oneCell' = true := by
  intro u hu
  simp only [zc, List.mem_map] at hu
  obtain ⟨x, _, rfl⟩ := hu
  rfl

/-- What is wrong with an index. -/
def ciE (i : Int) : Int := if 0 ≤ i ∧ i < 64 then 0 else 3
set_option maxHeartbeats 400000 in
theorem checkIndex_any (i : Int) (w : World) :
    Calls Tryd.prog 30 #[.int .i64 i] w fun e w' => e = .returned (.int .i64 (ciE i)) ∧ Below w.heap.size w w' := by
  have hr : rgE 0 [decide (0 ≤ i), decide (i < 64)] = ciE i := by
    unfold rgE ciE
    by_cases h1 : 0 ≤ i
    · by_cases h2 : i < 64
      · simp [h1, h2]
      · simp [h1, h2]
    · simp [h1]
  have HR := Lib.hid (range2 0 (decide (0 ≤ i)) (decide (i < 64)) (ciE i) hr)
  clear hr
  generalize ciE i = e0 at *
  go_enter Tryd.func30, Tryd.ntmps30
  go_wp2_with fail
  refine (HR.out _ _ rfl).mono ?_
  rintro e w1 ⟨rfl, B1⟩
  go_wp2
  go_ret
  exact ⟨rfl, B1⟩

/-- What Number answers. -/
def nuV (i : Int) : Nat := if 0 ≤ i ∧ i < 64 then fb i.toNat else 0
set_option maxHeartbeats 400000 in
theorem number_any (i : Int) (w : World) (h : Nm w) :
    Calls Tryd.prog 9 #[.int .i64 i] w fun e w' => e = .returned (.tuple #[.int .u64 (nuV i : Int), .int .i64 (ciE i)]) ∧ Below w.heap.size w w' := by
  have HC := Lib.hid (checkIndex_any i)
  unfold ciE at HC
  unfold nuV ciE
  by_cases hi : 0 ≤ i ∧ i < 64
  · rw [if_pos hi] at HC ⊢
    rw [if_pos hi]
    obtain ⟨k, rfl⟩ := Int.eq_ofNat_of_zero_le hi.1
    have hk : k < 64 := by omega
    have HN := Lib.hid (fun V hb => (h.on (V := V) hb) k hk); clear h
    clear hi
    rw [Int.toNat_natCast]
    generalize fb k = y at *
    go_enter Tryd.func9, Tryd.ntmps9
    go_wp2_with fail
    refine (HC.out _).mono ?_
    rintro e w1 ⟨rfl, B1⟩
    have e1 := HN.out _ B1
    have HB := Lib.hid B1; clear B1
    go_wp2
    go_ret2
    exact ⟨rfl, HB.out⟩
  · rw [if_neg hi] at HC ⊢
    rw [if_neg hi]
    clear hi h
    go_enter Tryd.func9, Tryd.ntmps9
    go_wp2_with fail
    refine (HC.out _).mono ?_
    rintro e w1 ⟨rfl, B1⟩
    have HB := Lib.hid B1; clear B1
    go_wp2
    go_ret2
    exact ⟨rfl, HB.out⟩

/-- The list that is read so far: what its sum wants. -/
theorem zc_take_succ (l : List Int) (i : Nat) (h : i < l.length) : l.drop i = (l[i]?.getD 0) :: l.drop (i + 1) := by
  rw [List.drop_eq_getElem_cons h, List.getElem?_eq_getElem h]; rfl
/-- At each round's head. -/
def SmRel (l : List Int) (v p : Value) : Prop :=
  ∃ (k : Nat) (d : List Nat), p = .int .i64 (k : Int) ∧ v = .int .u64 (fsum d : Int) ∧ k ≤ l.length ∧ Dz 64 d ∧ sumR d (l.drop k) = sumR [] l ∧ (k = 0 → d = []) ∧ (0 < k → d ≠ [] ∧ l[k - 1]?.getD 0 = (d.headD 0 : Int))

set_option maxHeartbeats 2000000 in
theorem sum_any (l : List Int) (n : Nat) (hn : l.length = n) (hn2 : n ≤ 9223372036854775807) (A : Option Addr) (c : Nat) (w : World) (h : RdV w w.heap.size A (zc l)) (hN : Nm w) (s : Nat) (e0 : Int) (hr : sumR [] l = (s, e0)) :
    Calls Tryd.prog 11 #[.slice A n c] w fun e w' => e = .returned (.tuple #[.int .u64 (s : Int), .int .i64 e0]) ∧ Below w.heap.size w w' := by
  have HR := Lib.hid h; clear h
  have HN := Lib.hid hn; clear hn
  have HT := Lib.hid hN; clear hN
  have HS := Lib.hid hr; clear hr
  go_enter Tryd.func11, Tryd.ntmps11
  go_wp2
  go_loopw [4, 10] (fun v p wr => SmRel l v p ∧ Below w.heap.size w wr) (fun _ p _ => n - (intOf p).toNat)
  case atStart => exact ⟨⟨0, [], rfl, rfl, Nat.zero_le _, trivial, by rw [List.drop_zero], fun _ => rfl, fun h => absurd h (Nat.lt_irrefl _)⟩, Below.refl _ _⟩
  case round =>
    obtain ⟨⟨k, d, rfl, rfl, hk, hd, hs, hz, hp⟩, hbel⟩ := hrel
    rw [HN.out] at hk
    have HD := Lib.hid hd; clear hd
    have HBl := Lib.hid hbel
    by_cases hlt : k < n
    · have hkl : k < l.length := by rw [HN.out]; exact hlt
      rw [zc_take_succ l k hkl] at hs
      obtain ⟨b, off, rfl, hb, hc⟩ := HR.out.at_ (zc_get l k hkl)
      have hc2 := fun j (hj : j < l.length) => HR.out.at_ (zc_get l j hj)
      have HC := Lib.hid (checkIndex_any (l[k]?.getD 0) wr)
      have e1 := (hbel.cell (p := ⟨b, off + k, none⟩) hb).trans hc
      generalize hx : l[k]?.getD 0 = x at *
      have HX := Lib.hid hx; clear hx
      have HZ := Lib.hid hz; have HP := Lib.hid hp; have HSS := Lib.hid hs
      clear hz hp hs hc hbel
      by_cases h1 : x < 0 ∨ 63 < x
      · have hci : ciE x = 3 := by unfold ciE; rw [if_neg (by omega)]
        rw [hci] at HC
        have hq : (0, (3 : Int)) = (s, e0) := by rw [← HS.out, ← HSS.out, sumR_range d x _ h1]
        simp only [Prod.mk.injEq] at hq
        obtain ⟨rfl, rfl⟩ := hq
        clear hci h1 HS hc2
        go_wp2_with fail
        refine HC.out.mono ?_
        rintro e w1 ⟨rfl, B1⟩
        have HB := Lib.hid (HBl.out.trans (B1.mono HBl.out.size)); clear B1
        go_wp2
        go_ret2
        exact ⟨rfl, HB.out⟩
      · have hci : ciE x = 0 := by unfold ciE; rw [if_pos (by omega)]
        rw [hci] at HC
        obtain ⟨y, rfl⟩ := Int.eq_ofNat_of_zero_le (show 0 ≤ x by omega)
        have hy : y < 64 := by omega
        clear hci
        have HCell := Lib.hid (fun V hb => (HT.out.on (V := V) hb) y hy)
        have hfy := fb_u64 y hy
        have hfl := fsum_lt d 64 HD.out
        rw [fb64] at hfl
        have HF : Hid (((fsum d : Nat) : Int) + (fb y : Int) = ((fsum (y :: d) : Nat) : Int)) := by show _ = _; simp only [fsum]; omega
        have HFw : Hid (IntKind.u64.wrap (((fsum d : Nat) : Int) + (fb y : Int)) = ((fsum (y :: d) : Nat) : Int)) := by
          show _ = _
          rw [HF.out, IntKind.wrap_u64]
          simp only [fsum]
          have := fb_mono (show y ≤ 64 by omega)
          rw [fb64] at this
          omega
        rcases Nat.eq_zero_or_pos k with hk0 | hk0
        · have hd0 := HZ.out hk0
          have hnot : ¬ (d ≠ [] ∧ (y : Int) < (d.headD 0 : Int) + 2) := fun h => h.1 hd0
          have HSM : Hid (sumR (y :: d) (l.drop (k + 1)) = sumR [] l) := by
            show _ = _
            rw [← HSS.out, sumR_more d _ _ h1 hnot, Int.toNat_natCast]
          have HDZ := Lib.hid (dz_more d y HD.out hy hnot)
          have t0 : decide ((0 : Int) < (k : Int)) = false := by simp; omega
          have t0' : decide (0 < k) = false := by simp; omega
          clear h1 hc2 hd0 hnot hk0
          go_wp2_with fail
          refine HC.out.mono ?_
          rintro e w1 ⟨rfl, B1⟩
          have HB := Lib.hid (HBl.out.trans (B1.mono HBl.out.size)); clear B1
          have e2 := HCell.out _ HB.out
          clear HCell
          generalize hfs : fsum d = fs at *
          generalize fb y = fy at *
          have HFS := Lib.hid hfs; clear hfs
          go_wp2
          go_roundw
          case rel => exact ⟨⟨k + 1, y :: d, by go_num, by first | rw [HFw.out] | rw [HF.out], by rw [HN.out]; omega, HDZ.out, HSM.out, fun h => by omega, fun _ => ⟨by simp, by have := HX.out; simpa using this⟩⟩, HB.out⟩
          case measure => simp [intOf]; omega
        · obtain ⟨j, rfl⟩ : ∃ j, k = j + 1 := ⟨k - 1, by omega⟩
          obtain ⟨hdn, hdh⟩ := HP.out hk0
          rw [Nat.add_sub_cancel] at hdh
          obtain ⟨b', off', eA, hb', hc'⟩ := hc2 j (by rw [HN.out]; omega)
          simp only [Option.some.injEq, Addr.mk.injEq, and_true] at eA
          obtain ⟨rfl, rfl⟩ := eA
          have e0' := (HBl.out.cell (p := ⟨b, off + j, none⟩) hb).trans hc'
          rw [hdh] at e0'
          have hph : d.headD 0 < 64 := by
            cases d with
            | nil => exact absurd rfl hdn
            | cons z zs => exact HD.out.1
          have hold := fun w1 (B1 : Below wr.heap.size wr w1) => (B1.cell (p := ⟨b, off + j, none⟩) (show b < wr.heap.size from Nat.lt_of_lt_of_le hb HBl.out.size)).trans e0'
          have HOld := Lib.hid hold
          have hnd : (d ≠ [] ∧ (y : Int) < (d.headD 0 : Int) + 2) ↔ (y : Int) < (d.headD 0 : Int) + 2 := ⟨fun h => h.2, fun h => ⟨hdn, h⟩⟩
          clear hold hc2 hc' hdh hk0 hdn
          generalize hdd : d.headD 0 = dh at *
          have HDD := Lib.hid hdd; clear hdd
          by_cases hst : (y : Int) < (dh : Int) + 2
          · have hq : (0, (4 : Int)) = (s, e0) := by rw [← HS.out, ← HSS.out, sumR_state d _ _ h1 (by rw [HDD.out]; exact hnd.2 hst)]
            simp only [Prod.mk.injEq] at hq
            obtain ⟨rfl, rfl⟩ := hq
            have t1 : decide ((y : Int) < (dh : Int) + 2) = true := by simpa using hst
            clear HS h1 hnd hst
            go_wp2_with fail
            refine HC.out.mono ?_
            rintro e w1 ⟨rfl, B1⟩
            have e3 := HOld.out _ B1
            have HB := Lib.hid (HBl.out.trans (B1.mono HBl.out.size)); clear B1
            go_wp2
            go_ret2
            exact ⟨rfl, HB.out⟩
          · have hnot : ¬ (d ≠ [] ∧ (y : Int) < (d.headD 0 : Int) + 2) := by rw [HDD.out]; exact fun h => hst (hnd.1 h)
            have HSM : Hid (sumR (y :: d) (l.drop (j + 1 + 1)) = sumR [] l) := by
              show _ = _
              rw [← HSS.out, sumR_more d _ _ h1 hnot, Int.toNat_natCast]
            have HDZ := Lib.hid (dz_more d y HD.out hy hnot)
            have t1 : decide ((y : Int) < (dh : Int) + 2) = false := by simp; omega
            clear h1 hnd hst hnot
            go_wp2_with fail
            refine HC.out.mono ?_
            rintro e w1 ⟨rfl, B1⟩
            have e3 := HOld.out _ B1
            have HB := Lib.hid (HBl.out.trans (B1.mono HBl.out.size)); clear B1
            have e2 := HCell.out _ HB.out
            clear HCell
            generalize hfs : fsum d = fs at *
            generalize fb y = fy at *
            have HFS := Lib.hid hfs; clear hfs
            go_wp2
            go_roundw
            case rel => exact ⟨⟨j + 1 + 1, y :: d, by go_num, by first | rw [HFw.out] | rw [HF.out], by rw [HN.out]; omega, HDZ.out, HSM.out, fun h => by omega, fun _ => ⟨by simp, by have := HX.out; simpa using this⟩⟩, HB.out⟩
            case measure => simp [intOf]; omega
    · have hq : (fsum d, (0 : Int)) = (s, e0) := by
        rw [← HS.out, ← hs, List.drop_of_length_le (by rw [HN.out]; omega), sumR_nil]
      simp only [Prod.mk.injEq] at hq
      rw [hq.1]
      obtain rfl := hq.2
      clear hs HS hz hp hbel hq
      go_wp2
      go_ret2
      exact ⟨rfl, HBl.out⟩
end Go.Proofs.YtjogccpnhcnedaaDoor
