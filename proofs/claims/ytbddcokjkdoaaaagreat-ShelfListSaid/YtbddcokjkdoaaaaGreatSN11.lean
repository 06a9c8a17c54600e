/- Texts of this proof, one behind the other; each fact names its conditions. -/
import Derived.Test.YtbddcokjkdoaaaaGreatSN10
import Derived.Test.YtbddcokjkdoaaaaGreatSN7
import Derived.Lib.AppendZerosOnto
import Derived.Laws.AppendOwnNone
import Derived.Deep.RegionHeld3
namespace Go.Proofs.YtbddcokjkdoaaaaGreat
section
section
set_option maxRecDepth 100000
set_option linter.unusedVariables false
open Go.RowKit Go.Shelf Go.Lib
set_option maxHeartbeats 4000000 in
theorem grow_nil (n : Nat) (hn : n ≤ 1000000) (w : World) :
    Calls Tryz.prog 255 #[.slice none 0 0, .int .i64 (n : Int)] w fun e w' => ∃ A c, e = .returned (.slice A 0 c) ∧ w'.ownsRow w.heap.size 3 1 (.slice A 0 c) 0 [] ∧ Below w.heap.size w w' := by
  obtain ⟨i0, hi, hz0, hz1, hz2⟩ := info_parts info3
  have h1 : decide ((n : Int) < 0) = false := by simp
  have h3 : IntKind.i64.wrap ((n : Int) - 0) = (n : Int) := by rw [Int.sub_zero]; exact IntWalk.i64_in _ (by omega)
  by_cases h0 : n = 0
  · subst h0
    go_enter Tryz.func255, Tryz.ntmps255
    go_wp2
    go_ret
    exact ⟨none, 0, rfl, ⟨rfl, .inl ⟨rfl, rfl⟩⟩, Below.refl _ _⟩
  · have h4 : decide (0 < (n : Int)) = true := by simp; omega
    have h5 : decide ((n : Int) > 0) = true := by simp; omega
    have h6 : (0 : Int) < (n : Int) := by omega
    have h7 : ¬ ((n : Int) < 0) := by omega
    have hold : (Builtin.firstCells i0.size 0 (.slice none 0 0)).run Tryz.prog w.drew = .ok ([] : List Value).toArray w.drew := run_firstCells_none w.drew i0.size 0 0 0
    have hrz : ∀ ty, (Builtin.append_ #[22, 3] ty #[.slice none 0 0, .int .i64 (n : Int)]).run Tryz.prog w =
        .ok (.slice (some ⟨w.heap.size, 0, none⟩) n (grownCap w n 0 3)) (w.drew.alloc (.cells ((([] : List Value).toArray ++ Builtin.zeroCells (Value.int .i64 0).cells n) ++ Builtin.zeroCells (Value.int .i64 0).cells (grownCap w n 0 3 - n)) 3)) := fun ty => by
      have h := Lib.run_append_grow_zeros w 22 3 ty 3 i0 (.int .i64 0) .i64 .i64 Tryz.underlying22 Tryz.underlying3 hi hz0 none 0 0 [] hold n (by omega) (by omega) (by omega) (by omega)
        (by rw [hz2]; omega) (by rw [Nat.zero_add]; exact growslice_fits (by omega) (by rw [hz2]; omega))
      rw [Nat.zero_add] at h
      exact h
    have hGn : n ≤ grownCap w n 0 3 := grownCap_ge w _ _ _
    have hGm : grownCap w n 0 3 ≤ maxLen := grownCap_le_maxLen w n 0 3 (by unfold maxLen; omega)
    obtain ⟨G, hG⟩ : ∃ G, G = grownCap w n 0 3 := ⟨_, rfl⟩
    rw [← hG] at hrz hGn hGm
    have hG63 : G ≤ 9223372036854775807 := by unfold maxLen at hGm; omega
    obtain ⟨cs, hcs⟩ : ∃ cs, cs = (([] : List Value).toArray ++ Builtin.zeroCells (Value.int .i64 0).cells n) ++ Builtin.zeroCells (Value.int .i64 0).cells (G - n) := ⟨_, rfl⟩
    have hsz : cs.size = G * 1 := by
      rw [hcs]; simp [Builtin.zeroCells, Value.cells]; omega
    rw [← hcs] at hrz
    have HO : Hid ((w.drew.alloc (.cells cs 3)).ownsRow w.heap.size 3 1 (.slice (some ⟨w.heap.size, 0, none⟩) 0 G) 0 [] ∧ Below w.heap.size w (w.drew.alloc (.cells cs 3))) :=
      ⟨⟨rfl, .inr ⟨w.heap.size, G, cs, rfl, Nat.le_refl _, World.alloc_heap_new w.drew (.cells cs 3), Nat.zero_le _, hGm, hsz, by simp⟩⟩, ((Below.refl w.heap.size w).drew).alloc (Nat.le_refl _) _⟩
    clear hold hG hcs hsz
    go_enter Tryz.func255, Tryz.ntmps255
    go_wp2_with (at_builtin; refine Lib.wpList_append_run _ rfl _ _ _ _ rfl _ _ rfl rfl _ _ (hrz _) ?_)
    all_goals (go_ret; exact ⟨_, _, rfl, HO.out.1, HO.out.2⟩)
theorem add_plU (b off k : Nat) : (⟨b, off, none⟩ : Addr).add k = ⟨b, off + k, none⟩ := by unfold Addr.add; split <;> simp_all
theorem rdv_newsU {w : World} {B : Nat} {a : Addr} {vs : List Value} (h : RdV w B (some a) vs) : ∀ j u, vs[j]? = some u → w.cell? (a.add j) = some u := by
  intro j u hu
  obtain ⟨b, off, e, hb, hc⟩ := h.at_ hu
  cases e
  rw [add_plU]; exact hc
theorem rdv_none_nil {w : World} {B : Nat} {l : List Nat} (h : RdV w B none (zc (ns l))) : l = [] := by
  rcases h with h | ⟨b, off, h, _⟩
  · cases l with
    | nil => rfl
    | cons x t => simp [zc, ns] at h
  · cases h
def SzRel (n1 n2 : Nat) (p s : Value) : Prop := (p = .int .i64 0 ∧ s = .int .i64 0) ∨ (p = .int .i64 1 ∧ s = .int .i64 (n1 : Int)) ∨ (p = .int .i64 2 ∧ s = .int .i64 ((n1 + n2 : Nat) : Int))
def CtRel (l1 l2 : List Nat) (w : World) (v p : Value) (wr : World) : Prop :=
  ∃ (i : Nat) (l : List Nat), ((i = 0 ∧ l = []) ∨ (i = 1 ∧ l = l1) ∨ (i = 2 ∧ l = l1 ++ l2)) ∧ p = .int .i64 (i : Int) ∧ wr.ownsRow w.heap.size 3 1 v l.length (zc (ns l)) ∧ Below w.heap.size w wr
set_option maxHeartbeats 8000000 in
theorem concat_two (l1 l2 : List Nat) (n1 n2 : Nat) (hn1 : l1.length = n1) (hn2 : l2.length = n2) (h1 : n1 ≤ 100000) (h2 : n2 ≤ 100000) (A1 A2 : Option Addr) (c1 c2 : Nat) (hA1 : A1 = none → c1 = 0) (hA2 : A2 = none → c2 = 0) (S : Nat) (w : World)
    (hS : w.heap[S]? = some (.cells #[.slice A1 n1 c1, .slice A2 n2 c2] 22 (0, 0))) (r1 : RdV w w.heap.size A1 (zc (ns l1))) (r2 : RdV w w.heap.size A2 (zc (ns l2))) :
    Calls Tryz.prog 233 #[.slice (some ⟨S, 0, none⟩) 2 2] w fun e w' => ∃ A c, e = .returned (.slice A (n1 + n2) c) ∧ w'.ownsRow w.heap.size 3 1 (.slice A (n1 + n2) c) (n1 + n2) (zc (ns (l1 ++ l2))) ∧ Below w.heap.size w w' := by
  obtain ⟨i0, hi, hz0, hz1, hz2⟩ := info_parts info3
  have hSw : S < w.heap.size := (Array.getElem?_eq_some_iff.1 hS).1
  have HX1 := Lib.hid r1; have HX2 := Lib.hid r2; have HN1 := Lib.hid hn1; have HN2 := Lib.hid hn2
  have HG := Lib.hid (grow_nil (n1 + n2) (by omega))
  have k0 : w.cell? ⟨S, 0, none⟩ = some (.slice A1 n1 c1) := by rw [cell_at hS]; rfl
  have k1 : w.cell? ⟨S, 1, none⟩ = some (.slice A2 n2 c2) := by rw [cell_at hS]; rfl
  have HK : Hid (∀ V, Below w.heap.size w V → V.cell? ⟨S, 0, none⟩ = some (.slice A1 n1 c1) ∧ V.cell? ⟨S, 1, none⟩ = some (.slice A2 n2 c2)) := fun V hV => ⟨(hV.cell (p := ⟨S, 0, none⟩) hSw).trans k0, (hV.cell (p := ⟨S, 1, none⟩) hSw).trans k1⟩
  clear r1 r2 hn1 hn2 hS
  go_enter Tryz.func233, Tryz.ntmps233
  go_wp2
  go_loopw [3, 11] (fun s p wr => SzRel n1 n2 p s ∧ wr = w) (fun _ p _ => 2 - (intOf p).toNat)
  case atStart => exact ⟨.inl ⟨rfl, rfl⟩, rfl⟩
  case round =>
    obtain ⟨hsz, hw⟩ := hrel
    have hw2 := hw.symm
    subst hw2
    clear hw
    rcases hsz with ⟨rfl, rfl⟩ | ⟨rfl, rfl⟩ | ⟨rfl, rfl⟩
    · have t1 : IntKind.i64.wrap (0 + (n1 : Int)) = (n1 : Int) := by rw [Int.zero_add]; exact IntWalk.i64_in _ (by omega)
      have t2 : decide ((n1 : Int) < 0) = false := by simp
      go_wp2
      go_roundw
      case rel => exact ⟨.inr (.inl ⟨rfl, rfl⟩), by trivial⟩
      case measure => simp [intOf]
    · have t1 : IntKind.i64.wrap ((n1 : Int) + (n2 : Int)) = ((n1 + n2 : Nat) : Int) := by rw [← Int.natCast_add]; exact IntWalk.i64_in _ (by omega)
      have t2 : decide (((n1 + n2 : Nat) : Int) < 0) = false := by simp; omega
      go_wp2
      go_roundw
      case rel => exact ⟨.inr (.inr ⟨rfl, by go_num⟩), by trivial⟩
      case measure => simp [intOf]
    · clear k0 k1
      go_wp2_with fail
      refine (HG.out w).mono ?_
      rintro e w1 ⟨Av, cv, rfl, hrow, hbel⟩
      have HR := Lib.hid hrow; have HB := Lib.hid hbel
      clear hrow hbel HG
      go_wp2
      go_loopw [6, 27] (fun v p V => CtRel l1 l2 w v p V) (fun _ p _ => 2 - (intOf p).toNat)
      case atStart => exact ⟨0, [], .inl ⟨rfl, rfl⟩, rfl, HR.out, HB.out⟩
      case round =>
        obtain ⟨i, l, hcase, rfl, hrow, hbel⟩ := hrel
        rcases hcase with ⟨rfl, rfl⟩ | ⟨rfl, rfl⟩ | ⟨rfl, rfl⟩
        · obtain ⟨k0, k1⟩ := HK.out _ hbel
          obtain ⟨Av2, cv2, rfl⟩ := own_slice3 hrow
          simp only [List.length_nil] at hrow
          have hX := HX1.out.on hbel
          have HB0 := Lib.hid hbel
          clear hbel HR HB
          cases A1 with
          | none =>
            have hc := hA1 rfl
            have hl0 := rdv_none_nil hX
            subst hc
            obtain rfl : n1 = 0 := by rw [← HN1.out, hl0]; rfl
            have HL0 := Lib.hid hl0
            clear hl0
            clear hX
            go_wp2_with (at_builtin; refine wpList_append_own_none rfl _ _ 22 rfl w.heap.size 3 i0 1 Tryz.underlying22 hi _ _ _ rfl hrow rfl ?_)
            all_goals (
              go_roundw
              case rel => first | exact ⟨1, l1, .inr (.inl ⟨rfl, rfl⟩), rfl, by rw [HL0.out]; exact hrow, HB0.out⟩ | exact ⟨_, _, _, ⟨1, l1, .inr (.inl ⟨rfl, rfl⟩), rfl, by rw [HL0.out]; exact hrow, HB0.out⟩, rfl, rfl, rfl⟩
              case measure => simp [intOf])
          | some a =>
            have HNw := Lib.hid (rdv_newsU hX)
            have HLz : Hid ((zc (ns l1)).length = n1 * 1) := by show _ = _; rw [zc_length, ns_length, HN1.out, Nat.mul_one]
            have HOn := Lib.hid (zc_one (ns l1))
            clear hX
            go_wp2_with (at_builtin; refine wpList_append_own _ rfl _ _ 22 rfl w.heap.size 3 i0 (.int .i64 0) 1 8 Tryz.underlying22 hi hz0 hz1 hz2 rfl (by decide) _ _ _ rfl hrow a n1 c1 (zc (ns l1)) rfl HLz.out HNw.out HOn.out (by unfold maxLen; omega) (by omega) HB0.out.size ?_; intro v' w3 hown' hgrow _; obtain ⟨Av', cv', rfl⟩ := own_slice3 hown')
            have HO : Hid (w3.ownsRow w.heap.size 3 1 (.slice Av' (0 + n1) cv') l1.length (zc (ns l1))) := by
              show World.ownsRow _ _ _ _ _ _ _
              rw [HN1.out]
              have := hown'
              simpa [zc, ns] using this
            have HB : Hid (Below w.heap.size w w3) := HB0.out.trans (grown_low hgrow hrow HB0.out.size)
            clear hown' hgrow hrow HB0 k0 k1
            go_wp2
            go_roundw
            case rel => exact ⟨1, l1, .inr (.inl ⟨rfl, rfl⟩), rfl, by first | exact HO.out | simpa using HO.out, HB.out⟩
            case measure => simp [intOf]
        · obtain ⟨k0, k1⟩ := HK.out _ hbel
          obtain ⟨Av2, cv2, rfl⟩ := own_slice3 hrow
          have hX := HX2.out.on hbel
          have HB0 := Lib.hid hbel
          have HLen : Hid ((l ++ l2).length = n1 + n2) := by show _ = _; rw [List.length_append, HN1.out, HN2.out]
          generalize hk : l.length = k at *
          have HKk := Lib.hid hk
          have hkn : Hid (k = n1) := HN1.out
          have hk1 : k ≤ 100000 := by have := hkn.out; omega
          clear hk hbel HR HB
          cases A2 with
          | none =>
            have hc := hA2 rfl
            have hl0 := rdv_none_nil hX
            subst hc
            obtain rfl : n2 = 0 := by rw [← HN2.out, hl0]; rfl
            have HL0 := Lib.hid hl0
            clear hl0
            clear hX
            go_wp2_with (at_builtin; refine wpList_append_own_none rfl _ _ 22 rfl w.heap.size 3 i0 1 Tryz.underlying22 hi _ _ _ rfl hrow rfl ?_)
            all_goals (
              go_roundw
              case rel => first | exact ⟨2, l ++ l2, .inr (.inr ⟨rfl, rfl⟩), rfl, by rw [HL0.out, List.append_nil, HKk.out]; exact hrow, HB0.out⟩ | exact ⟨_, _, _, ⟨2, l ++ l2, .inr (.inr ⟨rfl, rfl⟩), rfl, by rw [HL0.out, List.append_nil, HKk.out]; exact hrow, HB0.out⟩, rfl, rfl, rfl⟩
              case measure => simp [intOf])
          | some a =>
            have HNw := Lib.hid (rdv_newsU hX)
            have HLz : Hid ((zc (ns l2)).length = n2 * 1) := by show _ = _; rw [zc_length, ns_length, HN2.out, Nat.mul_one]
            have HOn := Lib.hid (zc_one (ns l2))
            clear hX
            go_wp2_with (at_builtin; refine wpList_append_own _ rfl _ _ 22 rfl w.heap.size 3 i0 (.int .i64 0) 1 8 Tryz.underlying22 hi hz0 hz1 hz2 rfl (by decide) _ _ _ rfl hrow a n2 c2 (zc (ns l2)) rfl HLz.out HNw.out HOn.out (by unfold maxLen; omega) (by omega) HB0.out.size ?_; intro v' w3 hown' hgrow _; obtain ⟨Av', cv', rfl⟩ := own_slice3 hown')
            have HO : Hid (w3.ownsRow w.heap.size 3 1 (.slice Av' (k + n2) cv') (l ++ l2).length (zc (ns (l ++ l2)))) := by
              show World.ownsRow _ _ _ _ _ _ _
              rw [HLen.out, ns_append, zc_append, ← hkn.out]; exact hown'
            have HB : Hid (Below w.heap.size w w3) := HB0.out.trans (grown_low hgrow hrow HB0.out.size)
            clear hown' hgrow hrow HB0 k0 k1
            go_wp2
            go_roundw
            case rel => exact ⟨2, l ++ l2, .inr (.inr ⟨rfl, rfl⟩), rfl, HO.out, HB.out⟩
            case measure => simp [intOf]
        · have hl : (l1 ++ l2).length = n1 + n2 := by rw [List.length_append, HN1.out, HN2.out]
          rw [hl] at hrow
          obtain ⟨Av2, cv2, rfl⟩ := own_slice3 hrow
          have HR2 := Lib.hid hrow; have HB2 := Lib.hid hbel
          clear hrow hbel HR HB
          go_wp2
          go_ret
          exact ⟨_, _, rfl, HR2.out, HB2.out⟩
set_option maxHeartbeats 4000000 in
/-- The union of two lists. -/
theorem union_any (l1 l2 : List Nat) (n1 n2 : Nat) (hn1 : l1.length = n1) (hn2 : l2.length = n2) (h1 : n1 ≤ 100000) (h2 : n2 ≤ 100000) (M1 : List Nat) (M2 : Int) (hM : un l1 l2 = (M1, M2)) (A1 A2 : Option Addr) (c1 c2 : Nat) (hA1 : A1 = none → c1 = 0) (hA2 : A2 = none → c2 = 0) (w : World) (r1 : RdV w w.heap.size A1 (zc (ns l1))) (r2 : RdV w w.heap.size A2 (zc (ns l2))) :
    Calls Tryz.prog 192 #[.slice A1 n1 c1, .slice A2 n2 c2] w (IntsP w M1 M2) := by
  have hB1 := one_below w (.cells #[.slice A1 n1 c1, .slice A2 n2 c2] 22)
  have HC := Lib.hid (concat_two l1 l2 n1 n2 hn1 hn2 h1 h2 A1 A2 c1 c2 hA1 hA2 w.heap.size (w.alloc (.cells #[.slice A1 n1 c1, .slice A2 n2 c2] 22)) (World.alloc_heap_new _ _) (r1.on hB1) (r2.on hB1))
  have HB1 := Lib.hid hB1
  have HLen : Hid ((l1 ++ l2).length = n1 + n2) := by show _ = _; rw [List.length_append, hn1, hn2]
  have HMM := Lib.hid hM
  have HSz : Hid ((w.alloc (.cells #[.slice A1 n1 c1, .slice A2 n2 c2] 22)).heap.size = w.heap.size + 1) := World.size_alloc _ _
  clear hB1 hM r1 r2 hn1 hn2
  go_enter Tryz.func192, Tryz.ntmps192
  go_wp2_with fail
  refine HC.out.mono ?_
  rintro e w1 ⟨Av, cv, rfl, hr1, hb1⟩
  have HR1 : Hid (w1.ownsRow w.heap.size 3 1 (.slice Av (n1 + n2) cv) (n1 + n2) (zc (ns (l1 ++ l2)))) := own_base hr1 (by rw [HSz.out]; omega)
  have HB : Hid (Below w.heap.size w w1) := HB1.out.trans (hb1.mono (by rw [HSz.out]; omega))
  clear hr1 hb1 HC HB1 HSz
  have hN0 : n1 + n2 ≤ 200000 := by omega
  generalize n1 + n2 = N0 at *
  have HS := Lib.hid (sort_own (l1 ++ l2) N0 HLen.out (by omega) w.heap.size _ _ HR1.out HB.out.size)
  go_wp2_with fail
  refine HS.out.mono ?_
  rintro e w4 ⟨rfl, hr4, hb4⟩
  have HB4 : Hid (Below w.heap.size w w4) := HB.out.trans hb4
  have hl4 : (nso (l1 ++ l2)).length = N0 := by rw [(nso_perm _).length_eq]; exact HLen.out
  have HT := Lib.hid (twice_in (nso (l1 ++ l2)) N0 hl4 (by omega) Av cv w4 (own_rdv hr4))
  have HO4 := Lib.hid hr4
  have HL4 := Lib.hid hl4
  have HM : Hid ((M1, M2) = if tw (nso (l1 ++ l2)) = true then ([], 6) else if 300 < (nso (l1 ++ l2)).length then ([], 2) else (nso (l1 ++ l2), 0)) := HMM.out.symm
  rw [hl4] at HM
  clear hr4 hb4 hl4 HS HR1 HB HMM
  generalize nso (l1 ++ l2) = L at *
  cases htw : tw L with
  | true =>
    rw [htw] at HT HM
    rw [if_pos rfl] at HM
    obtain ⟨rfl, rfl⟩ : M1 = [] ∧ M2 = 6 := by have := HM.out; simpa using this
    clear HM htw
    go_wp2_with fail
    refine HT.out.mono ?_
    rintro e w5 ⟨rfl, B5⟩
    have HB5 := Lib.hid (HB4.out.trans (B5.mono HB4.out.size)); clear B5
    go_wp2
    go_ret2
    exact ⟨none, 0, rfl, Nat.le_refl _, fun _ => rfl, .inl rfl, HB5.out⟩
  | false =>
    rw [htw] at HT HM
    rw [if_neg (by decide)] at HM
    by_cases h3 : 300 < N0
    · rw [if_pos h3] at HM
      obtain ⟨rfl, rfl⟩ : M1 = [] ∧ M2 = 2 := by have := HM.out; simpa using this
      clear HM htw
      go_wp2_with fail
      refine HT.out.mono ?_
      rintro e w5 ⟨rfl, B5⟩
      have HB5 := Lib.hid (HB4.out.trans (B5.mono HB4.out.size)); clear B5
      go_wp2
      go_ret2
      exact ⟨none, 0, rfl, Nat.le_refl _, fun _ => rfl, .inl rfl, HB5.out⟩
    · rw [if_neg h3] at HM
      obtain ⟨rfl, rfl⟩ : M1 = L ∧ M2 = 0 := by have := HM.out; simpa using this
      clear HM htw
      go_wp2_with fail
      refine HT.out.mono ?_
      rintro e w5 ⟨rfl, B5⟩
      have HR5 : Hid (RdV w5 w5.heap.size Av (zc (ns M1))) := (own_rdv HO4.out).on B5
      have HB5 := Lib.hid (HB4.out.trans (B5.mono HB4.out.size)); clear B5
      go_wp2
      go_ret2
      exact ⟨Av, cv, by rw [HL4.out]; rfl, by rw [HL4.out]; exact own_cap HO4.out, own_none HO4.out, HR5.out, HB5.out⟩
end
section
set_option maxRecDepth 100000
set_option linter.unusedVariables false
open Go.RowKit Go.Shelf
set_option maxHeartbeats 1000000 in
theorem copy_e (xs : List Int) (n : Nat) (hn : xs.length = n) (hn2 : n ≤ 9223372036854775807) (bs : List Int) (m : Nat) (hm : bs.length = m) (hm2 : m ≤ 9223372036854775807) (e0 : Int) (he : cpE xs bs = e0) (h0 : e0 ≠ 0) (A1 A2 : Option Addr) (c1 c2 : Nat) (w : World) (h1 : RdV w w.heap.size A1 (zc xs)) (h2 : RdV w w.heap.size A2 (zc bs)) :
    Calls Tryz.prog 149 #[.slice A1 n c1, .slice A2 m c2] w (IntsP w [] e0) := by
  have HC := Lib.hid (gcheck_any xs n hn hn2 A1 c1 w h1)
  unfold cpE at he
  by_cases hr : rchk xs = 0
  · rw [if_neg (by simpa using hr), hn] at he
    have h300 : n ≤ 300 := by
      obtain ⟨l, hl0, hl⟩ := rchk_zero xs hr
      have h3 : l.length ≤ 300 := hl.1
      rw [← hn, hl0, ns_length]; exact h3
    rw [hr] at HC
    have HB : Hid (∀ V, Below w.heap.size w V → Calls Tryz.prog 190 #[.slice A2 m c2, .int .i64 (n : Int)] V fun e w' => e = .returned (.int .i64 e0) ∧ Below V.heap.size V w') := fun V hV => by
      have := cblk_any bs m hm hm2 n (by omega) A2 c2 V (h2.on hV)
      rwa [he] at this
    have t0 : (e0 != 0) = true := by simpa using h0
    clear h1 h2 hn hm he h0 hr
    go_enter Tryz.func149, Tryz.ntmps149
    go_wp2_with fail
    refine HC.out.mono ?_
    rintro e w1 ⟨rfl, B1⟩
    have HB1 := Lib.hid B1; clear B1
    go_wp2_with fail
    refine (HB.out w1 HB1.out).mono ?_
    rintro e w2 ⟨rfl, B2⟩
    have HB2 := Lib.hid (HB1.out.trans (B2.mono HB1.out.size)); clear B2
    go_wp2
    go_ret2
    exact ⟨none, 0, rfl, Nat.le_refl _, fun _ => rfl, .inl rfl, HB2.out⟩
  · rw [if_pos (by simpa using hr)] at he
    rw [he] at HC
    have t0 : (e0 != 0) = true := by simpa using h0
    clear h1 h2 hn hm he h0 hr
    go_enter Tryz.func149, Tryz.ntmps149
    go_wp2_with fail
    refine HC.out.mono ?_
    rintro e w1 ⟨rfl, B1⟩
    have HB1 := Lib.hid B1; clear B1
    go_wp2
    go_ret2
    exact ⟨none, 0, rfl, Nat.le_refl _, fun _ => rfl, .inl rfl, HB1.out⟩
theorem cp_step {α : Type} (p : Bool) (B : List Nat) (i : Nat) (h : i < B.length) (F : List α) : cp p (B.drop i) F = (if p then F.take (B[i]?.getD 0) else []) ++ cp (!p) (B.drop (i + 1)) (F.drop (B[i]?.getD 0)) := by
  rw [drop_nat B i h]; rfl
theorem sum_step (B : List Nat) (i : Nat) (h : i < B.length) : (B.drop i).sum = B[i]?.getD 0 + (B.drop (i + 1)).sum := by
  rw [drop_nat B i h, List.sum_cons]
def CpRel (B F : List Nat) (w : World) (v s p : Value) (wr : World) : Prop :=
  ∃ (i a : Nat) (out : List Nat), i ≤ B.length ∧ p = .int .i64 (i : Int) ∧ s = .int .i64 (a : Int) ∧ a + (B.drop i).sum ≤ F.length ∧ out.length ≤ a ∧ cp true B F = out ++ cp (decide (i % 2 = 0)) (B.drop i) (F.drop a) ∧
    wr.ownsRow w.heap.size 3 1 v out.length (zc (ns out)) ∧ Below w.heap.size w wr
theorem ns_cut (F : List Nat) (a b : Nat) : zc (ns ((F.drop a).take b)) = ((zc (ns F)).drop a).take b := by simp [zc, ns, List.map_take, List.map_drop]
theorem ns_drop (F : List Nat) (a : Nat) : zc (ns (F.drop a)) = (zc (ns F)).drop a := by simp [zc, ns, List.map_drop]
theorem par_succ (i : Nat) : (!decide (i % 2 = 0)) = decide ((i + 1) % 2 = 0) := by
  by_cases h : i % 2 = 0
  · rw [decide_eq_true h, decide_eq_false (by omega)]; rfl
  · rw [decide_eq_false h, decide_eq_true (by omega)]; rfl
theorem rdv_drop {w : World} {B : Nat} {a : Addr} {vs : List Value} (h : RdV w B (some a) vs) (k : Nat) : ∀ j u, (vs.drop k)[j]? = some u → w.cell? ((a.add k).add j) = some u := by
  intro j u hu
  rw [List.getElem?_drop] at hu
  obtain ⟨b, off, e, hb, hc⟩ := h.at_ hu
  cases e
  rw [add_plU, add_plU, Nat.add_assoc]; exact hc
theorem rdv_take {w : World} {B : Nat} {a : Addr} {vs : List Value} (h : RdV w B (some a) vs) (k b : Nat) : ∀ j u, ((vs.drop k).take b)[j]? = some u → w.cell? ((a.add k).add j) = some u := by
  intro j u hu
  refine rdv_drop h k j u ?_
  rw [List.getElem?_take] at hu
  split at hu
  · exact hu
  · cases hu
set_option maxHeartbeats 8000000 in
theorem copy_in (F : List Nat) (hF : Rising F) (n : Nat) (hn : F.length = n) (B : List Nat) (m : Nat) (hm : B.length = m) (hB : BOk B n) (M : List Nat) (hM : cp true B F = M) (A1 A2 : Option Addr) (c1 c2 : Nat) (hA1 : A1 = none → c1 = 0) (hc1 : n ≤ c1) (w : World) (h1 : RdV w w.heap.size A1 (zc (ns F))) (h2 : RdV w w.heap.size A2 (zc (ns B))) :
    Calls Tryz.prog 149 #[.slice A1 n c1, .slice A2 m c2] w (IntsP w M 0) := by
  have h300 : n ≤ 300 := by have := hF.1; omega
  have hm300 : m ≤ 301 := by have := hB.1; omega
  have hc63 : c1 ≤ 9223372036854775807 ∨ 9223372036854775807 < c1 := by omega
  have HC : Hid (Calls Tryz.prog 50 #[.slice A1 n c1] w fun e w' => e = .returned (.int .i64 0) ∧ Below w.heap.size w w') := by
    have := gcheck_any (ns F) n (by rw [ns_length, hn]) (by omega) A1 c1 w h1
    rwa [rchk_ok F hF] at this
  have HBk : Hid (∀ V, Below w.heap.size w V → Calls Tryz.prog 190 #[.slice A2 m c2, .int .i64 (n : Int)] V fun e w' => e = .returned (.int .i64 0) ∧ Below V.heap.size V w') := fun V hV => by
    have := cblk_any (ns B) m (by rw [ns_length, hm]) (by omega) n (by omega) A2 c2 V (h2.on hV)
    rwa [bchk_ok B n hB] at this
  obtain ⟨i0, hi, hz0, hz1, hz2⟩ := info_parts info3
  have HX1 := Lib.hid h1; have HX2 := Lib.hid h2; have HN := Lib.hid hn; have HM := Lib.hid hm; have HMM := Lib.hid hM
  have HS : Hid (B.sum ≤ F.length) := by show _ ≤ _; rw [hn]; exact hB.2.2
  clear h1 h2 hn hm hM hF hB
  go_enter Tryz.func149, Tryz.ntmps149
  go_wp2_with fail
  refine HC.out.mono ?_
  rintro e w1 ⟨rfl, B1⟩
  have HB1 := Lib.hid B1; clear B1
  go_wp2_with fail
  refine (HBk.out w1 HB1.out).mono ?_
  rintro e w2 ⟨rfl, B2⟩
  have HB2 := Lib.hid (HB1.out.trans (B2.mono HB1.out.size)); clear B2
  go_wp2
  go_loopw [8, 9, 26] (fun v s p wr => CpRel B F w v s p wr) (fun _ _ p _ => m - (intOf p).toNat)
  case atStart => exact ⟨0, 0, [], Nat.zero_le _, rfl, rfl, by simpa using HS.out, Nat.le_refl _, rfl, ⟨rfl, .inl ⟨rfl, rfl⟩⟩, HB2.out⟩
  case round =>
    obtain ⟨i, a, out, hi', rfl, rfl, hsum, hol, hcp, hrow, hbel⟩ := hrel
    rw [HM.out] at hi'
    rw [HN.out] at hsum
    by_cases hlt : i < m
    · have hin : i < B.length := by rw [HM.out]; exact hlt
      obtain ⟨b2, off2, rfl, hb2, hcb⟩ := (HX2.out.on hbel).at_ (ns_get B i hin)
      have hst := cp_step (decide (i % 2 = 0)) B i hin (F.drop a)
      have hss := sum_step B i hin
      generalize hb : B[i]?.getD 0 = b at *
      have hab : a + b ≤ n := by omega
      have HSum : Hid (a + b + (B.drop (i + 1)).sum ≤ F.length) := by show _ ≤ _; rw [HN.out]; omega
      have t5 : IntKind.i64.wrap ((a : Int) + (b : Int)) = (a : Int) + (b : Int) := IntWalk.i64_in _ (by omega)
      have HCo := Lib.hid (copies_any i (by omega) wr)
      obtain ⟨Av, cv, rfl⟩ := own_slice3 hrow
      have hX := HX1.out.on hbel
      have HB := Lib.hid hbel
      have HCp := Lib.hid hcp; have HSt := Lib.hid hst
      clear hbel hcp hst hss hsum hb HC HBk HB1 HB2 HS
      by_cases hev : i % 2 = 0
      · rw [decide_eq_true hev] at HCo
        have HOut : Hid (cp true B F = (out ++ (F.drop a).take b) ++ cp (decide ((i + 1) % 2 = 0)) (B.drop (i + 1)) (F.drop (a + b))) := by
          show _ = _
          rw [HCp.out, HSt.out, decide_eq_true hev, show F.drop (a + b) = (F.drop a).drop b by rw [List.drop_drop], decide_eq_false (by omega), if_pos rfl, List.append_assoc]; rfl
        have HTl : Hid (((F.drop a).take b).length = b) := by show _ = _; rw [List.length_take, List.length_drop, HN.out]; omega
        clear HCp HSt
        cases A1 with
        | none =>
          have hc0 := hA1 rfl
          subst hc0
          obtain rfl : n = 0 := by omega
          obtain rfl : a = 0 := by omega
          obtain rfl : b = 0 := by omega
          have HO0 : Hid ((F.drop 0).take 0 = []) := List.take_zero
          rw [HO0.out, List.append_nil] at HOut
          clear hX hev
          go_wp2_with (first | (go_at_call 191; refine HCo.out.mono ?_; rintro e w' ⟨rfl, rfl⟩) | (at_builtin; refine wpList_append_own_none rfl _ _ 22 rfl w.heap.size 3 i0 1 Tryz.underlying22 hi _ _ _ rfl hrow rfl ?_))
          go_roundw
          case rel => exact ⟨_, _, _, _, _, _, _, _, _, _, _, _, _, _, _, _, _, _, _, _, _, _, _, ⟨i + 1, 0, out, by rw [HM.out]; omega, by go_num, by go_num, HSum.out, hol, HOut.out, hrow, HB.out⟩, rfl⟩
          case measure => simp [intOf]; omega
        | some a1 =>
          have HNw := Lib.hid (rdv_take hX a b)
          rw [← ns_cut] at HNw
          have HLz : Hid ((zc (ns ((F.drop a).take b))).length = (a + b - a) * 1) := by show _ = _; rw [zc_length, ns_length, HTl.out]; omega
          have HOn := Lib.hid (zc_one (ns ((F.drop a).take b)))
          have hk : out.length ≤ 1000 := by omega
          generalize hk2 : out.length = k at *
          have HK := Lib.hid hk2
          clear hX hk2
          by_cases hca : c1 = a
          · obtain rfl : b = 0 := by omega
            have hca2 : (c1 = a) = True := by simp [hca]
            have HNe : Hid (∀ j u, (zc (ns ((F.drop a).take 0)))[j]? = some u → wr.cell? (a1.add j) = some u) := by intro j u hu; simp [zc, ns] at hu
            have hc63 : c1 ≤ 300 := by omega
            clear hca HNw HLz
            have HLz : Hid ((zc (ns ((F.drop a).take 0))).length = 0 * 1) := by show _ = _; simp [zc, ns]
            go_wp2_with (first | (go_at_call 191; refine HCo.out.mono ?_; rintro e w' ⟨rfl, rfl⟩) | (at_builtin; refine wpList_append_own _ rfl _ _ 22 rfl w.heap.size 3 i0 (.int .i64 0) 1 8 Tryz.underlying22 hi hz0 hz1 hz2 rfl (by decide) _ _ _ rfl hrow a1 _ _ (zc (ns ((F.drop a).take 0))) rfl HLz.out HNe.out HOn.out (by unfold maxLen; omega) (by omega) HB.out.size ?_; intro v' w3 hown' hgrow _; obtain ⟨Av', cv', rfl⟩ := own_slice3 hown'))
            have HO : Hid (w3.ownsRow w.heap.size 3 1 (.slice Av' (k + 0) cv') (k + 0) (zc (ns (out ++ ((F.drop a).take 0))))) := by
              show World.ownsRow _ _ _ _ _ _ _
              rw [ns_append, zc_append]; first | exact hown' | (have := hown'; simp only [Nat.add_sub_cancel_left] at this; exact this)
            have HB3 : Hid (Below w.heap.size w w3) := HB.out.trans (grown_low hgrow hrow HB.out.size)
            have HLn : Hid ((out ++ ((F.drop a).take 0)).length = k + 0) := by show _ = _; rw [List.length_append, HK.out, HTl.out]
            clear hown' hgrow hrow HB
            go_roundw
            case rel => exact ⟨i + 1, a + 0, out ++ (F.drop a).take 0, by rw [HM.out]; omega, by go_num, by go_num, HSum.out, by rw [HLn.out]; omega, HOut.out, by rw [HLn.out]; exact HO.out, HB3.out⟩
            case measure => simp [intOf]; omega
          · have hc64 : (a : Int) ≤ (c1 : Int) := by omega
            have hc65 : (a : Int) + (b : Int) ≤ (c1 : Int) := by omega
            go_wp2_with (first | (go_at_call 191; refine HCo.out.mono ?_; rintro e w' ⟨rfl, rfl⟩) | (at_builtin; refine wpList_append_own _ rfl _ _ 22 rfl w.heap.size 3 i0 (.int .i64 0) 1 8 Tryz.underlying22 hi hz0 hz1 hz2 rfl (by decide) _ _ _ rfl hrow (a1.add a) _ _ (zc (ns ((F.drop a).take b))) rfl HLz.out HNw.out HOn.out (by unfold maxLen; omega) (by omega) HB.out.size ?_; intro v' w3 hown' hgrow _; obtain ⟨Av', cv', rfl⟩ := own_slice3 hown'))
            have HO : Hid (w3.ownsRow w.heap.size 3 1 (.slice Av' (k + b) cv') (k + b) (zc (ns (out ++ ((F.drop a).take b))))) := by
              show World.ownsRow _ _ _ _ _ _ _
              rw [ns_append, zc_append]; first | exact hown' | (have := hown'; simp only [Nat.add_sub_cancel_left] at this; exact this)
            have HB3 : Hid (Below w.heap.size w w3) := HB.out.trans (grown_low hgrow hrow HB.out.size)
            have HLn : Hid ((out ++ ((F.drop a).take b)).length = k + b) := by show _ = _; rw [List.length_append, HK.out, HTl.out]
            clear hown' hgrow hrow HB
            go_roundw
            case rel => exact ⟨i + 1, a + b, out ++ (F.drop a).take b, by rw [HM.out]; omega, by go_num, by go_num, HSum.out, by rw [HLn.out]; omega, HOut.out, by rw [HLn.out]; exact HO.out, HB3.out⟩
            case measure => simp [intOf]; omega
      · rw [decide_eq_false hev] at HCo
        have HOut : Hid (cp true B F = out ++ cp (decide ((i + 1) % 2 = 0)) (B.drop (i + 1)) (F.drop (a + b))) := by
          show _ = _
          rw [HCp.out, HSt.out, decide_eq_false hev, show F.drop (a + b) = (F.drop a).drop b by rw [List.drop_drop], decide_eq_true (by omega), if_neg (by decide), List.nil_append]; rfl
        clear HCp HSt hX
        go_wp2_with (go_at_call 191; refine HCo.out.mono ?_; rintro e w' ⟨rfl, rfl⟩)
        go_roundw
        case rel => exact ⟨i + 1, a + b, out, by rw [HM.out]; omega, by go_num, by go_num, HSum.out, by omega, HOut.out, hrow, HB.out⟩
        case measure => simp [intOf]; omega
    · obtain rfl : i = m := by omega
      have hd : B.drop i = [] := List.drop_of_length_le (by rw [HM.out]; exact Nat.le_refl _)
      rw [hd] at hcp hsum
      have hM : M = out ++ (if decide (i % 2 = 0) = true then F.drop a else []) := HMM.out.symm.trans hcp
      have han : a ≤ n := by simpa using hsum
      have HCo := Lib.hid (copies_any i (by omega) wr)
      obtain ⟨Av, cv, rfl⟩ := own_slice3 hrow
      have hX := HX1.out.on hbel
      have HB := Lib.hid hbel
      have HMq := Lib.hid hM
      clear hbel hcp hd hsum hM HC HBk HB1 HB2 HS HMM hlt
      by_cases hev : i % 2 = 0
      · rw [decide_eq_true hev] at HCo HMq
        rw [if_pos rfl] at HMq
        have HTl : Hid ((F.drop a).length = n - a) := by show _ = _; rw [List.length_drop, HN.out]
        have hk : out.length ≤ 1000 := by omega
        generalize hk2 : out.length = k at *
        have HK := Lib.hid hk2
        clear hk2 hev
        cases A1 with
        | none =>
          have hc0 := hA1 rfl
          subst hc0
          obtain rfl : n = 0 := by omega
          obtain rfl : a = 0 := by omega
          have hF0 := rdv_none_nil hX
          have HMr : Hid (M = out) := by show _ = _; rw [HMq.out, hF0]; simp
          have HK2 : Hid (k ≤ cv ∧ (Av = none → cv = 0)) := ⟨own_cap hrow, own_none hrow⟩
          have HO := Lib.hid (own_rdv hrow)
          clear hX hF0 HMq
          go_wp2_with (first | (go_at_call 191; refine HCo.out.mono ?_; rintro e w' ⟨rfl, rfl⟩) | (at_builtin; refine wpList_append_own_none rfl _ _ 22 rfl w.heap.size 3 i0 1 Tryz.underlying22 hi _ _ _ rfl hrow rfl ?_))
          go_ret2
          exact ⟨_, _, by rw [HMr.out, HK.out]; rfl, by rw [HMr.out, HK.out]; exact HK2.out.1, HK2.out.2, by rw [HMr.out]; exact HO.out, HB.out⟩
        | some a1 =>
          have HNw := Lib.hid (rdv_drop hX a)
          rw [← ns_drop] at HNw
          have HLz : Hid ((zc (ns (F.drop a))).length = (n - a) * 1) := by show _ = _; rw [zc_length, ns_length, HTl.out]; omega
          have HOn := Lib.hid (zc_one (ns (F.drop a)))
          clear hX
          by_cases hca : c1 = a
          · have hna : n = a := by omega
            have HNa := Lib.hid hna
            have hca2 : (c1 = a) = True := by simp [hca]
            have HNe : Hid (∀ j u, (zc (ns (F.drop a)))[j]? = some u → wr.cell? (a1.add j) = some u) := by
              intro j u hu
              have : F.drop a = [] := List.eq_nil_of_length_eq_zero (by rw [HTl.out, hna]; omega)
              rw [this] at hu; simp [zc, ns] at hu
            have hc63 : c1 ≤ 300 := by omega
            clear hca HNw hna
            go_wp2_with (first | (go_at_call 191; refine HCo.out.mono ?_; rintro e w' ⟨rfl, rfl⟩) | (at_builtin; refine wpList_append_own _ rfl _ _ 22 rfl w.heap.size 3 i0 (.int .i64 0) 1 8 Tryz.underlying22 hi hz0 hz1 hz2 rfl (by decide) _ _ _ rfl hrow a1 _ _ (zc (ns (F.drop a))) rfl HLz.out HNe.out HOn.out (by unfold maxLen; omega) (by omega) HB.out.size ?_; intro v' w3 hown' hgrow _; obtain ⟨Av', cv', rfl⟩ := own_slice3 hown'))
            have HO : Hid (w3.ownsRow w.heap.size 3 1 (.slice Av' (k + (n - a)) cv') (k + (n - a)) (zc (ns (out ++ (F.drop a))))) := by
              show World.ownsRow _ _ _ _ _ _ _
              rw [ns_append, zc_append]; first | exact hown' | (have := hown'; simp only [Nat.add_sub_cancel_left] at this; exact this)
            have HB3 : Hid (Below w.heap.size w w3) := HB.out.trans (grown_low hgrow hrow HB.out.size)
            have HLn : Hid ((out ++ (F.drop a)).length = k + (n - a)) := by show _ = _; rw [List.length_append, HK.out, HTl.out]
            clear hown' hgrow hrow HB
            go_ret2
            exact ⟨_, _, by rw [HMq.out, HLn.out]; rfl, by rw [HMq.out, HLn.out]; exact own_cap HO.out, own_none HO.out, by rw [HMq.out]; exact own_rdv HO.out, HB3.out⟩
          · have hc64 : (a : Int) ≤ (c1 : Int) := by omega
            go_wp2_with (first | (go_at_call 191; refine HCo.out.mono ?_; rintro e w' ⟨rfl, rfl⟩) | (at_builtin; refine wpList_append_own _ rfl _ _ 22 rfl w.heap.size 3 i0 (.int .i64 0) 1 8 Tryz.underlying22 hi hz0 hz1 hz2 rfl (by decide) _ _ _ rfl hrow (a1.add a) _ _ (zc (ns (F.drop a))) rfl HLz.out HNw.out HOn.out (by unfold maxLen; omega) (by omega) HB.out.size ?_; intro v' w3 hown' hgrow _; obtain ⟨Av', cv', rfl⟩ := own_slice3 hown'))
            have HO : Hid (w3.ownsRow w.heap.size 3 1 (.slice Av' (k + (n - a)) cv') (k + (n - a)) (zc (ns (out ++ (F.drop a))))) := by
              show World.ownsRow _ _ _ _ _ _ _
              rw [ns_append, zc_append]; first | exact hown' | (have := hown'; simp only [Nat.add_sub_cancel_left] at this; exact this)
            have HB3 : Hid (Below w.heap.size w w3) := HB.out.trans (grown_low hgrow hrow HB.out.size)
            have HLn : Hid ((out ++ (F.drop a)).length = k + (n - a)) := by show _ = _; rw [List.length_append, HK.out, HTl.out]
            clear hown' hgrow hrow HB
            go_ret2
            exact ⟨_, _, by rw [HMq.out, HLn.out]; rfl, by rw [HMq.out, HLn.out]; exact own_cap HO.out, own_none HO.out, by rw [HMq.out]; exact own_rdv HO.out, HB3.out⟩
      · rw [decide_eq_false hev] at HCo HMq
        rw [if_neg (by decide), List.append_nil] at HMq
        have HK2 : Hid (out.length ≤ cv ∧ (Av = none → cv = 0)) := ⟨own_cap hrow, own_none hrow⟩
        have HO := Lib.hid (own_rdv hrow)
        have hk : out.length ≤ 1000 := by omega
        generalize hk2 : out.length = k at *
        have HK := Lib.hid hk2
        clear hk2 hev hX hrow
        go_wp2_with (go_at_call 191; refine HCo.out.mono ?_; rintro e w' ⟨rfl, rfl⟩)
        go_ret2
        exact ⟨_, _, by rw [HMq.out, HK.out]; rfl, by rw [HMq.out, HK.out]; exact HK2.out.1, HK2.out.2, by rw [HMq.out]; exact HO.out, HB.out⟩
theorem pcopy_any (xs : List Int) (n : Nat) (hn : xs.length = n) (hn2 : n ≤ 9223372036854775807) (bs : List Int) (m : Nat) (hm : bs.length = m) (hm2 : m ≤ 9223372036854775807) (A1 A2 : Option Addr) (c1 c2 : Nat) (hA1 : A1 = none → c1 = 0) (hc1 : n ≤ c1) (w : World) (h1 : RdV w w.heap.size A1 (zc xs)) (h2 : RdV w w.heap.size A2 (zc bs)) :
    Calls Tryz.prog 149 #[.slice A1 n c1, .slice A2 m c2] w (IntsP w (cpA xs bs) (cpE xs bs)) := by
  by_cases h0 : cpE xs bs = 0
  · have h0' := h0
    unfold cpE at h0'
    by_cases hr : rchk xs = 0
    · rw [if_neg (by simpa using hr)] at h0'
      obtain ⟨F, rfl, hF⟩ := rchk_zero xs hr
      rw [ns_length] at hn h0'
      obtain ⟨B, rfl, hB⟩ := bchk_zero bs _ h0'
      rw [ns_length] at hm
      rw [h0]
      have e : cpA (ns F) (ns B) = cp true B F := by unfold cpA; rw [if_neg (by simpa using h0), tn_ns, tn_ns]
      rw [e]
      exact copy_in F hF n hn B m hm (by rw [← hn]; exact hB) _ rfl A1 A2 c1 c2 hA1 hc1 w h1 h2
    · rw [if_pos (by simpa using hr)] at h0'; exact absurd h0' hr
  · have e : cpA xs bs = [] := by unfold cpA; rw [if_pos (by simpa using h0)]
    rw [e]
    exact copy_e xs n hn hn2 bs m hm hm2 _ rfl h0 A1 A2 c1 c2 w h1 h2
end
section
set_option maxRecDepth 100000
set_option linter.unusedVariables false
open Go.RowKit Go.Shelf
theorem own_keep {w w' : World} {base : Nat} {v : Value} {n : Nat} {xs : List Value} (h : w.ownsRow base 3 1 v n xs) (hb : Below w.heap.size w w') : w'.ownsRow base 3 1 v n xs := own_below h hb
theorem ris_lt (l : List Nat) (h : Rising l) : l.Pairwise (· < ·) := rising_lt h
def BoRel (F l : List Nat) (w : World) (v s p : Value) (wr : World) : Prop :=
  ∃ (i a : Nat) (out : List Nat), i ≤ F.length ∧ p = .int .i64 (i : Int) ∧ s = .int .i64 (a : Int) ∧ a ≤ i ∧ out.length ≤ i ∧ bks F l = out ++ blk ((F.drop i).map (inL l)) (i - a) (decide (out.length % 2 = 0)) ∧
    wr.ownsRow w.heap.size 3 1 v out.length (zc (ns out)) ∧ Below w.heap.size w wr
def OwnI (w : World) (l : List Nat) (e : Ending) (w' : World) : Prop :=
  ∃ A c, e = .returned (.slice A l.length c) ∧ w'.ownsRow w.heap.size 3 1 (.slice A l.length c) l.length (zc (ns l)) ∧ Below w.heap.size w w'
set_option maxHeartbeats 4000000 in
theorem blocksOf_in (F l : List Nat) (hF : Rising F) (hl : Rising l) (n m : Nat) (hn : F.length = n) (hm : l.length = m) (M : List Nat) (hM : bks F l = M) (A1 A2 : Option Addr) (c1 c2 : Nat) (w : World) (h1 : RdV w w.heap.size A1 (zc (ns F))) (h2 : RdV w w.heap.size A2 (zc (ns l))) :
    Calls Tryz.prog 219 #[.slice A1 n c1, .slice A2 m c2] w (OwnI w M) := by
  have h300 : n ≤ 300 := by have := hF.1; omega
  have HCt : Hid (∀ x V, Below w.heap.size w V → Calls Tryz.prog 218 #[.slice A2 m c2, .int .i64 ((x : Nat) : Int)] V fun e w' => e = .returned (.bool (inL l x)) ∧ Below V.heap.size V w') := fun x V hV => pcont_any l (ris_lt l hl) (fun y hy => (ris_le l _ hl.2 y hy).2) m hm (by have := hl.1; omega) x A2 c2 V (h2.on hV)
  obtain ⟨i0, hi, hz0, hz1, hz2⟩ := info_parts info3
  have HX := Lib.hid h1; have HN := Lib.hid hn; have HMM := Lib.hid hM
  clear h1 h2 hn hm hM hF hl
  go_enter Tryz.func219, Tryz.ntmps219
  go_wp2
  go_loopw [5, 6, 11] (fun v s p wr => BoRel F l w v s p wr) (fun _ _ p _ => n - (intOf p).toNat)
  case atStart => exact ⟨0, 0, [], Nat.zero_le _, rfl, rfl, Nat.le_refl _, Nat.le_refl _, rfl, ⟨rfl, .inl ⟨rfl, rfl⟩⟩, Below.refl _ _⟩
  case round =>
    obtain ⟨i, a, out, hi', rfl, rfl, hai, hol, hbk, hrow, hbel⟩ := hrel
    rw [HN.out] at hi'
    obtain ⟨Av, cv, rfl⟩ := own_slice3 hrow
    by_cases hlt : i < n
    · have hin : i < F.length := by rw [HN.out]; exact hlt
      obtain ⟨b, off, rfl, hb, hcx⟩ := (HX.out.on hbel).at_ (ns_get F i hin)
      have hd : (F.drop i).map (inL l) = inL l (F[i]?.getD 0) :: (F.drop (i + 1)).map (inL l) := by rw [drop_nat F i hin]; rfl
      rw [hd, blk_cons] at hbk
      have HB := Lib.hid hbel
      generalize F[i]?.getD 0 = x at *
      have HC := Lib.hid (HCt.out x wr hbel)
      have HCo := Lib.hid (fun V => copies_any out.length (by omega) V)
      have t1 : IntKind.i64.wrap ((i : Int) - (a : Int)) = (i : Int) - (a : Int) := IntWalk.i64_in _ (by omega)
      clear hbel hd
      generalize hk : out.length = k at *
      have HK := Lib.hid hk
      clear hk
      generalize inL l x = f at *
      generalize hp : decide (k % 2 = 0) = p at *
      have HP := Lib.hid hp
      clear hp
      by_cases hfp : f = p
      · rw [if_pos hfp] at hbk
        have HBk : Hid (bks F l = out ++ blk ((F.drop (i + 1)).map (inL l)) (i + 1 - a) p) := by show _ = _; rw [hbk, show i + 1 - a = i - a + 1 by omega]
        clear hbk
        subst hfp
        have t2 : (f != f) = false := by simp
        go_wp2_with (first | (go_at_call 218; refine HC.out.mono ?_; rintro e w1 ⟨rfl, B1⟩; have HB1 : Hid (Below w.heap.size w w1) := HB.out.trans (B1.mono HB.out.size); have hrow1 := own_keep hrow B1; clear B1) | (go_at_call 191; refine (HCo.out _).mono ?_; rintro e w' ⟨rfl, rfl⟩))
        all_goals (
          go_roundw
          case rel => exact ⟨i + 1, a, out, by rw [HN.out]; omega, by go_num, rfl, by omega, by rw [HK.out]; omega, by rw [HK.out, HP.out]; exact HBk.out, by rw [HK.out]; exact hrow1, HB1.out⟩
          case measure => simp [intOf]; omega)
      · rw [if_neg hfp] at hbk
        have hnp : (!p) = decide ((k + 1) % 2 = 0) := by rw [← HP.out]; exact par_succ k
        have HBk : Hid (bks F l = (out ++ [i - a]) ++ blk ((F.drop (i + 1)).map (inL l)) (i + 1 - i) (decide ((k + 1) % 2 = 0))) := by
          show _ = _
          rw [hbk, ← hnp, show i + 1 - i = 1 by omega, List.append_assoc]; rfl
        have hia : ((i : Int) - (a : Int)) = ((i - a : Nat) : Int) := by omega
        have t2 : (f != p) = true := by cases f <;> cases p <;> simp_all
        have t5 : (f == p) = false := by cases f <;> cases p <;> simp_all
        have t6 : ¬ f = p := hfp
        have HLn : Hid ((out ++ [i - a]).length = k + 1) := by show _ = _; rw [List.length_append, HK.out]; rfl
        have HZc : Hid (zc (ns out) ++ [Value.int .i64 ((i : Int) - (a : Int))] = zc (ns (out ++ [i - a]))) := by show _ = _; rw [ns_append, zc_append, hia]; rfl
        clear hbk hnp hfp hia
        go_wp2_with (first | (go_at_call 218; refine HC.out.mono ?_; rintro e w1 ⟨rfl, B1⟩; have HB1 : Hid (Below w.heap.size w w1) := HB.out.trans (B1.mono HB.out.size); have hrow1 := own_keep hrow B1; clear B1 HB hrow; have hrow := hrow1; have HB := HB1; clear hrow1) | (go_at_call 191; refine (HCo.out _).mono ?_; rintro e w' ⟨rfl, rfl⟩) | (at_builtin; refine wpList_append_own _ rfl _ _ 22 rfl w.heap.size 3 i0 (.int .i64 0) 1 8 Tryz.underlying22 hi hz0 hz1 hz2 rfl (by decide) _ _ _ rfl (hrow.alloc _) ⟨w1.heap.size, 0, none⟩ 1 1 [.int .i64 ((i : Int) - (a : Int))] rfl rfl (news_row w1 [.int .i64 ((i : Int) - (a : Int))] _) (by simp [Value.oneCell']) (by unfold maxLen; omega) (by omega) (by have := HB.out.size; simp; omega) ?_; intro v' w3 hown' hgrow _; obtain ⟨Av', cv', rfl⟩ := own_slice3 hown'))
        rw [HZc.out] at hown'
        have HO3 := Lib.hid hown'
        have HB3 : Hid (Below w.heap.size w w3) := HB.out.trans (((Below.refl w.heap.size w1).alloc HB.out.size _).trans (grown_low hgrow (hrow.alloc _) (by have := HB.out.size; simp; omega)))
        clear hown' hgrow hrow
        go_wp2
        go_roundw
        case rel => exact ⟨i + 1, i, out ++ [i - a], by rw [HN.out]; omega, by go_num, rfl, by omega, by rw [HLn.out]; omega, by rw [HLn.out]; exact HBk.out, by rw [HLn.out]; exact HO3.out, HB3.out⟩
        case measure => simp [intOf]; omega
    · have e : F.drop i = [] := List.drop_of_length_le (by rw [HN.out]; omega)
      rw [e] at hbk
      have HMq : Hid (M = out) := by show _ = _; rw [← HMM.out, hbk]; simp [blk]
      have HB := Lib.hid hbel
      clear hbel hbk e
      generalize hk : out.length = k at *
      have HK := Lib.hid hk
      have HO := Lib.hid hrow
      clear hk hrow
      go_wp2
      go_ret
      exact ⟨_, _, by rw [HMq.out, HK.out]; rfl, by rw [HMq.out, HK.out]; exact HO.out, HB.out⟩
def TwoO (w : World) (l1 l2 : List Nat) (err : Int) (e : Ending) (w' : World) : Prop :=
  ∃ A1 c1 A2 c2, e = .returned (.tuple #[.slice A1 l1.length c1, .slice A2 l2.length c2, .int .i64 err]) ∧ w'.ownsRow w.heap.size 3 1 (.slice A1 l1.length c1) l1.length (zc (ns l1)) ∧ w'.ownsRow w.heap.size 3 1 (.slice A2 l2.length c2) l2.length (zc (ns l2)) ∧ Below w.heap.size w w'
theorem notin_step (F l : List Nat) (i : Nat) (h : i < l.length) : notin F (l.take (i + 1)) = notin F (l.take i) ++ (if inL F (l[i]?.getD 0) then [] else [l[i]?.getD 0]) := by
  rw [take_snocN l i h]
  unfold notin
  rw [List.filter_append]
  cases hh : inL F (l[i]?.getD 0) <;> simp [hh]
def RtRel (F l : List Nat) (w : World) (v p : Value) (wr : World) : Prop :=
  ∃ i : Nat, i ≤ l.length ∧ p = .int .i64 (i : Int) ∧ wr.ownsRow w.heap.size 3 1 v (notin F (l.take i)).length (zc (ns (notin F (l.take i)))) ∧ Below w.heap.size w wr
theorem notin_len (F l : List Nat) : (notin F l).length ≤ l.length := List.length_filter_le _ _
set_option maxHeartbeats 4000000 in
theorem blocks_own (F l : List Nat) (hF : Rising F) (hl : Rising l) (n m : Nat) (hn : F.length = n) (hm : l.length = m) (M R : List Nat) (hM : bks F l = M) (hR : notin F l = R) (A1 A2 : Option Addr) (c1 c2 : Nat) (w : World) (h1 : RdV w w.heap.size A1 (zc (ns F))) (h2 : RdV w w.heap.size A2 (zc (ns l))) :
    Calls Tryz.prog 179 #[.slice A1 n c1, .slice A2 m c2] w (TwoO w M R 0) := by
  have h300 : m ≤ 300 := by have := hl.1; omega
  have HC : Hid (Calls Tryz.prog 50 #[.slice A1 n c1] w fun e w' => e = .returned (.int .i64 0) ∧ Below w.heap.size w w') := by
    have := gcheck_any (ns F) n (by rw [ns_length, hn]) (by have := hF.1; omega) A1 c1 w h1
    rwa [rchk_ok F hF] at this
  have HC2 : Hid (∀ V, Below w.heap.size w V → Calls Tryz.prog 50 #[.slice A2 m c2] V fun e w' => e = .returned (.int .i64 0) ∧ Below V.heap.size V w') := fun V hV => by
    have := gcheck_any (ns l) m (by rw [ns_length, hm]) (by omega) A2 c2 V (h2.on hV)
    rwa [rchk_ok l hl] at this
  have HCt : Hid (∀ x V, Below w.heap.size w V → Calls Tryz.prog 218 #[.slice A1 n c1, .int .i64 ((x : Nat) : Int)] V fun e w' => e = .returned (.bool (inL F x)) ∧ Below V.heap.size V w') := fun x V hV => pcont_any F (ris_lt F hF) (fun y hy => (ris_le F _ hF.2 y hy).2) n hn (by have := hF.1; omega) x A1 c1 V (h1.on hV)
  have HBo : Hid (∀ V, Below w.heap.size w V → Calls Tryz.prog 219 #[.slice A1 n c1, .slice A2 m c2] V (OwnI V M)) := fun V hV => blocksOf_in F l hF hl n m hn hm M hM A1 A2 c1 c2 V (h1.on hV) (h2.on hV)
  obtain ⟨i0, hi, hz0, hz1, hz2⟩ := info_parts info3
  have HX := Lib.hid h2; have HN := Lib.hid hm; have HRR := Lib.hid hR
  clear h1 h2 hn hm hM hR hF hl
  go_enter Tryz.func179, Tryz.ntmps179
  go_wp2_with fail
  refine HC.out.mono ?_
  rintro e w1 ⟨rfl, B1⟩
  have HB1 := Lib.hid B1; clear B1
  go_wp2_with fail
  refine (HC2.out w1 HB1.out).mono ?_
  rintro e w2 ⟨rfl, B2⟩
  have HB2 := Lib.hid (HB1.out.trans (B2.mono HB1.out.size)); clear B2
  clear HC HC2
  go_wp2
  go_loopw [9, 24] (fun v p wr => RtRel F l w v p wr) (fun _ p _ => m - (intOf p).toNat)
  case atStart => exact ⟨0, Nat.zero_le _, rfl, ⟨rfl, .inl ⟨rfl, rfl⟩⟩, HB2.out⟩
  case round =>
    obtain ⟨i, hi', rfl, hrow, hbel⟩ := hrel
    rw [HN.out] at hi'
    obtain ⟨Av, cv, rfl⟩ := own_slice3 hrow
    by_cases hlt : i < m
    · have hin : i < l.length := by rw [HN.out]; exact hlt
      obtain ⟨b, off, rfl, hb, hcx⟩ := (HX.out.on hbel).at_ (ns_get l i hin)
      have hst := notin_step F l i hin
      have hle := Nat.le_trans (notin_len F (l.take i)) (List.length_take_le i l)
      have HB := Lib.hid hbel
      generalize l[i]?.getD 0 = x at *
      have HC := Lib.hid (HCt.out x wr hbel)
      generalize notin F (l.take i) = out at *
      clear hbel
      generalize hk : out.length = k at *
      have HK := Lib.hid hk
      clear hk
      generalize inL F x = f at *
      cases f with
      | true =>
        rw [if_pos rfl, List.append_nil] at hst
        have HSt := Lib.hid hst
        clear hst
        go_wp2_with (go_at_call 218; refine HC.out.mono ?_; rintro e w1 ⟨rfl, B1⟩; have HB1 : Hid (Below w.heap.size w w1) := HB.out.trans (B1.mono HB.out.size); have hrow1 := own_keep hrow B1; clear B1)
        go_roundw
        case rel => exact ⟨i + 1, by rw [HN.out]; omega, by go_num, by rw [HSt.out, HK.out]; exact hrow1, HB1.out⟩
        case measure => simp [intOf]; omega
      | false =>
        rw [if_neg (by decide)] at hst
        have HSt := Lib.hid hst
        have HLn : Hid ((out ++ [x]).length = k + 1) := by show _ = _; rw [List.length_append, HK.out]; rfl
        have HZc : Hid (zc (ns out) ++ [Value.int .i64 (x : Int)] = zc (ns (out ++ [x]))) := by show _ = _; rw [ns_append, zc_append]; rfl
        clear hst
        go_wp2_with (first | (go_at_call 218; refine HC.out.mono ?_; rintro e w1 ⟨rfl, B1⟩; have HB1 : Hid (Below w.heap.size w w1) := HB.out.trans (B1.mono HB.out.size); have hrow1 := own_keep hrow B1; clear B1 HB hrow; have hrow := hrow1; have HB := HB1; clear hrow1) | (at_builtin; refine wpList_append_own _ rfl _ _ 22 rfl w.heap.size 3 i0 (.int .i64 0) 1 8 Tryz.underlying22 hi hz0 hz1 hz2 rfl (by decide) _ _ _ rfl (hrow.alloc _) ⟨w1.heap.size, 0, none⟩ 1 1 [.int .i64 (x : Int)] rfl rfl (news_row w1 [.int .i64 (x : Int)] _) (by simp [Value.oneCell']) (by unfold maxLen; omega) (by omega) (by have := HB.out.size; simp; omega) ?_; intro v' w3 hown' hgrow _; obtain ⟨Av', cv', rfl⟩ := own_slice3 hown'))
        rw [HZc.out] at hown'
        have HO3 := Lib.hid hown'
        have HB3 : Hid (Below w.heap.size w w3) := HB.out.trans (((Below.refl w.heap.size w1).alloc HB.out.size _).trans (grown_low hgrow (hrow.alloc _) (by have := HB.out.size; simp; omega)))
        clear hown' hgrow hrow
        go_wp2
        go_roundw
        case rel => exact ⟨i + 1, by rw [HN.out]; omega, by go_num, by rw [HSt.out, HLn.out]; exact HO3.out, HB3.out⟩
        case measure => simp [intOf]; omega
    · have e : l.take i = l := List.take_of_length_le (by rw [HN.out]; omega)
      have hLq : Hid ((notin F (l.take i)).length = R.length) := by show _ = _; rw [e, HRR.out]
      rw [e, HRR.out] at hrow
      have HO := Lib.hid hrow
      have HB := Lib.hid hbel
      have HBk := Lib.hid (HBo.out wr hbel)
      clear hrow hbel e
      go_wp2_with fail
      refine HBk.out.mono ?_
      rintro e w3 ⟨A3, c3, rfl, k3, k4⟩
      have HB3 : Hid (Below w.heap.size w w3) := HB.out.trans (k4.mono HB.out.size)
      have HR3 : Hid (w3.ownsRow w.heap.size 3 1 (.slice A3 M.length c3) M.length (zc (ns M))) := own_base k3 HB.out.size
      have HO3 : Hid (w3.ownsRow w.heap.size 3 1 (.slice Av R.length cv) R.length (zc (ns R))) := own_keep HO.out k4
      clear k3 k4
      go_wp2
      go_ret3
      exact ⟨_, _, _, _, by rw [← hLq.out]; rfl, HR3.out, HO3.out, HB3.out⟩
end
section
set_option maxRecDepth 100000
set_option linter.unusedVariables false
open Go.RowKit Go.Shelf
set_option maxHeartbeats 1000000 in
theorem merge_e (r : List Ri) (n1 : Nat) (hn1 : r.length = n1) (hz1 : n1 ≤ 9223372036854775807) (xs : List Int) (n2 : Nat) (hn2 : xs.length = n2) (hz2 : n2 ≤ 9223372036854775807) (h0 : mgE0 r xs ≠ 0) (A1 A2 : Option Addr) (c1 c2 : Nat) (w : World) (h1 : RdV w w.heap.size A1 (rcs r)) (h2 : RdV w w.heap.size A2 (zc xs)) :
    Calls Tryz.prog 189 #[.slice A1 n1 c1, .slice A2 n2 c2] w (IntsP w [] (mgE0 r xs)) := by
  have HC1 := Lib.hid (rnck_any r n1 hn1 hz1 A1 c1 w h1)
  have HC2 : Hid (∀ V, Below w.heap.size w V → Calls Tryz.prog 50 #[.slice A2 n2 c2] V fun e w' => e = .returned (.int .i64 (rchk xs)) ∧ Below V.heap.size V w') := fun V hV => gcheck_any xs n2 hn2 hz2 A2 c2 V (h2.on hV)
  unfold mgE0 at *
  clear h1 h2 hn1 hn2
  by_cases hr : rkchk r = 0
  · rw [if_neg (by simpa using hr)] at *
    rw [hr] at HC1
    generalize rchk xs = e2 at *
    have t0 : (e2 != 0) = true := by simpa using h0
    clear h0 hr
    go_enter Tryz.func189, Tryz.ntmps189
    go_wp2_with fail
    refine HC1.out.mono ?_
    rintro e w1 ⟨rfl, B1⟩
    have HB1 := Lib.hid B1; clear B1
    go_wp2_with fail
    refine (HC2.out w1 HB1.out).mono ?_
    rintro e w2 ⟨rfl, B2⟩
    have HB2 := Lib.hid (HB1.out.trans (B2.mono HB1.out.size)); clear B2
    go_wp2
    go_ret2
    exact ⟨none, 0, rfl, Nat.le_refl _, fun _ => rfl, .inl rfl, HB2.out⟩
  · rw [if_pos hr] at *
    generalize rkchk r = e1 at *
    have t0 : (e1 != 0) = true := by simpa using hr
    clear h0 hr HC2
    go_enter Tryz.func189, Tryz.ntmps189
    go_wp2_with fail
    refine HC1.out.mono ?_
    rintro e w1 ⟨rfl, B1⟩
    have HB1 := Lib.hid B1; clear B1
    go_wp2
    go_ret2
    exact ⟨none, 0, rfl, Nat.le_refl _, fun _ => rfl, .inl rfl, HB1.out⟩
theorem rz_at (R : List Rn) (i : Nat) (h : i < R.length) : (rz R)[i]?.getD (0, 0) = (((R[i]?.getD (0, 0)).1 : Int), ((R[i]?.getD (0, 0)).2 : Int)) := by
  unfold rz; rw [List.getElem?_map, List.getElem?_eq_getElem h]; rfl
theorem mem_at (R : List Rn) (i : Nat) (h : i < R.length) : R[i]?.getD (0, 0) ∈ R := by rw [List.getElem?_eq_getElem h]; exact List.getElem_mem h
theorem take_snocR (R : List Rn) (i : Nat) (h : i < R.length) : R.take (i + 1) = R.take i ++ [R[i]?.getD (0, 0)] := by
  rw [List.take_succ_eq_append_getElem h, List.getElem?_eq_getElem h]; rfl
theorem flat_len (R : List Rn) (h : ∀ p ∈ R, p.2 ≤ 300) : (flatR R).length ≤ 300 * R.length := by
  induction R with
  | nil => simp [flatR]
  | cons p R ih =>
    rw [flatR_cons, List.length_append, nums_length, List.length_cons]
    have := ih (fun q hq => h q (by simp [hq]))
    have := h p (by simp)
    omega
def MgRel (R : List Rn) (w : World) (v p : Value) (wr : World) : Prop :=
  ∃ i : Nat, i ≤ R.length ∧ p = .int .i64 (i : Int) ∧ wr.ownsRow w.heap.size 3 1 v (flatR (R.take i)).length (zc (ns (flatR (R.take i)))) ∧ Below w.heap.size w wr
set_option maxHeartbeats 4000000 in
theorem merge_in (R : List Rn) (hR : OkR R) (M1 : List Nat) (M2 : Int) (n1 : Nat) (hn1 : R.length = n1) (l : List Nat) (hl : Rising l) (hM : mg R l = (M1, M2)) (n2 : Nat) (hn2 : l.length = n2) (A1 A2 : Option Addr) (c1 c2 : Nat) (hA2 : A2 = none → c2 = 0) (w : World) (h1 : RdV w w.heap.size A1 (rcs (rz R))) (h2 : RdV w w.heap.size A2 (zc (ns l))) :
    Calls Tryz.prog 189 #[.slice A1 n1 c1, .slice A2 n2 c2] w (IntsP w M1 M2) := by
  have h300 : n1 ≤ 300 := by have := hR.1; omega
  have h3002 : n2 ≤ 300 := by have := hl.1; omega
  have HC1 : Hid (Calls Tryz.prog 232 #[.slice A1 n1 c1] w fun e w' => e = .returned (.int .i64 0) ∧ Below w.heap.size w w') := by
    have := rnck_any (rz R) n1 (by rw [rz_length, hn1]) (by omega) A1 c1 w h1
    rwa [rkchk_ok R hR] at this
  have HC2 : Hid (∀ V, Below w.heap.size w V → Calls Tryz.prog 50 #[.slice A2 n2 c2] V fun e w' => e = .returned (.int .i64 0) ∧ Below V.heap.size V w') := fun V hV => by
    have := gcheck_any (ns l) n2 (by rw [ns_length, hn2]) (by omega) A2 c2 V (h2.on hV)
    rwa [rchk_ok l hl] at this
  have HFl : Hid (∀ i, i ≤ n1 → (flatR (R.take i)).length ≤ 90000) := fun i hi => by
    have := flat_len (R.take i) (fun p hp => (hR.2.2 p (List.mem_of_mem_take hp)).1)
    have := List.length_take_le i R
    omega
  have HBd : Hid (∀ p ∈ R, p.1 ≤ 1048576 ∧ p.2 ≤ 300) := fun p hp => by have := hR.2.2 p hp; have := sep_pos R _ hR.2.1 p hp; omega
  obtain ⟨i0, hi, hz0, hz1, hz2⟩ := info_parts info3
  have HX1 := Lib.hid h1; have HX2 := Lib.hid h2; have HN1 := Lib.hid hn1; have HN2 := Lib.hid hn2; have HMM := Lib.hid hM
  clear h1 h2 hn1 hn2 hR hl hM
  go_enter Tryz.func189, Tryz.ntmps189
  go_wp2_with fail
  refine HC1.out.mono ?_
  rintro e w1 ⟨rfl, B1⟩
  have HB1 := Lib.hid B1; clear B1
  go_wp2_with fail
  refine (HC2.out w1 HB1.out).mono ?_
  rintro e w2 ⟨rfl, B2⟩
  have HB2 := Lib.hid (HB1.out.trans (B2.mono HB1.out.size)); clear B2 HB1
  go_wp2
  go_loopw [8, 23] (fun v p wr => MgRel R w v p wr) (fun _ p _ => n1 - (intOf p).toNat)
  case atStart => exact ⟨0, Nat.zero_le _, rfl, ⟨rfl, .inl ⟨rfl, rfl⟩⟩, HB2.out⟩
  case round =>
    obtain ⟨i, hi', rfl, hrow, hbel⟩ := hrel
    rw [HN1.out] at hi'
    by_cases hlt : i < n1
    · have hin : i < R.length := by rw [HN1.out]; exact hlt
      obtain ⟨r0, r1⟩ := rcs_at (rz R) i (by rw [rz_length]; exact hin)
      rw [rz_at R i hin] at r0 r1
      obtain ⟨b, off, rfl, hb, k0⟩ := (HX1.out.on hbel).at_ r0
      obtain ⟨b2, off2, hA2', hb2, k1⟩ := (HX1.out.on hbel).at_ r1
      simp only [Option.some.injEq, Addr.mk.injEq, and_true] at hA2'
      obtain ⟨rfl, rfl⟩ := hA2'
      rw [← Nat.add_assoc] at k1
      have hbd := HBd.out _ (mem_at R i hin)
      have htk := take_snocR R i hin
      have hfl := HFl.out i hi'
      generalize R[i]?.getD (0, 0) = x at *
      obtain ⟨f, m⟩ := x
      simp only at k0 k1 hbd
      have HT : Hid (flatR (R.take (i + 1)) = flatR (R.take i) ++ List.range' f m) := by show _ = _; rw [htk, flatR_snoc]; rfl
      have HB := Lib.hid hbel
      have hrow2 := (hrow.alloc (.cells #[.int .i64 (f : Int), .int .i64 (m : Int)] 159)).alloc (.cells #[.int .i64 (f : Int), .int .i64 (m : Int)] 159)
      have hbox2 : ((wr.alloc (.cells #[.int .i64 (f : Int), .int .i64 (m : Int)] 159)).alloc (.cells #[.int .i64 (f : Int), .int .i64 (m : Int)] 159)).heap[wr.heap.size + 1]? = some (.cells #[.int .i64 (f : Int), .int .i64 (m : Int)] 159 (0, 0)) := by
        have := World.alloc_heap_new (wr.alloc (.cells #[.int .i64 (f : Int), .int .i64 (m : Int)] 159)) (.cells #[.int .i64 (f : Int), .int .i64 (m : Int)] 159)
        rwa [World.size_alloc] at this
      obtain ⟨Av, cv, rfl⟩ := own_slice3 hrow
      have HA := Lib.hid (appseq_in f m hbd.1 hbd.2 (wr.heap.size + 1) w.heap.size _ _ (by omega) _ _ hrow2 hbox2 (by have := hbel.size; simp; omega))
      have hb2 : Below w.heap.size w ((wr.alloc (.cells #[.int .i64 (f : Int), .int .i64 (m : Int)] 159)).alloc (.cells #[.int .i64 (f : Int), .int .i64 (m : Int)] 159)) := (hbel.alloc hbel.size _).alloc (by have := hbel.size; simp; omega) _
      have HBB := Lib.hid hb2
      clear hrow hrow2 hbox2 hb2 hbel htk hbd r0 r1
      generalize hk : (flatR (R.take i)).length = k at *
      have HKl := Lib.hid hk; clear hk
      go_wp2_with fail
      refine (callsIn_wide.1 (nums_of 4 _ _ _)).mono ?_
      rintro e w' ⟨rfl, rfl⟩
      go_wp2_with fail
      refine HA.out.mono ?_
      rintro e w3 ⟨v', rfl, hown', hfr⟩
      obtain ⟨Av', cv', rfl⟩ := own_slice3 hown'
      have HO3 := Lib.hid hown'
      have HB3 : Hid (Below w.heap.size w w3) := HBB.out.trans (hfr.below (fun j hj => ⟨.inl hj, by have := HB.out.size; simp; omega⟩))
      clear hown' hfr
      go_wp2
      go_roundw
      case rel => exact ⟨i + 1, by rw [HN1.out]; omega, by go_num, by rw [HT.out, List.length_append, HKl.out, List.length_range', ns_append, zc_append]; exact HO3.out, HB3.out⟩
      case measure => simp [intOf]; omega
    · have e : R.take i = R := List.take_of_length_le (by rw [HN1.out]; omega)
      rw [e] at hrow
      have hfl := HFl.out n1 (Nat.le_refl _)
      rw [List.take_of_length_le (by rw [HN1.out]; omega)] at hfl
      obtain rfl : i = n1 := by omega
      obtain ⟨Av, cv, rfl⟩ := own_slice3 hrow
      have HB0 := Lib.hid hbel
      have hX2 := HX2.out.on hbel
      have HU := Lib.hid (union_any (flatR R) l (flatR R).length n2 rfl HN2.out (by omega) (by omega) M1 M2 HMM.out Av A2 cv c2 (own_none hrow) hA2 wr (own_rdv hrow) hX2)
      clear hbel e hrow hX2 HC1 HC2 HB2
      generalize (flatR R).length = N at *
      go_wp2_with fail
      refine HU.out.mono ?_
      rintro e w3 ⟨A3, c3, rfl, k1, k2, k3, k4⟩
      have HB3 : Hid (Below w.heap.size w w3) := HB0.out.trans (k4.mono HB0.out.size)
      have HR3 := Lib.hid k3
      clear k3 k4 HU
      go_wp2
      go_ret2
      exact ⟨A3, c3, rfl, k1, k2, HR3.out, HB3.out⟩
theorem merge_any (r : List Ri) (n1 : Nat) (hn1 : r.length = n1) (hz1 : n1 ≤ 9223372036854775807) (xs : List Int) (n2 : Nat) (hn2 : xs.length = n2) (hz2 : n2 ≤ 9223372036854775807) (A1 A2 : Option Addr) (c1 c2 : Nat) (hA2 : A2 = none → c2 = 0) (w : World) (h1 : RdV w w.heap.size A1 (rcs r)) (h2 : RdV w w.heap.size A2 (zc xs)) :
    Calls Tryz.prog 189 #[.slice A1 n1 c1, .slice A2 n2 c2] w (IntsP w (mgA r xs).1 (mgA r xs).2) := by
  by_cases h0 : mgE0 r xs = 0
  · obtain ⟨R, l, rfl, hR, rfl, hl⟩ := mgA_zero r xs h0
    rw [mgA_ok R hR l hl]
    exact merge_in R hR _ _ n1 (by rw [rz_length] at hn1; exact hn1) l hl rfl n2 (by rw [ns_length] at hn2; exact hn2) A1 A2 c1 c2 hA2 w h1 h2
  · have e : mgA r xs = ([], mgE0 r xs) := by unfold mgA; rw [if_pos h0]
    rw [e]
    exact merge_e r n1 hn1 hz1 xs n2 hn2 hz2 h0 A1 A2 c1 c2 w h1 h2
set_option maxHeartbeats 400000 in
theorem count_any (r : List Ri) (n1 : Nat) (hn1 : r.length = n1) (hz1 : n1 ≤ 9223372036854775807) (M1 : List Nat) (M2 : Int) (hM : mgA r [] = (M1, M2)) (A1 : Option Addr) (c1 : Nat) (w : World) (h1 : RdV w w.heap.size A1 (rcs r)) :
    Calls Tryz.prog 187 #[.slice A1 n1 c1] w fun e w' => e = .returned (.tuple #[.int .i64 (M1.length : Int), .int .i64 M2]) ∧ Below w.heap.size w w' := by
  have hm := merge_any r n1 hn1 hz1 [] 0 rfl (by decide) A1 none c1 0 (fun _ => rfl) w h1 (.inl rfl)
  rw [hM] at hm
  have HM := Lib.hid hm
  clear hm h1 hn1 hM
  go_enter Tryz.func187, Tryz.ntmps187
  go_wp2_with fail
  refine HM.out.mono ?_
  rintro e w1 ⟨A, c, rfl, -, -, -, B1⟩
  have HB1 := Lib.hid B1; clear B1
  go_wp2
  go_ret2
  exact ⟨rfl, HB1.out⟩
end
section
set_option maxRecDepth 100000
set_option linter.unusedVariables false
open Go.RowKit Go.Shelf
theorem bnums_snoc (B : List Nat) (b : Nat) : bnums (B ++ [b]) = bnums B ++ [b - (if B.length = 0 then 0 else 1)] := by
  cases B with
  | nil => simp [bnums]
  | cons c t => simp [bnums]
theorem own_wb {w w' : World} {base P size n : Nat} {e : TypeId} {v : Value} {xs : List Value} (h : w.ownsRow base e size v n xs) (hb : WB P w w') (hP : P < base) : w'.ownsRow base e size v n xs := by
  refine h.kept hb ?_
  rcases h.2 with ⟨rfl, _⟩ | ⟨g, cap, cur, rfl, hg, _⟩
  · exact .inl rfl
  · refine .inr fun e' => ?_
    simp only [Value.ownBlock, Option.some.injEq] at e'
    omega
def AddLP (P : Nat) (w : World) (L : List Bool) (r : List Nat) (e : Ending) (w' : World) : Prop :=
  (∃ A c, e = .returned (.slice A r.length c) ∧ w'.ownsRow w.heap.size 3 1 (.slice A r.length c) r.length (zc (ns r))) ∧ WC w' P L ∧ WB P w w'
theorem WC.lt {X : World} {P : Nat} {l : List Bool} (h : WC X P l) : P < X.heap.size := by
  obtain ⟨b, A, c, e, h1, _⟩ := h
  exact (Array.getElem?_eq_some_iff.1 h1).1
def AbRel (B R : List Nat) (l0 : List Bool) (P : Nat) (w : World) (vB vR : Value) (p : Value) (wr : World) : Prop :=
  ∃ i : Nat, i ≤ B.length ∧ p = .int .i64 (i : Int) ∧ WC wr P (l0 ++ gam B.length ++ gams (bnums (B.take i))) ∧ wr.ownsRow w.heap.size 3 1 vB B.length (zc (ns B)) ∧ wr.ownsRow w.heap.size 3 1 vR R.length (zc (ns R)) ∧ WB P w wr
set_option maxHeartbeats 4000000 in
theorem addBlocks_any (P : Nat) (l0 : List Bool) (F l : List Nat) (hF : Rising F) (hl : Rising l) (n m : Nat) (hn : F.length = n) (hm : l.length = m) (A1 A2 : Option Addr) (c1 c2 : Nat) (w : World) (hW : WC w P l0) (h1 : RdV w w.heap.size A1 (zc (ns F))) (h2 : RdV w w.heap.size A2 (zc (ns l))) :
    Calls Tryz.prog 142 #[.pointer (some ⟨P, 0, none⟩), .slice A1 n c1, .slice A2 m c2] w (AddLP P w (l0 ++ (gam (bks F l).length ++ gams (bnums (bks F l)))) (notin F l)) := by
  have HPB := Lib.hid (blocks_own F l hF hl n m hn hm _ _ rfl rfl A1 A2 c1 c2 w h1 h2)
  obtain ⟨q1, q2⟩ := bks_le F l hF.1
  have hpos := (bks_ok F l).2.1
  have hPw := hW.lt
  have HWC := Lib.hid hW
  generalize bks F l = B at *
  generalize notin F l = R at *
  have HLe := Lib.hid q2
  have HPos : Hid (∀ i, i < B.length → i ≠ 0 → 1 ≤ B[i]?.getD 0) := fun i hi h0 => hpos _ (by
    rw [List.getElem?_eq_getElem hi]
    exact List.mem_drop_iff_getElem.2 ⟨i - 1, by omega, by congr 1; omega⟩)
  clear hF hl hn hm h1 h2 hW q2 hpos
  go_enter Tryz.func142, Tryz.ntmps142
  go_wp2_with fail
  refine HPB.out.mono ?_
  rintro e w1 ⟨AB, cB, AR, cR, rfl, rB, rR, b1⟩
  have HAN := Lib.hid (addNumber_any P l0 B.length (by omega) w1 (HWC.out.on b1))
  have HrB := Lib.hid rB; have HrR := Lib.hid rR; have HB1 := Lib.hid b1
  clear rB rR b1
  go_wp2_with fail
  refine HAN.out.mono ?_
  rintro e w2 ⟨rfl, hw, hb⟩
  have HW2 := Lib.hid hw
  have HB2 : Hid (WB P w w2) := (wb_below HB1.out).trans hb
  have HrB2 := Lib.hid (own_wb HrB.out hb hPw)
  have HrR2 := Lib.hid (own_wb HrR.out hb hPw)
  clear hw hb HrB HrR HB1 HPB
  go_wp2
  go_loopw [25] (fun p wr => AbRel B R l0 P w (.slice AB B.length cB) (.slice AR R.length cR) p wr) (fun p _ => B.length - (intOf p).toNat)
  case atStart => exact ⟨0, Nat.zero_le _, rfl, by rw [List.take_zero]; simpa [bnums, gams] using HW2.out, HrB2.out, HrR2.out, HB2.out⟩
  case round =>
    obtain ⟨i, hi, rfl, hwc, hrB, hrR, hwb⟩ := hrel
    clear HWC HAN HW2 HB2 HrB2 HrR2
    by_cases hlt : i < B.length
    · obtain ⟨b, off, rfl, hb, hcx⟩ := (own_rdv hrB).at_ (ns_get B i hlt)
      have htk : bnums (B.take (i + 1)) = bnums (B.take i) ++ [B[i]?.getD 0 - (if i = 0 then 0 else 1)] := by
        rw [take_snocN B i hlt, bnums_snoc, List.length_take, Nat.min_eq_left (by omega)]
      have hle := HLe.out _ (at_mem B i hlt)
      have hps := HPos.out i hlt
      generalize B[i]?.getD 0 = x at *
      have HEq : Hid (l0 ++ gam B.length ++ gams (bnums (B.take (i + 1))) = (l0 ++ gam B.length ++ gams (bnums (B.take i))) ++ gam (x - (if i = 0 then 0 else 1))) := by
        show _ = _
        rw [htk, gams_append, gams_cons, gams_nil, List.append_nil, ← List.append_assoc]
      have hx2 : ((x : Int) - (if i = 0 then 0 else 1)) = ((x - (if i = 0 then 0 else 1) : Nat) : Int) := by split <;> omega
      have t1 : IntKind.i64.wrap ((x : Int) - (if i = 0 then 0 else 1)) = ((x - (if i = 0 then 0 else 1) : Nat) : Int) := by rw [hx2]; exact IntWalk.i64_in _ (by omega)
      have HLb := Lib.hid (lblock_any i (by omega) wr)
      have HAd := Lib.hid (addNumber_any P (l0 ++ gam B.length ++ gams (bnums (B.take i))) (x - (if i = 0 then 0 else 1)) (by omega) wr hwc)
      have HrB := Lib.hid hrB; have HrR := Lib.hid hrR; have HWB := Lib.hid hwb
      clear hwc hrB hrR hwb htk hps
      generalize hy : (x - (if i = 0 then 0 else 1) : Nat) = y at *
      have hy2 : y ≤ 300 := by rw [← hy]; split <;> omega
      have t4 : wrap64 (y : Int) = (y : Int) := by unfold wrap64; omega
      have hlb : ∃ z : Int, (if i = 0 then (0 : Int) else 1) = z ∧ (x : Int) - z = (y : Int) := ⟨_, rfl, hx2⟩
      obtain ⟨z, hz, t3⟩ := hlb
      rw [hz] at HLb
      clear t1 hx2 hz hy
      go_wp2_with fail
      refine HLb.out.mono ?_
      rintro e w' ⟨rfl, rfl⟩
      go_wp2_with fail
      refine HAd.out.mono ?_
      rintro e w3 ⟨rfl, hw, hb3⟩
      have HW3 : Hid (WC w3 P (l0 ++ gam B.length ++ gams (bnums (B.take (i + 1))))) := by show WC _ _ _; rw [HEq.out]; exact hw
      have HB3 : Hid (WB P w w3) := HWB.out.trans hb3
      have HrB3 := Lib.hid (own_wb HrB.out hb3 hPw)
      have HrR3 := Lib.hid (own_wb HrR.out hb3 hPw)
      clear hw hb3 HrB HrR HWB
      go_wp2
      go_roundw
      case rel => exact ⟨i + 1, hlt, by go_num, HW3.out, HrB3.out, HrR3.out, HB3.out⟩
      case measure => simp [intOf]; omega
    · obtain rfl : i = B.length := by omega
      rw [List.take_length] at hwc
      have HWq : Hid (WC wr P (l0 ++ (gam B.length ++ gams (bnums B)))) := by show WC _ _ _; rw [← List.append_assoc]; exact hwc
      have HrR := Lib.hid hrR; have HWB := Lib.hid hwb
      clear hwc hrB hrR hwb
      go_wp2
      go_ret
      exact ⟨⟨_, _, rfl, HrR.out⟩, HWq.out, HWB.out⟩
def frm (R : List Rn) (i : Nat) : Nat := (R[i]?.getD ((0, 0) : Rn)).1
def mny (R : List Rn) (i : Nat) : Nat := (R[i]?.getD ((0, 0) : Rn)).2
def gapN (a : Int) (R : List Rn) (i : Nat) : Nat := if i = 0 then fold ((frm R 0 : Int) - a) else frm R i - (frm R (i - 1) + mny R (i - 1) + 1)
theorem rnx_snoc (ls : Nat) : ∀ (R : List Rn) (e : Nat) (p : Rn), rnx ls e (R ++ [p]) = rnx ls e R ++ [p.1 - (match R.getLast? with | none => e | some q => q.1 + q.2 + 1), p.2 - ls]
  | [], e, p => by simp [rnx]
  | q :: R, e, p => by
    rw [List.cons_append]
    unfold rnx
    rw [rnx_snoc ls R (q.1 + q.2 + 1) p]
    cases R with
    | nil => simp
    | cons r t =>
      obtain ⟨z, hz⟩ : ∃ z, (r :: t).getLast? = some z := ⟨_, List.getLast?_eq_some_getLast (by simp)⟩
      rw [List.getLast?_cons_cons, hz]; rfl
theorem rnu_cons (a : Int) (ls : Nat) (p : Rn) (t : List Rn) : rnu a ls (p :: t) = fold ((p.1 : Int) - a) :: (p.2 - ls) :: rnx ls (p.1 + p.2 + 1) t := rfl
theorem rnu_take (a : Int) (ls : Nat) (R : List Rn) (i : Nat) (h : i < R.length) : rnu a ls (R.take (i + 1)) = rnu a ls (R.take i) ++ [gapN a R i, mny R i - ls] := by
  have hs : R.take (i + 1) = R.take i ++ [R[i]?.getD (0, 0)] := by rw [List.take_add_one, List.getElem?_eq_getElem h]; rfl
  rw [hs]
  unfold gapN
  cases R with
  | nil => simp at h
  | cons q R =>
    cases i with
    | zero => simp [rnu, rnx, frm, mny]
    | succ i =>
      rw [if_neg (Nat.succ_ne_zero i), List.take_succ_cons, List.cons_append]
      rw [rnu_cons, rnu_cons, rnx_snoc]
      have hi : i < R.length := by simpa using h
      have hlast : (match (R.take i).getLast? with | none => q.1 + q.2 + 1 | some q => q.1 + q.2 + 1) = frm (q :: R) (i + 1 - 1) + mny (q :: R) (i + 1 - 1) + 1 := by
        cases i with
        | zero => simp [frm, mny]
        | succ j =>
          have e : (R.take (j + 1)).getLast? = some (R[j]'(by omega)) := by
            rw [List.getLast?_eq_getElem?, List.length_take, Nat.min_eq_left (by omega), Nat.add_sub_cancel, List.getElem?_take_of_lt (by omega), List.getElem?_eq_getElem (by omega)]
          rw [e]
          simp [frm, mny, List.getElem?_eq_getElem (show j < R.length by omega)]
      rw [hlast]
      simp [frm, mny]
set_option maxHeartbeats 1000000 in
theorem gapOf_any (R : List Rn) (hR : OkR R) (a : Nat) (ha : a ≤ 1048576) (i : Nat) (hi : i < R.length) (A : Option Addr) (c : Nat) (w : World) (h : RdV w w.heap.size A (rcs (rz (R.take i)))) :
    Calls Tryz.prog 182 #[.int .i64 (frm R i : Int), .slice A i c, .int .i64 (a : Int)] w fun e w' => e = .returned (.int .u64 (gapN (a : Int) R i : Int)) ∧ Below w.heap.size w w' := by
  have hb : mny R i ≤ 300 ∧ frm R i + mny R i ≤ 1048577 := hR.2.2 _ (mem_at R i hi)
  by_cases h0 : i = 0
  · subst h0
    have HF := Lib.hid (fold_any ((frm R 0 : Int) - (a : Int)) (by omega) (by omega) w)
    have e : gapN (a : Int) R 0 = fold ((frm R 0 : Int) - (a : Int)) := rfl
    rw [e]
    clear h hi e hR
    generalize frm R 0 = f at *
    generalize mny R 0 = m at *
    have t1 : IntKind.i64.wrap ((f : Int) - (a : Int)) = (f : Int) - (a : Int) := IntWalk.i64_in _ (by omega)
    generalize fold ((f : Int) - (a : Int)) = q at *
    go_enter Tryz.func182, Tryz.ntmps182
    go_wp2_with fail
    refine HF.out.mono ?_
    rintro e w' ⟨rfl, rfl⟩
    go_wp2
    go_ret
    exact ⟨rfl, Below.refl _ _⟩
  · have hi1 : i - 1 < R.length := by omega
    have hb1 : mny R (i - 1) ≤ 300 ∧ frm R (i - 1) + mny R (i - 1) ≤ 1048577 := hR.2.2 _ (mem_at R (i - 1) hi1)
    have hsep : frm R (i - 1) + mny R (i - 1) < frm R i := by
      unfold frm mny
      have hp := ((sep_pairs R (-1)).1 hR.2.1).2
      rw [List.getElem?_eq_getElem hi1, List.getElem?_eq_getElem hi]
      exact List.pairwise_iff_getElem.1 hp (i - 1) i hi1 hi (by omega)
    have hz : (rz (R.take i))[i - 1]?.getD (0, 0) = ((frm R (i - 1) : Int), (mny R (i - 1) : Int)) := by
      rw [rz_at _ _ (by rw [List.length_take]; omega), List.getElem?_take_of_lt (by omega)]; rfl
    have HL := Lib.hid (lfrom_any (rz (R.take i)) i (by rw [rz_length, List.length_take]; omega) (by omega) (by have := hR.1; omega) _ _ hz (by omega) (by omega) A c w h)
    have e : gapN (a : Int) R i = frm R i - (frm R (i - 1) + mny R (i - 1) + 1) := by unfold gapN; rw [if_neg h0]
    rw [e]
    clear h hi hi1 e hR hz
    generalize frm R i = f at *
    generalize mny R i = m at *
    generalize frm R (i - 1) = g at *
    generalize mny R (i - 1) = k at *
    have t1 : ((f : Int) - ((g : Int) + (k : Int) + 1)) = ((f - (g + k + 1) : Nat) : Int) := by omega
    have t2 : IntKind.i64.wrap ((f - (g + k + 1) : Nat) : Int) = ((f - (g + k + 1) : Nat) : Int) := IntWalk.i64_in _ (by omega)
    have t3 : IntKind.u64.wrap ((f - (g + k + 1) : Nat) : Int) = ((f - (g + k + 1) : Nat) : Int) := u64w _ (by omega) (by omega)
    have t0 : ((i : Int) == 0) = false := by simp; omega
    have t4 : wrap64 ((f - (g + k + 1) : Nat) : Int) = ((f - (g + k + 1) : Nat) : Int) := by unfold wrap64; omega
    go_enter Tryz.func182, Tryz.ntmps182
    go_wp2_with fail
    refine HL.out.mono ?_
    rintro e w1 ⟨rfl, B1⟩
    have HB := Lib.hid B1
    clear B1
    go_wp2
    go_ret
    exact ⟨by first | rfl | (simp [t1, t2, t3, t4]; done) | simp [t1], HB.out⟩
theorem rdv_takeV {w : World} {B : Nat} {A : Option Addr} {vs : List Value} (h : RdV w B A vs) (k : Nat) : RdV w B A (vs.take k) := by
  rcases h with h | ⟨b, off, e, hb, hc⟩
  · left; rw [h, List.take_nil]
  · refine .inr ⟨b, off, e, hb, fun i v hi => hc i v ?_⟩
    rw [List.getElem?_take] at hi
    split at hi
    · exact hi
    · cases hi
theorem rcs_take : ∀ (r : List Ri) (i : Nat), (rcs r).take (i * 2) = rcs (r.take i)
  | [], i => by simp [rcs]
  | p :: t, 0 => by simp [rcs]
  | p :: t, i + 1 => by
    rw [List.take_succ_cons, rcs_cons, rcs_cons, show (i + 1) * 2 = i * 2 + 2 by omega, List.take_succ_cons, List.take_succ_cons, rcs_take t i]
theorem rz_take (R : List Rn) (i : Nat) : rz (R.take i) = (rz R).take i := by simp [rz, List.map_take]
theorem wb_cell {P : Nat} {w w' : World} (h : WB P w w') {k i : Nat} (hk : k < w.heap.size) (hne : k ≠ P) : w'.cell? ⟨k, i, none⟩ = w.cell? ⟨k, i, none⟩ := World.cell?_of_block (h.block k hk (by simpa using hne))
def ArRel (a ls : Nat) (R : List Rn) (S : List Nat) (l0 : List Bool) (P : Nat) (w : World) (vR vS : Value) (p : Value) (wr : World) : Prop :=
  ∃ i : Nat, i ≤ R.length ∧ p = .int .i64 (i : Int) ∧ WC wr P (l0 ++ gam R.length ++ gams (rnu (a : Int) ls (R.take i))) ∧ wr.ownsRow w.heap.size 159 2 vR R.length (rcs (rz R)) ∧ wr.ownsRow w.heap.size 3 1 vS S.length (zc (ns S)) ∧ WB P w wr
theorem gapN_le (a : Nat) (ha : a ≤ 1048576) (R : List Rn) (hR : OkR R) (i : Nat) (hi : i < R.length) : gapN (a : Int) R i ≤ 2097152 := by
  have hb : mny R i ≤ 300 ∧ frm R i + mny R i ≤ 1048577 := hR.2.2 _ (mem_at R i hi)
  have hp : 1 ≤ mny R i := sep_pos R _ hR.2.1 _ (mem_at R i hi)
  unfold gapN
  split
  · rename_i h; subst h
    unfold fold; split <;> omega
  · omega
set_option maxHeartbeats 8000000 in
theorem addRuns_any (P : Nat) (l0 : List Bool) (a : Nat) (ha : a ≤ 1048576) (l : List Nat) (hl : Rising l) (n : Nat) (hn : l.length = n) (ls : Nat) (hls : 2 ≤ ls) (hls2 : ls ≤ 300) (A : Option Addr) (c : Nat) (hc : n ≤ c) (w : World) (hW : WC w P l0) (h : RdV w w.heap.size A (zc (ns l))) :
    Calls Tryz.prog 143 #[.pointer (some ⟨P, 0, none⟩), .int .i64 (a : Int), .slice A n c, .int .i64 (ls : Int)] w (AddLP P w (l0 ++ (gam (lng ls (rs l)).length ++ gams (rnu (a : Int) ls (lng ls (rs l))))) (flatR (sht ls (rs l)))) := by
  have HSp := Lib.hid (split_own l hl n hn ls hls hls2 A c hc w h)
  have hR : OkR (lng ls (rs l)) := okR_filter _ _ (rs_okR l hl)
  have hge : ∀ q ∈ lng ls (rs l), ls ≤ q.2 := fun q hq => by have := (List.mem_filter.1 hq).2; simpa using this
  have hPw := hW.lt
  have HWC := Lib.hid hW
  have hRl := hR.1
  generalize lng ls (rs l) = R at *
  generalize flatR (sht ls (rs l)) = S at *
  have HR := Lib.hid hR; have HGe := Lib.hid hge
  clear hl hn h hW hR hge hc
  go_enter Tryz.func143, Tryz.ntmps143
  go_wp2_with fail
  refine HSp.out.mono ?_
  rintro e w1 ⟨AR, cR, AS, cS, rfl, rR, rS, b1⟩
  rw [rz_length] at rR ⊢
  have HAN := Lib.hid (addNumber_any P l0 R.length (by omega) w1 (HWC.out.on b1))
  have HrR := Lib.hid rR; have HrS := Lib.hid rS; have HB1 := Lib.hid b1
  clear rR rS b1
  go_wp2_with fail
  refine HAN.out.mono ?_
  rintro e w2 ⟨rfl, hw, hb⟩
  have HW2 := Lib.hid hw
  have HB2 : Hid (WB P w w2) := (wb_below HB1.out).trans hb
  have HrR2 := Lib.hid (own_wb HrR.out hb hPw)
  have HrS2 := Lib.hid (own_wb HrS.out hb hPw)
  clear hw hb HrR HrS HB1 HSp
  go_wp2
  go_loopw [27] (fun p wr => ArRel a ls R S l0 P w (.slice AR R.length cR) (.slice AS S.length cS) p wr) (fun p _ => R.length - (intOf p).toNat)
  case atStart => exact ⟨0, Nat.zero_le _, rfl, by rw [List.take_zero]; simpa [rnu, gams] using HW2.out, HrR2.out, HrS2.out, HB2.out⟩
  case round =>
    obtain ⟨i, hi, rfl, hwc, hrR, hrS, hwb⟩ := hrel
    clear HWC HAN HW2 HB2 HrR2 HrS2
    by_cases hlt : i < R.length
    · have hrd := own_rdvT hrR
      obtain ⟨r0, r1⟩ := rcs_at (rz R) i (by rw [rz_length]; exact hlt)
      rw [rz_at R i hlt] at r0 r1
      obtain ⟨b, off, rfl, hb, k0⟩ := hrd.at_ r0
      obtain ⟨b2, off2, hA2', hb2, k1⟩ := hrd.at_ r1
      simp only [Option.some.injEq, Addr.mk.injEq, and_true] at hA2'
      obtain ⟨rfl, rfl⟩ := hA2'
      rw [← Nat.add_assoc] at k1
      change wr.cell? ⟨b, off + i * 2, none⟩ = some (.int .i64 (frm R i : Int)) at k0
      change wr.cell? ⟨b, off + i * 2 + 1, none⟩ = some (.int .i64 (mny R i : Int)) at k1
      have hbd : mny R i ≤ 300 ∧ frm R i + mny R i ≤ 1048577 := HR.out.2.2 _ (mem_at R i hlt)
      have hmg : ls ≤ mny R i := HGe.out _ (mem_at R i hlt)
      have hgl := gapN_le a ha R HR.out i hlt
      have hpre : RdV wr wr.heap.size (some ⟨b, off, none⟩) (rcs (rz (R.take i))) := by
        have := rdv_takeV hrd (i * 2)
        rwa [rcs_take, ← rz_take] at this
      have htk := rnu_take (a : Int) ls R i hlt
      have HEq : Hid (l0 ++ gam R.length ++ gams (rnu (a : Int) ls (R.take (i + 1))) = ((l0 ++ gam R.length ++ gams (rnu (a : Int) ls (R.take i))) ++ gam (gapN (a : Int) R i)) ++ gam (mny R i - ls)) := by
        show _ = _
        rw [htk, gams_append, gams_cons, gams_cons, gams_nil, List.append_nil]
        simp only [List.append_assoc]
      have HGap : Hid (∀ V c, Below wr.heap.size wr V → Calls Tryz.prog 182 #[.int .i64 (frm R i : Int), .slice (some ⟨b, off, none⟩) i c, .int .i64 (a : Int)] V fun e w' => e = .returned (.int .u64 (gapN (a : Int) R i : Int)) ∧ Below V.heap.size V w') := fun V c hV => gapOf_any R HR.out a ha i hlt _ c V (hpre.on hV)
      have HGam : Hid (∀ V, Calls Tryz.prog 178 #[.int .u64 (gapN (a : Int) R i : Int)] V (Gv V ((gam (gapN (a : Int) R i)).length : Int) (pack (gam (gapN (a : Int) R i))).length (pack (gam (gapN (a : Int) R i))) 0)) := fun V => gamma_ok _ (by omega) _ rfl V
      have HAd : Hid (∀ A c V, Below wr.heap.size wr V → Rd V V.heap.size A (pack (gam (gapN (a : Int) R i))) → Calls Tryz.prog 144 #[.pointer (some ⟨P, 0, none⟩), .agg #[.int .i64 ((gam (gapN (a : Int) R i)).length : Int), .slice A (pack (gam (gapN (a : Int) R i))).length c], .int .i64 0] V (AddP P V (l0 ++ gam R.length ++ gams (rnu (a : Int) ls (R.take i)) ++ gam (gapN (a : Int) R i)))) := fun A c V hV hR2 => add_any P _ _ _ A _ c 0 V (hwc.on hV) (.inl ⟨gam_len40 _ (by omega), rfl, rfl, hR2, rfl⟩)
      have HAn : Hid (∀ V, WC V P (l0 ++ gam R.length ++ gams (rnu (a : Int) ls (R.take i)) ++ gam (gapN (a : Int) R i)) → Calls Tryz.prog 141 #[.pointer (some ⟨P, 0, none⟩), .int .i64 ((mny R i - ls : Nat) : Int)] V (AddP P V (l0 ++ gam R.length ++ gams (rnu (a : Int) ls (R.take i)) ++ gam (gapN (a : Int) R i) ++ gam (mny R i - ls)))) := fun V hV => addNumber_any P _ _ (by omega) V hV
      have hPwr := hwc.lt
      have HrR := Lib.hid hrR; have HrS := Lib.hid hrS; have HWB := Lib.hid hwb
      have t1 : ((mny R i : Int) - (ls : Int)) = ((mny R i - ls : Nat) : Int) := by omega
      have t2 : wrap64 ((mny R i - ls : Nat) : Int) = ((mny R i - ls : Nat) : Int) := by unfold wrap64; omega
      have t3 : i ≤ cR := by have := (own_capT hrR).1; omega
      have t4 : (i : Int) ≤ (cR : Int) := by omega
      have t5 : ¬ (cR : Int) < (i : Int) := by omega
      clear hwc hrR hrS hwb htk hrd hpre r0 r1
      generalize gapN (a : Int) R i = g at *
      generalize (gam g).length = gl at *
      generalize (pack (gam g)).length = gn at *
      generalize hmy : mny R i - ls = y at *
      generalize frm R i = f at *
      generalize mny R i = m at *
      clear hmy
      go_wp2_with fail
      generalize hV : wr.alloc (.cells #[.int .i64 (f : Int), .int .i64 (m : Int)] 159) = V0
      have HV0 : Hid (Below wr.heap.size wr V0) := hV ▸ one_below wr _
      have HBx : Hid (V0.heap[wr.heap.size]? = some (.cells #[.int .i64 (f : Int), .int .i64 (m : Int)] 159 (0, 0))) := hV ▸ World.alloc_heap_new wr _
      have hzs : wr.heap.size < V0.heap.size := (Array.getElem?_eq_some_iff.1 HBx.out).1
      clear hV k0 k1
      have HCl : Hid (∀ V, Below V0.heap.size V0 V → V.cell? ⟨wr.heap.size, 0, none⟩ = some (.int .i64 (f : Int))) := fun V hV => ((hV.cell (p := ⟨wr.heap.size, 0, none⟩) hzs).trans (cell_at HBx.out _)).trans rfl
      go_region_held3 (fun w' => w'.cell? ⟨wr.heap.size, 0, none⟩ = some (.int .i64 (f : Int)))
        (first | exact hk6 | (refine HCl.out _ ?_; first | exact hk3.out | exact hk1.out | exact (Below.refl _ V0).drew | exact Below.refl _ _))
        (first
          | (go_at_call 144; have hx := hr3.out; refine (HAd.out A3 c3 w3 (HV0.out.trans (hk3.out.mono HV0.out.size)) hx).mono ?_; rintro e w4 ⟨rfl, hw4, hb4⟩; have hk4 := Lib.hid hw4; have hk5 := Lib.hid hb4; have hk6 : w4.cell? ⟨wr.heap.size, 0, none⟩ = some (.int .i64 (f : Int)) := (wb_cell hb4 (Nat.lt_of_lt_of_le hzs hk3.out.size) (by omega)).trans (HCl.out _ hk3.out); clear hw4 hb4 hx)
          | (go_at_call 178; have hy := hk1.out; refine (HGam.out w2).mono ?_; rintro e w3 ⟨A3, c3, rfl, r3, b3⟩; have hk3 : Hid (Below V0.heap.size V0 w3) := hy.trans (b3.mono hy.size); have hr3 := Lib.hid r3; clear r3 b3 hy)
          | (go_at_call 182; refine (HGap.out V0.drew _ HV0.out.drew).mono ?_; rintro e w2 ⟨rfl, B2⟩; have hk1 : Hid (Below V0.heap.size V0 w2) := ((Below.refl _ V0).drew).trans B2; clear B2))
      all_goals (
        have HWBr : Hid (WB P wr w4) := (wb_below (HV0.out.trans (hk3.out.mono HV0.out.size))).trans hk5.out
        have hne : some wr.heap.size ≠ some P := by simp; omega
        have hb4 : w4.heap[wr.heap.size]? = some (.cells #[.int .i64 (f : Int), .int .i64 (m : Int)] 159 (0, 0)) := ((hk5.out.block _ (Nat.lt_of_lt_of_le hzs hk3.out.size) hne).trans (hk3.out.block _ hzs)).trans HBx.out
        have j1 : w4.cell? ⟨wr.heap.size, 1, none⟩ = some (.int .i64 (m : Int)) := (cell_at hb4 _).trans rfl
        have HAn4 := Lib.hid (HAn.out w4 hk4.out)
        clear hb4 hne
        go_wp2_with fail
        refine HAn4.out.mono ?_
        rintro e w5 ⟨rfl, hw, hb5⟩
        have HW5 : Hid (WC w5 P (l0 ++ gam R.length ++ gams (rnu (a : Int) ls (R.take (i + 1))))) := by show WC _ _ _; rw [HEq.out]; exact hw
        have HBr : Hid (WB P wr w5) := HWBr.out.trans hb5
        have HB5 : Hid (WB P w w5) := HWB.out.trans HBr.out
        have HrR5 := Lib.hid (own_wb HrR.out HBr.out hPw)
        have HrS5 := Lib.hid (own_wb HrS.out HBr.out hPw)
        clear hw hb5 HrR HrS HWB
        go_wp2
        go_roundw
        case rel => exact ⟨i + 1, hlt, by go_num, HW5.out, HrR5.out, HrS5.out, HB5.out⟩
        case measure => simp [intOf]; omega)
    · obtain rfl : i = R.length := by omega
      rw [List.take_length] at hwc
      have HWq : Hid (WC wr P (l0 ++ (gam R.length ++ gams (rnu (a : Int) ls R)))) := by show WC _ _ _; rw [← List.append_assoc]; exact hwc
      have HrS := Lib.hid hrS; have HWB := Lib.hid hwb
      clear hwc hrR hrS hwb
      go_wp2
      go_ret
      exact ⟨⟨_, _, rfl, HrS.out⟩, HWq.out, HWB.out⟩
end
section
set_option maxRecDepth 100000
set_option linter.unusedVariables false
open Go.RowKit Go.Shelf
theorem pnum_le {L : List Bool} {s most x s' : Nat} (h : pnum L s most = some (x, s')) : x ≤ most ∧ s' ≤ L.length := by
  unfold pnum at h
  split at h
  · rename_i hh
    simp only [Option.some.injEq, Prod.mk.injEq] at h
    have := (thenR_bound L (uR L s)).1
    obtain ⟨rfl, rfl⟩ := h
    exact ⟨hh.2, this⟩
  · cases h
theorem WB.then {P B : Nat} {w a b : World} (h : WB P w a) (k : Below B a b) (hw : w.heap.size ≤ B) : WB P w b :=
  ⟨k.os.trans h.os, k.tape.trans h.tape, k.output.trans h.output, Nat.le_trans h.size k.size, fun j hj hne => (k.block j (Nat.lt_of_lt_of_le hj hw)).trans (h.block j hj hne)⟩
theorem RB.low {w V : World} {B Q : Nat} {L : List Bool} {A : Option Addr} {c s : Nat} (h : RB w Q L A c s) (hb : Below B w V) (hQ : Q < B) : RB V Q L A c s := (hb.block Q hQ).trans h
theorem pbl_none (L : List Bool) (m : Nat) (acc : List Nat) (s : Nat) (h : pnum L s 300 = none) : pbl L (m + 1) acc s = none := by unfold pbl; rw [h]
theorem pbl_some (L : List Bool) (m : Nat) (acc : List Nat) (s x s' : Nat) (h : pnum L s 300 = some (x, s')) : pbl L (m + 1) acc s = pbl L m (acc ++ [x + (if acc = [] then 0 else 1)]) s' := by
  show (match pnum L s 300 with | none => none | some (x, s') => pbl L m (acc ++ [x + (if acc = [] then 0 else 1)]) s') = _
  rw [h]
def TbP (Q : Nat) (L : List Bool) (A : Option Addr) (c : Nat) (w : World) (o : Option (List Nat × Nat)) (e : Ending) (w' : World) : Prop :=
  WB Q w w' ∧ match o with
    | none => Bad e
    | some (B, s) => (∃ A1 c1, e = .returned (.slice A1 B.length c1) ∧ w'.ownsRow w.heap.size 3 1 (.slice A1 B.length c1) B.length (zc (ns B))) ∧ RB w' Q L A c s ∧ s ≤ L.length
def TbRel (L : List Bool) (A : Option Addr) (c Q n : Nat) (o : Option (List Nat × Nat)) (w : World) (v p : Value) (wr : World) : Prop :=
  ∃ (i s : Nat) (acc : List Nat), i ≤ n ∧ p = .int .i64 (i : Int) ∧ acc.length = i ∧ s ≤ L.length ∧ pbl L (n - i) acc s = o ∧ wr.ownsRow w.heap.size 3 1 v acc.length (zc (ns acc)) ∧ RB wr Q L A c s ∧ Rd wr Q A (pack L) ∧ WB Q w wr
set_option maxHeartbeats 4000000 in
theorem take_blocks (L : List Bool) (hL : L.length ≤ 8192) (A : Option Addr) (c Q s : Nat) (hs : s ≤ L.length) (w : World) (hQ : RB w Q L A c s) (hR : Rd w Q A (pack L)) :
    Calls Tryz.prog 148 #[.pointer (some ⟨Q, 0, none⟩)] w (TbP Q L A c w (pblocks L s)) := by
  have hlt := hQ.lt
  have HTk : Hid (∀ (V : World) (s : Nat), s ≤ L.length → RB V Q L A c s → Rd V Q A (pack L) → Calls Tryz.prog 146 #[.pointer (some ⟨Q, 0, none⟩), .int .i64 300] V (TkP Q L A c V (pnum L s 300))) := fun V s h1 h2 h3 => take_num L hL A c Q s h1 300 (by omega) V h2 h3
  have HT0 := Lib.hid (HTk.out w s hs hQ hR)
  have HR := Lib.hid hR
  obtain ⟨i0, hi, hz0, hz1, hz2⟩ := info_parts info3
  have HP : Hid (pblocks L s = match pnum L s 300 with | none => none | some (n, s') => pbl L n [] s') := rfl
  generalize pblocks L s = o at *
  clear hQ hR
  rcases hpn : pnum L s 300 with _ | ⟨n, s1⟩
  · rw [hpn] at HT0 HP
    clear hpn
    go_enter Tryz.func148, Tryz.ntmps148
    go_wp2_with fail
    refine HT0.out.mono ?_
    rintro e w1 ⟨hwb, rfl⟩
    have HW := Lib.hid hwb
    clear hwb
    go_wp2
    exact ⟨rfl, HW.out, by rw [HP.out]; rfl⟩
  · rw [hpn] at HT0 HP
    obtain ⟨hn, hs1⟩ := pnum_le hpn
    clear hpn
    go_enter Tryz.func148, Tryz.ntmps148
    go_wp2_with fail
    refine HT0.out.mono ?_
    rintro e w1 ⟨hwb, rfl, hrb⟩
    have HW1 := Lib.hid hwb; have HRB1 := Lib.hid hrb
    clear hwb hrb HT0
    go_wp2
    go_loopw [3, 7] (fun v p wr => TbRel L A c Q n o w v p wr) (fun _ p _ => n - (intOf p).toNat)
    case atStart => exact ⟨0, s1, [], Nat.zero_le _, rfl, rfl, hs1, HP.out.symm, ⟨rfl, .inl ⟨rfl, rfl⟩⟩, HRB1.out, rd_low HR.out HW1.out hlt, HW1.out⟩
    case round =>
      obtain ⟨i, s2, acc, hi', rfl, hai, hs2, hpb, hrow, hrb, hrd, hwb⟩ := hrel
      clear HW1 HRB1
      obtain ⟨Av, cv, rfl⟩ := own_slice3 hrow
      by_cases hlt2 : i < n
      · have HT := Lib.hid (HTk.out wr s2 hs2 hrb hrd)
        obtain ⟨m, hm⟩ : ∃ m, n - i = m + 1 := ⟨n - i - 1, by omega⟩
        rw [hm] at hpb
        have HWB := Lib.hid hwb; have HRow := Lib.hid hrow; have HRd := Lib.hid hrd
        clear hwb hrb hrd
        rcases hpn : pnum L s2 300 with _ | ⟨x, s3⟩
        · rw [hpn] at HT
          rw [pbl_none L m acc s2 hpn] at hpb
          subst hpb
          clear hpn hrow
          go_wp2_with fail
          refine HT.out.mono ?_
          rintro e w2 ⟨hwb, rfl⟩
          have HW := Lib.hid (HWB.out.trans hwb)
          clear hwb
          go_wp2
          exact ⟨rfl, HW.out, rfl⟩
        · rw [hpn] at HT
          rw [pbl_some L m acc s2 x s3 hpn] at hpb
          obtain ⟨hx, hs3⟩ := pnum_le hpn
          have hpe : (if acc = [] then (0 : Nat) else 1) = if i = 0 then 0 else 1 := by
            by_cases h0 : i = 0
            · rw [if_pos h0, if_pos (List.eq_nil_of_length_eq_zero (by omega))]
            · rw [if_neg h0, if_neg (fun e => h0 (by rw [← hai, e]; rfl))]
          rw [hpe] at hpb
          obtain ⟨y, hy⟩ : ∃ y : Nat, (if i = 0 then (0 : Nat) else 1) = y := ⟨_, rfl⟩
          have hyi : (if i = 0 then (0 : Int) else 1) = (y : Int) := by rw [← hy]; split <;> rfl
          have HLb := Lib.hid (fun V => lblock_any i (by omega) V)
          rw [hy] at hpb
          rw [hyi] at HLb
          have hy1 : y ≤ 1 := by rw [← hy]; split <;> omega
          clear hy hyi hpe hpn
          have HPb := Lib.hid hpb
          have t1 : IntKind.i64.wrap ((x : Int) + (y : Int)) = (x : Int) + (y : Int) := IntWalk.i64_in _ (by omega)
          have HZc : Hid (zc (ns acc) ++ [Value.int .i64 ((x : Int) + (y : Int))] = zc (ns (acc ++ [x + y]))) := by show _ = _; rw [ns_append, zc_append]; rfl
          have HLn : Hid ((acc ++ [x + y]).length = i + 1) := by show _ = _; rw [List.length_append, hai]; rfl
          clear hpb hrow
          rw [hai] at HRow ⊢
          go_wp2_with fail
          refine HT.out.mono ?_
          rintro e w2 ⟨hwb, rfl, hrb⟩
          have HW2 := Lib.hid hwb; have HRB2 := Lib.hid hrb
          have hrow := own_wb HRow.out hwb hlt
          have hws : w.heap.size ≤ w2.heap.size := Nat.le_trans HWB.out.size hwb.size
          clear hwb hrb HRow HT
          go_wp2_with fail
          refine (HLb.out _).mono ?_
          rintro e w' ⟨rfl, rfl⟩
          go_wp2_with (at_builtin; refine wpList_append_own _ rfl _ _ 22 rfl w.heap.size 3 i0 (.int .i64 0) 1 8 Tryz.underlying22 hi hz0 hz1 hz2 rfl (by decide) _ _ _ rfl (hrow.alloc _) ⟨w2.heap.size, 0, none⟩ 1 1 [.int .i64 ((x : Int) + (y : Int))] rfl rfl (news_row w2 [.int .i64 ((x : Int) + (y : Int))] _) (by simp [Value.oneCell']) (by unfold maxLen; omega) (by omega) (by simp; omega) ?_; intro v' w3 hown' hgrow _; obtain ⟨Av', cv', rfl⟩ := own_slice3 hown')
          rw [HZc.out] at hown'
          have HO3 := Lib.hid hown'
          have hBw : Below w.heap.size w2 w3 := ((Below.refl w.heap.size w2).alloc hws _).trans (grown_low hgrow (hrow.alloc _) (by simp; omega))
          have HWB3 : Hid (WB Q w w3) := (HWB.out.trans HW2.out).then hBw (Nat.le_refl _)
          have HRB3 := Lib.hid (HRB2.out.low hBw hlt)
          clear hown' hgrow hrow hBw
          go_wp2
          go_roundw
          case rel => exact ⟨i + 1, s3, acc ++ [x + y], hlt2, by go_num, HLn.out, hs3, by rw [show n - (i + 1) = m by omega]; exact HPb.out, by rw [HLn.out]; exact HO3.out, HRB3.out, rd_low HR.out HWB3.out hlt, HWB3.out⟩
          case measure => simp [intOf]; omega
      · have e0 : n - i = 0 := by omega
        rw [e0] at hpb
        have HPb : Hid (o = some (acc, s2)) := hpb.symm
        have HRow := Lib.hid hrow; have HRB := Lib.hid hrb; have HWB := Lib.hid hwb
        clear hpb hrow hrb hrd hwb e0
        generalize hk : acc.length = k at *
        have HK := Lib.hid hk
        clear hk
        go_wp2
        go_ret
        exact ⟨HWB.out, by rw [HPb.out]; exact ⟨⟨_, _, by rw [HK.out]; rfl, by rw [HK.out]; exact HRow.out⟩, HRB.out, hs2⟩⟩
end
section
set_option maxRecDepth 100000
set_option linter.unusedVariables false
open Go.RowKit Go.Shelf
theorem getLast_getD (r : List Ri) (n : Nat) (hn : r.length = n) (h1 : 1 ≤ n) : r.getLast? = some (r[n - 1]?.getD (0, 0)) := by
  rw [List.getLast?_eq_getElem?, hn, List.getElem?_eq_getElem (by omega)]; rfl
theorem unfold_lim (g : Nat) (hg : g ≤ 2097152) : -1048577 ≤ unfold_ g ∧ unfold_ g ≤ 1048577 := by unfold unfold_; split <;> omega
def InLim (r : List Ri) : Prop := ∀ p ∈ r, -4000000 ≤ p.1 ∧ p.1 ≤ 4000000 * (r.length : Int) ∧ 0 ≤ p.2 ∧ p.2 ≤ 700
theorem fro_lim (r : List Ri) (h : InLim r) (a g : Nat) (ha : a ≤ 1048576) (hg : g ≤ 2097152) : -4000000 ≤ fro a g r ∧ fro a g r ≤ 4000000 * ((r.length : Int) + 1) := by
  have hu := unfold_lim g hg
  unfold fro
  cases hl : r.getLast? with
  | none => simp only; omega
  | some p =>
    have := h p (List.mem_of_getLast? hl)
    simp only
    omega
theorem inLim_snoc (r : List Ri) (h : InLim r) (f m : Int) (h1 : -4000000 ≤ f) (h2 : f ≤ 4000000 * ((r.length : Int) + 1)) (h3 : 0 ≤ m) (h4 : m ≤ 700) : InLim (r ++ [(f, m)]) := by
  intro p hp
  rw [List.length_append]
  rcases List.mem_append.1 hp with hp | hp
  · have := h p hp
    simp only [List.length_singleton]
    omega
  · obtain rfl : p = (f, m) := by simpa using hp
    simp only [List.length_singleton]
    omega
set_option maxHeartbeats 1000000 in
theorem fromOf_any (r : List Ri) (n : Nat) (hn : r.length = n) (hn2 : n ≤ 300) (hb : InLim r) (a g : Nat) (ha : a ≤ 1048576) (hg : g ≤ 2097152) (A : Option Addr) (c : Nat) (w : World) (h : RdV w w.heap.size A (rcs r)) :
    Calls Tryz.prog 229 #[.int .u64 (g : Int), .slice A n c, .int .i64 (a : Int)] w fun e w' => e = .returned (.int .i64 (fro a g r)) ∧ Below w.heap.size w w' := by
  have hlim := fro_lim r hb a g ha hg
  by_cases h0 : n = 0
  · subst h0
    obtain rfl : r = [] := List.eq_nil_of_length_eq_zero hn
    have HU := Lib.hid (unfold_any g (by omega) w)
    have hu := unfold_lim g hg
    have e : fro a g [] = (a : Int) + unfold_ g := rfl
    rw [e]
    clear h hn hb e hlim
    generalize unfold_ g = u at *
    have t1 : IntKind.i64.wrap ((a : Int) + u) = (a : Int) + u := IntWalk.i64_in _ (by omega)
    go_enter Tryz.func229, Tryz.ntmps229
    go_wp2_with fail
    refine HU.out.mono ?_
    rintro e w' ⟨rfl, rfl⟩
    go_wp2
    go_ret
    exact ⟨rfl, Below.refl _ _⟩
  · obtain ⟨f, m, hfm⟩ : ∃ f m, r[n - 1]?.getD ((0, 0) : Ri) = (f, m) := ⟨_, _, rfl⟩
    have hgl := getLast_getD r n hn (by omega)
    rw [hfm] at hgl
    have hfb := hb _ (List.mem_of_getLast? hgl)
    simp only at hfb
    rw [hn] at hfb
    have HL := Lib.hid (lfrom_any r n hn (by omega) (by omega) f m hfm (by omega) (by omega) A c w h)
    have e : fro a g r = f + m + 1 + (g : Int) := by unfold fro; rw [hgl]
    rw [e]
    rw [e] at hlim
    have t1 : IntKind.i64.wrap (f + m + 1 + (g : Int)) = f + m + 1 + (g : Int) := IntWalk.i64_in _ (by omega)
    have t2 : IntKind.i64.wrap (g : Int) = (g : Int) := IntWalk.i64_in _ (by omega)
    have t0 : ((n : Int) == 0) = false := by simp; omega
    clear h hn hb e hlim hgl hfm
    go_enter Tryz.func229, Tryz.ntmps229
    go_wp2_with fail
    refine HL.out.mono ?_
    rintro e w1 ⟨rfl, B1⟩
    have HB := Lib.hid B1
    clear B1
    go_wp2
    go_ret
    exact ⟨by first | rfl | (simp [t1, t2]; done) | simp [t1], HB.out⟩
theorem prn_none (L : List Bool) (a ls m : Nat) (acc : List Ri) (s : Nat) (h : pnum L s 2097152 = none) : prn L a ls (m + 1) acc s = none := by unfold prn; rw [h]
theorem prn_none2 (L : List Bool) (a ls m : Nat) (acc : List Ri) (s g s1 : Nat) (h : pnum L s 2097152 = some (g, s1)) (h2 : pnum L s1 300 = none) : prn L a ls (m + 1) acc s = none := by
  unfold prn; rw [h]; simp only; rw [h2]
theorem prn_some (L : List Bool) (a ls m : Nat) (acc : List Ri) (s g s1 x s2 : Nat) (h : pnum L s 2097152 = some (g, s1)) (h2 : pnum L s1 300 = some (x, s2)) : prn L a ls (m + 1) acc s = prn L a ls m (acc ++ [(fro a g acc, ((ls + x : Nat) : Int))]) s2 := by
  show (match pnum L s 2097152 with | none => none | some (g, s1) => match pnum L s1 300 with | none => none | some (x, s2) => prn L a ls m (acc ++ [(fro a g acc, ((ls + x : Nat) : Int))]) s2) = _
  rw [h]; simp only; rw [h2]
def TrP (Q : Nat) (L : List Bool) (A : Option Addr) (c : Nat) (w : World) (o : Option (List Ri × Nat)) (e : Ending) (w' : World) : Prop :=
  WB Q w w' ∧ match o with
    | none => Bad e
    | some (r, s) => (∃ A1 c1, e = .returned (.slice A1 r.length c1) ∧ w'.ownsRow w.heap.size 159 2 (.slice A1 r.length c1) r.length (rcs r)) ∧ RB w' Q L A c s ∧ s ≤ L.length ∧ r.length ≤ 300
def TrRel (L : List Bool) (A : Option Addr) (c Q n a ls : Nat) (o : Option (List Ri × Nat)) (w : World) (v p : Value) (wr : World) : Prop :=
  ∃ (i s : Nat) (acc : List Ri), i ≤ n ∧ p = .int .i64 (i : Int) ∧ acc.length = i ∧ InLim acc ∧ s ≤ L.length ∧ prn L a ls (n - i) acc s = o ∧ wr.ownsRow w.heap.size 159 2 v acc.length (rcs acc) ∧ RB wr Q L A c s ∧ Rd wr Q A (pack L) ∧ WB Q w wr
set_option maxHeartbeats 8000000 in
theorem take_runs (L : List Bool) (hL : L.length ≤ 8192) (A : Option Addr) (c Q s : Nat) (hs : s ≤ L.length) (a ls : Nat) (ha : a ≤ 1048576) (hls : ls ≤ 300) (w : World) (hQ : RB w Q L A c s) (hR : Rd w Q A (pack L)) :
    Calls Tryz.prog 186 #[.pointer (some ⟨Q, 0, none⟩), .int .i64 (a : Int), .int .i64 (ls : Int)] w (TrP Q L A c w (pruns L a ls s)) := by
  have hlt := hQ.lt
  have HTk : Hid (∀ (V : World) (s : Nat), s ≤ L.length → RB V Q L A c s → Rd V Q A (pack L) → Calls Tryz.prog 146 #[.pointer (some ⟨Q, 0, none⟩), .int .i64 300] V (TkP Q L A c V (pnum L s 300))) := fun V s h1 h2 h3 => take_num L hL A c Q s h1 300 (by omega) V h2 h3
  have HTg : Hid (∀ (V : World) (s : Nat), s ≤ L.length → RB V Q L A c s → Rd V Q A (pack L) → Calls Tryz.prog 146 #[.pointer (some ⟨Q, 0, none⟩), .int .i64 2097152] V (TkP Q L A c V (pnum L s 2097152))) := fun V s h1 h2 h3 => take_num L hL A c Q s h1 2097152 (by omega) V h2 h3
  have HT0 := Lib.hid (HTk.out w s hs hQ hR)
  have HR := Lib.hid hR
  obtain ⟨i0, hi, hz0, hz1, hz2⟩ := info_parts info_run
  have HP : Hid (pruns L a ls s = match pnum L s 300 with | none => none | some (n, s') => prn L a ls n [] s') := rfl
  generalize pruns L a ls s = o at *
  clear hQ hR
  rcases hpn : pnum L s 300 with _ | ⟨n, s1⟩
  · rw [hpn] at HT0 HP
    clear hpn
    go_enter Tryz.func186, Tryz.ntmps186
    go_wp2_with fail
    refine HT0.out.mono ?_
    rintro e w1 ⟨hwb, rfl⟩
    have HW := Lib.hid hwb
    clear hwb
    go_wp2
    exact ⟨rfl, HW.out, by rw [HP.out]; rfl⟩
  · rw [hpn] at HT0 HP
    obtain ⟨hn, hs1⟩ := pnum_le hpn
    clear hpn
    go_enter Tryz.func186, Tryz.ntmps186
    go_wp2_with fail
    refine HT0.out.mono ?_
    rintro e w1 ⟨hwb, rfl, hrb⟩
    have HW1 := Lib.hid hwb; have HRB1 := Lib.hid hrb
    clear hwb hrb HT0
    go_wp2
    go_loopw [7, 11] (fun v p wr => TrRel L A c Q n a ls o w v p wr) (fun _ p _ => n - (intOf p).toNat)
    case atStart => exact ⟨0, s1, [], Nat.zero_le _, rfl, rfl, (fun p hp => by cases hp), hs1, HP.out.symm, ⟨rfl, .inl ⟨rfl, rfl⟩⟩, HRB1.out, rd_low HR.out HW1.out hlt, HW1.out⟩
    case round =>
      obtain ⟨i, s2, acc, hi', rfl, hai, hlim, hs2, hpb, hrow, hrb, hrd, hwb⟩ := hrel
      clear HW1 HRB1
      obtain ⟨Av, cv, rfl⟩ := own_sliceT hrow
      by_cases hlt2 : i < n
      · have HT := Lib.hid (HTg.out wr s2 hs2 hrb hrd)
        obtain ⟨m, hm⟩ : ∃ m, n - i = m + 1 := ⟨n - i - 1, by omega⟩
        rw [hm] at hpb
        have HWB := Lib.hid hwb; have HRow := Lib.hid hrow; have HRd := Lib.hid hrd
        clear hwb hrb hrd
        rcases hpn : pnum L s2 2097152 with _ | ⟨g, s3⟩
        · rw [hpn] at HT
          rw [prn_none L a ls m acc s2 hpn] at hpb
          subst hpb
          clear hpn hrow
          go_wp2_with fail
          refine HT.out.mono ?_
          rintro e w2 ⟨hwb, rfl⟩
          have HW := Lib.hid (HWB.out.trans hwb)
          clear hwb
          go_wp2
          exact ⟨rfl, HW.out, rfl⟩
        · rw [hpn] at HT
          obtain ⟨hg, hs3⟩ := pnum_le hpn
          have hfl := fro_lim acc hlim a g ha hg
          have c1 : IntKind.u64.wrap (g : Int) = (g : Int) := u64w _ (by omega) (by omega)
          have HFr : Hid (∀ V, WB Q wr V → Calls Tryz.prog 229 #[.int .u64 (g : Int), .slice Av i cv, .int .i64 (a : Int)] V fun e w' => e = .returned (.int .i64 (fro a g acc)) ∧ Below V.heap.size V w') := fun V hV => by
            have := own_rdvT (own_wb HRow.out hV hlt)
            exact fromOf_any acc i hai (by omega) hlim a g ha hg Av cv V this
          have HLim := Lib.hid hlim
          rw [hai] at HRow
          clear hrow hlim
          rcases hpn2 : pnum L s3 300 with _ | ⟨x, s4⟩
          · rw [prn_none2 L a ls m acc s2 g s3 hpn hpn2] at hpb
            subst hpb
            clear hpn
            rw [hai]
            generalize fro a g acc = f at *
            go_wp2_with fail
            refine HT.out.mono ?_
            rintro e w2 ⟨hwb, rfl, hrb⟩
            have HW2 := Lib.hid (HWB.out.trans hwb); have HRB2 := Lib.hid hrb
            have HWr := Lib.hid hwb
            clear hwb hrb
            go_wp2_with fail
            refine (HFr.out w2 HWr.out).mono ?_
            rintro e w3 ⟨rfl, B3⟩
            have HW3 := Lib.hid (HW2.out.trans (wb_below B3))
            have HTx := Lib.hid (HTk.out w3 s3 hs3 (HRB2.out.on B3) (rd_low HR.out HW3.out hlt))
            rw [hpn2] at HTx
            clear B3 hpn2
            go_wp2_with fail
            refine HTx.out.mono ?_
            rintro e w4 ⟨hwb, rfl⟩
            have HW := Lib.hid (HW3.out.trans hwb)
            clear hwb
            go_wp2
            exact ⟨rfl, HW.out, rfl⟩
          · rw [prn_some L a ls m acc s2 g s3 x s4 hpn hpn2] at hpb
            obtain ⟨hx, hs4⟩ := pnum_le hpn2
            clear hpn
            rw [hai] at hfl ⊢
            obtain ⟨f, hf⟩ : ∃ f, fro a g acc = f := ⟨_, rfl⟩
            rw [hf] at hpb HFr hfl
            clear hf
            have HPb := Lib.hid hpb
            have t1 : IntKind.i64.wrap ((ls : Int) + (x : Int)) = (ls : Int) + (x : Int) := IntWalk.i64_in _ (by omega)
            have HZc : Hid (rcs acc ++ [Value.int .i64 f, Value.int .i64 ((ls : Int) + (x : Int))] = rcs (acc ++ [(f, ((ls + x : Nat) : Int))])) := by show _ = _; rw [rcs_append]; rfl
            have HLn : Hid ((acc ++ [(f, ((ls + x : Nat) : Int))]).length = i + 1) := by show _ = _; rw [List.length_append, hai]; rfl
            have HLm : Hid (InLim (acc ++ [(f, ((ls + x : Nat) : Int))])) := inLim_snoc acc HLim.out f _ hfl.1 (by rw [hai]; exact hfl.2) (by omega) (by omega)
            clear hpb hfl
            go_wp2_with fail
            refine HT.out.mono ?_
            rintro e w2 ⟨hwb, rfl, hrb⟩
            have HW2 := Lib.hid (HWB.out.trans hwb); have HRB2 := Lib.hid hrb
            have HWr := Lib.hid hwb
            clear hwb hrb
            go_wp2_with fail
            refine (HFr.out w2 HWr.out).mono ?_
            rintro e w3 ⟨rfl, B3⟩
            have HW3 := Lib.hid (HW2.out.trans (wb_below B3))
            have HWr3 := Lib.hid (HWr.out.trans (wb_below B3))
            have HTx := Lib.hid (HTk.out w3 s3 hs3 (HRB2.out.on B3) (rd_low HR.out HW3.out hlt))
            rw [hpn2] at HTx
            clear B3 hpn2 HWr HRB2
            go_wp2_with fail
            refine HTx.out.mono ?_
            rintro e w4 ⟨hwb, rfl, hrb⟩
            have HW4 := Lib.hid (HW3.out.trans hwb); have HRB4 := Lib.hid hrb
            have hrow := own_wb HRow.out (HWr3.out.trans hwb) hlt
            have hws : w.heap.size ≤ w4.heap.size := HW4.out.size
            clear hwb hrb HRow HT HTx HWr3
            go_wp2_with (at_builtin; refine wpList_append_own _ rfl _ _ 154 rfl w.heap.size 159 i0 (.agg #[.int .i64 0, .int .i64 0]) 2 16 Tryz.underlying154 hi hz0 hz1 hz2 rfl (by decide) _ _ _ rfl (hrow.alloc _) ⟨w4.heap.size, 0, none⟩ 1 1 [.int .i64 f, .int .i64 ((ls : Int) + (x : Int))] rfl rfl (news_row w4 [.int .i64 f, .int .i64 ((ls : Int) + (x : Int))] _) (by simp [Value.oneCell']) (by unfold maxLen; omega) (by omega) (by simp; omega) ?_; intro v' w5 hown' hgrow _; obtain ⟨Av', cv', rfl⟩ := own_sliceT hown')
            rw [HZc.out] at hown'
            have HO3 := Lib.hid hown'
            have hBw : Below w.heap.size w4 w5 := ((Below.refl w.heap.size w4).alloc hws _).trans (grown_low hgrow (hrow.alloc _) (by simp; omega))
            have HWB3 : Hid (WB Q w w5) := HW4.out.then hBw (Nat.le_refl _)
            have HRB3 := Lib.hid (HRB4.out.low hBw hlt)
            clear hown' hgrow hrow hBw
            go_wp2
            go_roundw
            case rel => exact ⟨i + 1, s4, _, hlt2, by go_num, HLn.out, HLm.out, hs4, by rw [show n - (i + 1) = m by omega]; exact HPb.out, by rw [HLn.out]; exact HO3.out, HRB3.out, rd_low HR.out HWB3.out hlt, HWB3.out⟩
            case measure => simp [intOf]; omega
      · have e0 : n - i = 0 := by omega
        rw [e0] at hpb
        have HPb : Hid (o = some (acc, s2)) := hpb.symm
        have HRow := Lib.hid hrow; have HRB := Lib.hid hrb; have HWB := Lib.hid hwb
        clear hpb hrow hrb hrd hwb e0
        generalize hk : acc.length = k at *
        have HK := Lib.hid hk
        clear hk
        go_wp2
        go_ret
        exact ⟨HWB.out, by rw [HPb.out]; exact ⟨⟨_, _, by rw [HK.out]; rfl, by rw [HK.out]; exact HRow.out⟩, HRB.out, hs2, by rw [HK.out]; omega⟩⟩
end
section
set_option maxRecDepth 100000
set_option linter.unusedVariables false
open Go.RowKit Go.Shelf
def IntsO (w : World) (l : List Nat) (err : Int) (e : Ending) (w' : World) : Prop :=
  ∃ A c, e = .returned (.tuple #[.slice A l.length c, .int .i64 err]) ∧ w'.ownsRow w.heap.size 3 1 (.slice A l.length c) l.length (zc (ns l)) ∧ Below w.heap.size w w'
set_option maxHeartbeats 8000000 in
theorem union_own (l1 l2 : List Nat) (n1 n2 : Nat) (hn1 : l1.length = n1) (hn2 : l2.length = n2) (h1 : n1 ≤ 100000) (h2 : n2 ≤ 100000) (M1 : List Nat) (M2 : Int) (hM : un l1 l2 = (M1, M2)) (A1 A2 : Option Addr) (c1 c2 : Nat) (hA1 : A1 = none → c1 = 0) (hA2 : A2 = none → c2 = 0) (w : World) (r1 : RdV w w.heap.size A1 (zc (ns l1))) (r2 : RdV w w.heap.size A2 (zc (ns l2))) :
    Calls Tryz.prog 192 #[.slice A1 n1 c1, .slice A2 n2 c2] w (IntsO w M1 M2) := by
  have hB1 := one_below w (.cells #[.slice A1 n1 c1, .slice A2 n2 c2] 22)
  have HC := Lib.hid (concat_two l1 l2 n1 n2 hn1 hn2 h1 h2 A1 A2 c1 c2 hA1 hA2 w.heap.size (w.alloc (.cells #[.slice A1 n1 c1, .slice A2 n2 c2] 22)) (World.alloc_heap_new _ _) (r1.on hB1) (r2.on hB1))
  have HB1 := Lib.hid hB1
  have HLen : Hid ((l1 ++ l2).length = n1 + n2) := by show _ = _; rw [List.length_append, hn1, hn2]
  have HMM := Lib.hid hM
  have HSz : Hid ((w.alloc (.cells #[.slice A1 n1 c1, .slice A2 n2 c2] 22)).heap.size = w.heap.size + 1) := World.size_alloc _ _
  clear hB1 hM r1 r2 hn1 hn2
  go_enter Tryz.func192, Tryz.ntmps192
  go_wp2_with fail
  refine HC.out.mono ?_
  rintro e w1 ⟨Av, cv, rfl, hr1, hb1⟩
  have HR1 : Hid (w1.ownsRow w.heap.size 3 1 (.slice Av (n1 + n2) cv) (n1 + n2) (zc (ns (l1 ++ l2)))) := own_base hr1 (by rw [HSz.out]; omega)
  have HB : Hid (Below w.heap.size w w1) := HB1.out.trans (hb1.mono (by rw [HSz.out]; omega))
  clear hr1 hb1 HC HB1 HSz
  have hN0 : n1 + n2 ≤ 200000 := by omega
  generalize n1 + n2 = N0 at *
  have HS := Lib.hid (sort_own (l1 ++ l2) N0 HLen.out (by omega) w.heap.size _ _ HR1.out HB.out.size)
  go_wp2_with fail
  refine HS.out.mono ?_
  rintro e w4 ⟨rfl, hr4, hb4⟩
  have HB4 : Hid (Below w.heap.size w w4) := HB.out.trans hb4
  have hl4 : (nso (l1 ++ l2)).length = N0 := by rw [(nso_perm _).length_eq]; exact HLen.out
  have HT := Lib.hid (twice_in (nso (l1 ++ l2)) N0 hl4 (by omega) Av cv w4 (own_rdv hr4))
  have HO4 := Lib.hid hr4
  have HL4 := Lib.hid hl4
  have HM : Hid ((M1, M2) = if tw (nso (l1 ++ l2)) = true then ([], 6) else if 300 < (nso (l1 ++ l2)).length then ([], 2) else (nso (l1 ++ l2), 0)) := HMM.out.symm
  rw [hl4] at HM
  clear hr4 hb4 hl4 HS HR1 HB HMM
  generalize nso (l1 ++ l2) = L at *
  cases htw : tw L with
  | true =>
    rw [htw] at HT HM
    rw [if_pos rfl] at HM
    obtain ⟨rfl, rfl⟩ : M1 = [] ∧ M2 = 6 := by have := HM.out; simpa using this
    clear HM htw
    go_wp2_with fail
    refine HT.out.mono ?_
    rintro e w5 ⟨rfl, B5⟩
    have HB5 := Lib.hid (HB4.out.trans (B5.mono HB4.out.size)); clear B5
    go_wp2
    go_ret2
    exact ⟨none, 0, rfl, ⟨rfl, .inl ⟨rfl, rfl⟩⟩, HB5.out⟩
  | false =>
    rw [htw] at HT HM
    rw [if_neg (by decide)] at HM
    by_cases h3 : 300 < N0
    · rw [if_pos h3] at HM
      obtain ⟨rfl, rfl⟩ : M1 = [] ∧ M2 = 2 := by have := HM.out; simpa using this
      clear HM htw
      go_wp2_with fail
      refine HT.out.mono ?_
      rintro e w5 ⟨rfl, B5⟩
      have HB5 := Lib.hid (HB4.out.trans (B5.mono HB4.out.size)); clear B5
      go_wp2
      go_ret2
      exact ⟨none, 0, rfl, ⟨rfl, .inl ⟨rfl, rfl⟩⟩, HB5.out⟩
    · rw [if_neg h3] at HM
      obtain ⟨rfl, rfl⟩ : M1 = L ∧ M2 = 0 := by have := HM.out; simpa using this
      clear HM htw
      go_wp2_with fail
      refine HT.out.mono ?_
      rintro e w5 ⟨rfl, B5⟩
      have HR5 := Lib.hid (own_keep HO4.out B5)
      have HB5 := Lib.hid (HB4.out.trans (B5.mono HB4.out.size)); clear B5
      go_wp2
      go_ret2
      exact ⟨Av, cv, by rw [HL4.out]; rfl, by rw [HL4.out]; exact HR5.out, HB5.out⟩
set_option maxHeartbeats 8000000 in
theorem merge_eo (r : List Ri) (n1 : Nat) (hn1 : r.length = n1) (hz1 : n1 ≤ 9223372036854775807) (xs : List Int) (n2 : Nat) (hn2 : xs.length = n2) (hz2 : n2 ≤ 9223372036854775807) (h0 : mgE0 r xs ≠ 0) (A1 A2 : Option Addr) (c1 c2 : Nat) (w : World) (h1 : RdV w w.heap.size A1 (rcs r)) (h2 : RdV w w.heap.size A2 (zc xs)) :
    Calls Tryz.prog 189 #[.slice A1 n1 c1, .slice A2 n2 c2] w (IntsO w [] (mgE0 r xs)) := by
  have HC1 := Lib.hid (rnck_any r n1 hn1 hz1 A1 c1 w h1)
  have HC2 : Hid (∀ V, Below w.heap.size w V → Calls Tryz.prog 50 #[.slice A2 n2 c2] V fun e w' => e = .returned (.int .i64 (rchk xs)) ∧ Below V.heap.size V w') := fun V hV => gcheck_any xs n2 hn2 hz2 A2 c2 V (h2.on hV)
  unfold mgE0 at *
  clear h1 h2 hn1 hn2
  by_cases hr : rkchk r = 0
  · rw [if_neg (by simpa using hr)] at *
    rw [hr] at HC1
    generalize rchk xs = e2 at *
    have t0 : (e2 != 0) = true := by simpa using h0
    clear h0 hr
    go_enter Tryz.func189, Tryz.ntmps189
    go_wp2_with fail
    refine HC1.out.mono ?_
    rintro e w1 ⟨rfl, B1⟩
    have HB1 := Lib.hid B1; clear B1
    go_wp2_with fail
    refine (HC2.out w1 HB1.out).mono ?_
    rintro e w2 ⟨rfl, B2⟩
    have HB2 := Lib.hid (HB1.out.trans (B2.mono HB1.out.size)); clear B2
    go_wp2
    go_ret2
    exact ⟨none, 0, rfl, ⟨rfl, .inl ⟨rfl, rfl⟩⟩, HB2.out⟩
  · rw [if_pos hr] at *
    generalize rkchk r = e1 at *
    have t0 : (e1 != 0) = true := by simpa using hr
    clear h0 hr HC2
    go_enter Tryz.func189, Tryz.ntmps189
    go_wp2_with fail
    refine HC1.out.mono ?_
    rintro e w1 ⟨rfl, B1⟩
    have HB1 := Lib.hid B1; clear B1
    go_wp2
    go_ret2
    exact ⟨none, 0, rfl, ⟨rfl, .inl ⟨rfl, rfl⟩⟩, HB1.out⟩
set_option maxHeartbeats 8000000 in
theorem merge_ino (R : List Rn) (hR : OkR R) (M1 : List Nat) (M2 : Int) (n1 : Nat) (hn1 : R.length = n1) (l : List Nat) (hl : Rising l) (hM : mg R l = (M1, M2)) (n2 : Nat) (hn2 : l.length = n2) (A1 A2 : Option Addr) (c1 c2 : Nat) (hA2 : A2 = none → c2 = 0) (w : World) (h1 : RdV w w.heap.size A1 (rcs (rz R))) (h2 : RdV w w.heap.size A2 (zc (ns l))) :
    Calls Tryz.prog 189 #[.slice A1 n1 c1, .slice A2 n2 c2] w (IntsO w M1 M2) := by
  have h300 : n1 ≤ 300 := by have := hR.1; omega
  have h3002 : n2 ≤ 300 := by have := hl.1; omega
  have HC1 : Hid (Calls Tryz.prog 232 #[.slice A1 n1 c1] w fun e w' => e = .returned (.int .i64 0) ∧ Below w.heap.size w w') := by
    have := rnck_any (rz R) n1 (by rw [rz_length, hn1]) (by omega) A1 c1 w h1
    rwa [rkchk_ok R hR] at this
  have HC2 : Hid (∀ V, Below w.heap.size w V → Calls Tryz.prog 50 #[.slice A2 n2 c2] V fun e w' => e = .returned (.int .i64 0) ∧ Below V.heap.size V w') := fun V hV => by
    have := gcheck_any (ns l) n2 (by rw [ns_length, hn2]) (by omega) A2 c2 V (h2.on hV)
    rwa [rchk_ok l hl] at this
  have HFl : Hid (∀ i, i ≤ n1 → (flatR (R.take i)).length ≤ 90000) := fun i hi => by
    have := flat_len (R.take i) (fun p hp => (hR.2.2 p (List.mem_of_mem_take hp)).1)
    have := List.length_take_le i R
    omega
  have HBd : Hid (∀ p ∈ R, p.1 ≤ 1048576 ∧ p.2 ≤ 300) := fun p hp => by have := hR.2.2 p hp; have := sep_pos R _ hR.2.1 p hp; omega
  obtain ⟨i0, hi, hz0, hz1, hz2⟩ := info_parts info3
  have HX1 := Lib.hid h1; have HX2 := Lib.hid h2; have HN1 := Lib.hid hn1; have HN2 := Lib.hid hn2; have HMM := Lib.hid hM
  clear h1 h2 hn1 hn2 hR hl hM
  go_enter Tryz.func189, Tryz.ntmps189
  go_wp2_with fail
  refine HC1.out.mono ?_
  rintro e w1 ⟨rfl, B1⟩
  have HB1 := Lib.hid B1; clear B1
  go_wp2_with fail
  refine (HC2.out w1 HB1.out).mono ?_
  rintro e w2 ⟨rfl, B2⟩
  have HB2 := Lib.hid (HB1.out.trans (B2.mono HB1.out.size)); clear B2 HB1
  go_wp2
  go_loopw [8, 23] (fun v p wr => MgRel R w v p wr) (fun _ p _ => n1 - (intOf p).toNat)
  case atStart => exact ⟨0, Nat.zero_le _, rfl, ⟨rfl, .inl ⟨rfl, rfl⟩⟩, HB2.out⟩
  case round =>
    obtain ⟨i, hi', rfl, hrow, hbel⟩ := hrel
    rw [HN1.out] at hi'
    by_cases hlt : i < n1
    · have hin : i < R.length := by rw [HN1.out]; exact hlt
      obtain ⟨r0, r1⟩ := rcs_at (rz R) i (by rw [rz_length]; exact hin)
      rw [rz_at R i hin] at r0 r1
      obtain ⟨b, off, rfl, hb, k0⟩ := (HX1.out.on hbel).at_ r0
      obtain ⟨b2, off2, hA2', hb2, k1⟩ := (HX1.out.on hbel).at_ r1
      simp only [Option.some.injEq, Addr.mk.injEq, and_true] at hA2'
      obtain ⟨rfl, rfl⟩ := hA2'
      rw [← Nat.add_assoc] at k1
      have hbd := HBd.out _ (mem_at R i hin)
      have htk := take_snocR R i hin
      have hfl := HFl.out i hi'
      generalize R[i]?.getD (0, 0) = x at *
      obtain ⟨f, m⟩ := x
      simp only at k0 k1 hbd
      have HT : Hid (flatR (R.take (i + 1)) = flatR (R.take i) ++ List.range' f m) := by show _ = _; rw [htk, flatR_snoc]; rfl
      have HB := Lib.hid hbel
      have hrow2 := (hrow.alloc (.cells #[.int .i64 (f : Int), .int .i64 (m : Int)] 159)).alloc (.cells #[.int .i64 (f : Int), .int .i64 (m : Int)] 159)
      have hbox2 : ((wr.alloc (.cells #[.int .i64 (f : Int), .int .i64 (m : Int)] 159)).alloc (.cells #[.int .i64 (f : Int), .int .i64 (m : Int)] 159)).heap[wr.heap.size + 1]? = some (.cells #[.int .i64 (f : Int), .int .i64 (m : Int)] 159 (0, 0)) := by
        have := World.alloc_heap_new (wr.alloc (.cells #[.int .i64 (f : Int), .int .i64 (m : Int)] 159)) (.cells #[.int .i64 (f : Int), .int .i64 (m : Int)] 159)
        rwa [World.size_alloc] at this
      obtain ⟨Av, cv, rfl⟩ := own_slice3 hrow
      have HA := Lib.hid (appseq_in f m hbd.1 hbd.2 (wr.heap.size + 1) w.heap.size _ _ (by omega) _ _ hrow2 hbox2 (by have := hbel.size; simp; omega))
      have hb2 : Below w.heap.size w ((wr.alloc (.cells #[.int .i64 (f : Int), .int .i64 (m : Int)] 159)).alloc (.cells #[.int .i64 (f : Int), .int .i64 (m : Int)] 159)) := (hbel.alloc hbel.size _).alloc (by have := hbel.size; simp; omega) _
      have HBB := Lib.hid hb2
      clear hrow hrow2 hbox2 hb2 hbel htk hbd r0 r1
      generalize hk : (flatR (R.take i)).length = k at *
      have HKl := Lib.hid hk; clear hk
      go_wp2_with fail
      refine (callsIn_wide.1 (nums_of 4 _ _ _)).mono ?_
      rintro e w' ⟨rfl, rfl⟩
      go_wp2_with fail
      refine HA.out.mono ?_
      rintro e w3 ⟨v', rfl, hown', hfr⟩
      obtain ⟨Av', cv', rfl⟩ := own_slice3 hown'
      have HO3 := Lib.hid hown'
      have HB3 : Hid (Below w.heap.size w w3) := HBB.out.trans (hfr.below (fun j hj => ⟨.inl hj, by have := HB.out.size; simp; omega⟩))
      clear hown' hfr
      go_wp2
      go_roundw
      case rel => exact ⟨i + 1, by rw [HN1.out]; omega, by go_num, by rw [HT.out, List.length_append, HKl.out, List.length_range', ns_append, zc_append]; exact HO3.out, HB3.out⟩
      case measure => simp [intOf]; omega
    · have e : R.take i = R := List.take_of_length_le (by rw [HN1.out]; omega)
      rw [e] at hrow
      have hfl := HFl.out n1 (Nat.le_refl _)
      rw [List.take_of_length_le (by rw [HN1.out]; omega)] at hfl
      obtain rfl : i = n1 := by omega
      obtain ⟨Av, cv, rfl⟩ := own_slice3 hrow
      have HB0 := Lib.hid hbel
      have hX2 := HX2.out.on hbel
      have HU := Lib.hid (union_own (flatR R) l (flatR R).length n2 rfl HN2.out (by omega) (by omega) M1 M2 HMM.out Av A2 cv c2 (own_none hrow) hA2 wr (own_rdv hrow) hX2)
      clear hbel e hrow hX2 HC1 HC2 HB2
      generalize (flatR R).length = N at *
      go_wp2_with fail
      refine HU.out.mono ?_
      rintro e w3 ⟨A3, c3, rfl, k3, k4⟩
      have HB3 : Hid (Below w.heap.size w w3) := HB0.out.trans (k4.mono HB0.out.size)
      have HR3 := Lib.hid (own_base k3 HB0.out.size)
      clear k3 k4 HU
      go_wp2
      go_ret2
      exact ⟨A3, c3, rfl, HR3.out, HB3.out⟩
theorem merge_own (r : List Ri) (n1 : Nat) (hn1 : r.length = n1) (hz1 : n1 ≤ 9223372036854775807) (xs : List Int) (n2 : Nat) (hn2 : xs.length = n2) (hz2 : n2 ≤ 9223372036854775807) (A1 A2 : Option Addr) (c1 c2 : Nat) (hA2 : A2 = none → c2 = 0) (w : World) (h1 : RdV w w.heap.size A1 (rcs r)) (h2 : RdV w w.heap.size A2 (zc xs)) :
    Calls Tryz.prog 189 #[.slice A1 n1 c1, .slice A2 n2 c2] w (IntsO w (mgA r xs).1 (mgA r xs).2) := by
  by_cases h0 : mgE0 r xs = 0
  · obtain ⟨R, l, rfl, hR, rfl, hl⟩ := mgA_zero r xs h0
    rw [mgA_ok R hR l hl]
    exact merge_ino R hR _ _ n1 (by rw [rz_length] at hn1; exact hn1) l hl rfl n2 (by rw [ns_length] at hn2; exact hn2) A1 A2 c1 c2 hA2 w h1 h2
  · have e : mgA r xs = ([], mgE0 r xs) := by unfold mgA; rw [if_pos h0]
    rw [e]
    exact merge_eo r n1 hn1 hz1 xs n2 hn2 hz2 h0 A1 A2 c1 c2 w h1 h2
set_option maxHeartbeats 8000000 in
theorem pjoin_own (xs : List Int) (n : Nat) (hn : xs.length = n) (hn2 : n ≤ 9223372036854775807) (bs : List Int) (m : Nat) (hm : bs.length = m) (hm2 : m ≤ 9223372036854775807) (ys : List Int) (k : Nat) (hk : ys.length = k) (hk2 : k ≤ 9223372036854775807) (A1 A2 A3 : Option Addr) (c1 c2 c3 : Nat) (hA1 : A1 = none → c1 = 0) (hc1 : n ≤ c1) (hA3 : A3 = none → c3 = 0) (w : World) (h1 : RdV w w.heap.size A1 (zc xs)) (h2 : RdV w w.heap.size A2 (zc bs)) (h3 : RdV w w.heap.size A3 (zc ys)) :
    Calls Tryz.prog 151 #[.slice A1 n c1, .slice A2 m c2, .slice A3 k c3] w (IntsO w (jnA xs bs ys).1 (jnA xs bs ys).2) := by
  have HP := Lib.hid (pcopy_any xs n hn hn2 bs m hm hm2 A1 A2 c1 c2 hA1 hc1 w h1 h2)
  have HC : Hid (∀ V, Below w.heap.size w V → Calls Tryz.prog 50 #[.slice A3 k c3] V fun e w' => e = .returned (.int .i64 (rchk ys)) ∧ Below V.heap.size V w') := fun V hV => gcheck_any ys k hk hk2 A3 c3 V (h3.on hV)
  by_cases hc : cpE xs bs = 0
  · by_cases hr : rchk ys = 0
    · obtain ⟨l, rfl, hl⟩ := rchk_zero ys hr
      have hz : rchk xs = 0 := by
        by_cases hz : rchk xs = 0
        · exact hz
        · unfold cpE at hc; rw [if_pos (by simpa using hz)] at hc; exact hc
      obtain ⟨F, rfl, hF⟩ := rchk_zero xs hz
      have e : jnA (ns F) bs (ns l) = un (cpA (ns F) bs) l := by
        have e1 : jnE (ns F) bs (ns l) = 0 := by unfold jnE; rw [if_neg (by simpa using hc)]; exact hr
        have e2 : cpA (ns F) bs = cp true (tn bs) (tn (ns F)) := by unfold cpA; rw [if_neg (by simpa using hc)]
        unfold jnA
        rw [if_neg (by simpa using e1), ← e2, tn_ns l]
      rw [e]
      rw [ns_length] at hk
      have hcl : (cpA (ns F) bs).length ≤ 300 := by
        unfold cpA
        rw [if_neg (by simpa using hc), tn_ns]
        exact Nat.le_trans (cp_len (tn bs) true F).length_le hF.1
      rw [hc] at HP
      rw [hr] at HC
      generalize hM : cpA (ns F) bs = M at *
      have HU : Hid (∀ A c V, (A = none → c = 0) → RdV V V.heap.size A (zc (ns M)) → Below w.heap.size w V → Calls Tryz.prog 192 #[.slice A M.length c, .slice A3 k c3] V (IntsO V (un M l).1 (un M l).2)) := fun A c V hA hV hb => union_own M l M.length k rfl hk (by omega) (by have := hl.1; omega) _ _ rfl A A3 c c3 hA hA3 V hV (h3.on hb)
      clear h1 h2 h3 hn hm hk e hc hr hM hz
      generalize un M l = U at *
      go_enter Tryz.func151, Tryz.ntmps151
      go_wp2_with fail
      refine HP.out.mono ?_
      rintro e w1 ⟨A, c, rfl, k1, k2, k3, k4⟩
      have HB1 := Lib.hid k4; have HR1 := Lib.hid k3
      clear k3 k4
      go_wp2_with fail
      refine (HC.out w1 HB1.out).mono ?_
      rintro e w2 ⟨rfl, B2⟩
      have HB2 := Lib.hid (HB1.out.trans (B2.mono HB1.out.size))
      have HUu := Lib.hid (HU.out A c w2 k2 (HR1.out.on B2) HB2.out)
      clear B2 HU
      generalize M.length = ml at *
      go_wp2_with fail
      refine HUu.out.mono ?_
      rintro e w3 ⟨A5, c5, rfl, j3, j4⟩
      have HB3 := Lib.hid (HB2.out.trans (j4.mono HB2.out.size)); have HR3 := Lib.hid (own_base j3 HB2.out.size)
      clear j3 j4
      go_wp2
      go_ret2
      exact ⟨_, _, rfl, HR3.out, HB3.out⟩
    · have e : jnA xs bs ys = ([], rchk ys) := by
        have e1 : jnE xs bs ys = rchk ys := by unfold jnE; rw [if_neg (by simpa using hc)]
        unfold jnA
        rw [e1, if_pos (by simpa using hr)]
      rw [e]
      rw [hc] at HP
      generalize rchk ys = er at *
      have t0 : (er != 0) = true := by simpa using hr
      generalize (cpA xs bs) = M at *
      clear h1 h2 h3 hn hm hk e hc hr
      generalize M.length = ml at *
      go_enter Tryz.func151, Tryz.ntmps151
      go_wp2_with fail
      refine HP.out.mono ?_
      rintro e w1 ⟨A, c, rfl, k1, k2, k3, k4⟩
      have HB1 := Lib.hid k4
      clear k3 k4
      go_wp2_with fail
      refine (HC.out w1 HB1.out).mono ?_
      rintro e w2 ⟨rfl, B2⟩
      have HB2 := Lib.hid (HB1.out.trans (B2.mono HB1.out.size))
      clear B2
      go_wp2
      go_ret2
      exact ⟨none, 0, rfl, ⟨rfl, .inl ⟨rfl, rfl⟩⟩, HB2.out⟩
  · have e : jnA xs bs ys = ([], cpE xs bs) := by
      have e1 : jnE xs bs ys = cpE xs bs := by unfold jnE; rw [if_pos (by simpa using hc)]
      unfold jnA
      rw [e1, if_pos (by simpa using hc)]
    rw [e]
    generalize cpE xs bs = er at *
    have t0 : (er != 0) = true := by simpa using hc
    clear h1 h2 h3 hn hm hk e hc HC
    generalize (cpA xs bs) = M at *
    generalize M.length = ml at *
    go_enter Tryz.func151, Tryz.ntmps151
    go_wp2_with fail
    refine HP.out.mono ?_
    rintro e w1 ⟨A, c, rfl, k1, k2, k3, k4⟩
    have HB1 := Lib.hid k4
    clear k3 k4
    go_wp2
    go_ret2
    exact ⟨none, 0, rfl, ⟨rfl, .inl ⟨rfl, rfl⟩⟩, HB1.out⟩
end
end
section
set_option maxRecDepth 100000
set_option linter.unusedVariables false
open Go.RowKit Go.Shelf
def GwP (V : World) (Z : List Bool) (e : Ending) (w' : World) : Prop :=
  ∃ (len : Int) (A : Option Addr) (n c : Nat) (err : Int), e = .returned (.tuple #[.agg #[.int .i64 len, .slice A n c], .int .i64 err]) ∧ Code w' Z len A n c err ∧ Below V.heap.size V w'
theorem gw_any (S : List Nat) (hS : Rising S) (n : Nat) (hn : S.length = n) (a : Nat) (ha : a ≤ 1048576) (k : Nat) (hk : 1 ≤ k) (hk2 : k ≤ 16) (A : Option Addr) (c : Nat) (V : World) (h : RdV V V.heap.size A (zc (ns S))) :
    Calls Tryz.prog 145 #[.slice A n c, .int .i64 (a : Int), .int .i64 (k : Int)] V (GwP V (zets k (gps (a : Int) S))) := by
  have hz : n ≤ 9223372036854775807 := by have := hS.1; omega
  refine (write_any (ns S) n (by rw [ns_length, hn]) hz (a : Int) (k : Int) A c V h S a k rfl hS rfl ha rfl hk hk2).mono ?_
  rintro e w' ⟨A', c', rfl, hr, hb⟩
  refine ⟨_, A', _, c', _, rfl, ?_, hb⟩
  by_cases hl : (zets k (gps (a : Int) S)).length ≤ 8192
  · rw [if_pos hl] at hr ⊢
    rw [if_pos hl]
    exact .inl ⟨hl, rfl, rfl, hr, rfl⟩
  · exact .inr ⟨by omega, by rw [if_neg hl]⟩
theorem rdv_low {w w' : World} {P : Nat} {A : Option Addr} {vs : List Value} (h : RdV w P A vs) (hb : WB P w w') (hP : P < w.heap.size) : RdV w' P A vs := h.below (hb.low (Nat.le_refl _) hP) (Nat.le_refl _)
theorem rdv_up {w : World} {P : Nat} {A : Option Addr} {vs : List Value} (h : RdV w P A vs) (hP : P ≤ w.heap.size) : RdV w w.heap.size A vs := h.below (Below.refl _ _) hP
theorem rest_nil (a ls k : Nat) : restB a ls k [] = [] := rfl
set_option maxHeartbeats 16000000 in
theorem addList_any (P : Nat) (l0 : List Bool) (a : Nat) (ha : a ≤ 1048576) (l F : List Nat) (hl : Rising l) (bk ls k : Nat) (hF : bk ≠ 0 → Rising F) (hls : ls = 0 ∨ 2 ≤ ls ∧ ls ≤ 300) (hbk : bk ≤ 7) (hk : 1 ≤ k) (hk2 : k ≤ 16) (m n : Nat) (hm : l.length = m) (A2 A1 : Option Addr) (c2 c1 : Nat) (hc2 : m ≤ c2) (w : World) (hW : WC w P l0) (h2 : RdV w P A2 (zc (ns l))) (h1 : bk ≠ 0 → F.length = n ∧ RdV w P A1 (zc (ns F))) :
    Calls Tryz.prog 98 #[.pointer (some ⟨P, 0, none⟩), .int .i64 (a : Int), .slice A2 m c2, .slice A1 n c1, .agg #[.int .i64 (bk : Int), .int .i64 (ls : Int), .int .i64 (k : Int)]] w (AddP P w (l0 ++ sbits a bk ls k l F)) := by
  have hP := hW.lt
  obtain ⟨V0, hV⟩ : ∃ V0, w.alloc (.cells #[.int .i64 (bk : Int), .int .i64 (ls : Int), .int .i64 (k : Int)] 24) = V0 := ⟨_, rfl⟩
  have hB0 : Below w.heap.size w V0 := hV ▸ one_below w _
  have hBx : V0.heap[w.heap.size]? = some (.cells #[.int .i64 (bk : Int), .int .i64 (ls : Int), .int .i64 (k : Int)] 24 (0, 0)) := hV ▸ World.alloc_heap_new w _
  have hz : w.heap.size < V0.heap.size := (Array.getElem?_eq_some_iff.1 hBx).1
  have HBx : Hid (∀ V, WB P w V → w.heap.size < V.heap.size → V.heap[w.heap.size]? = V0.heap[w.heap.size]? → V.cell? ⟨w.heap.size, 0, none⟩ = some (.int .i64 (bk : Int)) ∧ V.cell? ⟨w.heap.size, 1, none⟩ = some (.int .i64 (ls : Int)) ∧ V.cell? ⟨w.heap.size, 2, none⟩ = some (.int .i64 (k : Int))) := fun V _ _ h => by
    rw [hBx] at h
    exact ⟨(cell_at h _).trans rfl, (cell_at h _).trans rfl, (cell_at h _).trans rfl⟩
  have hm300 : m ≤ 300 := by rw [← hm]; exact hl.1
  have HA0 := Lib.hid (addNumber_any P l0 m (by omega) V0 (hW.on hB0))
  have HRd2 : Hid (∀ V, WB P w V → RdV V P A2 (zc (ns l))) := fun V hV => rdv_low h2 hV hP
  have HRd1 : Hid (bk ≠ 0 → ∀ V, WB P w V → RdV V P A1 (zc (ns F))) := fun hb V hV => rdv_low (h1 hb).2 hV hP
  have HFn : Hid (bk ≠ 0 → F.length = n) := fun hb => (h1 hb).1
  have HFr := Lib.hid hF; have HLr := Lib.hid hl; have HLm := Lib.hid hm
  have HB0 := Lib.hid hB0; have HV := Lib.hid hV; have Hz := Lib.hid hz
  have HGW : Hid (∀ (S : List Nat) (nS : Nat) A c V, Rising S → S.length = nS → RdV V V.heap.size A (zc (ns S)) → Calls Tryz.prog 145 #[.slice A nS c, .int .i64 (a : Int), .int .i64 (k : Int)] V (GwP V (zets k (gps (a : Int) S)))) := fun S nS A c V hS hn h => gw_any S hS nS hn a ha k hk hk2 A c V h
  have HSb : Hid (sbits a bk ls k l F = gam m ++ if l = [] then [] else bksB bk F l ++ restB a ls k (bksR bk F l)) := by show _ = _; rw [← hm]; rfl
  clear hW h2 h1 hF hl hm hBx hB0
  generalize sbits a bk ls k l F = SB at *
  by_cases hm0 : m = 0
  · have e : l = [] := List.eq_nil_of_length_eq_zero (by rw [HLm.out]; exact hm0)
    rw [if_pos e, List.append_nil] at HSb
    have t0 : ((m : Int) == 0) = true := by simp; omega
    have Hm0 := Lib.hid hm0
    clear hm0 e
    go_enter Tryz.func98, Tryz.ntmps98
    go_wp2_with fail
    refine HA0.out.mono ?_
    rintro e w1 ⟨rfl, hw, hb⟩
    have HW1 : Hid (WC w1 P (l0 ++ SB)) := by show WC _ _ _; rw [HSb.out]; exact hw
    have HB1 : Hid (WB P w w1) := (wb_below HB0.out).trans hb
    clear hw hb
    go_wp2
    go_end0
    exact ⟨rfl, HW1.out, HB1.out⟩
  · have e : l ≠ [] := fun h => hm0 (by rw [← HLm.out, h]; rfl)
    rw [if_neg e] at HSb
    have t0 : ((m : Int) == 0) = false := by simp; omega
    clear e
    by_cases hb0 : bk = 0
    · have u0 : ((bk : Int) != 0) = false := by simp; omega
      have eB : bksB bk F l = [] := by unfold bksB; rw [if_pos hb0]
      have eR : bksR bk F l = l := by unfold bksR; rw [if_pos hb0]
      rw [eB, eR, List.nil_append] at HSb
      clear eB eR hm0 hb0
      go_enter Tryz.func98, Tryz.ntmps98
      go_wp2_with fail
      refine HA0.out.mono ?_
      rintro e v ⟨rfl, hw, hb⟩
      obtain ⟨p0, p1, p2⟩ := HBx.out v ((wb_below HB0.out).trans hb) (Nat.lt_of_lt_of_le hz hb.size) (hb.block _ hz (by simp; omega))
      have HWv : Hid (WC v P (l0 ++ gam m)) := hw
      have HBv : Hid (WB P w v) := (wb_below HB0.out).trans hb
      have HPv : Hid (P < v.heap.size ∧ w.heap.size < v.heap.size) := by have := hb.size; exact ⟨by omega, by omega⟩
      have HRv : Hid (RdV v v.heap.size A2 (zc (ns l))) := rdv_up (HRd2.out v HBv.out) (Nat.le_of_lt HPv.out.1)
      have HEq : Hid (l0 ++ SB = l0 ++ gam m ++ restB a ls k l) := by show _ = _; rw [HSb.out, List.append_assoc]
      have hx : v.heap[w.heap.size]? = V0.heap[w.heap.size]? := hb.block _ hz (by simp; omega)
      have HX := Lib.hid hx
      have HRi : Hid (Rising l) := HLr.out
      have HLn : Hid (l.length = m) := HLm.out
      clear hw hb hx
      by_cases hq0 : m = 0
      · have e : l = [] := List.eq_nil_of_length_eq_zero (by rw [HLn.out]; exact hq0)
        have t1 : ((m : Int) == 0) = true := by simp; omega
        have HEq2 : Hid (l0 ++ SB = l0 ++ gam m) := by show _ = _; rw [HEq.out, e, rest_nil, List.append_nil]
        clear e hq0
        rw [t0] at t1
        exact absurd t1 (by decide)
      · have e : l ≠ [] := fun h => hq0 (by rw [← HLn.out, h]; rfl)
        have t1 : ((m : Int) == 0) = false := by simp; omega
        by_cases hl0 : ls = 0
        · have u1 : ((ls : Int) != 0) = false := by simp; omega
          have HEq2 : Hid (l0 ++ SB = l0 ++ gam m ++ zets k (gps (a : Int) l)) := by
            show _ = _
            rw [HEq.out]; unfold restB runB rsS
            rw [if_neg e, if_pos hl0, if_pos hl0, List.nil_append]
          have HG := Lib.hid (HGW.out l m A2 c2 v HRi.out HLn.out HRv.out)
          clear e hq0 hl0
          generalize zets k (gps (a : Int) l) = Z at *
          go_wp2_with fail
          refine HG.out.mono ?_
          rintro e v2 ⟨len, A3, n3, c3, err, rfl, hco, hb2⟩
          have HAd := Lib.hid (add_any P _ Z len A3 n3 c3 err v2 (HWv.out.on hb2) hco)
          have HB2 := Lib.hid hb2
          clear hco hb2
          go_wp2_with fail
          refine HAd.out.mono ?_
          rintro e v3 ⟨rfl, hw, hb⟩
          have HW3 : Hid (WC v3 P (l0 ++ SB)) := by show WC _ _ _; rw [HEq2.out]; exact hw
          have HB3 : Hid (WB P w v3) := (HBv.out.trans (wb_below HB2.out)).trans hb
          clear hw hb
          go_wp2
          go_end0
          exact ⟨rfl, HW3.out, HB3.out⟩
        · have u1 : ((ls : Int) != 0) = true := by simp; omega
          have hls' : 2 ≤ ls ∧ ls ≤ 300 := by omega
          have HAR := Lib.hid (addRuns_any P (l0 ++ gam m) a ha l HRi.out m HLn.out ls hls'.1 hls'.2 A2 c2 hc2 v HWv.out HRv.out)
          have HEq2 : Hid (l0 ++ SB = l0 ++ gam m ++ (gam (lng ls (rs l)).length ++ gams (rnu (a : Int) ls (lng ls (rs l)))) ++ zets k (gps (a : Int) (flatR (sht ls (rs l))))) := by
            show _ = _
            rw [HEq.out]; unfold restB runB rsS rsR
            rw [if_neg e, if_neg hl0, if_neg hl0, if_neg hl0]
            simp only [List.append_assoc]
          have HRs : Hid (Rising (flatR (sht ls (rs l)))) := sht_rising ls l HRi.out
          clear e hq0 hl0
          generalize gam (lng ls (rs l)).length ++ gams (rnu (a : Int) ls (lng ls (rs l))) = RR at *
          generalize flatR (sht ls (rs l)) = S at *
          go_wp2_with fail
          refine HAR.out.mono ?_
          rintro e v2 ⟨⟨A4, c4, rfl, hown4⟩, hw, hb⟩
          have hx2 : v2.heap[w.heap.size]? = V0.heap[w.heap.size]? := (hb.block _ HPv.out.2 (by simp; omega)).trans HX.out
          obtain ⟨p0', p1', p2'⟩ := HBx.out v2 (HBv.out.trans hb) (Nat.lt_of_lt_of_le HPv.out.2 hb.size) hx2
          have HG := Lib.hid (HGW.out S S.length A4 c4 v2 HRs.out rfl (own_rdv hown4))
          have HW2 := Lib.hid hw
          have HB2 : Hid (WB P w v2) := HBv.out.trans hb
          clear hx2 hw hb hown4 p0 p1 p2
          generalize S.length = ql at *
          generalize zets k (gps (a : Int) S) = Z at *
          go_wp2_with fail
          refine HG.out.mono ?_
          rintro e v3 ⟨len, A3, n3, c3, err, rfl, hco, hb3⟩
          have HAd := Lib.hid (add_any P _ Z len A3 n3 c3 err v3 (HW2.out.on hb3) hco)
          have HB3 := Lib.hid hb3
          clear hco hb3
          go_wp2_with fail
          refine HAd.out.mono ?_
          rintro e v4 ⟨rfl, hw, hb⟩
          have HW4 : Hid (WC v4 P (l0 ++ SB)) := by show WC _ _ _; rw [HEq2.out]; exact hw
          have HB4 : Hid (WB P w v4) := (HB2.out.trans (wb_below HB3.out)).trans hb
          clear hw hb
          go_wp2
          go_end0
          exact ⟨rfl, HW4.out, HB4.out⟩
    · have u0 : ((bk : Int) != 0) = true := by simp; omega
      have eB : bksB bk F l = gam (bks F l).length ++ gams (bnums (bks F l)) := by unfold bksB; rw [if_neg hb0]
      have eR : bksR bk F l = notin F l := by unfold bksR; rw [if_neg hb0]
      rw [eB, eR] at HSb
      have hF := HFr.out hb0
      have hR1 := HRd1.out hb0
      have hFn := HFn.out hb0
      have HAB : Hid (∀ V, WB P w V → P < V.heap.size → WC V P (l0 ++ gam m) → Calls Tryz.prog 142 #[.pointer (some ⟨P, 0, none⟩), .slice A1 n c1, .slice A2 m c2] V (AddLP P V (l0 ++ gam m ++ (gam (bks F l).length ++ gams (bnums (bks F l)))) (notin F l))) := fun V hV hPV hw => addBlocks_any P _ F l hF HLr.out n m hFn HLm.out A1 A2 c1 c2 V hw (rdv_up (hR1 V hV) (Nat.le_of_lt hPV)) (rdv_up (HRd2.out V hV) (Nat.le_of_lt hPV))
      have HRi : Hid (Rising (notin F l)) := notin_rising F l HLr.out
      have hml : (notin F l).length ≤ 300 := HRi.out.1
      clear eB eR hm0 hb0 hF hR1 hFn
      generalize gam (bks F l).length ++ gams (bnums (bks F l)) = BB at *
      generalize notin F l = r at *
      go_enter Tryz.func98, Tryz.ntmps98
      go_wp2_with fail
      refine HA0.out.mono ?_
      rintro e v1 ⟨rfl, hw, hb⟩
      obtain ⟨p0, p1, p2⟩ := HBx.out v1 ((wb_below HB0.out).trans hb) (Nat.lt_of_lt_of_le hz hb.size) (hb.block _ hz (by simp; omega))
      have HB1 : Hid (WB P w v1) := (wb_below HB0.out).trans hb
      have hP1 : P < v1.heap.size := by have := hb.size; omega
      have hz1 : w.heap.size < v1.heap.size := by have := hb.size; omega
      have HAB1 := Lib.hid (HAB.out v1 HB1.out hP1 hw)
      have hx1 : v1.heap[w.heap.size]? = V0.heap[w.heap.size]? := hb.block _ hz (by simp; omega)
      have HX1 := Lib.hid hx1
      clear hw hb hx1
      go_wp2_with fail
      refine HAB1.out.mono ?_
      rintro e v ⟨⟨Ar, cr, rfl, hown⟩, hw, hb⟩
      have hx : v.heap[w.heap.size]? = V0.heap[w.heap.size]? := (hb.block _ hz1 (by simp; omega)).trans HX1.out
      obtain ⟨p0, p1, p2⟩ := HBx.out v (HB1.out.trans hb) (Nat.lt_of_lt_of_le hz1 hb.size) hx
      have HWv : Hid (WC v P (l0 ++ gam m ++ BB)) := hw
      have HBv : Hid (WB P w v) := HB1.out.trans hb
      have HPv : Hid (P < v.heap.size ∧ w.heap.size < v.heap.size) := by have := hb.size; exact ⟨by omega, by omega⟩
      have HRv : Hid (RdV v v.heap.size Ar (zc (ns r))) := own_rdv hown
      have HEq : Hid (l0 ++ SB = l0 ++ gam m ++ BB ++ restB a ls k r) := by show _ = _; rw [HSb.out]; simp only [List.append_assoc]
      have HX := Lib.hid hx
      have hcr := own_cap hown
      clear hw hb hx hown
      generalize hq : r.length = q at *
      have HLn : Hid (r.length = q) := hq
      clear hq
      by_cases hq0 : q = 0
      · have e : r = [] := List.eq_nil_of_length_eq_zero (by rw [HLn.out]; exact hq0)
        have t1 : ((q : Int) == 0) = true := by simp; omega
        have HEq2 : Hid (l0 ++ SB = l0 ++ gam m ++ BB) := by show _ = _; rw [HEq.out, e, rest_nil, List.append_nil]
        clear e hq0
        go_wp2
        go_end0
        exact ⟨rfl, by rw [HEq2.out]; exact HWv.out, HBv.out⟩
      · have e : r ≠ [] := fun h => hq0 (by rw [← HLn.out, h]; rfl)
        have t1 : ((q : Int) == 0) = false := by simp; omega
        by_cases hl0 : ls = 0
        · have u1 : ((ls : Int) != 0) = false := by simp; omega
          have HEq2 : Hid (l0 ++ SB = l0 ++ gam m ++ BB ++ zets k (gps (a : Int) r)) := by
            show _ = _
            rw [HEq.out]; unfold restB runB rsS
            rw [if_neg e, if_pos hl0, if_pos hl0, List.nil_append]
          have HG := Lib.hid (HGW.out r q Ar cr v HRi.out HLn.out HRv.out)
          clear e hq0 hl0
          generalize zets k (gps (a : Int) r) = Z at *
          go_wp2_with fail
          refine HG.out.mono ?_
          rintro e v2 ⟨len, A3, n3, c3, err, rfl, hco, hb2⟩
          have HAd := Lib.hid (add_any P _ Z len A3 n3 c3 err v2 (HWv.out.on hb2) hco)
          have HB2 := Lib.hid hb2
          clear hco hb2
          go_wp2_with fail
          refine HAd.out.mono ?_
          rintro e v3 ⟨rfl, hw, hb⟩
          have HW3 : Hid (WC v3 P (l0 ++ SB)) := by show WC _ _ _; rw [HEq2.out]; exact hw
          have HB3 : Hid (WB P w v3) := (HBv.out.trans (wb_below HB2.out)).trans hb
          clear hw hb
          go_wp2
          go_end0
          exact ⟨rfl, HW3.out, HB3.out⟩
        · have u1 : ((ls : Int) != 0) = true := by simp; omega
          have hls' : 2 ≤ ls ∧ ls ≤ 300 := by omega
          have HAR := Lib.hid (addRuns_any P (l0 ++ gam m ++ BB) a ha r HRi.out q HLn.out ls hls'.1 hls'.2 Ar cr hcr v HWv.out HRv.out)
          have HEq2 : Hid (l0 ++ SB = l0 ++ gam m ++ BB ++ (gam (lng ls (rs r)).length ++ gams (rnu (a : Int) ls (lng ls (rs r)))) ++ zets k (gps (a : Int) (flatR (sht ls (rs r))))) := by
            show _ = _
            rw [HEq.out]; unfold restB runB rsS rsR
            rw [if_neg e, if_neg hl0, if_neg hl0, if_neg hl0]
            simp only [List.append_assoc]
          have HRs : Hid (Rising (flatR (sht ls (rs r)))) := sht_rising ls r HRi.out
          clear e hq0 hl0
          generalize gam (lng ls (rs r)).length ++ gams (rnu (a : Int) ls (lng ls (rs r))) = RR at *
          generalize flatR (sht ls (rs r)) = S at *
          go_wp2_with fail
          refine HAR.out.mono ?_
          rintro e v2 ⟨⟨A4, c4, rfl, hown4⟩, hw, hb⟩
          have hx2 : v2.heap[w.heap.size]? = V0.heap[w.heap.size]? := (hb.block _ HPv.out.2 (by simp; omega)).trans HX.out
          obtain ⟨p0', p1', p2'⟩ := HBx.out v2 (HBv.out.trans hb) (Nat.lt_of_lt_of_le HPv.out.2 hb.size) hx2
          have HG := Lib.hid (HGW.out S S.length A4 c4 v2 HRs.out rfl (own_rdv hown4))
          have HW2 := Lib.hid hw
          have HB2 : Hid (WB P w v2) := HBv.out.trans hb
          clear hx2 hw hb hown4 p0 p1 p2
          generalize S.length = ql at *
          generalize zets k (gps (a : Int) S) = Z at *
          go_wp2_with fail
          refine HG.out.mono ?_
          rintro e v3 ⟨len, A3, n3, c3, err, rfl, hco, hb3⟩
          have HAd := Lib.hid (add_any P _ Z len A3 n3 c3 err v3 (HW2.out.on hb3) hco)
          have HB3 := Lib.hid hb3
          clear hco hb3
          go_wp2_with fail
          refine HAd.out.mono ?_
          rintro e v4 ⟨rfl, hw, hb⟩
          have HW4 : Hid (WC v4 P (l0 ++ SB)) := by show WC _ _ _; rw [HEq2.out]; exact hw
          have HB4 : Hid (WB P w v4) := (HB2.out.trans (wb_below HB3.out)).trans hb
          clear hw hb
          go_wp2
          go_end0
          exact ⟨rfl, HW4.out, HB4.out⟩
end
section
set_option maxRecDepth 100000
set_option linter.unusedVariables false
open Go.RowKit Go.Shelf
def TlP (Q : Nat) (L : List Bool) (A : Option Addr) (c : Nat) (w : World) (o : Option (List Nat × Nat)) (e : Ending) (w' : World) : Prop :=
  WB Q w w' ∧ match o with
    | none => Bad e
    | some (l, s) => (∃ A1 c1, e = .returned (.slice A1 l.length c1) ∧ w'.ownsRow w.heap.size 3 1 (.slice A1 l.length c1) l.length (zc (ns l))) ∧ RB w' Q L A c s
theorem mgA_le {r : List Ri} {xs : List Int} {N1 : List Nat} {N2 : Int} (h : mgA r xs = (N1, N2)) : N1.length ≤ 300 := by
  unfold mgA mg at h
  simp only at h
  split at h
  · simp only [Prod.mk.injEq] at h; rw [← h.1]; simp
  · split at h
    · simp only [Prod.mk.injEq] at h; rw [← h.1]; simp
    · split at h
      · simp only [Prod.mk.injEq] at h; rw [← h.1]; simp
      · simp only [Prod.mk.injEq] at h; rw [← h.1]; omega
theorem rdG_len0 (L : List Bool) (k a : Nat) : ∀ (d : Nat) (acc : List Nat) (s : Nat), (rdG L k a d acc s).1.length ≤ acc.length + d
  | 0, acc, s => by simp [rdG]
  | d + 1, acc, s => by
    rw [rdG_succ]
    split
    · simp
    · split
      · simp
      · have := rdG_len0 L k a d (acc ++ [(el acc (zetR L s k).1 a).toNat]) (zetR L s k).2.1
        rw [List.length_append] at this
        simp only [List.length_singleton] at this
        omega
theorem rdG_len {L : List Bool} {k a d s : Nat} {R : List Nat} {to : Nat} {er : Int} (h : rdG L k a d [] s = (R, to, er)) (hd : d ≤ 300) : R.length ≤ 9223372036854775807 := by
  have := rdG_len0 L k a d [] s
  rw [h] at this
  simp only [List.length_nil] at this
  omega
def restT (L : List Bool) (a k : Nat) (many : Int) (r : List Ri) (s1 : Nat) : Option (List Nat × Nat) :=
    if (mgA r []).2 ≠ 0 then none else if many - ((mgA r []).1.length : Int) < 0 then none else
    if (rdG L k a (many - ((mgA r []).1.length : Int)).toNat [] s1).2.2 ≠ 0 then none else
    if (mgA r (ns (rdG L k a (many - ((mgA r []).1.length : Int)).toNat [] s1).1)).2 ≠ 0 then none else
    some ((mgA r (ns (rdG L k a (many - ((mgA r []).1.length : Int)).toNat [] s1).1)).1, (rdG L k a (many - ((mgA r []).1.length : Int)).toNat [] s1).2.1)
theorem prest_T (L : List Bool) (a ls k : Nat) (many : Int) (s : Nat) (h : many ≠ 0) : prest L a ls k many s = match (if ls = 0 then some ([], s) else pruns L a ls s) with | none => none | some (r, s1) => restT L a k many r s1 := by
  unfold prest
  rw [if_neg h]
  rfl
set_option maxHeartbeats 16000000 in
theorem take_rest (L : List Bool) (hL : L.length ≤ 8192) (A : Option Addr) (c Q s : Nat) (hs : s ≤ L.length) (a bk ls k : Nat) (ha : a ≤ 1048576) (hls : ls = 0 ∨ 2 ≤ ls ∧ ls ≤ 300) (hk : 1 ≤ k) (hk2 : k ≤ 16) (many : Int) (hm1 : -1000000 ≤ many) (hm2 : many ≤ 300) (w : World) (hQ : RB w Q L A c s) (hR : Rd w Q A (pack L)) :
    Calls Tryz.prog 147 #[.pointer (some ⟨Q, 0, none⟩), .int .i64 many, .int .i64 (a : Int), .agg #[.int .i64 (bk : Int), .int .i64 (ls : Int), .int .i64 (k : Int)]] w (TlP Q L A c w (prest L a ls k many s)) := by
  have hlt := hQ.lt
  obtain ⟨V0, hV⟩ : ∃ V0, w.alloc (.cells #[.int .i64 (bk : Int), .int .i64 (ls : Int), .int .i64 (k : Int)] 24) = V0 := ⟨_, rfl⟩
  have hB0 : Below w.heap.size w V0 := hV ▸ one_below w _
  have hBx : V0.heap[w.heap.size]? = some (.cells #[.int .i64 (bk : Int), .int .i64 (ls : Int), .int .i64 (k : Int)] 24 (0, 0)) := hV ▸ World.alloc_heap_new w _
  have hz : w.heap.size < V0.heap.size := (Array.getElem?_eq_some_iff.1 hBx).1
  have HRB0 := Lib.hid (hQ.on hB0)
  have HR0 := Lib.hid (rd_low hR (wb_below hB0 : WB Q w V0) hlt)
  have HB0 := Lib.hid hB0
  have HBx : Hid (∀ V : World, V.heap[w.heap.size]? = some (.cells #[.int .i64 (bk : Int), .int .i64 (ls : Int), .int .i64 (k : Int)] 24 (0, 0)) → V.cell? ⟨w.heap.size, 2, none⟩ = some (.int .i64 (k : Int))) := fun V h => by
    exact (cell_at h _).trans rfl
  have HR := Lib.hid hR
  have p1 : V0.cell? ⟨w.heap.size, 1, none⟩ = some (.int .i64 (ls : Int)) := (cell_at hBx _).trans rfl
  have HCh : Hid (∀ V, Rd V V.heap.size A (pack L) → Calls Tryz.prog 53 #[.agg #[.int .i64 (L.length : Int), .slice A (pack L).length c]] V fun e w' => e = .returned (.int .i64 (chk (L.length : Int) (pack L))) ∧ Below V.heap.size V w') := fun V hV => by
    rw [chk_pack L hL]; exact check_l L hL A c V hV
  have HBc := Lib.hid hBx
  clear hQ hR hB0 hBx
  by_cases h0 : many = 0
  · subst h0
    have HP : Hid (prest L a ls k 0 s = some ([], s)) := rfl
    generalize prest L a ls k 0 s = o at *
    go_enter Tryz.func147, Tryz.ntmps147
    go_wp2
    go_ret
    exact ⟨wb_below HB0.out, by rw [HP.out]; exact ⟨⟨none, 0, rfl, ⟨rfl, .inl ⟨rfl, rfl⟩⟩⟩, HRB0.out⟩⟩
  · have t0 : (many == 0) = false := by simpa using h0
    have HP := Lib.hid (prest_T L a ls k many s h0)
    generalize prest L a ls k many s = o at *
    clear h0
    by_cases hl0 : ls = 0
    · have u1 : ((ls : Int) != 0) = false := by simp; omega
      rw [if_pos hl0] at HP
      clear hl0 hls
      have HPt : Hid (o = restT L a k many [] s) := HP.out
      clear HP
      rcases hN : mgA ([] : List Ri) [] with ⟨N1, N2⟩
      unfold restT at HPt
      rw [hN] at HPt
      simp only at HPt
      by_cases hN2 : N2 = 0
      · subst hN2
        rw [if_neg (by simp)] at HPt
        have hN1 : N1.length ≤ 300 := mgA_le hN
        by_cases hd : many - (N1.length : Int) < 0
        · rw [if_pos hd] at HPt
          obtain ⟨d, hd2⟩ : ∃ d, many - (N1.length : Int) = d := ⟨_, rfl⟩
          rw [hd2] at hd
          have t1 : IntKind.i64.wrap (many - (N1.length : Int)) = d := by rw [hd2]; exact IntWalk.i64_in _ (by omega)
          clear hd2
          go_enter Tryz.func147, Tryz.ntmps147
          have HRo : Hid (V0.ownsRow w.heap.size 159 2 (.slice none 0 0) 0 (rcs [])) := ⟨rfl, .inl ⟨rfl, rfl⟩⟩
          have HRBx := HRB0
          have HWBx := Lib.hid (wb_below HB0.out : WB Q w V0)
          have hxx := HBc
          have hsx := hs
          have hnr : (0 : Nat) ≤ 300 := by omega
          have hzx := hz
          have HCn := Lib.hid (count_any ([] : List Ri) 0 rfl (by omega) N1 0 hN none 0 V0 (own_rdvT HRo.out))
          go_wp2_with fail
          refine HCn.out.mono ?_
          rintro e x2 ⟨rfl, B2⟩
          have HRo2 := Lib.hid (own_below HRo.out B2)
          have HRB2 := Lib.hid (HRBx.out.on B2)
          have HWB2 := Lib.hid (HWBx.out.trans (wb_below B2))
          have hx2 : Hid (x2.heap[w.heap.size]? = some (.cells #[.int .i64 (bk : Int), .int .i64 (ls : Int), .int .i64 (k : Int)] 24 (0, 0))) := (B2.block _ hzx).trans hxx.out
          have hz2 : w.heap.size < x2.heap.size := Nat.lt_of_lt_of_le hzx B2.size
          have Hz2 := Lib.hid hz2
          clear B2 hxx hzx HCn
          have HCk : Hid (∀ V, Below x2.heap.size x2 V → V.cell? ⟨Q, 0, none⟩ = some (.int .i64 (L.length : Int)) ∧ V.cell? ⟨Q, 1, none⟩ = some (.slice A (pack L).length c) ∧ V.cell? ⟨Q, 2, none⟩ = some (.int .i64 (s : Int)) ∧ V.cell? ⟨w.heap.size, 2, none⟩ = some (.int .i64 (k : Int))) := fun V hV => by
            have h := HRB2.out.on hV
            exact ⟨(cell_at h _).trans rfl, (cell_at h _).trans rfl, (cell_at h _).trans rfl, HBx.out V ((hV.block _ Hz2.out).trans hx2.out)⟩
          have HRr : Hid (∀ V, Below x2.heap.size x2 V → Rd V V.heap.size A (pack L)) := fun V hV => (rd_low HR.out HWB2.out hlt).below (hV.mono (Nat.le_of_lt HRB2.out.lt)) (Nat.le_trans (Nat.le_of_lt HRB2.out.lt) hV.size)
          have HG : Hid (∀ V, Below x2.heap.size x2 V → Calls Tryz.prog 188 #[.agg #[.int .i64 (L.length : Int), .slice A (pack L).length c], .int .i64 (s : Int), .int .i64 (a : Int), .int .i64 (k : Int), .int .i64 d] V (RdP V [] 0 3)) := fun V hV => gread_bad _ A c _ _ _ _ _ _ V (HRr.out V hV) 3 (by
            unfold rdE
            rw [chk_pack L hL, okN_nat a ha, okK_nat k hk hk2]
            simp [rgE]; omega) (by decide) HCh
          clear hx2 hz2
          go_wp2_with fail
          refine (ion_t _).mono ?_
          rintro e w' ⟨rfl, rfl⟩
          obtain ⟨k0, k1, k2, k3⟩ := HCk.out x2 (Below.refl _ _)
          go_wp2_with fail
          rename_i hKK
          have HKK := Lib.hid hKK
          clear hKK
          go_region_held3 (fun w' => w'.cell? ⟨Q, 0, none⟩ = some (.int .i64 (L.length : Int)) ∧ w'.cell? ⟨Q, 1, none⟩ = some (.slice A (pack L).length c) ∧ w'.cell? ⟨Q, 2, none⟩ = some (.int .i64 (s : Int)) ∧ w'.cell? ⟨w.heap.size, 2, none⟩ = some (.int .i64 (k : Int)))
            ((refine HCk.out _ ?_; first | exact hk1.out | exact (Below.refl _ _).drew | exact Below.refl _ _))
            ((go_at_call 188; refine (HG.out x2.drew (Below.refl _ _).drew).mono ?_; rintro e x3 ⟨A3, c3, rfl, q1, q2, r3, B3⟩; have hk1 : Hid (Below x2.heap.size x2 x3) := ((Below.refl _ x2).drew).trans B3; clear B3 r3 q1 q2))
          clear k0 k1 k2 k3
          refine HKK.out _ _ ?_
          clear HKK
          go_wp2_with fail
          refine (ion_f 3 (by decide) _).mono ?_
          rintro e w' ⟨rfl, rfl⟩
          go_wp2
          exact ⟨rfl, HWB2.out.trans (wb_below hk1.out), by rw [HPt.out]; rfl⟩
        · rw [if_neg hd] at HPt
          obtain ⟨d, hd2⟩ : ∃ d : Nat, (many - (N1.length : Int)).toNat = d := ⟨_, rfl⟩
          have hd3 : many - (N1.length : Int) = (d : Int) := by omega
          rw [hd2] at HPt
          have t1 : IntKind.i64.wrap (many - (N1.length : Int)) = (d : Int) := by rw [hd3]; exact IntWalk.i64_in _ (by omega)
          have hd4 : d ≤ 300 := by omega
          clear hd hd2 hd3
          rcases hG : rdG L k a d [] s with ⟨RG, to, er⟩
          rw [hG] at HPt
          simp only at HPt
          by_cases he : er = 0
          · subst he
            rw [if_neg (by simp)] at HPt
            rcases hM : mgA ([] : List Ri) (ns RG) with ⟨M1, M2⟩
            rw [hM] at HPt
            simp only at HPt
            have hRGl : RG.length ≤ 9223372036854775807 := rdG_len hG hd4
            by_cases hM2 : M2 = 0
            · subst hM2
              rw [if_neg (by simp)] at HPt
              go_enter Tryz.func147, Tryz.ntmps147
              have HRo : Hid (V0.ownsRow w.heap.size 159 2 (.slice none 0 0) 0 (rcs [])) := ⟨rfl, .inl ⟨rfl, rfl⟩⟩
              have HRBx := HRB0
              have HWBx := Lib.hid (wb_below HB0.out : WB Q w V0)
              have hxx := HBc
              have hsx := hs
              have hnr : (0 : Nat) ≤ 300 := by omega
              have hzx := hz
              have HCn := Lib.hid (count_any ([] : List Ri) 0 rfl (by omega) N1 0 hN none 0 V0 (own_rdvT HRo.out))
              go_wp2_with fail
              refine HCn.out.mono ?_
              rintro e x2 ⟨rfl, B2⟩
              have HRo2 := Lib.hid (own_below HRo.out B2)
              have HRB2 := Lib.hid (HRBx.out.on B2)
              have HWB2 := Lib.hid (HWBx.out.trans (wb_below B2))
              have hx2 : Hid (x2.heap[w.heap.size]? = some (.cells #[.int .i64 (bk : Int), .int .i64 (ls : Int), .int .i64 (k : Int)] 24 (0, 0))) := (B2.block _ hzx).trans hxx.out
              have hz2 : w.heap.size < x2.heap.size := Nat.lt_of_lt_of_le hzx B2.size
              have Hz2 := Lib.hid hz2
              clear B2 hxx hzx HCn
              have HCk : Hid (∀ V, Below x2.heap.size x2 V → V.cell? ⟨Q, 0, none⟩ = some (.int .i64 (L.length : Int)) ∧ V.cell? ⟨Q, 1, none⟩ = some (.slice A (pack L).length c) ∧ V.cell? ⟨Q, 2, none⟩ = some (.int .i64 (s : Int)) ∧ V.cell? ⟨w.heap.size, 2, none⟩ = some (.int .i64 (k : Int))) := fun V hV => by
                have h := HRB2.out.on hV
                exact ⟨(cell_at h _).trans rfl, (cell_at h _).trans rfl, (cell_at h _).trans rfl, HBx.out V ((hV.block _ Hz2.out).trans hx2.out)⟩
              have HRr : Hid (∀ V, Below x2.heap.size x2 V → Rd V V.heap.size A (pack L)) := fun V hV => (rd_low HR.out HWB2.out hlt).below (hV.mono (Nat.le_of_lt HRB2.out.lt)) (Nat.le_trans (Nat.le_of_lt HRB2.out.lt) hV.size)
              have HG : Hid (∀ V, Below x2.heap.size x2 V → Calls Tryz.prog 188 #[.agg #[.int .i64 (L.length : Int), .slice A (pack L).length c], .int .i64 (s : Int), .int .i64 (a : Int), .int .i64 (k : Int), .int .i64 (d : Int)] V (RdO V RG to 0)) := fun V hV => gread_own L hL s hsx a ha k hk hk2 d (by omega) RG to 0 hG A c V (HRr.out V hV)
              clear hx2 hz2
              go_wp2_with fail
              refine (ion_t _).mono ?_
              rintro e w' ⟨rfl, rfl⟩
              obtain ⟨k0, k1, k2, k3⟩ := HCk.out x2 (Below.refl _ _)
              go_wp2_with fail
              rename_i hKK
              have HKK := Lib.hid hKK
              clear hKK
              go_region_held3 (fun w' => w'.cell? ⟨Q, 0, none⟩ = some (.int .i64 (L.length : Int)) ∧ w'.cell? ⟨Q, 1, none⟩ = some (.slice A (pack L).length c) ∧ w'.cell? ⟨Q, 2, none⟩ = some (.int .i64 (s : Int)) ∧ w'.cell? ⟨w.heap.size, 2, none⟩ = some (.int .i64 (k : Int)))
                ((refine HCk.out _ ?_; first | exact hk1.out | exact (Below.refl _ _).drew | exact Below.refl _ _))
                ((go_at_call 188; refine (HG.out x2.drew (Below.refl _ _).drew).mono ?_; rintro e x3 ⟨A3, c3, rfl, r3, B3⟩; have hk1 : Hid (Below x2.heap.size x2 x3) := ((Below.refl _ x2).drew).trans B3; have hr3 : Hid (x3.ownsRow w.heap.size 3 1 (.slice A3 RG.length c3) RG.length (zc (ns RG))) := own_base r3 (Nat.le_of_lt Hz2.out); clear B3 r3))
              have HRB3 := Lib.hid (HRB2.out.on hk1.out)
              have HWB3 := Lib.hid (HWB2.out.trans (wb_below hk1.out))
              have HRo3 := Lib.hid (own_below HRo2.out hk1.out)
              clear k0 k1 k2 k3
              have j2 : x3.cell? ⟨Q, 2, none⟩ = some (.int .i64 (s : Int)) := (cell_at HRB3.out _).trans rfl
              have f2 := frz_at HRB3.out 2
              have HN : Hid (RB (x3.setCell ⟨Q, 2, none⟩ (.int .i64 (to : Int))) Q L A c to) := by
                show _ = _
                rw [heap_set3 _ _ _ _ _ _ HRB3.out]; rfl
              have HWB4 : Hid (WB Q w (x3.setCell ⟨Q, 2, none⟩ (.int .i64 (to : Int)))) := HWB3.out.trans (wb_set _ _ _ _)
              have HRo4 := Lib.hid (own_wb HRo3.out (wb_set x3 Q 2 (.int .i64 (to : Int))) hlt)
              have HRg4 := Lib.hid (own_wb hr3.out (wb_set x3 Q 2 (.int .i64 (to : Int))) hlt)
              have hMg := merge_own ([] : List Ri) 0 rfl (by omega) (ns RG) RG.length (ns_length RG) hRGl none A3 0 c3 (own_capT HRg4.out).2 (x3.setCell ⟨Q, 2, none⟩ (.int .i64 (to : Int))) (own_rdvT HRo4.out) (own_rdvT HRg4.out)
              rw [hM] at hMg
              have HMg := Lib.hid hMg
              clear hMg HRB3 HWB3 HRo3 HRo4 HRg4
              refine HKK.out _ _ ?_
              clear HKK
              go_wp2_with fail
              refine (ion_t _).mono ?_
              rintro e w' ⟨rfl, rfl⟩
              go_wp2_with fail
              refine HMg.out.mono ?_
              rintro e x5 ⟨A5, c5, rfl, r5, B5⟩
              have HB5 := Lib.hid (HWB4.out.trans (wb_below B5))
              have HRB5 := Lib.hid (HN.out.on B5)
              have HR5 := Lib.hid (own_base r5 HWB4.out.size)
              clear r5 B5
              go_wp2_with fail
              refine (ion_t _).mono ?_
              rintro e w' ⟨rfl, rfl⟩
              go_wp2
              go_ret
              exact ⟨HB5.out, by rw [HPt.out]; exact ⟨⟨_, _, rfl, HR5.out⟩, HRB5.out⟩⟩
            · rw [if_pos hM2] at HPt
              go_enter Tryz.func147, Tryz.ntmps147
              have HRo : Hid (V0.ownsRow w.heap.size 159 2 (.slice none 0 0) 0 (rcs [])) := ⟨rfl, .inl ⟨rfl, rfl⟩⟩
              have HRBx := HRB0
              have HWBx := Lib.hid (wb_below HB0.out : WB Q w V0)
              have hxx := HBc
              have hsx := hs
              have hnr : (0 : Nat) ≤ 300 := by omega
              have hzx := hz
              have HCn := Lib.hid (count_any ([] : List Ri) 0 rfl (by omega) N1 0 hN none 0 V0 (own_rdvT HRo.out))
              go_wp2_with fail
              refine HCn.out.mono ?_
              rintro e x2 ⟨rfl, B2⟩
              have HRo2 := Lib.hid (own_below HRo.out B2)
              have HRB2 := Lib.hid (HRBx.out.on B2)
              have HWB2 := Lib.hid (HWBx.out.trans (wb_below B2))
              have hx2 : Hid (x2.heap[w.heap.size]? = some (.cells #[.int .i64 (bk : Int), .int .i64 (ls : Int), .int .i64 (k : Int)] 24 (0, 0))) := (B2.block _ hzx).trans hxx.out
              have hz2 : w.heap.size < x2.heap.size := Nat.lt_of_lt_of_le hzx B2.size
              have Hz2 := Lib.hid hz2
              clear B2 hxx hzx HCn
              have HCk : Hid (∀ V, Below x2.heap.size x2 V → V.cell? ⟨Q, 0, none⟩ = some (.int .i64 (L.length : Int)) ∧ V.cell? ⟨Q, 1, none⟩ = some (.slice A (pack L).length c) ∧ V.cell? ⟨Q, 2, none⟩ = some (.int .i64 (s : Int)) ∧ V.cell? ⟨w.heap.size, 2, none⟩ = some (.int .i64 (k : Int))) := fun V hV => by
                have h := HRB2.out.on hV
                exact ⟨(cell_at h _).trans rfl, (cell_at h _).trans rfl, (cell_at h _).trans rfl, HBx.out V ((hV.block _ Hz2.out).trans hx2.out)⟩
              have HRr : Hid (∀ V, Below x2.heap.size x2 V → Rd V V.heap.size A (pack L)) := fun V hV => (rd_low HR.out HWB2.out hlt).below (hV.mono (Nat.le_of_lt HRB2.out.lt)) (Nat.le_trans (Nat.le_of_lt HRB2.out.lt) hV.size)
              have HG : Hid (∀ V, Below x2.heap.size x2 V → Calls Tryz.prog 188 #[.agg #[.int .i64 (L.length : Int), .slice A (pack L).length c], .int .i64 (s : Int), .int .i64 (a : Int), .int .i64 (k : Int), .int .i64 (d : Int)] V (RdO V RG to 0)) := fun V hV => gread_own L hL s hsx a ha k hk hk2 d (by omega) RG to 0 hG A c V (HRr.out V hV)
              clear hx2 hz2
              go_wp2_with fail
              refine (ion_t _).mono ?_
              rintro e w' ⟨rfl, rfl⟩
              obtain ⟨k0, k1, k2, k3⟩ := HCk.out x2 (Below.refl _ _)
              go_wp2_with fail
              rename_i hKK
              have HKK := Lib.hid hKK
              clear hKK
              go_region_held3 (fun w' => w'.cell? ⟨Q, 0, none⟩ = some (.int .i64 (L.length : Int)) ∧ w'.cell? ⟨Q, 1, none⟩ = some (.slice A (pack L).length c) ∧ w'.cell? ⟨Q, 2, none⟩ = some (.int .i64 (s : Int)) ∧ w'.cell? ⟨w.heap.size, 2, none⟩ = some (.int .i64 (k : Int)))
                ((refine HCk.out _ ?_; first | exact hk1.out | exact (Below.refl _ _).drew | exact Below.refl _ _))
                ((go_at_call 188; refine (HG.out x2.drew (Below.refl _ _).drew).mono ?_; rintro e x3 ⟨A3, c3, rfl, r3, B3⟩; have hk1 : Hid (Below x2.heap.size x2 x3) := ((Below.refl _ x2).drew).trans B3; have hr3 : Hid (x3.ownsRow w.heap.size 3 1 (.slice A3 RG.length c3) RG.length (zc (ns RG))) := own_base r3 (Nat.le_of_lt Hz2.out); clear B3 r3))
              have HRB3 := Lib.hid (HRB2.out.on hk1.out)
              have HWB3 := Lib.hid (HWB2.out.trans (wb_below hk1.out))
              have HRo3 := Lib.hid (own_below HRo2.out hk1.out)
              clear k0 k1 k2 k3
              have j2 : x3.cell? ⟨Q, 2, none⟩ = some (.int .i64 (s : Int)) := (cell_at HRB3.out _).trans rfl
              have f2 := frz_at HRB3.out 2
              have HN : Hid (RB (x3.setCell ⟨Q, 2, none⟩ (.int .i64 (to : Int))) Q L A c to) := by
                show _ = _
                rw [heap_set3 _ _ _ _ _ _ HRB3.out]; rfl
              have HWB4 : Hid (WB Q w (x3.setCell ⟨Q, 2, none⟩ (.int .i64 (to : Int)))) := HWB3.out.trans (wb_set _ _ _ _)
              have HRo4 := Lib.hid (own_wb HRo3.out (wb_set x3 Q 2 (.int .i64 (to : Int))) hlt)
              have HRg4 := Lib.hid (own_wb hr3.out (wb_set x3 Q 2 (.int .i64 (to : Int))) hlt)
              have hMg := merge_own ([] : List Ri) 0 rfl (by omega) (ns RG) RG.length (ns_length RG) hRGl none A3 0 c3 (own_capT HRg4.out).2 (x3.setCell ⟨Q, 2, none⟩ (.int .i64 (to : Int))) (own_rdvT HRo4.out) (own_rdvT HRg4.out)
              rw [hM] at hMg
              have HMg := Lib.hid hMg
              clear hMg HRB3 HWB3 HRo3 HRo4 HRg4
              refine HKK.out _ _ ?_
              clear HKK
              go_wp2_with fail
              refine (ion_t _).mono ?_
              rintro e w' ⟨rfl, rfl⟩
              go_wp2_with fail
              refine HMg.out.mono ?_
              rintro e x5 ⟨A5, c5, rfl, r5, B5⟩
              have HB5 := Lib.hid (HWB4.out.trans (wb_below B5))
              have HRB5 := Lib.hid (HN.out.on B5)
              have HR5 := Lib.hid (own_base r5 HWB4.out.size)
              clear r5 B5
              go_wp2_with fail
              refine (ion_f M2 hM2 _).mono ?_
              rintro e w' ⟨rfl, rfl⟩
              go_wp2
              exact ⟨rfl, HB5.out, by rw [HPt.out]; rfl⟩
          · rw [if_pos he] at HPt
            go_enter Tryz.func147, Tryz.ntmps147
            have HRo : Hid (V0.ownsRow w.heap.size 159 2 (.slice none 0 0) 0 (rcs [])) := ⟨rfl, .inl ⟨rfl, rfl⟩⟩
            have HRBx := HRB0
            have HWBx := Lib.hid (wb_below HB0.out : WB Q w V0)
            have hxx := HBc
            have hsx := hs
            have hnr : (0 : Nat) ≤ 300 := by omega
            have hzx := hz
            have HCn := Lib.hid (count_any ([] : List Ri) 0 rfl (by omega) N1 0 hN none 0 V0 (own_rdvT HRo.out))
            go_wp2_with fail
            refine HCn.out.mono ?_
            rintro e x2 ⟨rfl, B2⟩
            have HRo2 := Lib.hid (own_below HRo.out B2)
            have HRB2 := Lib.hid (HRBx.out.on B2)
            have HWB2 := Lib.hid (HWBx.out.trans (wb_below B2))
            have hx2 : Hid (x2.heap[w.heap.size]? = some (.cells #[.int .i64 (bk : Int), .int .i64 (ls : Int), .int .i64 (k : Int)] 24 (0, 0))) := (B2.block _ hzx).trans hxx.out
            have hz2 : w.heap.size < x2.heap.size := Nat.lt_of_lt_of_le hzx B2.size
            have Hz2 := Lib.hid hz2
            clear B2 hxx hzx HCn
            have HCk : Hid (∀ V, Below x2.heap.size x2 V → V.cell? ⟨Q, 0, none⟩ = some (.int .i64 (L.length : Int)) ∧ V.cell? ⟨Q, 1, none⟩ = some (.slice A (pack L).length c) ∧ V.cell? ⟨Q, 2, none⟩ = some (.int .i64 (s : Int)) ∧ V.cell? ⟨w.heap.size, 2, none⟩ = some (.int .i64 (k : Int))) := fun V hV => by
              have h := HRB2.out.on hV
              exact ⟨(cell_at h _).trans rfl, (cell_at h _).trans rfl, (cell_at h _).trans rfl, HBx.out V ((hV.block _ Hz2.out).trans hx2.out)⟩
            have HRr : Hid (∀ V, Below x2.heap.size x2 V → Rd V V.heap.size A (pack L)) := fun V hV => (rd_low HR.out HWB2.out hlt).below (hV.mono (Nat.le_of_lt HRB2.out.lt)) (Nat.le_trans (Nat.le_of_lt HRB2.out.lt) hV.size)
            have HG : Hid (∀ V, Below x2.heap.size x2 V → Calls Tryz.prog 188 #[.agg #[.int .i64 (L.length : Int), .slice A (pack L).length c], .int .i64 (s : Int), .int .i64 (a : Int), .int .i64 (k : Int), .int .i64 (d : Int)] V (RdO V RG to er)) := fun V hV => gread_own L hL s hsx a ha k hk hk2 d (by omega) RG to er hG A c V (HRr.out V hV)
            clear hx2 hz2
            go_wp2_with fail
            refine (ion_t _).mono ?_
            rintro e w' ⟨rfl, rfl⟩
            obtain ⟨k0, k1, k2, k3⟩ := HCk.out x2 (Below.refl _ _)
            go_wp2_with fail
            rename_i hKK
            have HKK := Lib.hid hKK
            clear hKK
            go_region_held3 (fun w' => w'.cell? ⟨Q, 0, none⟩ = some (.int .i64 (L.length : Int)) ∧ w'.cell? ⟨Q, 1, none⟩ = some (.slice A (pack L).length c) ∧ w'.cell? ⟨Q, 2, none⟩ = some (.int .i64 (s : Int)) ∧ w'.cell? ⟨w.heap.size, 2, none⟩ = some (.int .i64 (k : Int)))
              ((refine HCk.out _ ?_; first | exact hk1.out | exact (Below.refl _ _).drew | exact Below.refl _ _))
              ((go_at_call 188; refine (HG.out x2.drew (Below.refl _ _).drew).mono ?_; rintro e x3 ⟨A3, c3, rfl, r3, B3⟩; have hk1 : Hid (Below x2.heap.size x2 x3) := ((Below.refl _ x2).drew).trans B3; have hr3 : Hid (x3.ownsRow w.heap.size 3 1 (.slice A3 RG.length c3) RG.length (zc (ns RG))) := own_base r3 (Nat.le_of_lt Hz2.out); clear B3 r3))
            clear k0 k1 k2 k3
            refine HKK.out _ _ ?_
            clear HKK
            go_wp2_with fail
            refine (ion_f er he _).mono ?_
            rintro e w' ⟨rfl, rfl⟩
            go_wp2
            exact ⟨rfl, HWB2.out.trans (wb_below hk1.out), by rw [HPt.out]; rfl⟩
      · rw [if_pos hN2] at HPt
        go_enter Tryz.func147, Tryz.ntmps147
        have HRo : Hid (V0.ownsRow w.heap.size 159 2 (.slice none 0 0) 0 (rcs [])) := ⟨rfl, .inl ⟨rfl, rfl⟩⟩
        have HRBx := HRB0
        have HWBx := Lib.hid (wb_below HB0.out : WB Q w V0)
        have hxx := HBc
        have hsx := hs
        have hnr : (0 : Nat) ≤ 300 := by omega
        have hzx := hz
        have HCn := Lib.hid (count_any ([] : List Ri) 0 rfl (by omega) N1 N2 hN none 0 V0 (own_rdvT HRo.out))
        go_wp2_with fail
        refine HCn.out.mono ?_
        rintro e x2 ⟨rfl, B2⟩
        have HRo2 := Lib.hid (own_below HRo.out B2)
        have HRB2 := Lib.hid (HRBx.out.on B2)
        have HWB2 := Lib.hid (HWBx.out.trans (wb_below B2))
        have hx2 : Hid (x2.heap[w.heap.size]? = some (.cells #[.int .i64 (bk : Int), .int .i64 (ls : Int), .int .i64 (k : Int)] 24 (0, 0))) := (B2.block _ hzx).trans hxx.out
        have hz2 : w.heap.size < x2.heap.size := Nat.lt_of_lt_of_le hzx B2.size
        have Hz2 := Lib.hid hz2
        clear B2 hxx hzx HCn
        go_wp2_with fail
        refine (ion_f N2 hN2 _).mono ?_
        rintro e w' ⟨rfl, rfl⟩
        go_wp2
        exact ⟨rfl, HWB2.out, by rw [HPt.out]; rfl⟩
    · have u1 : ((ls : Int) != 0) = true := by simp; omega
      rw [if_neg hl0] at HP
      have hlsb : ls ≤ 300 := by omega
      have HTr := Lib.hid (take_runs L hL A c Q s hs a ls ha hlsb V0 HRB0.out HR0.out)
      have hltV : Q < V0.heap.size := Nat.lt_trans hlt hz
      clear hl0 hls
      rcases hpr : pruns L a ls s with _ | ⟨r, s1⟩
      · rw [hpr] at HTr HP
        clear hpr
        go_enter Tryz.func147, Tryz.ntmps147
        go_wp2_with fail
        refine HTr.out.mono ?_
        rintro e w1 ⟨hwb, rfl⟩
        have HW := Lib.hid ((wb_below HB0.out).trans hwb)
        clear hwb
        go_wp2
        exact ⟨rfl, HW.out, by rw [HP.out]; rfl⟩
      · rw [hpr] at HTr HP
        have HPt : Hid (o = restT L a k many r s1) := HP.out
        clear HP hpr
        rcases hN : mgA r [] with ⟨N1, N2⟩
        unfold restT at HPt
        rw [hN] at HPt
        simp only at HPt
        by_cases hN2 : N2 = 0
        · subst hN2
          rw [if_neg (by simp)] at HPt
          have hN1 : N1.length ≤ 300 := mgA_le hN
          by_cases hd : many - (N1.length : Int) < 0
          · rw [if_pos hd] at HPt
            obtain ⟨d, hd2⟩ : ∃ d, many - (N1.length : Int) = d := ⟨_, rfl⟩
            rw [hd2] at hd
            have t1 : IntKind.i64.wrap (many - (N1.length : Int)) = d := by rw [hd2]; exact IntWalk.i64_in _ (by omega)
            clear hd2
            go_enter Tryz.func147, Tryz.ntmps147
            go_wp2_with fail
            refine HTr.out.mono ?_
            rintro e w1 ⟨hwb, ⟨AR, cR, rfl, hro⟩, hrb, hsx, hnr⟩
            have HRo := Lib.hid (own_base hro HB0.out.size)
            have HRBx := Lib.hid hrb
            have HWBx := Lib.hid ((wb_below HB0.out).trans hwb)
            have hxx : Hid (w1.heap[w.heap.size]? = some (.cells #[.int .i64 (bk : Int), .int .i64 (ls : Int), .int .i64 (k : Int)] 24 (0, 0))) := (hwb.block _ hz (by simp; omega)).trans HBc.out
            have hzx : w.heap.size < w1.heap.size := Nat.lt_of_lt_of_le hz hwb.size
            clear hwb hro hrb HTr
            have HCn := Lib.hid (count_any r r.length rfl (by omega) N1 0 hN AR cR w1 (own_rdvT HRo.out))
            go_wp2_with fail
            refine HCn.out.mono ?_
            rintro e x2 ⟨rfl, B2⟩
            have HRo2 := Lib.hid (own_below HRo.out B2)
            have HRB2 := Lib.hid (HRBx.out.on B2)
            have HWB2 := Lib.hid (HWBx.out.trans (wb_below B2))
            have hx2 : Hid (x2.heap[w.heap.size]? = some (.cells #[.int .i64 (bk : Int), .int .i64 (ls : Int), .int .i64 (k : Int)] 24 (0, 0))) := (B2.block _ hzx).trans hxx.out
            have hz2 : w.heap.size < x2.heap.size := Nat.lt_of_lt_of_le hzx B2.size
            have Hz2 := Lib.hid hz2
            clear B2 hxx hzx HCn
            have HCk : Hid (∀ V, Below x2.heap.size x2 V → V.cell? ⟨Q, 0, none⟩ = some (.int .i64 (L.length : Int)) ∧ V.cell? ⟨Q, 1, none⟩ = some (.slice A (pack L).length c) ∧ V.cell? ⟨Q, 2, none⟩ = some (.int .i64 (s1 : Int)) ∧ V.cell? ⟨w.heap.size, 2, none⟩ = some (.int .i64 (k : Int))) := fun V hV => by
              have h := HRB2.out.on hV
              exact ⟨(cell_at h _).trans rfl, (cell_at h _).trans rfl, (cell_at h _).trans rfl, HBx.out V ((hV.block _ Hz2.out).trans hx2.out)⟩
            have HRr : Hid (∀ V, Below x2.heap.size x2 V → Rd V V.heap.size A (pack L)) := fun V hV => (rd_low HR.out HWB2.out hlt).below (hV.mono (Nat.le_of_lt HRB2.out.lt)) (Nat.le_trans (Nat.le_of_lt HRB2.out.lt) hV.size)
            have HG : Hid (∀ V, Below x2.heap.size x2 V → Calls Tryz.prog 188 #[.agg #[.int .i64 (L.length : Int), .slice A (pack L).length c], .int .i64 (s1 : Int), .int .i64 (a : Int), .int .i64 (k : Int), .int .i64 d] V (RdP V [] 0 3)) := fun V hV => gread_bad _ A c _ _ _ _ _ _ V (HRr.out V hV) 3 (by
              unfold rdE
              rw [chk_pack L hL, okN_nat a ha, okK_nat k hk hk2]
              simp [rgE]; omega) (by decide) HCh
            clear hx2 hz2
            go_wp2_with fail
            refine (ion_t _).mono ?_
            rintro e w' ⟨rfl, rfl⟩
            obtain ⟨k0, k1, k2, k3⟩ := HCk.out x2 (Below.refl _ _)
            go_wp2_with fail
            rename_i hKK
            have HKK := Lib.hid hKK
            clear hKK
            go_region_held3 (fun w' => w'.cell? ⟨Q, 0, none⟩ = some (.int .i64 (L.length : Int)) ∧ w'.cell? ⟨Q, 1, none⟩ = some (.slice A (pack L).length c) ∧ w'.cell? ⟨Q, 2, none⟩ = some (.int .i64 (s1 : Int)) ∧ w'.cell? ⟨w.heap.size, 2, none⟩ = some (.int .i64 (k : Int)))
              ((refine HCk.out _ ?_; first | exact hk1.out | exact (Below.refl _ _).drew | exact Below.refl _ _))
              ((go_at_call 188; refine (HG.out x2.drew (Below.refl _ _).drew).mono ?_; rintro e x3 ⟨A3, c3, rfl, q1, q2, r3, B3⟩; have hk1 : Hid (Below x2.heap.size x2 x3) := ((Below.refl _ x2).drew).trans B3; clear B3 r3 q1 q2))
            clear k0 k1 k2 k3
            refine HKK.out _ _ ?_
            clear HKK
            go_wp2_with fail
            refine (ion_f 3 (by decide) _).mono ?_
            rintro e w' ⟨rfl, rfl⟩
            go_wp2
            exact ⟨rfl, HWB2.out.trans (wb_below hk1.out), by rw [HPt.out]; rfl⟩
          · rw [if_neg hd] at HPt
            obtain ⟨d, hd2⟩ : ∃ d : Nat, (many - (N1.length : Int)).toNat = d := ⟨_, rfl⟩
            have hd3 : many - (N1.length : Int) = (d : Int) := by omega
            rw [hd2] at HPt
            have t1 : IntKind.i64.wrap (many - (N1.length : Int)) = (d : Int) := by rw [hd3]; exact IntWalk.i64_in _ (by omega)
            have hd4 : d ≤ 300 := by omega
            clear hd hd2 hd3
            rcases hG : rdG L k a d [] s1 with ⟨RG, to, er⟩
            rw [hG] at HPt
            simp only at HPt
            by_cases he : er = 0
            · subst he
              rw [if_neg (by simp)] at HPt
              rcases hM : mgA r (ns RG) with ⟨M1, M2⟩
              rw [hM] at HPt
              simp only at HPt
              have hRGl : RG.length ≤ 9223372036854775807 := rdG_len hG hd4
              by_cases hM2 : M2 = 0
              · subst hM2
                rw [if_neg (by simp)] at HPt
                go_enter Tryz.func147, Tryz.ntmps147
                go_wp2_with fail
                refine HTr.out.mono ?_
                rintro e w1 ⟨hwb, ⟨AR, cR, rfl, hro⟩, hrb, hsx, hnr⟩
                have HRo := Lib.hid (own_base hro HB0.out.size)
                have HRBx := Lib.hid hrb
                have HWBx := Lib.hid ((wb_below HB0.out).trans hwb)
                have hxx : Hid (w1.heap[w.heap.size]? = some (.cells #[.int .i64 (bk : Int), .int .i64 (ls : Int), .int .i64 (k : Int)] 24 (0, 0))) := (hwb.block _ hz (by simp; omega)).trans HBc.out
                have hzx : w.heap.size < w1.heap.size := Nat.lt_of_lt_of_le hz hwb.size
                clear hwb hro hrb HTr
                have HCn := Lib.hid (count_any r r.length rfl (by omega) N1 0 hN AR cR w1 (own_rdvT HRo.out))
                go_wp2_with fail
                refine HCn.out.mono ?_
                rintro e x2 ⟨rfl, B2⟩
                have HRo2 := Lib.hid (own_below HRo.out B2)
                have HRB2 := Lib.hid (HRBx.out.on B2)
                have HWB2 := Lib.hid (HWBx.out.trans (wb_below B2))
                have hx2 : Hid (x2.heap[w.heap.size]? = some (.cells #[.int .i64 (bk : Int), .int .i64 (ls : Int), .int .i64 (k : Int)] 24 (0, 0))) := (B2.block _ hzx).trans hxx.out
                have hz2 : w.heap.size < x2.heap.size := Nat.lt_of_lt_of_le hzx B2.size
                have Hz2 := Lib.hid hz2
                clear B2 hxx hzx HCn
                have HCk : Hid (∀ V, Below x2.heap.size x2 V → V.cell? ⟨Q, 0, none⟩ = some (.int .i64 (L.length : Int)) ∧ V.cell? ⟨Q, 1, none⟩ = some (.slice A (pack L).length c) ∧ V.cell? ⟨Q, 2, none⟩ = some (.int .i64 (s1 : Int)) ∧ V.cell? ⟨w.heap.size, 2, none⟩ = some (.int .i64 (k : Int))) := fun V hV => by
                  have h := HRB2.out.on hV
                  exact ⟨(cell_at h _).trans rfl, (cell_at h _).trans rfl, (cell_at h _).trans rfl, HBx.out V ((hV.block _ Hz2.out).trans hx2.out)⟩
                have HRr : Hid (∀ V, Below x2.heap.size x2 V → Rd V V.heap.size A (pack L)) := fun V hV => (rd_low HR.out HWB2.out hlt).below (hV.mono (Nat.le_of_lt HRB2.out.lt)) (Nat.le_trans (Nat.le_of_lt HRB2.out.lt) hV.size)
                have HG : Hid (∀ V, Below x2.heap.size x2 V → Calls Tryz.prog 188 #[.agg #[.int .i64 (L.length : Int), .slice A (pack L).length c], .int .i64 (s1 : Int), .int .i64 (a : Int), .int .i64 (k : Int), .int .i64 (d : Int)] V (RdO V RG to 0)) := fun V hV => gread_own L hL s1 hsx a ha k hk hk2 d (by omega) RG to 0 hG A c V (HRr.out V hV)
                clear hx2 hz2
                go_wp2_with fail
                refine (ion_t _).mono ?_
                rintro e w' ⟨rfl, rfl⟩
                obtain ⟨k0, k1, k2, k3⟩ := HCk.out x2 (Below.refl _ _)
                go_wp2_with fail
                rename_i hKK
                have HKK := Lib.hid hKK
                clear hKK
                go_region_held3 (fun w' => w'.cell? ⟨Q, 0, none⟩ = some (.int .i64 (L.length : Int)) ∧ w'.cell? ⟨Q, 1, none⟩ = some (.slice A (pack L).length c) ∧ w'.cell? ⟨Q, 2, none⟩ = some (.int .i64 (s1 : Int)) ∧ w'.cell? ⟨w.heap.size, 2, none⟩ = some (.int .i64 (k : Int)))
                  ((refine HCk.out _ ?_; first | exact hk1.out | exact (Below.refl _ _).drew | exact Below.refl _ _))
                  ((go_at_call 188; refine (HG.out x2.drew (Below.refl _ _).drew).mono ?_; rintro e x3 ⟨A3, c3, rfl, r3, B3⟩; have hk1 : Hid (Below x2.heap.size x2 x3) := ((Below.refl _ x2).drew).trans B3; have hr3 : Hid (x3.ownsRow w.heap.size 3 1 (.slice A3 RG.length c3) RG.length (zc (ns RG))) := own_base r3 (Nat.le_of_lt Hz2.out); clear B3 r3))
                have HRB3 := Lib.hid (HRB2.out.on hk1.out)
                have HWB3 := Lib.hid (HWB2.out.trans (wb_below hk1.out))
                have HRo3 := Lib.hid (own_below HRo2.out hk1.out)
                clear k0 k1 k2 k3
                have j2 : x3.cell? ⟨Q, 2, none⟩ = some (.int .i64 (s1 : Int)) := (cell_at HRB3.out _).trans rfl
                have f2 := frz_at HRB3.out 2
                have HN : Hid (RB (x3.setCell ⟨Q, 2, none⟩ (.int .i64 (to : Int))) Q L A c to) := by
                  show _ = _
                  rw [heap_set3 _ _ _ _ _ _ HRB3.out]; rfl
                have HWB4 : Hid (WB Q w (x3.setCell ⟨Q, 2, none⟩ (.int .i64 (to : Int)))) := HWB3.out.trans (wb_set _ _ _ _)
                have HRo4 := Lib.hid (own_wb HRo3.out (wb_set x3 Q 2 (.int .i64 (to : Int))) hlt)
                have HRg4 := Lib.hid (own_wb hr3.out (wb_set x3 Q 2 (.int .i64 (to : Int))) hlt)
                have hMg := merge_own r r.length rfl (by omega) (ns RG) RG.length (ns_length RG) hRGl AR A3 cR c3 (own_capT HRg4.out).2 (x3.setCell ⟨Q, 2, none⟩ (.int .i64 (to : Int))) (own_rdvT HRo4.out) (own_rdvT HRg4.out)
                rw [hM] at hMg
                have HMg := Lib.hid hMg
                clear hMg HRB3 HWB3 HRo3 HRo4 HRg4
                refine HKK.out _ _ ?_
                clear HKK
                go_wp2_with fail
                refine (ion_t _).mono ?_
                rintro e w' ⟨rfl, rfl⟩
                go_wp2_with fail
                refine HMg.out.mono ?_
                rintro e x5 ⟨A5, c5, rfl, r5, B5⟩
                have HB5 := Lib.hid (HWB4.out.trans (wb_below B5))
                have HRB5 := Lib.hid (HN.out.on B5)
                have HR5 := Lib.hid (own_base r5 HWB4.out.size)
                clear r5 B5
                go_wp2_with fail
                refine (ion_t _).mono ?_
                rintro e w' ⟨rfl, rfl⟩
                go_wp2
                go_ret
                exact ⟨HB5.out, by rw [HPt.out]; exact ⟨⟨_, _, rfl, HR5.out⟩, HRB5.out⟩⟩
              · rw [if_pos hM2] at HPt
                go_enter Tryz.func147, Tryz.ntmps147
                go_wp2_with fail
                refine HTr.out.mono ?_
                rintro e w1 ⟨hwb, ⟨AR, cR, rfl, hro⟩, hrb, hsx, hnr⟩
                have HRo := Lib.hid (own_base hro HB0.out.size)
                have HRBx := Lib.hid hrb
                have HWBx := Lib.hid ((wb_below HB0.out).trans hwb)
                have hxx : Hid (w1.heap[w.heap.size]? = some (.cells #[.int .i64 (bk : Int), .int .i64 (ls : Int), .int .i64 (k : Int)] 24 (0, 0))) := (hwb.block _ hz (by simp; omega)).trans HBc.out
                have hzx : w.heap.size < w1.heap.size := Nat.lt_of_lt_of_le hz hwb.size
                clear hwb hro hrb HTr
                have HCn := Lib.hid (count_any r r.length rfl (by omega) N1 0 hN AR cR w1 (own_rdvT HRo.out))
                go_wp2_with fail
                refine HCn.out.mono ?_
                rintro e x2 ⟨rfl, B2⟩
                have HRo2 := Lib.hid (own_below HRo.out B2)
                have HRB2 := Lib.hid (HRBx.out.on B2)
                have HWB2 := Lib.hid (HWBx.out.trans (wb_below B2))
                have hx2 : Hid (x2.heap[w.heap.size]? = some (.cells #[.int .i64 (bk : Int), .int .i64 (ls : Int), .int .i64 (k : Int)] 24 (0, 0))) := (B2.block _ hzx).trans hxx.out
                have hz2 : w.heap.size < x2.heap.size := Nat.lt_of_lt_of_le hzx B2.size
                have Hz2 := Lib.hid hz2
                clear B2 hxx hzx HCn
                have HCk : Hid (∀ V, Below x2.heap.size x2 V → V.cell? ⟨Q, 0, none⟩ = some (.int .i64 (L.length : Int)) ∧ V.cell? ⟨Q, 1, none⟩ = some (.slice A (pack L).length c) ∧ V.cell? ⟨Q, 2, none⟩ = some (.int .i64 (s1 : Int)) ∧ V.cell? ⟨w.heap.size, 2, none⟩ = some (.int .i64 (k : Int))) := fun V hV => by
                  have h := HRB2.out.on hV
                  exact ⟨(cell_at h _).trans rfl, (cell_at h _).trans rfl, (cell_at h _).trans rfl, HBx.out V ((hV.block _ Hz2.out).trans hx2.out)⟩
                have HRr : Hid (∀ V, Below x2.heap.size x2 V → Rd V V.heap.size A (pack L)) := fun V hV => (rd_low HR.out HWB2.out hlt).below (hV.mono (Nat.le_of_lt HRB2.out.lt)) (Nat.le_trans (Nat.le_of_lt HRB2.out.lt) hV.size)
                have HG : Hid (∀ V, Below x2.heap.size x2 V → Calls Tryz.prog 188 #[.agg #[.int .i64 (L.length : Int), .slice A (pack L).length c], .int .i64 (s1 : Int), .int .i64 (a : Int), .int .i64 (k : Int), .int .i64 (d : Int)] V (RdO V RG to 0)) := fun V hV => gread_own L hL s1 hsx a ha k hk hk2 d (by omega) RG to 0 hG A c V (HRr.out V hV)
                clear hx2 hz2
                go_wp2_with fail
                refine (ion_t _).mono ?_
                rintro e w' ⟨rfl, rfl⟩
                obtain ⟨k0, k1, k2, k3⟩ := HCk.out x2 (Below.refl _ _)
                go_wp2_with fail
                rename_i hKK
                have HKK := Lib.hid hKK
                clear hKK
                go_region_held3 (fun w' => w'.cell? ⟨Q, 0, none⟩ = some (.int .i64 (L.length : Int)) ∧ w'.cell? ⟨Q, 1, none⟩ = some (.slice A (pack L).length c) ∧ w'.cell? ⟨Q, 2, none⟩ = some (.int .i64 (s1 : Int)) ∧ w'.cell? ⟨w.heap.size, 2, none⟩ = some (.int .i64 (k : Int)))
                  ((refine HCk.out _ ?_; first | exact hk1.out | exact (Below.refl _ _).drew | exact Below.refl _ _))
                  ((go_at_call 188; refine (HG.out x2.drew (Below.refl _ _).drew).mono ?_; rintro e x3 ⟨A3, c3, rfl, r3, B3⟩; have hk1 : Hid (Below x2.heap.size x2 x3) := ((Below.refl _ x2).drew).trans B3; have hr3 : Hid (x3.ownsRow w.heap.size 3 1 (.slice A3 RG.length c3) RG.length (zc (ns RG))) := own_base r3 (Nat.le_of_lt Hz2.out); clear B3 r3))
                have HRB3 := Lib.hid (HRB2.out.on hk1.out)
                have HWB3 := Lib.hid (HWB2.out.trans (wb_below hk1.out))
                have HRo3 := Lib.hid (own_below HRo2.out hk1.out)
                clear k0 k1 k2 k3
                have j2 : x3.cell? ⟨Q, 2, none⟩ = some (.int .i64 (s1 : Int)) := (cell_at HRB3.out _).trans rfl
                have f2 := frz_at HRB3.out 2
                have HN : Hid (RB (x3.setCell ⟨Q, 2, none⟩ (.int .i64 (to : Int))) Q L A c to) := by
                  show _ = _
                  rw [heap_set3 _ _ _ _ _ _ HRB3.out]; rfl
                have HWB4 : Hid (WB Q w (x3.setCell ⟨Q, 2, none⟩ (.int .i64 (to : Int)))) := HWB3.out.trans (wb_set _ _ _ _)
                have HRo4 := Lib.hid (own_wb HRo3.out (wb_set x3 Q 2 (.int .i64 (to : Int))) hlt)
                have HRg4 := Lib.hid (own_wb hr3.out (wb_set x3 Q 2 (.int .i64 (to : Int))) hlt)
                have hMg := merge_own r r.length rfl (by omega) (ns RG) RG.length (ns_length RG) hRGl AR A3 cR c3 (own_capT HRg4.out).2 (x3.setCell ⟨Q, 2, none⟩ (.int .i64 (to : Int))) (own_rdvT HRo4.out) (own_rdvT HRg4.out)
                rw [hM] at hMg
                have HMg := Lib.hid hMg
                clear hMg HRB3 HWB3 HRo3 HRo4 HRg4
                refine HKK.out _ _ ?_
                clear HKK
                go_wp2_with fail
                refine (ion_t _).mono ?_
                rintro e w' ⟨rfl, rfl⟩
                go_wp2_with fail
                refine HMg.out.mono ?_
                rintro e x5 ⟨A5, c5, rfl, r5, B5⟩
                have HB5 := Lib.hid (HWB4.out.trans (wb_below B5))
                have HRB5 := Lib.hid (HN.out.on B5)
                have HR5 := Lib.hid (own_base r5 HWB4.out.size)
                clear r5 B5
                go_wp2_with fail
                refine (ion_f M2 hM2 _).mono ?_
                rintro e w' ⟨rfl, rfl⟩
                go_wp2
                exact ⟨rfl, HB5.out, by rw [HPt.out]; rfl⟩
            · rw [if_pos he] at HPt
              go_enter Tryz.func147, Tryz.ntmps147
              go_wp2_with fail
              refine HTr.out.mono ?_
              rintro e w1 ⟨hwb, ⟨AR, cR, rfl, hro⟩, hrb, hsx, hnr⟩
              have HRo := Lib.hid (own_base hro HB0.out.size)
              have HRBx := Lib.hid hrb
              have HWBx := Lib.hid ((wb_below HB0.out).trans hwb)
              have hxx : Hid (w1.heap[w.heap.size]? = some (.cells #[.int .i64 (bk : Int), .int .i64 (ls : Int), .int .i64 (k : Int)] 24 (0, 0))) := (hwb.block _ hz (by simp; omega)).trans HBc.out
              have hzx : w.heap.size < w1.heap.size := Nat.lt_of_lt_of_le hz hwb.size
              clear hwb hro hrb HTr
              have HCn := Lib.hid (count_any r r.length rfl (by omega) N1 0 hN AR cR w1 (own_rdvT HRo.out))
              go_wp2_with fail
              refine HCn.out.mono ?_
              rintro e x2 ⟨rfl, B2⟩
              have HRo2 := Lib.hid (own_below HRo.out B2)
              have HRB2 := Lib.hid (HRBx.out.on B2)
              have HWB2 := Lib.hid (HWBx.out.trans (wb_below B2))
              have hx2 : Hid (x2.heap[w.heap.size]? = some (.cells #[.int .i64 (bk : Int), .int .i64 (ls : Int), .int .i64 (k : Int)] 24 (0, 0))) := (B2.block _ hzx).trans hxx.out
              have hz2 : w.heap.size < x2.heap.size := Nat.lt_of_lt_of_le hzx B2.size
              have Hz2 := Lib.hid hz2
              clear B2 hxx hzx HCn
              have HCk : Hid (∀ V, Below x2.heap.size x2 V → V.cell? ⟨Q, 0, none⟩ = some (.int .i64 (L.length : Int)) ∧ V.cell? ⟨Q, 1, none⟩ = some (.slice A (pack L).length c) ∧ V.cell? ⟨Q, 2, none⟩ = some (.int .i64 (s1 : Int)) ∧ V.cell? ⟨w.heap.size, 2, none⟩ = some (.int .i64 (k : Int))) := fun V hV => by
                have h := HRB2.out.on hV
                exact ⟨(cell_at h _).trans rfl, (cell_at h _).trans rfl, (cell_at h _).trans rfl, HBx.out V ((hV.block _ Hz2.out).trans hx2.out)⟩
              have HRr : Hid (∀ V, Below x2.heap.size x2 V → Rd V V.heap.size A (pack L)) := fun V hV => (rd_low HR.out HWB2.out hlt).below (hV.mono (Nat.le_of_lt HRB2.out.lt)) (Nat.le_trans (Nat.le_of_lt HRB2.out.lt) hV.size)
              have HG : Hid (∀ V, Below x2.heap.size x2 V → Calls Tryz.prog 188 #[.agg #[.int .i64 (L.length : Int), .slice A (pack L).length c], .int .i64 (s1 : Int), .int .i64 (a : Int), .int .i64 (k : Int), .int .i64 (d : Int)] V (RdO V RG to er)) := fun V hV => gread_own L hL s1 hsx a ha k hk hk2 d (by omega) RG to er hG A c V (HRr.out V hV)
              clear hx2 hz2
              go_wp2_with fail
              refine (ion_t _).mono ?_
              rintro e w' ⟨rfl, rfl⟩
              obtain ⟨k0, k1, k2, k3⟩ := HCk.out x2 (Below.refl _ _)
              go_wp2_with fail
              rename_i hKK
              have HKK := Lib.hid hKK
              clear hKK
              go_region_held3 (fun w' => w'.cell? ⟨Q, 0, none⟩ = some (.int .i64 (L.length : Int)) ∧ w'.cell? ⟨Q, 1, none⟩ = some (.slice A (pack L).length c) ∧ w'.cell? ⟨Q, 2, none⟩ = some (.int .i64 (s1 : Int)) ∧ w'.cell? ⟨w.heap.size, 2, none⟩ = some (.int .i64 (k : Int)))
                ((refine HCk.out _ ?_; first | exact hk1.out | exact (Below.refl _ _).drew | exact Below.refl _ _))
                ((go_at_call 188; refine (HG.out x2.drew (Below.refl _ _).drew).mono ?_; rintro e x3 ⟨A3, c3, rfl, r3, B3⟩; have hk1 : Hid (Below x2.heap.size x2 x3) := ((Below.refl _ x2).drew).trans B3; have hr3 : Hid (x3.ownsRow w.heap.size 3 1 (.slice A3 RG.length c3) RG.length (zc (ns RG))) := own_base r3 (Nat.le_of_lt Hz2.out); clear B3 r3))
              clear k0 k1 k2 k3
              refine HKK.out _ _ ?_
              clear HKK
              go_wp2_with fail
              refine (ion_f er he _).mono ?_
              rintro e w' ⟨rfl, rfl⟩
              go_wp2
              exact ⟨rfl, HWB2.out.trans (wb_below hk1.out), by rw [HPt.out]; rfl⟩
        · rw [if_pos hN2] at HPt
          go_enter Tryz.func147, Tryz.ntmps147
          go_wp2_with fail
          refine HTr.out.mono ?_
          rintro e w1 ⟨hwb, ⟨AR, cR, rfl, hro⟩, hrb, hsx, hnr⟩
          have HRo := Lib.hid (own_base hro HB0.out.size)
          have HRBx := Lib.hid hrb
          have HWBx := Lib.hid ((wb_below HB0.out).trans hwb)
          have hxx : Hid (w1.heap[w.heap.size]? = some (.cells #[.int .i64 (bk : Int), .int .i64 (ls : Int), .int .i64 (k : Int)] 24 (0, 0))) := (hwb.block _ hz (by simp; omega)).trans HBc.out
          have hzx : w.heap.size < w1.heap.size := Nat.lt_of_lt_of_le hz hwb.size
          clear hwb hro hrb HTr
          have HCn := Lib.hid (count_any r r.length rfl (by omega) N1 N2 hN AR cR w1 (own_rdvT HRo.out))
          go_wp2_with fail
          refine HCn.out.mono ?_
          rintro e x2 ⟨rfl, B2⟩
          have HRo2 := Lib.hid (own_below HRo.out B2)
          have HRB2 := Lib.hid (HRBx.out.on B2)
          have HWB2 := Lib.hid (HWBx.out.trans (wb_below B2))
          have hx2 : Hid (x2.heap[w.heap.size]? = some (.cells #[.int .i64 (bk : Int), .int .i64 (ls : Int), .int .i64 (k : Int)] 24 (0, 0))) := (B2.block _ hzx).trans hxx.out
          have hz2 : w.heap.size < x2.heap.size := Nat.lt_of_lt_of_le hzx B2.size
          have Hz2 := Lib.hid hz2
          clear B2 hxx hzx HCn
          go_wp2_with fail
          refine (ion_f N2 hN2 _).mono ?_
          rintro e w' ⟨rfl, rfl⟩
          go_wp2
          exact ⟨rfl, HWB2.out, by rw [HPt.out]; rfl⟩
end
section
set_option maxRecDepth 100000
set_option linter.unusedVariables false
open Go.RowKit Go.Shelf
theorem pbl_len (L : List Bool) : ∀ (m : Nat) (acc : List Nat) (s : Nat) (B : List Nat) (s' : Nat), pbl L m acc s = some (B, s') → B.length = acc.length + m
  | 0, acc, s, B, s', h => by
    simp only [pbl, Option.some.injEq, Prod.mk.injEq] at h
    rw [← h.1]; rfl
  | m + 1, acc, s, B, s', h => by
    rcases hp : pnum L s 300 with _ | ⟨x, s2⟩
    · rw [pbl_none L m acc s hp] at h; cases h
    · rw [pbl_some L m acc s x s2 hp] at h
      have := pbl_len L m _ _ _ _ h
      rw [List.length_append] at this
      simp only [List.length_singleton] at this
      omega
theorem pblocks_len {L : List Bool} {s : Nat} {B : List Nat} {s' : Nat} (h : pblocks L s = some (B, s')) : B.length ≤ 300 := by
  unfold pblocks at h
  rcases hp : pnum L s 300 with _ | ⟨n, s1⟩
  · rw [hp] at h; cases h
  · rw [hp] at h
    have := pbl_len L n [] s1 B s' h
    have := (pnum_le hp).1
    simp only [List.length_nil] at *
    omega
theorem cpE_ok (F : List Nat) (hF : Rising F) (B : List Nat) : cpE (ns F) (ns B) = bchk (ns B) F.length := by
  unfold cpE
  rw [rchk_ok F hF, if_neg (by simp), ns_length]
theorem cpA_ok (F : List Nat) (hF : Rising F) (B : List Nat) (h : bchk (ns B) F.length = 0) : cpA (ns F) (ns B) = cp true B F := by
  unfold cpA
  rw [cpE_ok F hF B, h, if_neg (by simp), tn_ns, tn_ns]
theorem jnA_ok (F : List Nat) (hF : Rising F) (B r : List Nat) (hr : Rising r) (h : bchk (ns B) F.length = 0) : jnA (ns F) (ns B) (ns r) = un (cp true B F) r := by
  have e : jnE (ns F) (ns B) (ns r) = 0 := by
    unfold jnE
    rw [cpE_ok F hF B, h, if_neg (by simp), rchk_ok r hr]
  unfold jnA
  rw [e, if_neg (by simp), tn_ns, tn_ns, tn_ns]
set_option maxHeartbeats 16000000 in
theorem take_list (L : List Bool) (hL : L.length ≤ 8192) (A : Option Addr) (c Q s : Nat) (hs : s ≤ L.length) (a bk ls k : Nat) (ha : a ≤ 1048576) (hls : ls = 0 ∨ 2 ≤ ls ∧ ls ≤ 300) (hk : 1 ≤ k) (hk2 : k ≤ 16) (F : List Nat) (hF : bk ≠ 0 → Rising F) (n : Nat) (A1 : Option Addr) (c1 : Nat) (hA1 : A1 = none → c1 = 0) (hc1 : n ≤ c1) (w : World) (h1 : bk ≠ 0 → F.length = n ∧ RdV w Q A1 (zc (ns F))) (hQ : RB w Q L A c s) (hR : Rd w Q A (pack L)) :
    Calls Tryz.prog 101 #[.pointer (some ⟨Q, 0, none⟩), .int .i64 (a : Int), .slice A1 n c1, .agg #[.int .i64 (bk : Int), .int .i64 (ls : Int), .int .i64 (k : Int)]] w (TlP Q L A c w (ptake L a bk ls k F s)) := by
  have hlt := hQ.lt
  obtain ⟨V0, hV⟩ : ∃ V0, w.alloc (.cells #[.int .i64 (bk : Int), .int .i64 (ls : Int), .int .i64 (k : Int)] 24) = V0 := ⟨_, rfl⟩
  have hB0 : Below w.heap.size w V0 := hV ▸ one_below w _
  have hBx : V0.heap[w.heap.size]? = some (.cells #[.int .i64 (bk : Int), .int .i64 (ls : Int), .int .i64 (k : Int)] 24 (0, 0)) := hV ▸ World.alloc_heap_new w _
  have hz : w.heap.size < V0.heap.size := (Array.getElem?_eq_some_iff.1 hBx).1
  have HRB0 := Lib.hid (hQ.on hB0)
  have HR0 := Lib.hid (rd_low hR (wb_below hB0 : WB Q w V0) hlt)
  have HB0 := Lib.hid hB0
  have HBx : Hid (∀ V : World, V.heap[w.heap.size]? = some (.cells #[.int .i64 (bk : Int), .int .i64 (ls : Int), .int .i64 (k : Int)] 24 (0, 0)) → V.cell? ⟨w.heap.size, 0, none⟩ = some (.int .i64 (bk : Int)) ∧ V.cell? ⟨w.heap.size, 1, none⟩ = some (.int .i64 (ls : Int)) ∧ V.cell? ⟨w.heap.size, 2, none⟩ = some (.int .i64 (k : Int))) := fun V h => ⟨(cell_at h _).trans rfl, (cell_at h _).trans rfl, (cell_at h _).trans rfl⟩
  have HR := Lib.hid hR
  have HBc := Lib.hid hBx
  have HT0 := Lib.hid (take_num L hL A c Q s hs 300 (by omega) V0 HRB0.out HR0.out)
  have HRst : Hid (∀ (V : World) (s : Nat) (many : Int), s ≤ L.length → -1000000 ≤ many → many ≤ 300 → RB V Q L A c s → Rd V Q A (pack L) → Calls Tryz.prog 147 #[.pointer (some ⟨Q, 0, none⟩), .int .i64 many, .int .i64 (a : Int), .agg #[.int .i64 (bk : Int), .int .i64 (ls : Int), .int .i64 (k : Int)]] V (TlP Q L A c V (prest L a ls k many s))) := fun V s many h1 h2 h3 h4 h5 => take_rest L hL A c Q s h1 a bk ls k ha hls hk hk2 many h2 h3 V h4 h5
  have HBl : Hid (∀ (V : World) (s : Nat), s ≤ L.length → RB V Q L A c s → Rd V Q A (pack L) → Calls Tryz.prog 148 #[.pointer (some ⟨Q, 0, none⟩)] V (TbP Q L A c V (pblocks L s))) := fun V s h1 h2 h3 => take_blocks L hL A c Q s h1 V h2 h3
  have H1 := Lib.hid h1
  have HFr := Lib.hid hF
  clear hQ hR hB0 hBx h1 hF
  rcases hpn : pnum L s 300 with _ | ⟨m, s1⟩
  · have HP : Hid (ptake L a bk ls k F s = none) := by show _ = _; unfold ptake; rw [hpn]
    rw [hpn] at HT0
    generalize ptake L a bk ls k F s = o at *
    clear hpn
    go_enter Tryz.func101, Tryz.ntmps101
    go_wp2_with fail
    refine HT0.out.mono ?_
    rintro e v1 ⟨hwb, rfl⟩
    have HW1 := Lib.hid ((wb_below HB0.out).trans hwb)
    clear hwb
    go_wp2
    exact ⟨rfl, HW1.out, by rw [HP.out]; rfl⟩
  · rw [hpn] at HT0
    obtain ⟨hm, hs1⟩ := pnum_le hpn
    have HP : Hid (ptake L a bk ls k F s = if m = 0 then some ([], s1) else if bk = 0 then prest L a ls k (m : Int) s1 else ptold L a ls k F m s1) := by show _ = _; unfold ptake; rw [hpn]
    generalize ptake L a bk ls k F s = o at *
    clear hpn
    by_cases hm0 : m = 0
    · rw [if_pos hm0] at HP
      have t0 : ((m : Int) == 0) = true := by simp; omega
      clear hm0
      go_enter Tryz.func101, Tryz.ntmps101
      go_wp2_with fail
      refine HT0.out.mono ?_
      rintro e v1 ⟨hwb, rfl, hrb⟩
      have HW1 := Lib.hid ((wb_below HB0.out).trans hwb)
      have HRB1 := Lib.hid hrb
      have hx1 : Hid (v1.heap[w.heap.size]? = some (.cells #[.int .i64 (bk : Int), .int .i64 (ls : Int), .int .i64 (k : Int)] 24 (0, 0))) := (hwb.block _ hz (by simp; omega)).trans HBc.out
      have hz1 : w.heap.size < v1.heap.size := Nat.lt_of_lt_of_le hz hwb.size
      have HRd1 := Lib.hid (rd_low HR.out HW1.out hlt)
      clear hwb hrb HT0 hz
      obtain ⟨p0, p1, p2⟩ := HBx.out v1 hx1.out
      go_wp2
      go_ret
      exact ⟨HW1.out, by rw [HP.out]; exact ⟨⟨none, 0, rfl, ⟨rfl, .inl ⟨rfl, rfl⟩⟩⟩, HRB1.out⟩⟩
    · rw [if_neg hm0] at HP
      have t0 : ((m : Int) == 0) = false := by simp; omega
      clear hm0
      by_cases hb0 : bk = 0
      · rw [if_pos hb0] at HP
        have u0 : ((bk : Int) == 0) = true := by simp; omega
        clear hb0
        rcases hpr : prest L a ls k (m : Int) s1 with _ | ⟨l, s2⟩
        · rw [hpr] at HP
          go_enter Tryz.func101, Tryz.ntmps101
          go_wp2_with fail
          refine HT0.out.mono ?_
          rintro e v1 ⟨hwb, rfl, hrb⟩
          have HW1 := Lib.hid ((wb_below HB0.out).trans hwb)
          have HRB1 := Lib.hid hrb
          have hx1 : Hid (v1.heap[w.heap.size]? = some (.cells #[.int .i64 (bk : Int), .int .i64 (ls : Int), .int .i64 (k : Int)] 24 (0, 0))) := (hwb.block _ hz (by simp; omega)).trans HBc.out
          have hz1 : w.heap.size < v1.heap.size := Nat.lt_of_lt_of_le hz hwb.size
          have HRd1 := Lib.hid (rd_low HR.out HW1.out hlt)
          clear hwb hrb HT0 hz
          obtain ⟨p0, p1, p2⟩ := HBx.out v1 hx1.out
          have HRs := Lib.hid (HRst.out v1 s1 (m : Int) hs1 (by omega) (by omega) HRB1.out HRd1.out)
          rw [hpr] at HRs
          clear hpr
          go_wp2_with fail
          refine HRs.out.mono ?_
          rintro e v2 ⟨hwb, rfl⟩
          have HW2 := Lib.hid (HW1.out.trans hwb)
          clear hwb
          go_wp2
          exact ⟨rfl, HW2.out, by rw [HP.out]; rfl⟩
        · rw [hpr] at HP
          go_enter Tryz.func101, Tryz.ntmps101
          go_wp2_with fail
          refine HT0.out.mono ?_
          rintro e v1 ⟨hwb, rfl, hrb⟩
          have HW1 := Lib.hid ((wb_below HB0.out).trans hwb)
          have HRB1 := Lib.hid hrb
          have hx1 : Hid (v1.heap[w.heap.size]? = some (.cells #[.int .i64 (bk : Int), .int .i64 (ls : Int), .int .i64 (k : Int)] 24 (0, 0))) := (hwb.block _ hz (by simp; omega)).trans HBc.out
          have hz1 : w.heap.size < v1.heap.size := Nat.lt_of_lt_of_le hz hwb.size
          have HRd1 := Lib.hid (rd_low HR.out HW1.out hlt)
          clear hwb hrb HT0 hz
          obtain ⟨p0, p1, p2⟩ := HBx.out v1 hx1.out
          have HRs := Lib.hid (HRst.out v1 s1 (m : Int) hs1 (by omega) (by omega) HRB1.out HRd1.out)
          rw [hpr] at HRs
          clear hpr
          go_wp2_with fail
          refine HRs.out.mono ?_
          rintro e v2 ⟨hwb, ⟨A5, c5, rfl, r5⟩, hrb⟩
          have HW2 := Lib.hid (HW1.out.trans hwb)
          have HR5 := Lib.hid (own_base r5 HW1.out.size)
          have HRB2 := Lib.hid hrb
          clear hwb r5 hrb
          go_wp2
          go_ret
          exact ⟨HW2.out, by rw [HP.out]; exact ⟨⟨_, _, rfl, HR5.out⟩, HRB2.out⟩⟩
      · rw [if_neg hb0] at HP
        have u0 : ((bk : Int) == 0) = false := by simp; omega
        obtain ⟨hFn, hRF⟩ := H1.out hb0
        have hF := HFr.out hb0
        have HRF := Lib.hid hRF
        have HFk := Lib.hid hF
        clear hb0 hRF H1 HFr
        have hn300 : n ≤ 300 := by have := hF.1; omega
        rcases hpb : pblocks L s1 with _ | ⟨B, s2⟩
        · have HQ : Hid (o = none) := by show _ = _; rw [HP.out]; unfold ptold; rw [hpb]
          clear HP
          go_enter Tryz.func101, Tryz.ntmps101
          go_wp2_with fail
          refine HT0.out.mono ?_
          rintro e v1 ⟨hwb, rfl, hrb⟩
          have HW1 := Lib.hid ((wb_below HB0.out).trans hwb)
          have HRB1 := Lib.hid hrb
          have hx1 : Hid (v1.heap[w.heap.size]? = some (.cells #[.int .i64 (bk : Int), .int .i64 (ls : Int), .int .i64 (k : Int)] 24 (0, 0))) := (hwb.block _ hz (by simp; omega)).trans HBc.out
          have hz1 : w.heap.size < v1.heap.size := Nat.lt_of_lt_of_le hz hwb.size
          have HRd1 := Lib.hid (rd_low HR.out HW1.out hlt)
          clear hwb hrb HT0 hz
          obtain ⟨p0, p1, p2⟩ := HBx.out v1 hx1.out
          have HBs := Lib.hid (HBl.out v1 s1 hs1 HRB1.out HRd1.out)
          rw [hpb] at HBs
          go_wp2_with fail
          refine HBs.out.mono ?_
          rintro e v2 ⟨hwb, rfl⟩
          have HW2 := Lib.hid (HW1.out.trans hwb)
          clear hwb
          go_wp2
          exact ⟨rfl, HW2.out, by rw [HQ.out]; rfl⟩
        · have hBl := pblocks_len hpb
          have HBlk := Lib.hid hpb
          by_cases hbc : bchk (ns B) F.length = 0
          · have hcl : (cp true B F).length ≤ 300 := by have := (cp_len B true F).length_le; omega
            have HQ0 : Hid (o = match prest L a ls k ((m : Int) - ((cp true B F).length : Int)) s2 with
                | none => none
                | some (r, s3) => if (un (cp true B F) r).2 ≠ 0 then none else some ((un (cp true B F) r).1, s3)) := by
              show _ = _; rw [HP.out]; unfold ptold; rw [hpb]; simp only; rw [if_neg (by simpa using hbc)]; rfl
            have hcE : cpE (ns F) (ns B) = 0 := by rw [cpE_ok F hF B, hbc]
            have hcA := cpA_ok F hF B hbc
            have HJ : Hid (∀ r, Rising r → jnA (ns F) (ns B) (ns r) = un (cp true B F) r) := fun r hr => jnA_ok F hF B r hr hbc
            have t1 : IntKind.i64.wrap ((m : Int) - ((cp true B F).length : Int)) = (m : Int) - ((cp true B F).length : Int) := IntWalk.i64_in _ (by omega)
            clear HP hbc hF hpb
            generalize cp true B F = C at *
            rcases hpr : prest L a ls k ((m : Int) - (C.length : Int)) s2 with _ | ⟨r, s3⟩
            · have HQ : Hid (o = none) := by show _ = _; rw [HQ0.out, hpr]
              clear HQ0
              go_enter Tryz.func101, Tryz.ntmps101
              go_wp2_with fail
              refine HT0.out.mono ?_
              rintro e v1 ⟨hwb, rfl, hrb⟩
              have HW1 := Lib.hid ((wb_below HB0.out).trans hwb)
              have HRB1 := Lib.hid hrb
              have hx1 : Hid (v1.heap[w.heap.size]? = some (.cells #[.int .i64 (bk : Int), .int .i64 (ls : Int), .int .i64 (k : Int)] 24 (0, 0))) := (hwb.block _ hz (by simp; omega)).trans HBc.out
              have hz1 : w.heap.size < v1.heap.size := Nat.lt_of_lt_of_le hz hwb.size
              have HRd1 := Lib.hid (rd_low HR.out HW1.out hlt)
              clear hwb hrb HT0 hz
              obtain ⟨p0, p1, p2⟩ := HBx.out v1 hx1.out
              have HBs := Lib.hid (HBl.out v1 s1 hs1 HRB1.out HRd1.out)
              rw [HBlk.out] at HBs
              go_wp2_with fail
              refine HBs.out.mono ?_
              rintro e v2 ⟨hwb, ⟨A2, c2, rfl, r2⟩, hrb, hs2⟩
              have HW2 := Lib.hid (HW1.out.trans hwb)
              have HRo2 := Lib.hid (own_base r2 HW1.out.size)
              have HRB2 := Lib.hid hrb
              have hx2 : Hid (v2.heap[w.heap.size]? = some (.cells #[.int .i64 (bk : Int), .int .i64 (ls : Int), .int .i64 (k : Int)] 24 (0, 0))) := (hwb.block _ hz1 (by simp; omega)).trans hx1.out
              have hz2 : w.heap.size < v2.heap.size := Nat.lt_of_lt_of_le hz1 hwb.size
              have HCp := pcopy_any (ns F) n (by rw [ns_length, hFn]) (by omega) (ns B) B.length (ns_length B) (by omega) A1 A2 c1 c2 hA1 hc1 v2 (rdv_up (rdv_low HRF.out HW2.out hlt) (Nat.le_of_lt HRB2.out.lt)) (own_rdvT HRo2.out)
              rw [hcE, hcA] at HCp
              have HCp := Lib.hid HCp
              clear hwb r2 hrb HBs hz1 hx1 p0 p1 p2
              go_wp2_with fail
              refine HCp.out.mono ?_
              rintro e v3 ⟨A3, c3, rfl, q1, q2, q3, q4⟩
              have HW3 := Lib.hid (HW2.out.trans (wb_below q4))
              have HRB3 := Lib.hid (HRB2.out.on q4)
              have HRo3 := Lib.hid (own_below HRo2.out q4)
              have HRs := Lib.hid (HRst.out v3 s2 ((m : Int) - (C.length : Int)) hs2 (by omega) (by omega) HRB3.out (rd_low HR.out HW3.out hlt))
              rw [hpr] at HRs
              have hx3 : Hid (v3.heap[w.heap.size]? = some (.cells #[.int .i64 (bk : Int), .int .i64 (ls : Int), .int .i64 (k : Int)] 24 (0, 0))) := (q4.block _ hz2).trans hx2.out
              obtain ⟨p0, p1, p2⟩ := HBx.out v3 hx3.out
              clear q1 q2 q3 q4 hx2 hz2
              go_wp2_with fail
              refine (ion_t _).mono ?_
              rintro e w' ⟨rfl, rfl⟩
              go_wp2_with fail
              refine HRs.out.mono ?_
              rintro e v4 ⟨hwb, rfl⟩
              have HW4 := Lib.hid (HW3.out.trans hwb)
              clear hwb
              go_wp2
              exact ⟨rfl, HW4.out, by rw [HQ.out]; rfl⟩
            · have hrr := prest_rising _ _ _ _ _ _ _ _ hpr
              rcases hU : un C r with ⟨M1, M2⟩
              have hrl : r.length ≤ 9223372036854775807 := by have := hrr.1; omega
              by_cases hM2 : M2 = 0
              · subst hM2
                have HQ : Hid (o = some (M1, s3)) := by show _ = _; rw [HQ0.out, hpr]; simp only; rw [hU, if_neg (by simp)]
                clear HQ0
                go_enter Tryz.func101, Tryz.ntmps101
                go_wp2_with fail
                refine HT0.out.mono ?_
                rintro e v1 ⟨hwb, rfl, hrb⟩
                have HW1 := Lib.hid ((wb_below HB0.out).trans hwb)
                have HRB1 := Lib.hid hrb
                have hx1 : Hid (v1.heap[w.heap.size]? = some (.cells #[.int .i64 (bk : Int), .int .i64 (ls : Int), .int .i64 (k : Int)] 24 (0, 0))) := (hwb.block _ hz (by simp; omega)).trans HBc.out
                have hz1 : w.heap.size < v1.heap.size := Nat.lt_of_lt_of_le hz hwb.size
                have HRd1 := Lib.hid (rd_low HR.out HW1.out hlt)
                clear hwb hrb HT0 hz
                obtain ⟨p0, p1, p2⟩ := HBx.out v1 hx1.out
                have HBs := Lib.hid (HBl.out v1 s1 hs1 HRB1.out HRd1.out)
                rw [HBlk.out] at HBs
                go_wp2_with fail
                refine HBs.out.mono ?_
                rintro e v2 ⟨hwb, ⟨A2, c2, rfl, r2⟩, hrb, hs2⟩
                have HW2 := Lib.hid (HW1.out.trans hwb)
                have HRo2 := Lib.hid (own_base r2 HW1.out.size)
                have HRB2 := Lib.hid hrb
                have hx2 : Hid (v2.heap[w.heap.size]? = some (.cells #[.int .i64 (bk : Int), .int .i64 (ls : Int), .int .i64 (k : Int)] 24 (0, 0))) := (hwb.block _ hz1 (by simp; omega)).trans hx1.out
                have hz2 : w.heap.size < v2.heap.size := Nat.lt_of_lt_of_le hz1 hwb.size
                have HCp := pcopy_any (ns F) n (by rw [ns_length, hFn]) (by omega) (ns B) B.length (ns_length B) (by omega) A1 A2 c1 c2 hA1 hc1 v2 (rdv_up (rdv_low HRF.out HW2.out hlt) (Nat.le_of_lt HRB2.out.lt)) (own_rdvT HRo2.out)
                rw [hcE, hcA] at HCp
                have HCp := Lib.hid HCp
                clear hwb r2 hrb HBs hz1 hx1 p0 p1 p2
                go_wp2_with fail
                refine HCp.out.mono ?_
                rintro e v3 ⟨A3, c3, rfl, q1, q2, q3, q4⟩
                have HW3 := Lib.hid (HW2.out.trans (wb_below q4))
                have HRB3 := Lib.hid (HRB2.out.on q4)
                have HRo3 := Lib.hid (own_below HRo2.out q4)
                have HRs := Lib.hid (HRst.out v3 s2 ((m : Int) - (C.length : Int)) hs2 (by omega) (by omega) HRB3.out (rd_low HR.out HW3.out hlt))
                rw [hpr] at HRs
                have hx3 : Hid (v3.heap[w.heap.size]? = some (.cells #[.int .i64 (bk : Int), .int .i64 (ls : Int), .int .i64 (k : Int)] 24 (0, 0))) := (q4.block _ hz2).trans hx2.out
                obtain ⟨p0, p1, p2⟩ := HBx.out v3 hx3.out
                clear q1 q2 q3 q4 hx2 hz2
                go_wp2_with fail
                refine (ion_t _).mono ?_
                rintro e w' ⟨rfl, rfl⟩
                go_wp2_with fail
                refine HRs.out.mono ?_
                rintro e v4 ⟨hwb, ⟨A4, c4, rfl, r4⟩, hrb⟩
                have HW4 := Lib.hid (HW3.out.trans hwb)
                have HRo4 := Lib.hid (own_wb HRo3.out hwb hlt)
                have HRB4 := Lib.hid hrb
                have hJn := pjoin_own (ns F) n (by rw [ns_length, hFn]) (by omega) (ns B) B.length (ns_length B) (by omega) (ns r) r.length (ns_length r) hrl A1 A2 A4 c1 c2 c4 hA1 hc1 (own_capT r4).2 v4 (rdv_up (rdv_low HRF.out HW4.out hlt) (Nat.le_of_lt HRB4.out.lt)) (own_rdvT HRo4.out) (own_rdvT r4)
                rw [HJ.out r hrr, hU] at hJn
                have HJn := Lib.hid hJn
                clear hwb r4 hrb hJn HRo4 HRo3 HRs p0 p1 p2
                go_wp2_with fail
                refine HJn.out.mono ?_
                rintro e v5 ⟨A5, c5, rfl, r5, B5⟩
                have HW5 := Lib.hid (HW4.out.trans (wb_below B5))
                have HRB5 := Lib.hid (HRB4.out.on B5)
                have HR5 := Lib.hid (own_base r5 HW4.out.size)
                clear r5 B5
                go_wp2_with fail
                refine (ion_t _).mono ?_
                rintro e w' ⟨rfl, rfl⟩
                go_wp2
                go_ret
                exact ⟨HW5.out, by rw [HQ.out]; exact ⟨⟨_, _, rfl, HR5.out⟩, HRB5.out⟩⟩
              · have HQ : Hid (o = none) := by show _ = _; rw [HQ0.out, hpr]; simp only; rw [hU, if_pos (by simpa using hM2)]
                clear HQ0
                go_enter Tryz.func101, Tryz.ntmps101
                go_wp2_with fail
                refine HT0.out.mono ?_
                rintro e v1 ⟨hwb, rfl, hrb⟩
                have HW1 := Lib.hid ((wb_below HB0.out).trans hwb)
                have HRB1 := Lib.hid hrb
                have hx1 : Hid (v1.heap[w.heap.size]? = some (.cells #[.int .i64 (bk : Int), .int .i64 (ls : Int), .int .i64 (k : Int)] 24 (0, 0))) := (hwb.block _ hz (by simp; omega)).trans HBc.out
                have hz1 : w.heap.size < v1.heap.size := Nat.lt_of_lt_of_le hz hwb.size
                have HRd1 := Lib.hid (rd_low HR.out HW1.out hlt)
                clear hwb hrb HT0 hz
                obtain ⟨p0, p1, p2⟩ := HBx.out v1 hx1.out
                have HBs := Lib.hid (HBl.out v1 s1 hs1 HRB1.out HRd1.out)
                rw [HBlk.out] at HBs
                go_wp2_with fail
                refine HBs.out.mono ?_
                rintro e v2 ⟨hwb, ⟨A2, c2, rfl, r2⟩, hrb, hs2⟩
                have HW2 := Lib.hid (HW1.out.trans hwb)
                have HRo2 := Lib.hid (own_base r2 HW1.out.size)
                have HRB2 := Lib.hid hrb
                have hx2 : Hid (v2.heap[w.heap.size]? = some (.cells #[.int .i64 (bk : Int), .int .i64 (ls : Int), .int .i64 (k : Int)] 24 (0, 0))) := (hwb.block _ hz1 (by simp; omega)).trans hx1.out
                have hz2 : w.heap.size < v2.heap.size := Nat.lt_of_lt_of_le hz1 hwb.size
                have HCp := pcopy_any (ns F) n (by rw [ns_length, hFn]) (by omega) (ns B) B.length (ns_length B) (by omega) A1 A2 c1 c2 hA1 hc1 v2 (rdv_up (rdv_low HRF.out HW2.out hlt) (Nat.le_of_lt HRB2.out.lt)) (own_rdvT HRo2.out)
                rw [hcE, hcA] at HCp
                have HCp := Lib.hid HCp
                clear hwb r2 hrb HBs hz1 hx1 p0 p1 p2
                go_wp2_with fail
                refine HCp.out.mono ?_
                rintro e v3 ⟨A3, c3, rfl, q1, q2, q3, q4⟩
                have HW3 := Lib.hid (HW2.out.trans (wb_below q4))
                have HRB3 := Lib.hid (HRB2.out.on q4)
                have HRo3 := Lib.hid (own_below HRo2.out q4)
                have HRs := Lib.hid (HRst.out v3 s2 ((m : Int) - (C.length : Int)) hs2 (by omega) (by omega) HRB3.out (rd_low HR.out HW3.out hlt))
                rw [hpr] at HRs
                have hx3 : Hid (v3.heap[w.heap.size]? = some (.cells #[.int .i64 (bk : Int), .int .i64 (ls : Int), .int .i64 (k : Int)] 24 (0, 0))) := (q4.block _ hz2).trans hx2.out
                obtain ⟨p0, p1, p2⟩ := HBx.out v3 hx3.out
                clear q1 q2 q3 q4 hx2 hz2
                go_wp2_with fail
                refine (ion_t _).mono ?_
                rintro e w' ⟨rfl, rfl⟩
                go_wp2_with fail
                refine HRs.out.mono ?_
                rintro e v4 ⟨hwb, ⟨A4, c4, rfl, r4⟩, hrb⟩
                have HW4 := Lib.hid (HW3.out.trans hwb)
                have HRo4 := Lib.hid (own_wb HRo3.out hwb hlt)
                have HRB4 := Lib.hid hrb
                have hJn := pjoin_own (ns F) n (by rw [ns_length, hFn]) (by omega) (ns B) B.length (ns_length B) (by omega) (ns r) r.length (ns_length r) hrl A1 A2 A4 c1 c2 c4 hA1 hc1 (own_capT r4).2 v4 (rdv_up (rdv_low HRF.out HW4.out hlt) (Nat.le_of_lt HRB4.out.lt)) (own_rdvT HRo4.out) (own_rdvT r4)
                rw [HJ.out r hrr, hU] at hJn
                have HJn := Lib.hid hJn
                clear hwb r4 hrb hJn HRo4 HRo3 HRs p0 p1 p2
                go_wp2_with fail
                refine HJn.out.mono ?_
                rintro e v5 ⟨A5, c5, rfl, r5, B5⟩
                have HW5 := Lib.hid (HW4.out.trans (wb_below B5))
                have HRB5 := Lib.hid (HRB4.out.on B5)
                have HR5 := Lib.hid (own_base r5 HW4.out.size)
                clear r5 B5
                go_wp2_with fail
                refine (ion_f M2 hM2 _).mono ?_
                rintro e w' ⟨rfl, rfl⟩
                go_wp2
                exact ⟨rfl, HW5.out, by rw [HQ.out]; rfl⟩
          · have HQ : Hid (o = none) := by show _ = _; rw [HP.out]; unfold ptold; rw [hpb]; simp only; rw [if_pos (by simpa using hbc)]
            have hcE : cpE (ns F) (ns B) = bchk (ns B) F.length := cpE_ok F hF B
            clear HP hpb
            go_enter Tryz.func101, Tryz.ntmps101
            go_wp2_with fail
            refine HT0.out.mono ?_
            rintro e v1 ⟨hwb, rfl, hrb⟩
            have HW1 := Lib.hid ((wb_below HB0.out).trans hwb)
            have HRB1 := Lib.hid hrb
            have hx1 : Hid (v1.heap[w.heap.size]? = some (.cells #[.int .i64 (bk : Int), .int .i64 (ls : Int), .int .i64 (k : Int)] 24 (0, 0))) := (hwb.block _ hz (by simp; omega)).trans HBc.out
            have hz1 : w.heap.size < v1.heap.size := Nat.lt_of_lt_of_le hz hwb.size
            have HRd1 := Lib.hid (rd_low HR.out HW1.out hlt)
            clear hwb hrb HT0 hz
            obtain ⟨p0, p1, p2⟩ := HBx.out v1 hx1.out
            have HBs := Lib.hid (HBl.out v1 s1 hs1 HRB1.out HRd1.out)
            rw [HBlk.out] at HBs
            go_wp2_with fail
            refine HBs.out.mono ?_
            rintro e v2 ⟨hwb, ⟨A2, c2, rfl, r2⟩, hrb, hs2⟩
            have HW2 := Lib.hid (HW1.out.trans hwb)
            have HRo2 := Lib.hid (own_base r2 HW1.out.size)
            have HRB2 := Lib.hid hrb
            have hx2 : Hid (v2.heap[w.heap.size]? = some (.cells #[.int .i64 (bk : Int), .int .i64 (ls : Int), .int .i64 (k : Int)] 24 (0, 0))) := (hwb.block _ hz1 (by simp; omega)).trans hx1.out
            have hz2 : w.heap.size < v2.heap.size := Nat.lt_of_lt_of_le hz1 hwb.size
            have HCp := pcopy_any (ns F) n (by rw [ns_length, hFn]) (by omega) (ns B) B.length (ns_length B) (by omega) A1 A2 c1 c2 hA1 hc1 v2 (rdv_up (rdv_low HRF.out HW2.out hlt) (Nat.le_of_lt HRB2.out.lt)) (own_rdvT HRo2.out)
            rw [hcE] at HCp
            have HCp := Lib.hid HCp
            clear hwb r2 hrb HBs hz1 hx1 p0 p1 p2
            go_wp2_with fail
            refine HCp.out.mono ?_
            rintro e v3 ⟨A3, c3, rfl, q1, q2, q3, q4⟩
            have HW3 := Lib.hid (HW2.out.trans (wb_below q4))
            clear q1 q2 q3 q4
            go_wp2_with fail
            refine (ion_f _ (by rw [← hFn]; exact hbc) _).mono ?_
            rintro e w' ⟨rfl, rfl⟩
            go_wp2
            exact ⟨rfl, HW3.out, by rw [HQ.out]; rfl⟩
end
section
set_option maxRecDepth 100000
set_option linter.unusedVariables false
open Go.RowKit Go.Shelf
theorem cutE_pack (L : List Bool) (hL : L.length ≤ 8192) (fr to : Int) : cutE (L.length : Int) (pack L) fr to = if fr < 0 ∨ to < fr ∨ (L.length : Int) < to then 3 else 0 := by
  unfold cutE
  rw [chk_pack L hL]
  simp
theorem stands_res (L : List Bool) (hL : L.length ≤ 8192) (l b : List Bool) (e : Int) (s : Nat) (hs : s ≤ L.length) (hcase : (l.length ≤ 8192 ∧ b = l ∧ e = 0) ∨ (8192 < l.length ∧ e = 8)) (C : List Bool) (er : Int)
    (hC : C = (if cutE (L.length : Int) (pack L) (s : Int) (IntKind.i64.wrap ((s : Int) + (b.length : Int))) = 0 then ((unpack (L.length : Int).toNat (pack L)).drop (s : Int).toNat).take ((IntKind.i64.wrap ((s : Int) + (b.length : Int))).toNat - (s : Int).toNat) else []) ∧ er = cutE (L.length : Int) (pack L) (s : Int) (IntKind.i64.wrap ((s : Int) + (b.length : Int)))) :
    (e = 0 → er = 0 → decide (pack C = pack b) = decide ((L.drop s).take l.length = l)) ∧ (e = 0 → er ≠ 0 → decide ((L.drop s).take l.length = l) = false) ∧ (e ≠ 0 → decide ((L.drop s).take l.length = l) = false) := by
  obtain ⟨hC, he⟩ := hC
  rcases hcase with ⟨hl, rfl, rfl⟩ | ⟨hl, rfl⟩
  · have hw : IntKind.i64.wrap ((s : Int) + (b.length : Int)) = ((s + b.length : Nat) : Int) := by
      rw [← Int.natCast_add]; exact IntWalk.i64_in _ (by omega)
    rw [hw] at hC he
    rw [cutE_pack L hL] at hC he
    refine ⟨fun _ h => ?_, fun _ h => ?_, fun h => absurd rfl h⟩
    · rw [h] at he
      have hle : s + b.length ≤ L.length := by
        by_cases hx : ((s : Int) < 0 ∨ ((s + b.length : Nat) : Int) < (s : Int) ∨ (L.length : Int) < ((s + b.length : Nat) : Int))
        · rw [if_pos hx] at he; cases he
        · omega
      have hx : ¬ ((s : Int) < 0 ∨ ((s + b.length : Nat) : Int) < (s : Int) ∨ (L.length : Int) < ((s + b.length : Nat) : Int)) := by omega
      rw [if_neg hx, if_pos rfl] at hC
      simp only [Int.toNat_natCast, unpack_pack] at hC
      rw [show s + b.length - s = b.length by omega] at hC
      have hlen : C.length = b.length := by rw [hC, List.length_take, List.length_drop]; omega
      rw [← hC]
      by_cases hq : C = b
      · rw [hq]; simp
      · rw [decide_eq_false hq, decide_eq_false (fun h => hq (pack_inj hlen h))]
    · have hx : (L.length : Int) < ((s + b.length : Nat) : Int) := by
        by_cases hx : ((s : Int) < 0 ∨ ((s + b.length : Nat) : Int) < (s : Int) ∨ (L.length : Int) < ((s + b.length : Nat) : Int))
        · omega
        · rw [if_neg hx] at he; exact absurd he h
      refine decide_eq_false (fun hq => ?_)
      have := congrArg List.length hq
      rw [List.length_take, List.length_drop] at this
      omega
  · refine ⟨fun h => absurd h (by decide), fun h => absurd h (by decide), fun _ => decide_eq_false (fun hq => ?_)⟩
    have := congrArg List.length hq
    rw [List.length_take, List.length_drop] at this
    omega
end
end Go.Proofs.YtbddcokjkdoaaaaGreat
