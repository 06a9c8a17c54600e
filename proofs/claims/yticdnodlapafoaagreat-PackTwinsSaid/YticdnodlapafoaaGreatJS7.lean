/- Texts of this proof, one behind the other (RUn, QCopy, QBlk, RN9, SBk, STb, STr, SUo); each fact names its conditions. -/
import Derived.Test.YticdnodlapafoaaGreatJS6
import Derived.Test.YticdnodlapafoaaGreatJS5
import Derived.Lib.AppendZerosOnto
import Derived.Laws.AppendOwnNone
import Derived.Deep.RegionHeld3
namespace Go.Proofs.YticdnodlapafoaaGreat

section
set_option maxRecDepth 100000
set_option linter.unusedVariables false
open Go.RowKit Go.Shelf Go.Lib

set_option maxHeartbeats 4000000 in
theorem grow_nil (n : Nat) (hn : n ≤ 1000000) (w : World) :
    Calls Tryz.prog 183 #[.slice none 0 0, .int .i64 (n : Int)] w fun e w' => ∃ A c, e = .returned (.slice A 0 c) ∧ w'.ownsRow w.heap.size 3 1 (.slice A 0 c) 0 [] ∧ Below w.heap.size w w' := by
  obtain ⟨i0, hi, hz0, hz1, hz2⟩ := info_parts info3
  have h1 : decide ((n : Int) < 0) = false := by simp
  have h3 : IntKind.i64.wrap ((n : Int) - 0) = (n : Int) := by rw [Int.sub_zero]; exact IntWalk.i64_in _ (by omega)
  by_cases h0 : n = 0
  · subst h0
    go_enter Tryz.func183, Tryz.ntmps183
    go_wp2
    go_ret
    exact ⟨none, 0, rfl, ⟨rfl, .inl ⟨rfl, rfl⟩⟩, Below.refl _ _⟩
  · have h4 : decide (0 < (n : Int)) = true := by simp; omega
    have h5 : decide ((n : Int) > 0) = true := by simp; omega
    have h6 : (0 : Int) < (n : Int) := by omega
    have h7 : ¬ ((n : Int) < 0) := by omega
    have hold : (Builtin.firstCells i0.size 0 (.slice none 0 0)).run Tryz.prog w.drew = .ok ([] : List Value).toArray w.drew := run_firstCells_none w.drew i0.size 0 0 0
    have hrz : ∀ ty, (Builtin.append_ #[22, 3] ty #[.slice none 0 0, .int .i64 (n : Int)]).run Tryz.prog w =
        .ok (.slice (some ⟨w.heap.size, 0, none⟩) n (grownCap w n 0 3)) (w.drew.alloc (.cells ((([] : List Value).toArray ++ Builtin.zeroCells (Value.int .i64 0).cells n) ++ Builtin.zeroCells (Value.int .i64 0).cells (grownCap w n 0 3 - n)) 3)) := fun ty => by
      have h := Lib.run_append_grow_zeros w 22 3 ty 3 i0 (.int .i64 0) .i64 .i64 Tryz.underlying22 Tryz.underlying3 hi hz0 none 0 0 [] hold n (by omega) (by omega) (by omega) (by omega)
        (by rw [hz2]; omega) (by rw [Nat.zero_add]; exact growslice_fits (by omega) (by rw [hz2]; omega))
      rw [Nat.zero_add] at h
      exact h
    have hGn : n ≤ grownCap w n 0 3 := grownCap_ge w _ _ _
    have hGm : grownCap w n 0 3 ≤ maxLen := grownCap_le_maxLen w n 0 3 (by unfold maxLen; omega)
    obtain ⟨G, hG⟩ : ∃ G, G = grownCap w n 0 3 := ⟨_, rfl⟩
    rw [← hG] at hrz hGn hGm
    have hG63 : G ≤ 9223372036854775807 := by unfold maxLen at hGm; omega
    obtain ⟨cs, hcs⟩ : ∃ cs, cs = (([] : List Value).toArray ++ Builtin.zeroCells (Value.int .i64 0).cells n) ++ Builtin.zeroCells (Value.int .i64 0).cells (G - n) := ⟨_, rfl⟩
    have hsz : cs.size = G * 1 := by
      rw [hcs]; simp [Builtin.zeroCells, Value.cells]; omega
    rw [← hcs] at hrz
    have HO : Hid ((w.drew.alloc (.cells cs 3)).ownsRow w.heap.size 3 1 (.slice (some ⟨w.heap.size, 0, none⟩) 0 G) 0 [] ∧ Below w.heap.size w (w.drew.alloc (.cells cs 3))) :=
      ⟨⟨rfl, .inr ⟨w.heap.size, G, cs, rfl, Nat.le_refl _, World.alloc_heap_new w.drew (.cells cs 3), Nat.zero_le _, hGm, hsz, by simp⟩⟩, ((Below.refl w.heap.size w).drew).alloc (Nat.le_refl _) _⟩
    clear hold hG hcs hsz
    go_enter Tryz.func183, Tryz.ntmps183
    go_wp2_with (at_builtin; refine Lib.wpList_append_run _ rfl _ _ _ _ rfl _ _ rfl rfl _ _ (hrz _) ?_)
    all_goals (go_ret; exact ⟨_, _, rfl, HO.out.1, HO.out.2⟩)
theorem add_plU (b off k : Nat) : (⟨b, off, none⟩ : Addr).add k = ⟨b, off + k, none⟩ := by unfold Addr.add; split <;> simp_all
theorem rdv_newsU {w : World} {B : Nat} {a : Addr} {vs : List Value} (h : RdV w B (some a) vs) : ∀ j u, vs[j]? = some u → w.cell? (a.add j) = some u := by
  intro j u hu
  obtain ⟨b, off, e, hb, hc⟩ := h.at_ hu
  cases e
  rw [add_plU]; exact hc
theorem own_zero {w : World} {base n c : Nat} {e : TypeId} {xs : List Value} (h : w.ownsRow base e 1 (.slice none n c) n xs) : n = 0 := by
  rcases h.2 with ⟨h, h0⟩ | ⟨g, cap, cur, h, _⟩
  · exact h0
  · simp at h
theorem rdv_none_nil {w : World} {B : Nat} {l : List Nat} (h : RdV w B none (zc (ns l))) : l = [] := by
  rcases h with h | ⟨b, off, h, _⟩
  · cases l with
    | nil => rfl
    | cons x t => simp [zc, ns] at h
  · cases h
/-- At each round's head: so many are counted. -/
def SzRel (n1 n2 : Nat) (p s : Value) : Prop := (p = .int .i64 0 ∧ s = .int .i64 0) ∨ (p = .int .i64 1 ∧ s = .int .i64 (n1 : Int)) ∨ (p = .int .i64 2 ∧ s = .int .i64 ((n1 + n2 : Nat) : Int))
/-- At each round's head: so many lists are in the row. -/
def CtRel (l1 l2 : List Nat) (w : World) (v p : Value) (wr : World) : Prop :=
  ∃ (i : Nat) (l : List Nat), ((i = 0 ∧ l = []) ∨ (i = 1 ∧ l = l1) ∨ (i = 2 ∧ l = l1 ++ l2)) ∧ p = .int .i64 (i : Int) ∧ wr.ownsRow w.heap.size 3 1 v l.length (zc (ns l)) ∧ Below w.heap.size w wr
set_option maxHeartbeats 8000000 in
theorem concat_two (l1 l2 : List Nat) (n1 n2 : Nat) (hn1 : l1.length = n1) (hn2 : l2.length = n2) (h1 : n1 ≤ 100000) (h2 : n2 ≤ 100000) (A1 A2 : Option Addr) (c1 c2 : Nat) (hA1 : A1 = none → c1 = 0) (hA2 : A2 = none → c2 = 0) (S : Nat) (w : World)
    (hS : w.heap[S]? = some (.cells #[.slice A1 n1 c1, .slice A2 n2 c2] 22 (0, 0))) (r1 : RdV w w.heap.size A1 (zc (ns l1))) (r2 : RdV w w.heap.size A2 (zc (ns l2))) :
    Calls Tryz.prog 166 #[.slice (some ⟨S, 0, none⟩) 2 2] w fun e w' => ∃ A c, e = .returned (.slice A (n1 + n2) c) ∧ w'.ownsRow w.heap.size 3 1 (.slice A (n1 + n2) c) (n1 + n2) (zc (ns (l1 ++ l2))) ∧ Below w.heap.size w w' := by
  obtain ⟨i0, hi, hz0, hz1, hz2⟩ := info_parts info3
  have hSw : S < w.heap.size := (Array.getElem?_eq_some_iff.1 hS).1
  have HX1 := Lib.hid r1; have HX2 := Lib.hid r2; have HN1 := Lib.hid hn1; have HN2 := Lib.hid hn2
  have HG := Lib.hid (grow_nil (n1 + n2) (by omega))
  have k0 : w.cell? ⟨S, 0, none⟩ = some (.slice A1 n1 c1) := by rw [cell_at hS]; rfl
  have k1 : w.cell? ⟨S, 1, none⟩ = some (.slice A2 n2 c2) := by rw [cell_at hS]; rfl
  have HK : Hid (∀ V, Below w.heap.size w V → V.cell? ⟨S, 0, none⟩ = some (.slice A1 n1 c1) ∧ V.cell? ⟨S, 1, none⟩ = some (.slice A2 n2 c2)) := fun V hV => ⟨(hV.cell (p := ⟨S, 0, none⟩) hSw).trans k0, (hV.cell (p := ⟨S, 1, none⟩) hSw).trans k1⟩
  clear r1 r2 hn1 hn2 hS
  go_enter Tryz.func166, Tryz.ntmps166
  go_wp2
  go_loopw [3, 11] (fun s p wr => SzRel n1 n2 p s ∧ wr = w) (fun _ p _ => 2 - (intOf p).toNat)
  case atStart => exact ⟨.inl ⟨rfl, rfl⟩, rfl⟩
  case round =>
    obtain ⟨hsz, hw⟩ := hrel
    have hw2 := hw.symm
    subst hw2
    clear hw
    rcases hsz with ⟨rfl, rfl⟩ | ⟨rfl, rfl⟩ | ⟨rfl, rfl⟩
    · have t1 : IntKind.i64.wrap (0 + (n1 : Int)) = (n1 : Int) := by rw [Int.zero_add]; exact IntWalk.i64_in _ (by omega)
      have t2 : decide ((n1 : Int) < 0) = false := by simp
      go_wp2
      go_roundw
      case rel => exact ⟨.inr (.inl ⟨rfl, rfl⟩), by trivial⟩
      case measure => simp [intOf]
    · have t1 : IntKind.i64.wrap ((n1 : Int) + (n2 : Int)) = ((n1 + n2 : Nat) : Int) := by rw [← Int.natCast_add]; exact IntWalk.i64_in _ (by omega)
      have t2 : decide (((n1 + n2 : Nat) : Int) < 0) = false := by simp; omega
      go_wp2
      go_roundw
      case rel => exact ⟨.inr (.inr ⟨rfl, by go_num⟩), by trivial⟩
      case measure => simp [intOf]
    · clear k0 k1
      go_wp2_with fail
      refine (HG.out w).mono ?_
      rintro e w1 ⟨Av, cv, rfl, hrow, hbel⟩
      have HR := Lib.hid hrow; have HB := Lib.hid hbel
      clear hrow hbel HG
      go_wp2
      go_loopw [6, 27] (fun v p V => CtRel l1 l2 w v p V) (fun _ p _ => 2 - (intOf p).toNat)
      case atStart => exact ⟨0, [], .inl ⟨rfl, rfl⟩, rfl, HR.out, HB.out⟩
      case round =>
        obtain ⟨i, l, hcase, rfl, hrow, hbel⟩ := hrel
        rcases hcase with ⟨rfl, rfl⟩ | ⟨rfl, rfl⟩ | ⟨rfl, rfl⟩
        · obtain ⟨k0, k1⟩ := HK.out _ hbel
          obtain ⟨Av2, cv2, rfl⟩ := own_slice3 hrow
          simp only [List.length_nil] at hrow
          have hX := HX1.out.on hbel
          have HB0 := Lib.hid hbel
          clear hbel HR HB
          cases A1 with
          | none =>
            have hc := hA1 rfl
            have hl0 := rdv_none_nil hX
            subst hc
            obtain rfl : n1 = 0 := by rw [← HN1.out, hl0]; rfl
            have HL0 := Lib.hid hl0
            clear hl0
            clear hX
            go_wp2_with (at_builtin; refine wpList_append_own_none rfl _ _ 22 rfl w.heap.size 3 i0 1 Tryz.underlying22 hi _ _ _ rfl hrow rfl ?_)
            all_goals (
              go_roundw
              case rel => first | exact ⟨1, l1, .inr (.inl ⟨rfl, rfl⟩), rfl, by rw [HL0.out]; exact hrow, HB0.out⟩ | exact ⟨_, _, _, ⟨1, l1, .inr (.inl ⟨rfl, rfl⟩), rfl, by rw [HL0.out]; exact hrow, HB0.out⟩, rfl, rfl, rfl⟩
              case measure => simp [intOf])
          | some a =>
            have HNw := Lib.hid (rdv_newsU hX)
            have HLz : Hid ((zc (ns l1)).length = n1 * 1) := by show _ = _; rw [zc_length, ns_length, HN1.out, Nat.mul_one]
            have HOn := Lib.hid (zc_one (ns l1))
            clear hX
            go_wp2_with (at_builtin; refine wpList_append_own _ rfl _ _ 22 rfl w.heap.size 3 i0 (.int .i64 0) 1 8 Tryz.underlying22 hi hz0 hz1 hz2 rfl (by decide) _ _ _ rfl hrow a n1 c1 (zc (ns l1)) rfl HLz.out HNw.out HOn.out (by unfold maxLen; omega) (by omega) HB0.out.size ?_; intro v' w3 hown' hgrow _; obtain ⟨Av', cv', rfl⟩ := own_slice3 hown')
            have HO : Hid (w3.ownsRow w.heap.size 3 1 (.slice Av' (0 + n1) cv') l1.length (zc (ns l1))) := by
              show World.ownsRow _ _ _ _ _ _ _
              rw [HN1.out]
              have := hown'
              simpa [zc, ns] using this
            have HB : Hid (Below w.heap.size w w3) := HB0.out.trans (grown_low hgrow hrow HB0.out.size)
            clear hown' hgrow hrow HB0 k0 k1
            go_wp2
            go_roundw
            case rel => exact ⟨1, l1, .inr (.inl ⟨rfl, rfl⟩), rfl, by first | exact HO.out | simpa using HO.out, HB.out⟩
            case measure => simp [intOf]
        · obtain ⟨k0, k1⟩ := HK.out _ hbel
          obtain ⟨Av2, cv2, rfl⟩ := own_slice3 hrow
          have hX := HX2.out.on hbel
          have HB0 := Lib.hid hbel
          have HLen : Hid ((l ++ l2).length = n1 + n2) := by show _ = _; rw [List.length_append, HN1.out, HN2.out]
          generalize hk : l.length = k at *
          have HKk := Lib.hid hk
          have hkn : Hid (k = n1) := HN1.out
          have hk1 : k ≤ 100000 := by have := hkn.out; omega
          clear hk hbel HR HB
          cases A2 with
          | none =>
            have hc := hA2 rfl
            have hl0 := rdv_none_nil hX
            subst hc
            obtain rfl : n2 = 0 := by rw [← HN2.out, hl0]; rfl
            have HL0 := Lib.hid hl0
            clear hl0
            clear hX
            go_wp2_with (at_builtin; refine wpList_append_own_none rfl _ _ 22 rfl w.heap.size 3 i0 1 Tryz.underlying22 hi _ _ _ rfl hrow rfl ?_)
            all_goals (
              go_roundw
              case rel => first | exact ⟨2, l ++ l2, .inr (.inr ⟨rfl, rfl⟩), rfl, by rw [HL0.out, List.append_nil, HKk.out]; exact hrow, HB0.out⟩ | exact ⟨_, _, _, ⟨2, l ++ l2, .inr (.inr ⟨rfl, rfl⟩), rfl, by rw [HL0.out, List.append_nil, HKk.out]; exact hrow, HB0.out⟩, rfl, rfl, rfl⟩
              case measure => simp [intOf])
          | some a =>
            have HNw := Lib.hid (rdv_newsU hX)
            have HLz : Hid ((zc (ns l2)).length = n2 * 1) := by show _ = _; rw [zc_length, ns_length, HN2.out, Nat.mul_one]
            have HOn := Lib.hid (zc_one (ns l2))
            clear hX
            go_wp2_with (at_builtin; refine wpList_append_own _ rfl _ _ 22 rfl w.heap.size 3 i0 (.int .i64 0) 1 8 Tryz.underlying22 hi hz0 hz1 hz2 rfl (by decide) _ _ _ rfl hrow a n2 c2 (zc (ns l2)) rfl HLz.out HNw.out HOn.out (by unfold maxLen; omega) (by omega) HB0.out.size ?_; intro v' w3 hown' hgrow _; obtain ⟨Av', cv', rfl⟩ := own_slice3 hown')
            have HO : Hid (w3.ownsRow w.heap.size 3 1 (.slice Av' (k + n2) cv') (l ++ l2).length (zc (ns (l ++ l2)))) := by
              show World.ownsRow _ _ _ _ _ _ _
              rw [HLen.out, ns_append, zc_append, ← hkn.out]; exact hown'
            have HB : Hid (Below w.heap.size w w3) := HB0.out.trans (grown_low hgrow hrow HB0.out.size)
            clear hown' hgrow hrow HB0 k0 k1
            go_wp2
            go_roundw
            case rel => exact ⟨2, l ++ l2, .inr (.inr ⟨rfl, rfl⟩), rfl, HO.out, HB.out⟩
            case measure => simp [intOf]
        · have hl : (l1 ++ l2).length = n1 + n2 := by rw [List.length_append, HN1.out, HN2.out]
          rw [hl] at hrow
          obtain ⟨Av2, cv2, rfl⟩ := own_slice3 hrow
          have HR2 := Lib.hid hrow; have HB2 := Lib.hid hbel
          clear hrow hbel HR HB
          go_wp2
          go_ret
          exact ⟨_, _, rfl, HR2.out, HB2.out⟩
set_option maxHeartbeats 4000000 in
/-- The union of two lists. -/
theorem union_any (l1 l2 : List Nat) (n1 n2 : Nat) (hn1 : l1.length = n1) (hn2 : l2.length = n2) (h1 : n1 ≤ 100000) (h2 : n2 ≤ 100000) (M1 : List Nat) (M2 : Int) (hM : un l1 l2 = (M1, M2)) (A1 A2 : Option Addr) (c1 c2 : Nat) (hA1 : A1 = none → c1 = 0) (hA2 : A2 = none → c2 = 0) (w : World) (r1 : RdV w w.heap.size A1 (zc (ns l1))) (r2 : RdV w w.heap.size A2 (zc (ns l2))) :
    Calls Tryz.prog 138 #[.slice A1 n1 c1, .slice A2 n2 c2] w (IntsP w M1 M2) := by
  have hB1 := one_below w (.cells #[.slice A1 n1 c1, .slice A2 n2 c2] 22)
  have HC := Lib.hid (concat_two l1 l2 n1 n2 hn1 hn2 h1 h2 A1 A2 c1 c2 hA1 hA2 w.heap.size (w.alloc (.cells #[.slice A1 n1 c1, .slice A2 n2 c2] 22)) (World.alloc_heap_new _ _) (r1.on hB1) (r2.on hB1))
  have HB1 := Lib.hid hB1
  have HLen : Hid ((l1 ++ l2).length = n1 + n2) := by show _ = _; rw [List.length_append, hn1, hn2]
  have HMM := Lib.hid hM
  have HSz : Hid ((w.alloc (.cells #[.slice A1 n1 c1, .slice A2 n2 c2] 22)).heap.size = w.heap.size + 1) := World.size_alloc _ _
  clear hB1 hM r1 r2 hn1 hn2
  go_enter Tryz.func138, Tryz.ntmps138
  go_wp2_with fail
  refine HC.out.mono ?_
  rintro e w1 ⟨Av, cv, rfl, hr1, hb1⟩
  have HR1 : Hid (w1.ownsRow w.heap.size 3 1 (.slice Av (n1 + n2) cv) (n1 + n2) (zc (ns (l1 ++ l2)))) := own_base hr1 (by rw [HSz.out]; omega)
  have HB : Hid (Below w.heap.size w w1) := HB1.out.trans (hb1.mono (by rw [HSz.out]; omega))
  clear hr1 hb1 HC HB1 HSz
  have hN0 : n1 + n2 ≤ 200000 := by omega
  generalize n1 + n2 = N0 at *
  have HS := Lib.hid (sort_own (l1 ++ l2) N0 HLen.out (by omega) w.heap.size _ _ HR1.out HB.out.size)
  go_wp2_with fail
  refine HS.out.mono ?_
  rintro e w4 ⟨rfl, hr4, hb4⟩
  have HB4 : Hid (Below w.heap.size w w4) := HB.out.trans hb4
  have hl4 : (nso (l1 ++ l2)).length = N0 := by rw [(nso_perm _).length_eq]; exact HLen.out
  have HT := Lib.hid (twice_in (nso (l1 ++ l2)) N0 hl4 (by omega) Av cv w4 (own_rdv hr4))
  have HO4 := Lib.hid hr4
  have HL4 := Lib.hid hl4
  have HM : Hid ((M1, M2) = if tw (nso (l1 ++ l2)) = true then ([], 6) else if 300 < (nso (l1 ++ l2)).length then ([], 2) else (nso (l1 ++ l2), 0)) := HMM.out.symm
  rw [hl4] at HM
  clear hr4 hb4 hl4 HS HR1 HB HMM
  generalize nso (l1 ++ l2) = L at *
  cases htw : tw L with
  | true =>
    rw [htw] at HT HM
    rw [if_pos rfl] at HM
    obtain ⟨rfl, rfl⟩ : M1 = [] ∧ M2 = 6 := by have := HM.out; simpa using this
    clear HM htw
    go_wp2_with fail
    refine HT.out.mono ?_
    rintro e w5 ⟨rfl, B5⟩
    have HB5 := Lib.hid (HB4.out.trans (B5.mono HB4.out.size)); clear B5
    go_wp2
    go_ret2
    exact ⟨none, 0, rfl, Nat.le_refl _, fun _ => rfl, .inl rfl, HB5.out⟩
  | false =>
    rw [htw] at HT HM
    rw [if_neg (by decide)] at HM
    by_cases h3 : 300 < N0
    · rw [if_pos h3] at HM
      obtain ⟨rfl, rfl⟩ : M1 = [] ∧ M2 = 2 := by have := HM.out; simpa using this
      clear HM htw
      go_wp2_with fail
      refine HT.out.mono ?_
      rintro e w5 ⟨rfl, B5⟩
      have HB5 := Lib.hid (HB4.out.trans (B5.mono HB4.out.size)); clear B5
      go_wp2
      go_ret2
      exact ⟨none, 0, rfl, Nat.le_refl _, fun _ => rfl, .inl rfl, HB5.out⟩
    · rw [if_neg h3] at HM
      obtain ⟨rfl, rfl⟩ : M1 = L ∧ M2 = 0 := by have := HM.out; simpa using this
      clear HM htw
      go_wp2_with fail
      refine HT.out.mono ?_
      rintro e w5 ⟨rfl, B5⟩
      have HR5 : Hid (RdV w5 w5.heap.size Av (zc (ns M1))) := (own_rdv HO4.out).on B5
      have HB5 := Lib.hid (HB4.out.trans (B5.mono HB4.out.size)); clear B5
      go_wp2
      go_ret2
      exact ⟨Av, cv, by rw [HL4.out]; rfl, by rw [HL4.out]; exact own_cap HO4.out, own_none HO4.out, HR5.out, HB5.out⟩
end

section
set_option maxRecDepth 100000
set_option linter.unusedVariables false
open Go.RowKit Go.Shelf

set_option maxHeartbeats 1000000 in
theorem copy_e (xs : List Int) (n : Nat) (hn : xs.length = n) (hn2 : n ≤ 9223372036854775807) (bs : List Int) (m : Nat) (hm : bs.length = m) (hm2 : m ≤ 9223372036854775807) (e0 : Int) (he : cpE xs bs = e0) (h0 : e0 ≠ 0) (A1 A2 : Option Addr) (c1 c2 : Nat) (w : World) (h1 : RdV w w.heap.size A1 (zc xs)) (h2 : RdV w w.heap.size A2 (zc bs)) :
    Calls Tryz.prog 108 #[.slice A1 n c1, .slice A2 m c2] w (IntsP w [] e0) := by
  have HC := Lib.hid (gcheck_any xs n hn hn2 A1 c1 w h1)
  unfold cpE at he
  by_cases hr : rchk xs = 0
  · rw [if_neg (by simpa using hr), hn] at he
    have h300 : n ≤ 300 := by
      obtain ⟨l, hl0, hl⟩ := rchk_zero xs hr
      have h3 : l.length ≤ 300 := hl.1
      rw [← hn, hl0, ns_length]; exact h3
    rw [hr] at HC
    have HB : Hid (∀ V, Below w.heap.size w V → Calls Tryz.prog 136 #[.slice A2 m c2, .int .i64 (n : Int)] V fun e w' => e = .returned (.int .i64 e0) ∧ Below V.heap.size V w') := fun V hV => by
      have := cblk_any bs m hm hm2 n (by omega) A2 c2 V (h2.on hV)
      rwa [he] at this
    have t0 : (e0 != 0) = true := by simpa using h0
    clear h1 h2 hn hm he h0 hr
    go_enter Tryz.func108, Tryz.ntmps108
    go_wp2_with fail
    refine HC.out.mono ?_
    rintro e w1 ⟨rfl, B1⟩
    have HB1 := Lib.hid B1; clear B1
    go_wp2_with fail
    refine (HB.out w1 HB1.out).mono ?_
    rintro e w2 ⟨rfl, B2⟩
    have HB2 := Lib.hid (HB1.out.trans (B2.mono HB1.out.size)); clear B2
    go_wp2
    go_ret2
    exact ⟨none, 0, rfl, Nat.le_refl _, fun _ => rfl, .inl rfl, HB2.out⟩
  · rw [if_pos (by simpa using hr)] at he
    rw [he] at HC
    have t0 : (e0 != 0) = true := by simpa using h0
    clear h1 h2 hn hm he h0 hr
    go_enter Tryz.func108, Tryz.ntmps108
    go_wp2_with fail
    refine HC.out.mono ?_
    rintro e w1 ⟨rfl, B1⟩
    have HB1 := Lib.hid B1; clear B1
    go_wp2
    go_ret2
    exact ⟨none, 0, rfl, Nat.le_refl _, fun _ => rfl, .inl rfl, HB1.out⟩

theorem cp_step {α : Type} (p : Bool) (B : List Nat) (i : Nat) (h : i < B.length) (F : List α) : cp p (B.drop i) F = (if p then F.take (B[i]?.getD 0) else []) ++ cp (!p) (B.drop (i + 1)) (F.drop (B[i]?.getD 0)) := by
  rw [drop_nat B i h]; rfl
theorem sum_step (B : List Nat) (i : Nat) (h : i < B.length) : (B.drop i).sum = B[i]?.getD 0 + (B.drop (i + 1)).sum := by
  rw [drop_nat B i h, List.sum_cons]
/-- At each round's head: what the first blocks copy is there. -/
def CpRel (B F : List Nat) (w : World) (v s p : Value) (wr : World) : Prop :=
  ∃ (i a : Nat) (out : List Nat), i ≤ B.length ∧ p = .int .i64 (i : Int) ∧ s = .int .i64 (a : Int) ∧ a + (B.drop i).sum ≤ F.length ∧ out.length ≤ a ∧ cp true B F = out ++ cp (decide (i % 2 = 0)) (B.drop i) (F.drop a) ∧
    wr.ownsRow w.heap.size 3 1 v out.length (zc (ns out)) ∧ Below w.heap.size w wr
theorem ns_cut (F : List Nat) (a b : Nat) : zc (ns ((F.drop a).take b)) = ((zc (ns F)).drop a).take b := by simp [zc, ns, List.map_take, List.map_drop]
theorem ns_drop (F : List Nat) (a : Nat) : zc (ns (F.drop a)) = (zc (ns F)).drop a := by simp [zc, ns, List.map_drop]
theorem par_succ (i : Nat) : (!decide (i % 2 = 0)) = decide ((i + 1) % 2 = 0) := by
  by_cases h : i % 2 = 0
  · rw [decide_eq_true h, decide_eq_false (by omega)]; rfl
  · rw [decide_eq_false h, decide_eq_true (by omega)]; rfl
theorem rdv_drop {w : World} {B : Nat} {a : Addr} {vs : List Value} (h : RdV w B (some a) vs) (k : Nat) : ∀ j u, (vs.drop k)[j]? = some u → w.cell? ((a.add k).add j) = some u := by
  intro j u hu
  rw [List.getElem?_drop] at hu
  obtain ⟨b, off, e, hb, hc⟩ := h.at_ hu
  cases e
  rw [add_plU, add_plU, Nat.add_assoc]; exact hc
theorem rdv_take {w : World} {B : Nat} {a : Addr} {vs : List Value} (h : RdV w B (some a) vs) (k b : Nat) : ∀ j u, ((vs.drop k).take b)[j]? = some u → w.cell? ((a.add k).add j) = some u := by
  intro j u hu
  refine rdv_drop h k j u ?_
  rw [List.getElem?_take] at hu
  split at hu
  · exact hu
  · cases hu
set_option maxHeartbeats 8000000 in
theorem copy_in (F : List Nat) (hF : Rising F) (n : Nat) (hn : F.length = n) (B : List Nat) (m : Nat) (hm : B.length = m) (hB : BOk B n) (M : List Nat) (hM : cp true B F = M) (A1 A2 : Option Addr) (c1 c2 : Nat) (hA1 : A1 = none → c1 = 0) (hc1 : n ≤ c1) (w : World) (h1 : RdV w w.heap.size A1 (zc (ns F))) (h2 : RdV w w.heap.size A2 (zc (ns B))) :
    Calls Tryz.prog 108 #[.slice A1 n c1, .slice A2 m c2] w (IntsP w M 0) := by
  have h300 : n ≤ 300 := by have := hF.1; omega
  have hm300 : m ≤ 301 := by have := hB.1; omega
  have hc63 : c1 ≤ 9223372036854775807 ∨ 9223372036854775807 < c1 := by omega
  have HC : Hid (Calls Tryz.prog 43 #[.slice A1 n c1] w fun e w' => e = .returned (.int .i64 0) ∧ Below w.heap.size w w') := by
    have := gcheck_any (ns F) n (by rw [ns_length, hn]) (by omega) A1 c1 w h1
    rwa [rchk_ok F hF] at this
  have HBk : Hid (∀ V, Below w.heap.size w V → Calls Tryz.prog 136 #[.slice A2 m c2, .int .i64 (n : Int)] V fun e w' => e = .returned (.int .i64 0) ∧ Below V.heap.size V w') := fun V hV => by
    have := cblk_any (ns B) m (by rw [ns_length, hm]) (by omega) n (by omega) A2 c2 V (h2.on hV)
    rwa [bchk_ok B n hB] at this
  obtain ⟨i0, hi, hz0, hz1, hz2⟩ := info_parts info3
  have HX1 := Lib.hid h1; have HX2 := Lib.hid h2; have HN := Lib.hid hn; have HM := Lib.hid hm; have HMM := Lib.hid hM
  have HS : Hid (B.sum ≤ F.length) := by show _ ≤ _; rw [hn]; exact hB.2.2
  clear h1 h2 hn hm hM hF hB
  go_enter Tryz.func108, Tryz.ntmps108
  go_wp2_with fail
  refine HC.out.mono ?_
  rintro e w1 ⟨rfl, B1⟩
  have HB1 := Lib.hid B1; clear B1
  go_wp2_with fail
  refine (HBk.out w1 HB1.out).mono ?_
  rintro e w2 ⟨rfl, B2⟩
  have HB2 := Lib.hid (HB1.out.trans (B2.mono HB1.out.size)); clear B2
  go_wp2
  go_loopw [8, 9, 26] (fun v s p wr => CpRel B F w v s p wr) (fun _ _ p _ => m - (intOf p).toNat)
  case atStart => exact ⟨0, 0, [], Nat.zero_le _, rfl, rfl, by simpa using HS.out, Nat.le_refl _, rfl, ⟨rfl, .inl ⟨rfl, rfl⟩⟩, HB2.out⟩
  case round =>
    obtain ⟨i, a, out, hi', rfl, rfl, hsum, hol, hcp, hrow, hbel⟩ := hrel
    rw [HM.out] at hi'
    rw [HN.out] at hsum
    by_cases hlt : i < m
    · have hin : i < B.length := by rw [HM.out]; exact hlt
      obtain ⟨b2, off2, rfl, hb2, hcb⟩ := (HX2.out.on hbel).at_ (ns_get B i hin)
      have hst := cp_step (decide (i % 2 = 0)) B i hin (F.drop a)
      have hss := sum_step B i hin
      generalize hb : B[i]?.getD 0 = b at *
      have hab : a + b ≤ n := by omega
      have HSum : Hid (a + b + (B.drop (i + 1)).sum ≤ F.length) := by show _ ≤ _; rw [HN.out]; omega
      have t5 : IntKind.i64.wrap ((a : Int) + (b : Int)) = (a : Int) + (b : Int) := IntWalk.i64_in _ (by omega)
      have HCo := Lib.hid (copies_any i (by omega) wr)
      obtain ⟨Av, cv, rfl⟩ := own_slice3 hrow
      have hX := HX1.out.on hbel
      have HB := Lib.hid hbel
      have HCp := Lib.hid hcp; have HSt := Lib.hid hst
      clear hbel hcp hst hss hsum hb HC HBk HB1 HB2 HS
      by_cases hev : i % 2 = 0
      · rw [decide_eq_true hev] at HCo
        have HOut : Hid (cp true B F = (out ++ (F.drop a).take b) ++ cp (decide ((i + 1) % 2 = 0)) (B.drop (i + 1)) (F.drop (a + b))) := by
          show _ = _
          rw [HCp.out, HSt.out, decide_eq_true hev, show F.drop (a + b) = (F.drop a).drop b by rw [List.drop_drop], decide_eq_false (by omega), if_pos rfl, List.append_assoc]; rfl
        have HTl : Hid (((F.drop a).take b).length = b) := by show _ = _; rw [List.length_take, List.length_drop, HN.out]; omega
        clear HCp HSt
        cases A1 with
        | none =>
          have hc0 := hA1 rfl
          subst hc0
          obtain rfl : n = 0 := by omega
          obtain rfl : a = 0 := by omega
          obtain rfl : b = 0 := by omega
          have HO0 : Hid ((F.drop 0).take 0 = []) := List.take_zero
          rw [HO0.out, List.append_nil] at HOut
          clear hX hev
          go_wp2_with (first | (go_at_call 137; refine HCo.out.mono ?_; rintro e w' ⟨rfl, rfl⟩) | (at_builtin; refine wpList_append_own_none rfl _ _ 22 rfl w.heap.size 3 i0 1 Tryz.underlying22 hi _ _ _ rfl hrow rfl ?_))
          go_roundw
          case rel => exact ⟨_, _, _, _, _, _, _, _, _, _, _, _, _, _, _, _, _, _, _, _, _, _, _, ⟨i + 1, 0, out, by rw [HM.out]; omega, by go_num, by go_num, HSum.out, hol, HOut.out, hrow, HB.out⟩, rfl⟩
          case measure => simp [intOf]; omega
        | some a1 =>
          have HNw := Lib.hid (rdv_take hX a b)
          rw [← ns_cut] at HNw
          have HLz : Hid ((zc (ns ((F.drop a).take b))).length = (a + b - a) * 1) := by show _ = _; rw [zc_length, ns_length, HTl.out]; omega
          have HOn := Lib.hid (zc_one (ns ((F.drop a).take b)))
          have hk : out.length ≤ 1000 := by omega
          generalize hk2 : out.length = k at *
          have HK := Lib.hid hk2
          clear hX hk2
          by_cases hca : c1 = a
          · obtain rfl : b = 0 := by omega
            have hca2 : (c1 = a) = True := by simp [hca]
            have HNe : Hid (∀ j u, (zc (ns ((F.drop a).take 0)))[j]? = some u → wr.cell? (a1.add j) = some u) := by intro j u hu; simp [zc, ns] at hu
            have hc63 : c1 ≤ 300 := by omega
            clear hca HNw HLz
            have HLz : Hid ((zc (ns ((F.drop a).take 0))).length = 0 * 1) := by show _ = _; simp [zc, ns]
            go_wp2_with (first | (go_at_call 137; refine HCo.out.mono ?_; rintro e w' ⟨rfl, rfl⟩) | (at_builtin; refine wpList_append_own _ rfl _ _ 22 rfl w.heap.size 3 i0 (.int .i64 0) 1 8 Tryz.underlying22 hi hz0 hz1 hz2 rfl (by decide) _ _ _ rfl hrow a1 _ _ (zc (ns ((F.drop a).take 0))) rfl HLz.out HNe.out HOn.out (by unfold maxLen; omega) (by omega) HB.out.size ?_; intro v' w3 hown' hgrow _; obtain ⟨Av', cv', rfl⟩ := own_slice3 hown'))
            have HO : Hid (w3.ownsRow w.heap.size 3 1 (.slice Av' (k + 0) cv') (k + 0) (zc (ns (out ++ ((F.drop a).take 0))))) := by
              show World.ownsRow _ _ _ _ _ _ _
              rw [ns_append, zc_append]; first | exact hown' | (have := hown'; simp only [Nat.add_sub_cancel_left] at this; exact this)
            have HB3 : Hid (Below w.heap.size w w3) := HB.out.trans (grown_low hgrow hrow HB.out.size)
            have HLn : Hid ((out ++ ((F.drop a).take 0)).length = k + 0) := by show _ = _; rw [List.length_append, HK.out, HTl.out]
            clear hown' hgrow hrow HB
            go_roundw
            case rel => exact ⟨i + 1, a + 0, out ++ (F.drop a).take 0, by rw [HM.out]; omega, by go_num, by go_num, HSum.out, by rw [HLn.out]; omega, HOut.out, by rw [HLn.out]; exact HO.out, HB3.out⟩
            case measure => simp [intOf]; omega
          · have hc64 : (a : Int) ≤ (c1 : Int) := by omega
            have hc65 : (a : Int) + (b : Int) ≤ (c1 : Int) := by omega
            go_wp2_with (first | (go_at_call 137; refine HCo.out.mono ?_; rintro e w' ⟨rfl, rfl⟩) | (at_builtin; refine wpList_append_own _ rfl _ _ 22 rfl w.heap.size 3 i0 (.int .i64 0) 1 8 Tryz.underlying22 hi hz0 hz1 hz2 rfl (by decide) _ _ _ rfl hrow (a1.add a) _ _ (zc (ns ((F.drop a).take b))) rfl HLz.out HNw.out HOn.out (by unfold maxLen; omega) (by omega) HB.out.size ?_; intro v' w3 hown' hgrow _; obtain ⟨Av', cv', rfl⟩ := own_slice3 hown'))
            have HO : Hid (w3.ownsRow w.heap.size 3 1 (.slice Av' (k + b) cv') (k + b) (zc (ns (out ++ ((F.drop a).take b))))) := by
              show World.ownsRow _ _ _ _ _ _ _
              rw [ns_append, zc_append]; first | exact hown' | (have := hown'; simp only [Nat.add_sub_cancel_left] at this; exact this)
            have HB3 : Hid (Below w.heap.size w w3) := HB.out.trans (grown_low hgrow hrow HB.out.size)
            have HLn : Hid ((out ++ ((F.drop a).take b)).length = k + b) := by show _ = _; rw [List.length_append, HK.out, HTl.out]
            clear hown' hgrow hrow HB
            go_roundw
            case rel => exact ⟨i + 1, a + b, out ++ (F.drop a).take b, by rw [HM.out]; omega, by go_num, by go_num, HSum.out, by rw [HLn.out]; omega, HOut.out, by rw [HLn.out]; exact HO.out, HB3.out⟩
            case measure => simp [intOf]; omega
      · rw [decide_eq_false hev] at HCo
        have HOut : Hid (cp true B F = out ++ cp (decide ((i + 1) % 2 = 0)) (B.drop (i + 1)) (F.drop (a + b))) := by
          show _ = _
          rw [HCp.out, HSt.out, decide_eq_false hev, show F.drop (a + b) = (F.drop a).drop b by rw [List.drop_drop], decide_eq_true (by omega), if_neg (by decide), List.nil_append]; rfl
        clear HCp HSt hX
        go_wp2_with (go_at_call 137; refine HCo.out.mono ?_; rintro e w' ⟨rfl, rfl⟩)
        go_roundw
        case rel => exact ⟨i + 1, a + b, out, by rw [HM.out]; omega, by go_num, by go_num, HSum.out, by omega, HOut.out, hrow, HB.out⟩
        case measure => simp [intOf]; omega
    · obtain rfl : i = m := by omega
      have hd : B.drop i = [] := List.drop_of_length_le (by rw [HM.out]; exact Nat.le_refl _)
      rw [hd] at hcp hsum
      have hM : M = out ++ (if decide (i % 2 = 0) = true then F.drop a else []) := HMM.out.symm.trans hcp
      have han : a ≤ n := by simpa using hsum
      have HCo := Lib.hid (copies_any i (by omega) wr)
      obtain ⟨Av, cv, rfl⟩ := own_slice3 hrow
      have hX := HX1.out.on hbel
      have HB := Lib.hid hbel
      have HMq := Lib.hid hM
      clear hbel hcp hd hsum hM HC HBk HB1 HB2 HS HMM hlt
      by_cases hev : i % 2 = 0
      · rw [decide_eq_true hev] at HCo HMq
        rw [if_pos rfl] at HMq
        have HTl : Hid ((F.drop a).length = n - a) := by show _ = _; rw [List.length_drop, HN.out]
        have hk : out.length ≤ 1000 := by omega
        generalize hk2 : out.length = k at *
        have HK := Lib.hid hk2
        clear hk2 hev
        cases A1 with
        | none =>
          have hc0 := hA1 rfl
          subst hc0
          obtain rfl : n = 0 := by omega
          obtain rfl : a = 0 := by omega
          have hF0 := rdv_none_nil hX
          have HMr : Hid (M = out) := by show _ = _; rw [HMq.out, hF0]; simp
          have HK2 : Hid (k ≤ cv ∧ (Av = none → cv = 0)) := ⟨own_cap hrow, own_none hrow⟩
          have HO := Lib.hid (own_rdv hrow)
          clear hX hF0 HMq
          go_wp2_with (first | (go_at_call 137; refine HCo.out.mono ?_; rintro e w' ⟨rfl, rfl⟩) | (at_builtin; refine wpList_append_own_none rfl _ _ 22 rfl w.heap.size 3 i0 1 Tryz.underlying22 hi _ _ _ rfl hrow rfl ?_))
          go_ret2
          exact ⟨_, _, by rw [HMr.out, HK.out]; rfl, by rw [HMr.out, HK.out]; exact HK2.out.1, HK2.out.2, by rw [HMr.out]; exact HO.out, HB.out⟩
        | some a1 =>
          have HNw := Lib.hid (rdv_drop hX a)
          rw [← ns_drop] at HNw
          have HLz : Hid ((zc (ns (F.drop a))).length = (n - a) * 1) := by show _ = _; rw [zc_length, ns_length, HTl.out]; omega
          have HOn := Lib.hid (zc_one (ns (F.drop a)))
          clear hX
          by_cases hca : c1 = a
          · have hna : n = a := by omega
            have HNa := Lib.hid hna
            have hca2 : (c1 = a) = True := by simp [hca]
            have HNe : Hid (∀ j u, (zc (ns (F.drop a)))[j]? = some u → wr.cell? (a1.add j) = some u) := by
              intro j u hu
              have : F.drop a = [] := List.eq_nil_of_length_eq_zero (by rw [HTl.out, hna]; omega)
              rw [this] at hu; simp [zc, ns] at hu
            have hc63 : c1 ≤ 300 := by omega
            clear hca HNw hna
            go_wp2_with (first | (go_at_call 137; refine HCo.out.mono ?_; rintro e w' ⟨rfl, rfl⟩) | (at_builtin; refine wpList_append_own _ rfl _ _ 22 rfl w.heap.size 3 i0 (.int .i64 0) 1 8 Tryz.underlying22 hi hz0 hz1 hz2 rfl (by decide) _ _ _ rfl hrow a1 _ _ (zc (ns (F.drop a))) rfl HLz.out HNe.out HOn.out (by unfold maxLen; omega) (by omega) HB.out.size ?_; intro v' w3 hown' hgrow _; obtain ⟨Av', cv', rfl⟩ := own_slice3 hown'))
            have HO : Hid (w3.ownsRow w.heap.size 3 1 (.slice Av' (k + (n - a)) cv') (k + (n - a)) (zc (ns (out ++ (F.drop a))))) := by
              show World.ownsRow _ _ _ _ _ _ _
              rw [ns_append, zc_append]; first | exact hown' | (have := hown'; simp only [Nat.add_sub_cancel_left] at this; exact this)
            have HB3 : Hid (Below w.heap.size w w3) := HB.out.trans (grown_low hgrow hrow HB.out.size)
            have HLn : Hid ((out ++ (F.drop a)).length = k + (n - a)) := by show _ = _; rw [List.length_append, HK.out, HTl.out]
            clear hown' hgrow hrow HB
            go_ret2
            exact ⟨_, _, by rw [HMq.out, HLn.out]; rfl, by rw [HMq.out, HLn.out]; exact own_cap HO.out, own_none HO.out, by rw [HMq.out]; exact own_rdv HO.out, HB3.out⟩
          · have hc64 : (a : Int) ≤ (c1 : Int) := by omega
            go_wp2_with (first | (go_at_call 137; refine HCo.out.mono ?_; rintro e w' ⟨rfl, rfl⟩) | (at_builtin; refine wpList_append_own _ rfl _ _ 22 rfl w.heap.size 3 i0 (.int .i64 0) 1 8 Tryz.underlying22 hi hz0 hz1 hz2 rfl (by decide) _ _ _ rfl hrow (a1.add a) _ _ (zc (ns (F.drop a))) rfl HLz.out HNw.out HOn.out (by unfold maxLen; omega) (by omega) HB.out.size ?_; intro v' w3 hown' hgrow _; obtain ⟨Av', cv', rfl⟩ := own_slice3 hown'))
            have HO : Hid (w3.ownsRow w.heap.size 3 1 (.slice Av' (k + (n - a)) cv') (k + (n - a)) (zc (ns (out ++ (F.drop a))))) := by
              show World.ownsRow _ _ _ _ _ _ _
              rw [ns_append, zc_append]; first | exact hown' | (have := hown'; simp only [Nat.add_sub_cancel_left] at this; exact this)
            have HB3 : Hid (Below w.heap.size w w3) := HB.out.trans (grown_low hgrow hrow HB.out.size)
            have HLn : Hid ((out ++ (F.drop a)).length = k + (n - a)) := by show _ = _; rw [List.length_append, HK.out, HTl.out]
            clear hown' hgrow hrow HB
            go_ret2
            exact ⟨_, _, by rw [HMq.out, HLn.out]; rfl, by rw [HMq.out, HLn.out]; exact own_cap HO.out, own_none HO.out, by rw [HMq.out]; exact own_rdv HO.out, HB3.out⟩
      · rw [decide_eq_false hev] at HCo HMq
        rw [if_neg (by decide), List.append_nil] at HMq
        have HK2 : Hid (out.length ≤ cv ∧ (Av = none → cv = 0)) := ⟨own_cap hrow, own_none hrow⟩
        have HO := Lib.hid (own_rdv hrow)
        have hk : out.length ≤ 1000 := by omega
        generalize hk2 : out.length = k at *
        have HK := Lib.hid hk2
        clear hk2 hev hX hrow
        go_wp2_with (go_at_call 137; refine HCo.out.mono ?_; rintro e w' ⟨rfl, rfl⟩)
        go_ret2
        exact ⟨_, _, by rw [HMq.out, HK.out]; rfl, by rw [HMq.out, HK.out]; exact HK2.out.1, HK2.out.2, by rw [HMq.out]; exact HO.out, HB.out⟩
theorem pcopy_any (xs : List Int) (n : Nat) (hn : xs.length = n) (hn2 : n ≤ 9223372036854775807) (bs : List Int) (m : Nat) (hm : bs.length = m) (hm2 : m ≤ 9223372036854775807) (A1 A2 : Option Addr) (c1 c2 : Nat) (hA1 : A1 = none → c1 = 0) (hc1 : n ≤ c1) (w : World) (h1 : RdV w w.heap.size A1 (zc xs)) (h2 : RdV w w.heap.size A2 (zc bs)) :
    Calls Tryz.prog 108 #[.slice A1 n c1, .slice A2 m c2] w (IntsP w (cpA xs bs) (cpE xs bs)) := by
  by_cases h0 : cpE xs bs = 0
  · have h0' := h0
    unfold cpE at h0'
    by_cases hr : rchk xs = 0
    · rw [if_neg (by simpa using hr)] at h0'
      obtain ⟨F, rfl, hF⟩ := rchk_zero xs hr
      rw [ns_length] at hn h0'
      obtain ⟨B, rfl, hB⟩ := bchk_zero bs _ h0'
      rw [ns_length] at hm
      rw [h0]
      have e : cpA (ns F) (ns B) = cp true B F := by unfold cpA; rw [if_neg (by simpa using h0), tn_ns, tn_ns]
      rw [e]
      exact copy_in F hF n hn B m hm (by rw [← hn]; exact hB) _ rfl A1 A2 c1 c2 hA1 hc1 w h1 h2
    · rw [if_pos (by simpa using hr)] at h0'; exact absurd h0' hr
  · have e : cpA xs bs = [] := by unfold cpA; rw [if_pos (by simpa using h0)]
    rw [e]
    exact copy_e xs n hn hn2 bs m hm hm2 _ rfl h0 A1 A2 c1 c2 w h1 h2
end

section
set_option maxRecDepth 100000
set_option linter.unusedVariables false
open Go.RowKit Go.Shelf

theorem own_keep {w w' : World} {base : Nat} {v : Value} {n : Nat} {xs : List Value} (h : w.ownsRow base 3 1 v n xs) (hb : Below w.heap.size w w') : w'.ownsRow base 3 1 v n xs := own_below h hb
theorem ris_lt (l : List Nat) (h : Rising l) : l.Pairwise (· < ·) := rising_lt h
/-- At each round's head: the blocks so far, and where the last one ended. -/
def BoRel (F l : List Nat) (w : World) (v s p : Value) (wr : World) : Prop :=
  ∃ (i a : Nat) (out : List Nat), i ≤ F.length ∧ p = .int .i64 (i : Int) ∧ s = .int .i64 (a : Int) ∧ a ≤ i ∧ out.length ≤ i ∧ bks F l = out ++ blk ((F.drop i).map (inL l)) (i - a) (decide (out.length % 2 = 0)) ∧
    wr.ownsRow w.heap.size 3 1 v out.length (zc (ns out)) ∧ Below w.heap.size w wr
/-- A list of the call's own comes back. -/
def OwnI (w : World) (l : List Nat) (e : Ending) (w' : World) : Prop :=
  ∃ A c, e = .returned (.slice A l.length c) ∧ w'.ownsRow w.heap.size 3 1 (.slice A l.length c) l.length (zc (ns l)) ∧ Below w.heap.size w w'
set_option maxHeartbeats 4000000 in
theorem blocksOf_in (F l : List Nat) (hF : Rising F) (hl : Rising l) (n m : Nat) (hn : F.length = n) (hm : l.length = m) (M : List Nat) (hM : bks F l = M) (A1 A2 : Option Addr) (c1 c2 : Nat) (w : World) (h1 : RdV w w.heap.size A1 (zc (ns F))) (h2 : RdV w w.heap.size A2 (zc (ns l))) :
    Calls Tryz.prog 151 #[.slice A1 n c1, .slice A2 m c2] w (OwnI w M) := by
  have h300 : n ≤ 300 := by have := hF.1; omega
  have HCt : Hid (∀ x V, Below w.heap.size w V → Calls Tryz.prog 150 #[.slice A2 m c2, .int .i64 ((x : Nat) : Int)] V fun e w' => e = .returned (.bool (inL l x)) ∧ Below V.heap.size V w') := fun x V hV => pcont_any l (ris_lt l hl) (fun y hy => (ris_le l _ hl.2 y hy).2) m hm (by have := hl.1; omega) x A2 c2 V (h2.on hV)
  obtain ⟨i0, hi, hz0, hz1, hz2⟩ := info_parts info3
  have HX := Lib.hid h1; have HN := Lib.hid hn; have HMM := Lib.hid hM
  clear h1 h2 hn hm hM hF hl
  go_enter Tryz.func151, Tryz.ntmps151
  go_wp2
  go_loopw [5, 6, 11] (fun v s p wr => BoRel F l w v s p wr) (fun _ _ p _ => n - (intOf p).toNat)
  case atStart => exact ⟨0, 0, [], Nat.zero_le _, rfl, rfl, Nat.le_refl _, Nat.le_refl _, rfl, ⟨rfl, .inl ⟨rfl, rfl⟩⟩, Below.refl _ _⟩
  case round =>
    obtain ⟨i, a, out, hi', rfl, rfl, hai, hol, hbk, hrow, hbel⟩ := hrel
    rw [HN.out] at hi'
    obtain ⟨Av, cv, rfl⟩ := own_slice3 hrow
    by_cases hlt : i < n
    · have hin : i < F.length := by rw [HN.out]; exact hlt
      obtain ⟨b, off, rfl, hb, hcx⟩ := (HX.out.on hbel).at_ (ns_get F i hin)
      have hd : (F.drop i).map (inL l) = inL l (F[i]?.getD 0) :: (F.drop (i + 1)).map (inL l) := by rw [drop_nat F i hin]; rfl
      rw [hd, blk_cons] at hbk
      have HB := Lib.hid hbel
      generalize F[i]?.getD 0 = x at *
      have HC := Lib.hid (HCt.out x wr hbel)
      have HCo := Lib.hid (fun V => copies_any out.length (by omega) V)
      have t1 : IntKind.i64.wrap ((i : Int) - (a : Int)) = (i : Int) - (a : Int) := IntWalk.i64_in _ (by omega)
      clear hbel hd
      generalize hk : out.length = k at *
      have HK := Lib.hid hk
      clear hk
      generalize inL l x = f at *
      generalize hp : decide (k % 2 = 0) = p at *
      have HP := Lib.hid hp
      clear hp
      by_cases hfp : f = p
      · rw [if_pos hfp] at hbk
        have HBk : Hid (bks F l = out ++ blk ((F.drop (i + 1)).map (inL l)) (i + 1 - a) p) := by show _ = _; rw [hbk, show i + 1 - a = i - a + 1 by omega]
        clear hbk
        subst hfp
        have t2 : (f != f) = false := by simp
        go_wp2_with (first | (go_at_call 150; refine HC.out.mono ?_; rintro e w1 ⟨rfl, B1⟩; have HB1 : Hid (Below w.heap.size w w1) := HB.out.trans (B1.mono HB.out.size); have hrow1 := own_keep hrow B1; clear B1) | (go_at_call 137; refine (HCo.out _).mono ?_; rintro e w' ⟨rfl, rfl⟩))
        all_goals (
          go_roundw
          case rel => exact ⟨i + 1, a, out, by rw [HN.out]; omega, by go_num, rfl, by omega, by rw [HK.out]; omega, by rw [HK.out, HP.out]; exact HBk.out, by rw [HK.out]; exact hrow1, HB1.out⟩
          case measure => simp [intOf]; omega)
      · rw [if_neg hfp] at hbk
        have hnp : (!p) = decide ((k + 1) % 2 = 0) := by rw [← HP.out]; exact par_succ k
        have HBk : Hid (bks F l = (out ++ [i - a]) ++ blk ((F.drop (i + 1)).map (inL l)) (i + 1 - i) (decide ((k + 1) % 2 = 0))) := by
          show _ = _
          rw [hbk, ← hnp, show i + 1 - i = 1 by omega, List.append_assoc]; rfl
        have hia : ((i : Int) - (a : Int)) = ((i - a : Nat) : Int) := by omega
        have t2 : (f != p) = true := by cases f <;> cases p <;> simp_all
        have t5 : (f == p) = false := by cases f <;> cases p <;> simp_all
        have t6 : ¬ f = p := hfp
        have HLn : Hid ((out ++ [i - a]).length = k + 1) := by show _ = _; rw [List.length_append, HK.out]; rfl
        have HZc : Hid (zc (ns out) ++ [Value.int .i64 ((i : Int) - (a : Int))] = zc (ns (out ++ [i - a]))) := by show _ = _; rw [ns_append, zc_append, hia]; rfl
        clear hbk hnp hfp hia
        go_wp2_with (first | (go_at_call 150; refine HC.out.mono ?_; rintro e w1 ⟨rfl, B1⟩; have HB1 : Hid (Below w.heap.size w w1) := HB.out.trans (B1.mono HB.out.size); have hrow1 := own_keep hrow B1; clear B1 HB hrow; have hrow := hrow1; have HB := HB1; clear hrow1) | (go_at_call 137; refine (HCo.out _).mono ?_; rintro e w' ⟨rfl, rfl⟩) | (at_builtin; refine wpList_append_own _ rfl _ _ 22 rfl w.heap.size 3 i0 (.int .i64 0) 1 8 Tryz.underlying22 hi hz0 hz1 hz2 rfl (by decide) _ _ _ rfl (hrow.alloc _) ⟨w1.heap.size, 0, none⟩ 1 1 [.int .i64 ((i : Int) - (a : Int))] rfl rfl (news_row w1 [.int .i64 ((i : Int) - (a : Int))] _) (by simp [Value.oneCell']) (by unfold maxLen; omega) (by omega) (by have := HB.out.size; simp; omega) ?_; intro v' w3 hown' hgrow _; obtain ⟨Av', cv', rfl⟩ := own_slice3 hown'))
        rw [HZc.out] at hown'
        have HO3 := Lib.hid hown'
        have HB3 : Hid (Below w.heap.size w w3) := HB.out.trans (((Below.refl w.heap.size w1).alloc HB.out.size _).trans (grown_low hgrow (hrow.alloc _) (by have := HB.out.size; simp; omega)))
        clear hown' hgrow hrow
        go_wp2
        go_roundw
        case rel => exact ⟨i + 1, i, out ++ [i - a], by rw [HN.out]; omega, by go_num, rfl, by omega, by rw [HLn.out]; omega, by rw [HLn.out]; exact HBk.out, by rw [HLn.out]; exact HO3.out, HB3.out⟩
        case measure => simp [intOf]; omega
    · have e : F.drop i = [] := List.drop_of_length_le (by rw [HN.out]; omega)
      rw [e] at hbk
      have HMq : Hid (M = out) := by show _ = _; rw [← HMM.out, hbk]; simp [blk]
      have HB := Lib.hid hbel
      clear hbel hbk e
      generalize hk : out.length = k at *
      have HK := Lib.hid hk
      have HO := Lib.hid hrow
      clear hk hrow
      go_wp2
      go_ret
      exact ⟨_, _, by rw [HMq.out, HK.out]; rfl, by rw [HMq.out, HK.out]; exact HO.out, HB.out⟩

/-- Two lists and an error come back. -/
def TwoI (w : World) (l1 l2 : List Nat) (err : Int) (e : Ending) (w' : World) : Prop :=
  ∃ A1 c1 A2 c2, e = .returned (.tuple #[.slice A1 l1.length c1, .slice A2 l2.length c2, .int .i64 err]) ∧ (l1.length ≤ c1 ∧ (A1 = none → c1 = 0)) ∧ (l2.length ≤ c2 ∧ (A2 = none → c2 = 0)) ∧ RdV w' w'.heap.size A1 (zc (ns l1)) ∧ RdV w' w'.heap.size A2 (zc (ns l2)) ∧ Below w.heap.size w w'
/-- The same, in rows of the call's own. -/
def TwoO (w : World) (l1 l2 : List Nat) (err : Int) (e : Ending) (w' : World) : Prop :=
  ∃ A1 c1 A2 c2, e = .returned (.tuple #[.slice A1 l1.length c1, .slice A2 l2.length c2, .int .i64 err]) ∧ w'.ownsRow w.heap.size 3 1 (.slice A1 l1.length c1) l1.length (zc (ns l1)) ∧ w'.ownsRow w.heap.size 3 1 (.slice A2 l2.length c2) l2.length (zc (ns l2)) ∧ Below w.heap.size w w'
set_option maxHeartbeats 1000000 in
theorem blocks_e (xs : List Int) (n : Nat) (hn : xs.length = n) (hn2 : n ≤ 9223372036854775807) (ys : List Int) (m : Nat) (hm : ys.length = m) (hm2 : m ≤ 9223372036854775807) (e0 : Int) (he : pbE xs ys = e0) (h0 : e0 ≠ 0) (A1 A2 : Option Addr) (c1 c2 : Nat) (w : World) (h1 : RdV w w.heap.size A1 (zc xs)) (h2 : RdV w w.heap.size A2 (zc ys)) :
    Calls Tryz.prog 125 #[.slice A1 n c1, .slice A2 m c2] w (TwoI w [] [] e0) := by
  have HC := Lib.hid (gcheck_any xs n hn hn2 A1 c1 w h1)
  have HC2 : Hid (∀ V, Below w.heap.size w V → Calls Tryz.prog 43 #[.slice A2 m c2] V fun e w' => e = .returned (.int .i64 (rchk ys)) ∧ Below V.heap.size V w') := fun V hV => gcheck_any ys m hm hm2 A2 c2 V (h2.on hV)
  unfold pbE at he
  have t0 : (e0 != 0) = true := by simpa using h0
  by_cases hr : rchk xs = 0
  · rw [if_neg (by simpa using hr)] at he
    rw [hr] at HC
    rw [he] at HC2
    clear h1 h2 hn hm he h0 hr
    go_enter Tryz.func125, Tryz.ntmps125
    go_wp2_with fail
    refine HC.out.mono ?_
    rintro e w1 ⟨rfl, B1⟩
    have HB1 := Lib.hid B1; clear B1
    go_wp2_with fail
    refine (HC2.out w1 HB1.out).mono ?_
    rintro e w2 ⟨rfl, B2⟩
    have HB2 := Lib.hid (HB1.out.trans (B2.mono HB1.out.size)); clear B2
    go_wp2
    go_ret3
    exact ⟨none, 0, none, 0, rfl, ⟨Nat.le_refl _, fun _ => rfl⟩, ⟨Nat.le_refl _, fun _ => rfl⟩, .inl rfl, .inl rfl, HB2.out⟩
  · rw [if_pos (by simpa using hr)] at he
    rw [he] at HC
    clear h1 h2 hn hm he h0 hr HC2
    go_enter Tryz.func125, Tryz.ntmps125
    go_wp2_with fail
    refine HC.out.mono ?_
    rintro e w1 ⟨rfl, B1⟩
    have HB1 := Lib.hid B1; clear B1
    go_wp2
    go_ret3
    exact ⟨none, 0, none, 0, rfl, ⟨Nat.le_refl _, fun _ => rfl⟩, ⟨Nat.le_refl _, fun _ => rfl⟩, .inl rfl, .inl rfl, HB1.out⟩
theorem notin_step (F l : List Nat) (i : Nat) (h : i < l.length) : notin F (l.take (i + 1)) = notin F (l.take i) ++ (if inL F (l[i]?.getD 0) then [] else [l[i]?.getD 0]) := by
  rw [take_snocN l i h]
  unfold notin
  rw [List.filter_append]
  cases hh : inL F (l[i]?.getD 0) <;> simp [hh]
/-- At each round's head: what is left of the first ones. -/
def RtRel (F l : List Nat) (w : World) (v p : Value) (wr : World) : Prop :=
  ∃ i : Nat, i ≤ l.length ∧ p = .int .i64 (i : Int) ∧ wr.ownsRow w.heap.size 3 1 v (notin F (l.take i)).length (zc (ns (notin F (l.take i)))) ∧ Below w.heap.size w wr
theorem notin_len (F l : List Nat) : (notin F l).length ≤ l.length := List.length_filter_le _ _
set_option maxHeartbeats 4000000 in
theorem blocks_own (F l : List Nat) (hF : Rising F) (hl : Rising l) (n m : Nat) (hn : F.length = n) (hm : l.length = m) (M R : List Nat) (hM : bks F l = M) (hR : notin F l = R) (A1 A2 : Option Addr) (c1 c2 : Nat) (w : World) (h1 : RdV w w.heap.size A1 (zc (ns F))) (h2 : RdV w w.heap.size A2 (zc (ns l))) :
    Calls Tryz.prog 125 #[.slice A1 n c1, .slice A2 m c2] w (TwoO w M R 0) := by
  have h300 : m ≤ 300 := by have := hl.1; omega
  have HC : Hid (Calls Tryz.prog 43 #[.slice A1 n c1] w fun e w' => e = .returned (.int .i64 0) ∧ Below w.heap.size w w') := by
    have := gcheck_any (ns F) n (by rw [ns_length, hn]) (by have := hF.1; omega) A1 c1 w h1
    rwa [rchk_ok F hF] at this
  have HC2 : Hid (∀ V, Below w.heap.size w V → Calls Tryz.prog 43 #[.slice A2 m c2] V fun e w' => e = .returned (.int .i64 0) ∧ Below V.heap.size V w') := fun V hV => by
    have := gcheck_any (ns l) m (by rw [ns_length, hm]) (by omega) A2 c2 V (h2.on hV)
    rwa [rchk_ok l hl] at this
  have HCt : Hid (∀ x V, Below w.heap.size w V → Calls Tryz.prog 150 #[.slice A1 n c1, .int .i64 ((x : Nat) : Int)] V fun e w' => e = .returned (.bool (inL F x)) ∧ Below V.heap.size V w') := fun x V hV => pcont_any F (ris_lt F hF) (fun y hy => (ris_le F _ hF.2 y hy).2) n hn (by have := hF.1; omega) x A1 c1 V (h1.on hV)
  have HBo : Hid (∀ V, Below w.heap.size w V → Calls Tryz.prog 151 #[.slice A1 n c1, .slice A2 m c2] V (OwnI V M)) := fun V hV => blocksOf_in F l hF hl n m hn hm M hM A1 A2 c1 c2 V (h1.on hV) (h2.on hV)
  obtain ⟨i0, hi, hz0, hz1, hz2⟩ := info_parts info3
  have HX := Lib.hid h2; have HN := Lib.hid hm; have HRR := Lib.hid hR
  clear h1 h2 hn hm hM hR hF hl
  go_enter Tryz.func125, Tryz.ntmps125
  go_wp2_with fail
  refine HC.out.mono ?_
  rintro e w1 ⟨rfl, B1⟩
  have HB1 := Lib.hid B1; clear B1
  go_wp2_with fail
  refine (HC2.out w1 HB1.out).mono ?_
  rintro e w2 ⟨rfl, B2⟩
  have HB2 := Lib.hid (HB1.out.trans (B2.mono HB1.out.size)); clear B2
  clear HC HC2
  go_wp2
  go_loopw [9, 24] (fun v p wr => RtRel F l w v p wr) (fun _ p _ => m - (intOf p).toNat)
  case atStart => exact ⟨0, Nat.zero_le _, rfl, ⟨rfl, .inl ⟨rfl, rfl⟩⟩, HB2.out⟩
  case round =>
    obtain ⟨i, hi', rfl, hrow, hbel⟩ := hrel
    rw [HN.out] at hi'
    obtain ⟨Av, cv, rfl⟩ := own_slice3 hrow
    by_cases hlt : i < m
    · have hin : i < l.length := by rw [HN.out]; exact hlt
      obtain ⟨b, off, rfl, hb, hcx⟩ := (HX.out.on hbel).at_ (ns_get l i hin)
      have hst := notin_step F l i hin
      have hle := Nat.le_trans (notin_len F (l.take i)) (List.length_take_le i l)
      have HB := Lib.hid hbel
      generalize l[i]?.getD 0 = x at *
      have HC := Lib.hid (HCt.out x wr hbel)
      generalize notin F (l.take i) = out at *
      clear hbel
      generalize hk : out.length = k at *
      have HK := Lib.hid hk
      clear hk
      generalize inL F x = f at *
      cases f with
      | true =>
        rw [if_pos rfl, List.append_nil] at hst
        have HSt := Lib.hid hst
        clear hst
        go_wp2_with (go_at_call 150; refine HC.out.mono ?_; rintro e w1 ⟨rfl, B1⟩; have HB1 : Hid (Below w.heap.size w w1) := HB.out.trans (B1.mono HB.out.size); have hrow1 := own_keep hrow B1; clear B1)
        go_roundw
        case rel => exact ⟨i + 1, by rw [HN.out]; omega, by go_num, by rw [HSt.out, HK.out]; exact hrow1, HB1.out⟩
        case measure => simp [intOf]; omega
      | false =>
        rw [if_neg (by decide)] at hst
        have HSt := Lib.hid hst
        have HLn : Hid ((out ++ [x]).length = k + 1) := by show _ = _; rw [List.length_append, HK.out]; rfl
        have HZc : Hid (zc (ns out) ++ [Value.int .i64 (x : Int)] = zc (ns (out ++ [x]))) := by show _ = _; rw [ns_append, zc_append]; rfl
        clear hst
        go_wp2_with (first | (go_at_call 150; refine HC.out.mono ?_; rintro e w1 ⟨rfl, B1⟩; have HB1 : Hid (Below w.heap.size w w1) := HB.out.trans (B1.mono HB.out.size); have hrow1 := own_keep hrow B1; clear B1 HB hrow; have hrow := hrow1; have HB := HB1; clear hrow1) | (at_builtin; refine wpList_append_own _ rfl _ _ 22 rfl w.heap.size 3 i0 (.int .i64 0) 1 8 Tryz.underlying22 hi hz0 hz1 hz2 rfl (by decide) _ _ _ rfl (hrow.alloc _) ⟨w1.heap.size, 0, none⟩ 1 1 [.int .i64 (x : Int)] rfl rfl (news_row w1 [.int .i64 (x : Int)] _) (by simp [Value.oneCell']) (by unfold maxLen; omega) (by omega) (by have := HB.out.size; simp; omega) ?_; intro v' w3 hown' hgrow _; obtain ⟨Av', cv', rfl⟩ := own_slice3 hown'))
        rw [HZc.out] at hown'
        have HO3 := Lib.hid hown'
        have HB3 : Hid (Below w.heap.size w w3) := HB.out.trans (((Below.refl w.heap.size w1).alloc HB.out.size _).trans (grown_low hgrow (hrow.alloc _) (by have := HB.out.size; simp; omega)))
        clear hown' hgrow hrow
        go_wp2
        go_roundw
        case rel => exact ⟨i + 1, by rw [HN.out]; omega, by go_num, by rw [HSt.out, HLn.out]; exact HO3.out, HB3.out⟩
        case measure => simp [intOf]; omega
    · have e : l.take i = l := List.take_of_length_le (by rw [HN.out]; omega)
      have hLq : Hid ((notin F (l.take i)).length = R.length) := by show _ = _; rw [e, HRR.out]
      rw [e, HRR.out] at hrow
      have HO := Lib.hid hrow
      have HB := Lib.hid hbel
      have HBk := Lib.hid (HBo.out wr hbel)
      clear hrow hbel e
      go_wp2_with fail
      refine HBk.out.mono ?_
      rintro e w3 ⟨A3, c3, rfl, k3, k4⟩
      have HB3 : Hid (Below w.heap.size w w3) := HB.out.trans (k4.mono HB.out.size)
      have HR3 : Hid (w3.ownsRow w.heap.size 3 1 (.slice A3 M.length c3) M.length (zc (ns M))) := own_base k3 HB.out.size
      have HO3 : Hid (w3.ownsRow w.heap.size 3 1 (.slice Av R.length cv) R.length (zc (ns R))) := own_keep HO.out k4
      clear k3 k4
      go_wp2
      go_ret3
      exact ⟨_, _, _, _, by rw [← hLq.out]; rfl, HR3.out, HO3.out, HB3.out⟩
theorem twoO {w : World} {l1 l2 : List Nat} {err : Int} {e : Ending} {w' : World} (h : TwoO w l1 l2 err e w') : TwoI w l1 l2 err e w' := by
  obtain ⟨A1, c1, A2, c2, a, r1, r2, b⟩ := h
  exact ⟨A1, c1, A2, c2, a, ⟨own_cap r1, own_none r1⟩, ⟨own_cap r2, own_none r2⟩, own_rdv r1, own_rdv r2, b⟩
theorem blocks_in (F l : List Nat) (hF : Rising F) (hl : Rising l) (n m : Nat) (hn : F.length = n) (hm : l.length = m) (M R : List Nat) (hM : bks F l = M) (hR : notin F l = R) (A1 A2 : Option Addr) (c1 c2 : Nat) (w : World) (h1 : RdV w w.heap.size A1 (zc (ns F))) (h2 : RdV w w.heap.size A2 (zc (ns l))) :
    Calls Tryz.prog 125 #[.slice A1 n c1, .slice A2 m c2] w (TwoI w M R 0) :=
  (blocks_own F l hF hl n m hn hm M R hM hR A1 A2 c1 c2 w h1 h2).mono fun _ _ h => twoO h
theorem pblocks_any (xs : List Int) (n : Nat) (hn : xs.length = n) (hn2 : n ≤ 9223372036854775807) (ys : List Int) (m : Nat) (hm : ys.length = m) (hm2 : m ≤ 9223372036854775807) (A1 A2 : Option Addr) (c1 c2 : Nat) (w : World) (h1 : RdV w w.heap.size A1 (zc xs)) (h2 : RdV w w.heap.size A2 (zc ys)) :
    Calls Tryz.prog 125 #[.slice A1 n c1, .slice A2 m c2] w (TwoI w (pbB xs ys) (pbR xs ys) (pbE xs ys)) := by
  by_cases h0 : pbE xs ys = 0
  · have h0' := h0
    unfold pbE at h0'
    by_cases hr : rchk xs = 0
    · rw [if_neg (by simpa using hr)] at h0'
      obtain ⟨F, rfl, hF⟩ := rchk_zero xs hr
      obtain ⟨l, rfl, hl⟩ := rchk_zero ys h0'
      rw [ns_length] at hn hm
      have e1 : pbB (ns F) (ns l) = bks F l := by unfold pbB; rw [if_neg (by simpa using h0), tn_ns, tn_ns]
      have e2 : pbR (ns F) (ns l) = notin F l := by unfold pbR; rw [if_neg (by simpa using h0), tn_ns, tn_ns]
      rw [h0, e1, e2]
      exact blocks_in F l hF hl n m hn hm _ _ rfl rfl A1 A2 c1 c2 w h1 h2
    · rw [if_pos (by simpa using hr)] at h0'; exact absurd h0' hr
  · have e1 : pbB xs ys = [] := by unfold pbB; rw [if_pos (by simpa using h0)]
    have e2 : pbR xs ys = [] := by unfold pbR; rw [if_pos (by simpa using h0)]
    rw [e1, e2]
    exact blocks_e xs n hn hn2 ys m hm hm2 _ rfl h0 A1 A2 c1 c2 w h1 h2
set_option maxHeartbeats 1000000 in
/-- What Join answers. -/
theorem pjoin_any (xs : List Int) (n : Nat) (hn : xs.length = n) (hn2 : n ≤ 9223372036854775807) (bs : List Int) (m : Nat) (hm : bs.length = m) (hm2 : m ≤ 9223372036854775807) (ys : List Int) (k : Nat) (hk : ys.length = k) (hk2 : k ≤ 9223372036854775807) (A1 A2 A3 : Option Addr) (c1 c2 c3 : Nat) (hA1 : A1 = none → c1 = 0) (hc1 : n ≤ c1) (hA3 : A3 = none → c3 = 0) (w : World) (h1 : RdV w w.heap.size A1 (zc xs)) (h2 : RdV w w.heap.size A2 (zc bs)) (h3 : RdV w w.heap.size A3 (zc ys)) :
    Calls Tryz.prog 110 #[.slice A1 n c1, .slice A2 m c2, .slice A3 k c3] w (IntsP w (jnA xs bs ys).1 (jnA xs bs ys).2) := by
  have HP := Lib.hid (pcopy_any xs n hn hn2 bs m hm hm2 A1 A2 c1 c2 hA1 hc1 w h1 h2)
  have HC : Hid (∀ V, Below w.heap.size w V → Calls Tryz.prog 43 #[.slice A3 k c3] V fun e w' => e = .returned (.int .i64 (rchk ys)) ∧ Below V.heap.size V w') := fun V hV => gcheck_any ys k hk hk2 A3 c3 V (h3.on hV)
  by_cases hc : cpE xs bs = 0
  · by_cases hr : rchk ys = 0
    · obtain ⟨l, rfl, hl⟩ := rchk_zero ys hr
      have hz : rchk xs = 0 := by
        by_cases hz : rchk xs = 0
        · exact hz
        · unfold cpE at hc; rw [if_pos (by simpa using hz)] at hc; exact hc
      obtain ⟨F, rfl, hF⟩ := rchk_zero xs hz
      have e : jnA (ns F) bs (ns l) = un (cpA (ns F) bs) l := by
        have e1 : jnE (ns F) bs (ns l) = 0 := by unfold jnE; rw [if_neg (by simpa using hc)]; exact hr
        have e2 : cpA (ns F) bs = cp true (tn bs) (tn (ns F)) := by unfold cpA; rw [if_neg (by simpa using hc)]
        unfold jnA
        rw [if_neg (by simpa using e1), ← e2, tn_ns l]
      rw [e]
      rw [ns_length] at hk
      have hcl : (cpA (ns F) bs).length ≤ 300 := by
        unfold cpA
        rw [if_neg (by simpa using hc), tn_ns]
        exact Nat.le_trans (cp_len (tn bs) true F).length_le hF.1
      rw [hc] at HP
      rw [hr] at HC
      generalize hM : cpA (ns F) bs = M at *
      have HU : Hid (∀ A c V, (A = none → c = 0) → RdV V V.heap.size A (zc (ns M)) → Below w.heap.size w V → Calls Tryz.prog 138 #[.slice A M.length c, .slice A3 k c3] V (IntsP V (un M l).1 (un M l).2)) := fun A c V hA hV hb => union_any M l M.length k rfl hk (by omega) (by have := hl.1; omega) _ _ rfl A A3 c c3 hA hA3 V hV (h3.on hb)
      clear h1 h2 h3 hn hm hk e hc hr hM hz
      generalize un M l = U at *
      go_enter Tryz.func110, Tryz.ntmps110
      go_wp2_with fail
      refine HP.out.mono ?_
      rintro e w1 ⟨A, c, rfl, k1, k2, k3, k4⟩
      have HB1 := Lib.hid k4; have HR1 := Lib.hid k3
      clear k3 k4
      go_wp2_with fail
      refine (HC.out w1 HB1.out).mono ?_
      rintro e w2 ⟨rfl, B2⟩
      have HB2 := Lib.hid (HB1.out.trans (B2.mono HB1.out.size))
      have HUu := Lib.hid (HU.out A c w2 k2 (HR1.out.on B2) HB2.out)
      clear B2 HU
      generalize M.length = ml at *
      go_wp2_with fail
      refine HUu.out.mono ?_
      rintro e w3 ⟨A5, c5, rfl, j1, j2, j3, j4⟩
      have HB3 := Lib.hid (HB2.out.trans (j4.mono HB2.out.size)); have HR3 := Lib.hid j3
      clear j3 j4
      go_wp2
      go_ret2
      exact ⟨_, _, rfl, j1, j2, HR3.out, HB3.out⟩
    · have e : jnA xs bs ys = ([], rchk ys) := by
        have e1 : jnE xs bs ys = rchk ys := by unfold jnE; rw [if_neg (by simpa using hc)]
        unfold jnA
        rw [e1, if_pos (by simpa using hr)]
      rw [e]
      rw [hc] at HP
      generalize rchk ys = er at *
      have t0 : (er != 0) = true := by simpa using hr
      generalize (cpA xs bs) = M at *
      clear h1 h2 h3 hn hm hk e hc hr
      generalize M.length = ml at *
      go_enter Tryz.func110, Tryz.ntmps110
      go_wp2_with fail
      refine HP.out.mono ?_
      rintro e w1 ⟨A, c, rfl, k1, k2, k3, k4⟩
      have HB1 := Lib.hid k4
      clear k3 k4
      go_wp2_with fail
      refine (HC.out w1 HB1.out).mono ?_
      rintro e w2 ⟨rfl, B2⟩
      have HB2 := Lib.hid (HB1.out.trans (B2.mono HB1.out.size))
      clear B2
      go_wp2
      go_ret2
      exact ⟨none, 0, rfl, Nat.le_refl _, fun _ => rfl, .inl rfl, HB2.out⟩
  · have e : jnA xs bs ys = ([], cpE xs bs) := by
      have e1 : jnE xs bs ys = cpE xs bs := by unfold jnE; rw [if_pos (by simpa using hc)]
      unfold jnA
      rw [e1, if_pos (by simpa using hc)]
    rw [e]
    generalize cpE xs bs = er at *
    have t0 : (er != 0) = true := by simpa using hc
    clear h1 h2 h3 hn hm hk e hc HC
    generalize (cpA xs bs) = M at *
    generalize M.length = ml at *
    go_enter Tryz.func110, Tryz.ntmps110
    go_wp2_with fail
    refine HP.out.mono ?_
    rintro e w1 ⟨A, c, rfl, k1, k2, k3, k4⟩
    have HB1 := Lib.hid k4
    clear k3 k4
    go_wp2
    go_ret2
    exact ⟨none, 0, rfl, Nat.le_refl _, fun _ => rfl, .inl rfl, HB1.out⟩
end

section
set_option maxRecDepth 100000
set_option linter.unusedVariables false
open Go.RowKit Go.Shelf

set_option maxHeartbeats 1000000 in
theorem merge_e (r : List Ri) (n1 : Nat) (hn1 : r.length = n1) (hz1 : n1 ≤ 9223372036854775807) (xs : List Int) (n2 : Nat) (hn2 : xs.length = n2) (hz2 : n2 ≤ 9223372036854775807) (h0 : mgE0 r xs ≠ 0) (A1 A2 : Option Addr) (c1 c2 : Nat) (w : World) (h1 : RdV w w.heap.size A1 (rcs r)) (h2 : RdV w w.heap.size A2 (zc xs)) :
    Calls Tryz.prog 135 #[.slice A1 n1 c1, .slice A2 n2 c2] w (IntsP w [] (mgE0 r xs)) := by
  have HC1 := Lib.hid (rnck_any r n1 hn1 hz1 A1 c1 w h1)
  have HC2 : Hid (∀ V, Below w.heap.size w V → Calls Tryz.prog 43 #[.slice A2 n2 c2] V fun e w' => e = .returned (.int .i64 (rchk xs)) ∧ Below V.heap.size V w') := fun V hV => gcheck_any xs n2 hn2 hz2 A2 c2 V (h2.on hV)
  unfold mgE0 at *
  clear h1 h2 hn1 hn2
  by_cases hr : rkchk r = 0
  · rw [if_neg (by simpa using hr)] at *
    rw [hr] at HC1
    generalize rchk xs = e2 at *
    have t0 : (e2 != 0) = true := by simpa using h0
    clear h0 hr
    go_enter Tryz.func135, Tryz.ntmps135
    go_wp2_with fail
    refine HC1.out.mono ?_
    rintro e w1 ⟨rfl, B1⟩
    have HB1 := Lib.hid B1; clear B1
    go_wp2_with fail
    refine (HC2.out w1 HB1.out).mono ?_
    rintro e w2 ⟨rfl, B2⟩
    have HB2 := Lib.hid (HB1.out.trans (B2.mono HB1.out.size)); clear B2
    go_wp2
    go_ret2
    exact ⟨none, 0, rfl, Nat.le_refl _, fun _ => rfl, .inl rfl, HB2.out⟩
  · rw [if_pos hr] at *
    generalize rkchk r = e1 at *
    have t0 : (e1 != 0) = true := by simpa using hr
    clear h0 hr HC2
    go_enter Tryz.func135, Tryz.ntmps135
    go_wp2_with fail
    refine HC1.out.mono ?_
    rintro e w1 ⟨rfl, B1⟩
    have HB1 := Lib.hid B1; clear B1
    go_wp2
    go_ret2
    exact ⟨none, 0, rfl, Nat.le_refl _, fun _ => rfl, .inl rfl, HB1.out⟩

theorem rz_at (R : List Rn) (i : Nat) (h : i < R.length) : (rz R)[i]?.getD (0, 0) = (((R[i]?.getD (0, 0)).1 : Int), ((R[i]?.getD (0, 0)).2 : Int)) := by
  unfold rz; rw [List.getElem?_map, List.getElem?_eq_getElem h]; rfl
theorem mem_at (R : List Rn) (i : Nat) (h : i < R.length) : R[i]?.getD (0, 0) ∈ R := by rw [List.getElem?_eq_getElem h]; exact List.getElem_mem h
theorem take_snocR (R : List Rn) (i : Nat) (h : i < R.length) : R.take (i + 1) = R.take i ++ [R[i]?.getD (0, 0)] := by
  rw [List.take_succ_eq_append_getElem h, List.getElem?_eq_getElem h]; rfl
theorem flat_len (R : List Rn) (h : ∀ p ∈ R, p.2 ≤ 300) : (flatR R).length ≤ 300 * R.length := by
  induction R with
  | nil => simp [flatR]
  | cons p R ih =>
    rw [flatR_cons, List.length_append, nums_length, List.length_cons]
    have := ih (fun q hq => h q (by simp [hq]))
    have := h p (by simp)
    omega
theorem rdv_news {w : World} {B : Nat} {a : Addr} {vs : List Value} (h : RdV w B (some a) vs) : ∀ j u, vs[j]? = some u → w.cell? (a.add j) = some u := by
  intro j u hu
  obtain ⟨b, off, e, hb, hc⟩ := h.at_ hu
  cases e
  rw [add_plR]; exact hc
/-- At each round's head: the numbers of the first i runs. -/
def MgRel (R : List Rn) (w : World) (v p : Value) (wr : World) : Prop :=
  ∃ i : Nat, i ≤ R.length ∧ p = .int .i64 (i : Int) ∧ wr.ownsRow w.heap.size 3 1 v (flatR (R.take i)).length (zc (ns (flatR (R.take i)))) ∧ Below w.heap.size w wr
set_option maxHeartbeats 4000000 in
theorem merge_in (R : List Rn) (hR : OkR R) (M1 : List Nat) (M2 : Int) (n1 : Nat) (hn1 : R.length = n1) (l : List Nat) (hl : Rising l) (hM : mg R l = (M1, M2)) (n2 : Nat) (hn2 : l.length = n2) (A1 A2 : Option Addr) (c1 c2 : Nat) (hA2 : A2 = none → c2 = 0) (w : World) (h1 : RdV w w.heap.size A1 (rcs (rz R))) (h2 : RdV w w.heap.size A2 (zc (ns l))) :
    Calls Tryz.prog 135 #[.slice A1 n1 c1, .slice A2 n2 c2] w (IntsP w M1 M2) := by
  have h300 : n1 ≤ 300 := by have := hR.1; omega
  have h3002 : n2 ≤ 300 := by have := hl.1; omega
  have HC1 : Hid (Calls Tryz.prog 165 #[.slice A1 n1 c1] w fun e w' => e = .returned (.int .i64 0) ∧ Below w.heap.size w w') := by
    have := rnck_any (rz R) n1 (by rw [rz_length, hn1]) (by omega) A1 c1 w h1
    rwa [rkchk_ok R hR] at this
  have HC2 : Hid (∀ V, Below w.heap.size w V → Calls Tryz.prog 43 #[.slice A2 n2 c2] V fun e w' => e = .returned (.int .i64 0) ∧ Below V.heap.size V w') := fun V hV => by
    have := gcheck_any (ns l) n2 (by rw [ns_length, hn2]) (by omega) A2 c2 V (h2.on hV)
    rwa [rchk_ok l hl] at this
  have HFl : Hid (∀ i, i ≤ n1 → (flatR (R.take i)).length ≤ 90000) := fun i hi => by
    have := flat_len (R.take i) (fun p hp => (hR.2.2 p (List.mem_of_mem_take hp)).1)
    have := List.length_take_le i R
    omega
  have HBd : Hid (∀ p ∈ R, p.1 ≤ 1048576 ∧ p.2 ≤ 300) := fun p hp => by have := hR.2.2 p hp; have := sep_pos R _ hR.2.1 p hp; omega
  obtain ⟨i0, hi, hz0, hz1, hz2⟩ := info_parts info3
  have HX1 := Lib.hid h1; have HX2 := Lib.hid h2; have HN1 := Lib.hid hn1; have HN2 := Lib.hid hn2; have HMM := Lib.hid hM
  clear h1 h2 hn1 hn2 hR hl hM
  go_enter Tryz.func135, Tryz.ntmps135
  go_wp2_with fail
  refine HC1.out.mono ?_
  rintro e w1 ⟨rfl, B1⟩
  have HB1 := Lib.hid B1; clear B1
  go_wp2_with fail
  refine (HC2.out w1 HB1.out).mono ?_
  rintro e w2 ⟨rfl, B2⟩
  have HB2 := Lib.hid (HB1.out.trans (B2.mono HB1.out.size)); clear B2 HB1
  go_wp2
  go_loopw [8, 23] (fun v p wr => MgRel R w v p wr) (fun _ p _ => n1 - (intOf p).toNat)
  case atStart => exact ⟨0, Nat.zero_le _, rfl, ⟨rfl, .inl ⟨rfl, rfl⟩⟩, HB2.out⟩
  case round =>
    obtain ⟨i, hi', rfl, hrow, hbel⟩ := hrel
    rw [HN1.out] at hi'
    by_cases hlt : i < n1
    · have hin : i < R.length := by rw [HN1.out]; exact hlt
      obtain ⟨r0, r1⟩ := rcs_at (rz R) i (by rw [rz_length]; exact hin)
      rw [rz_at R i hin] at r0 r1
      obtain ⟨b, off, rfl, hb, k0⟩ := (HX1.out.on hbel).at_ r0
      obtain ⟨b2, off2, hA2', hb2, k1⟩ := (HX1.out.on hbel).at_ r1
      simp only [Option.some.injEq, Addr.mk.injEq, and_true] at hA2'
      obtain ⟨rfl, rfl⟩ := hA2'
      rw [← Nat.add_assoc] at k1
      have hbd := HBd.out _ (mem_at R i hin)
      have htk := take_snocR R i hin
      have hfl := HFl.out i hi'
      generalize R[i]?.getD (0, 0) = x at *
      obtain ⟨f, m⟩ := x
      simp only at k0 k1 hbd
      have HT : Hid (flatR (R.take (i + 1)) = flatR (R.take i) ++ List.range' f m) := by show _ = _; rw [htk, flatR_snoc]; rfl
      have HB := Lib.hid hbel
      have hrow2 := (hrow.alloc (.cells #[.int .i64 (f : Int), .int .i64 (m : Int)] 130)).alloc (.cells #[.int .i64 (f : Int), .int .i64 (m : Int)] 130)
      have hbox2 : ((wr.alloc (.cells #[.int .i64 (f : Int), .int .i64 (m : Int)] 130)).alloc (.cells #[.int .i64 (f : Int), .int .i64 (m : Int)] 130)).heap[wr.heap.size + 1]? = some (.cells #[.int .i64 (f : Int), .int .i64 (m : Int)] 130 (0, 0)) := by
        have := World.alloc_heap_new (wr.alloc (.cells #[.int .i64 (f : Int), .int .i64 (m : Int)] 130)) (.cells #[.int .i64 (f : Int), .int .i64 (m : Int)] 130)
        rwa [World.size_alloc] at this
      obtain ⟨Av, cv, rfl⟩ := own_slice3 hrow
      have HA := Lib.hid (appseq_in f m hbd.1 hbd.2 (wr.heap.size + 1) w.heap.size _ _ (by omega) _ _ hrow2 hbox2 (by have := hbel.size; simp; omega))
      have hb2 : Below w.heap.size w ((wr.alloc (.cells #[.int .i64 (f : Int), .int .i64 (m : Int)] 130)).alloc (.cells #[.int .i64 (f : Int), .int .i64 (m : Int)] 130)) := (hbel.alloc hbel.size _).alloc (by have := hbel.size; simp; omega) _
      have HBB := Lib.hid hb2
      clear hrow hrow2 hbox2 hb2 hbel htk hbd r0 r1
      generalize hk : (flatR (R.take i)).length = k at *
      have HKl := Lib.hid hk; clear hk
      go_wp2_with fail
      refine (callsIn_wide.1 (nums_of 4 _ _ _)).mono ?_
      rintro e w' ⟨rfl, rfl⟩
      go_wp2_with fail
      refine HA.out.mono ?_
      rintro e w3 ⟨v', rfl, hown', hfr⟩
      obtain ⟨Av', cv', rfl⟩ := own_slice3 hown'
      have HO3 := Lib.hid hown'
      have HB3 : Hid (Below w.heap.size w w3) := HBB.out.trans (hfr.below (fun j hj => ⟨.inl hj, by have := HB.out.size; simp; omega⟩))
      clear hown' hfr
      go_wp2
      go_roundw
      case rel => exact ⟨i + 1, by rw [HN1.out]; omega, by go_num, by rw [HT.out, List.length_append, HKl.out, List.length_range', ns_append, zc_append]; exact HO3.out, HB3.out⟩
      case measure => simp [intOf]; omega
    · have e : R.take i = R := List.take_of_length_le (by rw [HN1.out]; omega)
      rw [e] at hrow
      have hfl := HFl.out n1 (Nat.le_refl _)
      rw [List.take_of_length_le (by rw [HN1.out]; omega)] at hfl
      obtain rfl : i = n1 := by omega
      obtain ⟨Av, cv, rfl⟩ := own_slice3 hrow
      have HB0 := Lib.hid hbel
      have hX2 := HX2.out.on hbel
      have HU := Lib.hid (union_any (flatR R) l (flatR R).length n2 rfl HN2.out (by omega) (by omega) M1 M2 HMM.out Av A2 cv c2 (own_none hrow) hA2 wr (own_rdv hrow) hX2)
      clear hbel e hrow hX2 HC1 HC2 HB2
      generalize (flatR R).length = N at *
      go_wp2_with fail
      refine HU.out.mono ?_
      rintro e w3 ⟨A3, c3, rfl, k1, k2, k3, k4⟩
      have HB3 : Hid (Below w.heap.size w w3) := HB0.out.trans (k4.mono HB0.out.size)
      have HR3 := Lib.hid k3
      clear k3 k4 HU
      go_wp2
      go_ret2
      exact ⟨A3, c3, rfl, k1, k2, HR3.out, HB3.out⟩
theorem merge_any (r : List Ri) (n1 : Nat) (hn1 : r.length = n1) (hz1 : n1 ≤ 9223372036854775807) (xs : List Int) (n2 : Nat) (hn2 : xs.length = n2) (hz2 : n2 ≤ 9223372036854775807) (A1 A2 : Option Addr) (c1 c2 : Nat) (hA2 : A2 = none → c2 = 0) (w : World) (h1 : RdV w w.heap.size A1 (rcs r)) (h2 : RdV w w.heap.size A2 (zc xs)) :
    Calls Tryz.prog 135 #[.slice A1 n1 c1, .slice A2 n2 c2] w (IntsP w (mgA r xs).1 (mgA r xs).2) := by
  by_cases h0 : mgE0 r xs = 0
  · obtain ⟨R, l, rfl, hR, rfl, hl⟩ := mgA_zero r xs h0
    rw [mgA_ok R hR l hl]
    exact merge_in R hR _ _ n1 (by rw [rz_length] at hn1; exact hn1) l hl rfl n2 (by rw [ns_length] at hn2; exact hn2) A1 A2 c1 c2 hA2 w h1 h2
  · have e : mgA r xs = ([], mgE0 r xs) := by unfold mgA; rw [if_pos h0]
    rw [e]
    exact merge_e r n1 hn1 hz1 xs n2 hn2 hz2 h0 A1 A2 c1 c2 w h1 h2
set_option maxHeartbeats 400000 in
theorem count_any (r : List Ri) (n1 : Nat) (hn1 : r.length = n1) (hz1 : n1 ≤ 9223372036854775807) (M1 : List Nat) (M2 : Int) (hM : mgA r [] = (M1, M2)) (A1 : Option Addr) (c1 : Nat) (w : World) (h1 : RdV w w.heap.size A1 (rcs r)) :
    Calls Tryz.prog 133 #[.slice A1 n1 c1] w fun e w' => e = .returned (.tuple #[.int .i64 (M1.length : Int), .int .i64 M2]) ∧ Below w.heap.size w w' := by
  have hm := merge_any r n1 hn1 hz1 [] 0 rfl (by decide) A1 none c1 0 (fun _ => rfl) w h1 (.inl rfl)
  rw [hM] at hm
  have HM := Lib.hid hm
  clear hm h1 hn1 hM
  go_enter Tryz.func133, Tryz.ntmps133
  go_wp2_with fail
  refine HM.out.mono ?_
  rintro e w1 ⟨A, c, rfl, -, -, -, B1⟩
  have HB1 := Lib.hid B1; clear B1
  go_wp2
  go_ret2
  exact ⟨rfl, HB1.out⟩
end

section
set_option maxRecDepth 100000
set_option linter.unusedVariables false
open Go.RowKit Go.Shelf

theorem bnums_snoc (B : List Nat) (b : Nat) : bnums (B ++ [b]) = bnums B ++ [b - (if B.length = 0 then 0 else 1)] := by
  cases B with
  | nil => simp [bnums]
  | cons c t => simp [bnums]
theorem own_wb {w w' : World} {base P size n : Nat} {e : TypeId} {v : Value} {xs : List Value} (h : w.ownsRow base e size v n xs) (hb : WB P w w') (hP : P < base) : w'.ownsRow base e size v n xs := by
  refine h.kept hb ?_
  rcases h.2 with ⟨rfl, _⟩ | ⟨g, cap, cur, rfl, hg, _⟩
  · exact .inl rfl
  · refine .inr fun e' => ?_
    simp only [Value.ownBlock, Option.some.injEq] at e'
    omega
/-- A list of the call's own comes back, and the writer holds more. -/
def AddLP (P : Nat) (w : World) (L : List Bool) (r : List Nat) (e : Ending) (w' : World) : Prop :=
  (∃ A c, e = .returned (.slice A r.length c) ∧ w'.ownsRow w.heap.size 3 1 (.slice A r.length c) r.length (zc (ns r))) ∧ WC w' P L ∧ WB P w w'
theorem WC.lt {X : World} {P : Nat} {l : List Bool} (h : WC X P l) : P < X.heap.size := by
  obtain ⟨b, A, c, e, h1, _⟩ := h
  exact (Array.getElem?_eq_some_iff.1 h1).1
def AbRel (B R : List Nat) (l0 : List Bool) (P : Nat) (w : World) (vB vR : Value) (p : Value) (wr : World) : Prop :=
  ∃ i : Nat, i ≤ B.length ∧ p = .int .i64 (i : Int) ∧ WC wr P (l0 ++ gam B.length ++ gams (bnums (B.take i))) ∧ wr.ownsRow w.heap.size 3 1 vB B.length (zc (ns B)) ∧ wr.ownsRow w.heap.size 3 1 vR R.length (zc (ns R)) ∧ WB P w wr
set_option maxHeartbeats 4000000 in
theorem addBlocks_any (P : Nat) (l0 : List Bool) (F l : List Nat) (hF : Rising F) (hl : Rising l) (n m : Nat) (hn : F.length = n) (hm : l.length = m) (A1 A2 : Option Addr) (c1 c2 : Nat) (w : World) (hW : WC w P l0) (h1 : RdV w w.heap.size A1 (zc (ns F))) (h2 : RdV w w.heap.size A2 (zc (ns l))) :
    Calls Tryz.prog 101 #[.pointer (some ⟨P, 0, none⟩), .slice A1 n c1, .slice A2 m c2] w (AddLP P w (l0 ++ (gam (bks F l).length ++ gams (bnums (bks F l)))) (notin F l)) := by
  have HPB := Lib.hid (blocks_own F l hF hl n m hn hm _ _ rfl rfl A1 A2 c1 c2 w h1 h2)
  obtain ⟨q1, q2⟩ := bks_le F l hF.1
  have hpos := (bks_ok F l).2.1
  have hPw := hW.lt
  have HWC := Lib.hid hW
  generalize bks F l = B at *
  generalize notin F l = R at *
  have HLe := Lib.hid q2
  have HPos : Hid (∀ i, i < B.length → i ≠ 0 → 1 ≤ B[i]?.getD 0) := fun i hi h0 => hpos _ (by
    rw [List.getElem?_eq_getElem hi]
    exact List.mem_drop_iff_getElem.2 ⟨i - 1, by omega, by congr 1; omega⟩)
  clear hF hl hn hm h1 h2 hW q2 hpos
  go_enter Tryz.func101, Tryz.ntmps101
  go_wp2_with fail
  refine HPB.out.mono ?_
  rintro e w1 ⟨AB, cB, AR, cR, rfl, rB, rR, b1⟩
  have HAN := Lib.hid (addNumber_any P l0 B.length (by omega) w1 (HWC.out.on b1))
  have HrB := Lib.hid rB; have HrR := Lib.hid rR; have HB1 := Lib.hid b1
  clear rB rR b1
  go_wp2_with fail
  refine HAN.out.mono ?_
  rintro e w2 ⟨rfl, hw, hb⟩
  have HW2 := Lib.hid hw
  have HB2 : Hid (WB P w w2) := (wb_below HB1.out).trans hb
  have HrB2 := Lib.hid (own_wb HrB.out hb hPw)
  have HrR2 := Lib.hid (own_wb HrR.out hb hPw)
  clear hw hb HrB HrR HB1 HPB
  go_wp2
  go_loopw [25] (fun p wr => AbRel B R l0 P w (.slice AB B.length cB) (.slice AR R.length cR) p wr) (fun p _ => B.length - (intOf p).toNat)
  case atStart => exact ⟨0, Nat.zero_le _, rfl, by rw [List.take_zero]; simpa [bnums, gams] using HW2.out, HrB2.out, HrR2.out, HB2.out⟩
  case round =>
    obtain ⟨i, hi, rfl, hwc, hrB, hrR, hwb⟩ := hrel
    clear HWC HAN HW2 HB2 HrB2 HrR2
    by_cases hlt : i < B.length
    · obtain ⟨b, off, rfl, hb, hcx⟩ := (own_rdv hrB).at_ (ns_get B i hlt)
      have htk : bnums (B.take (i + 1)) = bnums (B.take i) ++ [B[i]?.getD 0 - (if i = 0 then 0 else 1)] := by
        rw [take_snocN B i hlt, bnums_snoc, List.length_take, Nat.min_eq_left (by omega)]
      have hle := HLe.out _ (at_mem B i hlt)
      have hps := HPos.out i hlt
      generalize B[i]?.getD 0 = x at *
      have HEq : Hid (l0 ++ gam B.length ++ gams (bnums (B.take (i + 1))) = (l0 ++ gam B.length ++ gams (bnums (B.take i))) ++ gam (x - (if i = 0 then 0 else 1))) := by
        show _ = _
        rw [htk, gams_append, gams_cons, gams_nil, List.append_nil, ← List.append_assoc]
      have hx2 : ((x : Int) - (if i = 0 then 0 else 1)) = ((x - (if i = 0 then 0 else 1) : Nat) : Int) := by split <;> omega
      have t1 : IntKind.i64.wrap ((x : Int) - (if i = 0 then 0 else 1)) = ((x - (if i = 0 then 0 else 1) : Nat) : Int) := by rw [hx2]; exact IntWalk.i64_in _ (by omega)
      have HLb := Lib.hid (lblock_any i (by omega) wr)
      have HAd := Lib.hid (addNumber_any P (l0 ++ gam B.length ++ gams (bnums (B.take i))) (x - (if i = 0 then 0 else 1)) (by omega) wr hwc)
      have HrB := Lib.hid hrB; have HrR := Lib.hid hrR; have HWB := Lib.hid hwb
      clear hwc hrB hrR hwb htk hps
      generalize hy : (x - (if i = 0 then 0 else 1) : Nat) = y at *
      have hy2 : y ≤ 300 := by rw [← hy]; split <;> omega
      have t4 : wrap64 (y : Int) = (y : Int) := by unfold wrap64; omega
      have hlb : ∃ z : Int, (if i = 0 then (0 : Int) else 1) = z ∧ (x : Int) - z = (y : Int) := ⟨_, rfl, hx2⟩
      obtain ⟨z, hz, t3⟩ := hlb
      rw [hz] at HLb
      clear t1 hx2 hz hy
      go_wp2_with fail
      refine HLb.out.mono ?_
      rintro e w' ⟨rfl, rfl⟩
      go_wp2_with fail
      refine HAd.out.mono ?_
      rintro e w3 ⟨rfl, hw, hb3⟩
      have HW3 : Hid (WC w3 P (l0 ++ gam B.length ++ gams (bnums (B.take (i + 1))))) := by show WC _ _ _; rw [HEq.out]; exact hw
      have HB3 : Hid (WB P w w3) := HWB.out.trans hb3
      have HrB3 := Lib.hid (own_wb HrB.out hb3 hPw)
      have HrR3 := Lib.hid (own_wb HrR.out hb3 hPw)
      clear hw hb3 HrB HrR HWB
      go_wp2
      go_roundw
      case rel => exact ⟨i + 1, hlt, by go_num, HW3.out, HrB3.out, HrR3.out, HB3.out⟩
      case measure => simp [intOf]; omega
    · obtain rfl : i = B.length := by omega
      rw [List.take_length] at hwc
      have HWq : Hid (WC wr P (l0 ++ (gam B.length ++ gams (bnums B)))) := by show WC _ _ _; rw [← List.append_assoc]; exact hwc
      have HrR := Lib.hid hrR; have HWB := Lib.hid hwb
      clear hwc hrB hrR hwb
      go_wp2
      go_ret
      exact ⟨⟨_, _, rfl, HrR.out⟩, HWq.out, HWB.out⟩
def frm (R : List Rn) (i : Nat) : Nat := (R[i]?.getD ((0, 0) : Rn)).1
def mny (R : List Rn) (i : Nat) : Nat := (R[i]?.getD ((0, 0) : Rn)).2
/-- The number that is written of where a run begins. -/
def gapN (a : Int) (R : List Rn) (i : Nat) : Nat := if i = 0 then fold ((frm R 0 : Int) - a) else frm R i - (frm R (i - 1) + mny R (i - 1) + 1)
theorem rnx_snoc (ls : Nat) : ∀ (R : List Rn) (e : Nat) (p : Rn), rnx ls e (R ++ [p]) = rnx ls e R ++ [p.1 - (match R.getLast? with | none => e | some q => q.1 + q.2 + 1), p.2 - ls]
  | [], e, p => by simp [rnx]
  | q :: R, e, p => by
    rw [List.cons_append]
    unfold rnx
    rw [rnx_snoc ls R (q.1 + q.2 + 1) p]
    cases R with
    | nil => simp
    | cons r t =>
      obtain ⟨z, hz⟩ : ∃ z, (r :: t).getLast? = some z := ⟨_, List.getLast?_eq_some_getLast (by simp)⟩
      rw [List.getLast?_cons_cons, hz]; rfl
theorem rnu_cons (a : Int) (ls : Nat) (p : Rn) (t : List Rn) : rnu a ls (p :: t) = fold ((p.1 : Int) - a) :: (p.2 - ls) :: rnx ls (p.1 + p.2 + 1) t := rfl
theorem rnu_take (a : Int) (ls : Nat) (R : List Rn) (i : Nat) (h : i < R.length) : rnu a ls (R.take (i + 1)) = rnu a ls (R.take i) ++ [gapN a R i, mny R i - ls] := by
  have hs : R.take (i + 1) = R.take i ++ [R[i]?.getD (0, 0)] := by rw [List.take_add_one, List.getElem?_eq_getElem h]; rfl
  rw [hs]
  unfold gapN
  cases R with
  | nil => simp at h
  | cons q R =>
    cases i with
    | zero => simp [rnu, rnx, frm, mny]
    | succ i =>
      rw [if_neg (Nat.succ_ne_zero i), List.take_succ_cons, List.cons_append]
      rw [rnu_cons, rnu_cons, rnx_snoc]
      have hi : i < R.length := by simpa using h
      have hlast : (match (R.take i).getLast? with | none => q.1 + q.2 + 1 | some q => q.1 + q.2 + 1) = frm (q :: R) (i + 1 - 1) + mny (q :: R) (i + 1 - 1) + 1 := by
        cases i with
        | zero => simp [frm, mny]
        | succ j =>
          have e : (R.take (j + 1)).getLast? = some (R[j]'(by omega)) := by
            rw [List.getLast?_eq_getElem?, List.length_take, Nat.min_eq_left (by omega), Nat.add_sub_cancel, List.getElem?_take_of_lt (by omega), List.getElem?_eq_getElem (by omega)]
          rw [e]
          simp [frm, mny, List.getElem?_eq_getElem (show j < R.length by omega)]
      rw [hlast]
      simp [frm, mny]
set_option maxHeartbeats 1000000 in
theorem gapOf_any (R : List Rn) (hR : OkR R) (a : Nat) (ha : a ≤ 1048576) (i : Nat) (hi : i < R.length) (A : Option Addr) (c : Nat) (w : World) (h : RdV w w.heap.size A (rcs (rz (R.take i)))) :
    Calls Tryz.prog 128 #[.int .i64 (frm R i : Int), .slice A i c, .int .i64 (a : Int)] w fun e w' => e = .returned (.int .u64 (gapN (a : Int) R i : Int)) ∧ Below w.heap.size w w' := by
  have hb : mny R i ≤ 300 ∧ frm R i + mny R i ≤ 1048577 := hR.2.2 _ (mem_at R i hi)
  by_cases h0 : i = 0
  · subst h0
    have HF := Lib.hid (fold_any ((frm R 0 : Int) - (a : Int)) (by omega) (by omega) w)
    have e : gapN (a : Int) R 0 = fold ((frm R 0 : Int) - (a : Int)) := rfl
    rw [e]
    clear h hi e hR
    generalize frm R 0 = f at *
    generalize mny R 0 = m at *
    have t1 : IntKind.i64.wrap ((f : Int) - (a : Int)) = (f : Int) - (a : Int) := IntWalk.i64_in _ (by omega)
    generalize fold ((f : Int) - (a : Int)) = q at *
    go_enter Tryz.func128, Tryz.ntmps128
    go_wp2_with fail
    refine HF.out.mono ?_
    rintro e w' ⟨rfl, rfl⟩
    go_wp2
    go_ret
    exact ⟨rfl, Below.refl _ _⟩
  · have hi1 : i - 1 < R.length := by omega
    have hb1 : mny R (i - 1) ≤ 300 ∧ frm R (i - 1) + mny R (i - 1) ≤ 1048577 := hR.2.2 _ (mem_at R (i - 1) hi1)
    have hsep : frm R (i - 1) + mny R (i - 1) < frm R i := by
      unfold frm mny
      have hp := ((sep_pairs R (-1)).1 hR.2.1).2
      rw [List.getElem?_eq_getElem hi1, List.getElem?_eq_getElem hi]
      exact List.pairwise_iff_getElem.1 hp (i - 1) i hi1 hi (by omega)
    have hz : (rz (R.take i))[i - 1]?.getD (0, 0) = ((frm R (i - 1) : Int), (mny R (i - 1) : Int)) := by
      rw [rz_at _ _ (by rw [List.length_take]; omega), List.getElem?_take_of_lt (by omega)]; rfl
    have HL := Lib.hid (lfrom_any (rz (R.take i)) i (by rw [rz_length, List.length_take]; omega) (by omega) (by have := hR.1; omega) _ _ hz (by omega) (by omega) A c w h)
    have e : gapN (a : Int) R i = frm R i - (frm R (i - 1) + mny R (i - 1) + 1) := by unfold gapN; rw [if_neg h0]
    rw [e]
    clear h hi hi1 e hR hz
    generalize frm R i = f at *
    generalize mny R i = m at *
    generalize frm R (i - 1) = g at *
    generalize mny R (i - 1) = k at *
    have t1 : ((f : Int) - ((g : Int) + (k : Int) + 1)) = ((f - (g + k + 1) : Nat) : Int) := by omega
    have t2 : IntKind.i64.wrap ((f - (g + k + 1) : Nat) : Int) = ((f - (g + k + 1) : Nat) : Int) := IntWalk.i64_in _ (by omega)
    have t3 : IntKind.u64.wrap ((f - (g + k + 1) : Nat) : Int) = ((f - (g + k + 1) : Nat) : Int) := u64w _ (by omega) (by omega)
    have t0 : ((i : Int) == 0) = false := by simp; omega
    have t4 : wrap64 ((f - (g + k + 1) : Nat) : Int) = ((f - (g + k + 1) : Nat) : Int) := by unfold wrap64; omega
    go_enter Tryz.func128, Tryz.ntmps128
    go_wp2_with fail
    refine HL.out.mono ?_
    rintro e w1 ⟨rfl, B1⟩
    have HB := Lib.hid B1
    clear B1
    go_wp2
    go_ret
    exact ⟨by first | rfl | (simp [t1, t2, t3, t4]; done) | simp [t1], HB.out⟩
theorem rdv_takeV {w : World} {B : Nat} {A : Option Addr} {vs : List Value} (h : RdV w B A vs) (k : Nat) : RdV w B A (vs.take k) := by
  rcases h with h | ⟨b, off, e, hb, hc⟩
  · left; rw [h, List.take_nil]
  · refine .inr ⟨b, off, e, hb, fun i v hi => hc i v ?_⟩
    rw [List.getElem?_take] at hi
    split at hi
    · exact hi
    · cases hi
theorem rcs_take : ∀ (r : List Ri) (i : Nat), (rcs r).take (i * 2) = rcs (r.take i)
  | [], i => by simp [rcs]
  | p :: t, 0 => by simp [rcs]
  | p :: t, i + 1 => by
    rw [List.take_succ_cons, rcs_cons, rcs_cons, show (i + 1) * 2 = i * 2 + 2 by omega, List.take_succ_cons, List.take_succ_cons, rcs_take t i]
theorem rz_take (R : List Rn) (i : Nat) : rz (R.take i) = (rz R).take i := by simp [rz, List.map_take]
theorem wb_cell {P : Nat} {w w' : World} (h : WB P w w') {k i : Nat} (hk : k < w.heap.size) (hne : k ≠ P) : w'.cell? ⟨k, i, none⟩ = w.cell? ⟨k, i, none⟩ := World.cell?_of_block (h.block k hk (by simpa using hne))
def ArRel (a ls : Nat) (R : List Rn) (S : List Nat) (l0 : List Bool) (P : Nat) (w : World) (vR vS : Value) (p : Value) (wr : World) : Prop :=
  ∃ i : Nat, i ≤ R.length ∧ p = .int .i64 (i : Int) ∧ WC wr P (l0 ++ gam R.length ++ gams (rnu (a : Int) ls (R.take i))) ∧ wr.ownsRow w.heap.size 130 2 vR R.length (rcs (rz R)) ∧ wr.ownsRow w.heap.size 3 1 vS S.length (zc (ns S)) ∧ WB P w wr
theorem gapN_le (a : Nat) (ha : a ≤ 1048576) (R : List Rn) (hR : OkR R) (i : Nat) (hi : i < R.length) : gapN (a : Int) R i ≤ 2097152 := by
  have hb : mny R i ≤ 300 ∧ frm R i + mny R i ≤ 1048577 := hR.2.2 _ (mem_at R i hi)
  have hp : 1 ≤ mny R i := sep_pos R _ hR.2.1 _ (mem_at R i hi)
  unfold gapN
  split
  · rename_i h; subst h
    unfold fold; split <;> omega
  · omega
set_option maxHeartbeats 8000000 in
theorem addRuns_any (P : Nat) (l0 : List Bool) (a : Nat) (ha : a ≤ 1048576) (l : List Nat) (hl : Rising l) (n : Nat) (hn : l.length = n) (ls : Nat) (hls : 2 ≤ ls) (hls2 : ls ≤ 300) (A : Option Addr) (c : Nat) (hc : n ≤ c) (w : World) (hW : WC w P l0) (h : RdV w w.heap.size A (zc (ns l))) :
    Calls Tryz.prog 102 #[.pointer (some ⟨P, 0, none⟩), .int .i64 (a : Int), .slice A n c, .int .i64 (ls : Int)] w (AddLP P w (l0 ++ (gam (lng ls (rs l)).length ++ gams (rnu (a : Int) ls (lng ls (rs l))))) (flatR (sht ls (rs l)))) := by
  have HSp := Lib.hid (split_own l hl n hn ls hls hls2 A c hc w h)
  have hR : OkR (lng ls (rs l)) := okR_filter _ _ (rs_okR l hl)
  have hge : ∀ q ∈ lng ls (rs l), ls ≤ q.2 := fun q hq => by have := (List.mem_filter.1 hq).2; simpa using this
  have hPw := hW.lt
  have HWC := Lib.hid hW
  have hRl := hR.1
  generalize lng ls (rs l) = R at *
  generalize flatR (sht ls (rs l)) = S at *
  have HR := Lib.hid hR; have HGe := Lib.hid hge
  clear hl hn h hW hR hge hc
  go_enter Tryz.func102, Tryz.ntmps102
  go_wp2_with fail
  refine HSp.out.mono ?_
  rintro e w1 ⟨AR, cR, AS, cS, rfl, rR, rS, b1⟩
  rw [rz_length] at rR ⊢
  have HAN := Lib.hid (addNumber_any P l0 R.length (by omega) w1 (HWC.out.on b1))
  have HrR := Lib.hid rR; have HrS := Lib.hid rS; have HB1 := Lib.hid b1
  clear rR rS b1
  go_wp2_with fail
  refine HAN.out.mono ?_
  rintro e w2 ⟨rfl, hw, hb⟩
  have HW2 := Lib.hid hw
  have HB2 : Hid (WB P w w2) := (wb_below HB1.out).trans hb
  have HrR2 := Lib.hid (own_wb HrR.out hb hPw)
  have HrS2 := Lib.hid (own_wb HrS.out hb hPw)
  clear hw hb HrR HrS HB1 HSp
  go_wp2
  go_loopw [27] (fun p wr => ArRel a ls R S l0 P w (.slice AR R.length cR) (.slice AS S.length cS) p wr) (fun p _ => R.length - (intOf p).toNat)
  case atStart => exact ⟨0, Nat.zero_le _, rfl, by rw [List.take_zero]; simpa [rnu, gams] using HW2.out, HrR2.out, HrS2.out, HB2.out⟩
  case round =>
    obtain ⟨i, hi, rfl, hwc, hrR, hrS, hwb⟩ := hrel
    clear HWC HAN HW2 HB2 HrR2 HrS2
    by_cases hlt : i < R.length
    · have hrd := own_rdvT hrR
      obtain ⟨r0, r1⟩ := rcs_at (rz R) i (by rw [rz_length]; exact hlt)
      rw [rz_at R i hlt] at r0 r1
      obtain ⟨b, off, rfl, hb, k0⟩ := hrd.at_ r0
      obtain ⟨b2, off2, hA2', hb2, k1⟩ := hrd.at_ r1
      simp only [Option.some.injEq, Addr.mk.injEq, and_true] at hA2'
      obtain ⟨rfl, rfl⟩ := hA2'
      rw [← Nat.add_assoc] at k1
      change wr.cell? ⟨b, off + i * 2, none⟩ = some (.int .i64 (frm R i : Int)) at k0
      change wr.cell? ⟨b, off + i * 2 + 1, none⟩ = some (.int .i64 (mny R i : Int)) at k1
      have hbd : mny R i ≤ 300 ∧ frm R i + mny R i ≤ 1048577 := HR.out.2.2 _ (mem_at R i hlt)
      have hmg : ls ≤ mny R i := HGe.out _ (mem_at R i hlt)
      have hgl := gapN_le a ha R HR.out i hlt
      have hpre : RdV wr wr.heap.size (some ⟨b, off, none⟩) (rcs (rz (R.take i))) := by
        have := rdv_takeV hrd (i * 2)
        rwa [rcs_take, ← rz_take] at this
      have htk := rnu_take (a : Int) ls R i hlt
      have HEq : Hid (l0 ++ gam R.length ++ gams (rnu (a : Int) ls (R.take (i + 1))) = ((l0 ++ gam R.length ++ gams (rnu (a : Int) ls (R.take i))) ++ gam (gapN (a : Int) R i)) ++ gam (mny R i - ls)) := by
        show _ = _
        rw [htk, gams_append, gams_cons, gams_cons, gams_nil, List.append_nil]
        simp only [List.append_assoc]
      have HGap : Hid (∀ V c, Below wr.heap.size wr V → Calls Tryz.prog 128 #[.int .i64 (frm R i : Int), .slice (some ⟨b, off, none⟩) i c, .int .i64 (a : Int)] V fun e w' => e = .returned (.int .u64 (gapN (a : Int) R i : Int)) ∧ Below V.heap.size V w') := fun V c hV => gapOf_any R HR.out a ha i hlt _ c V (hpre.on hV)
      have HGam : Hid (∀ V, Calls Tryz.prog 124 #[.int .u64 (gapN (a : Int) R i : Int)] V (Gv V ((gam (gapN (a : Int) R i)).length : Int) (pack (gam (gapN (a : Int) R i))).length (pack (gam (gapN (a : Int) R i))) 0)) := fun V => gamma_ok _ (by omega) _ rfl V
      have HAd : Hid (∀ A c V, Below wr.heap.size wr V → Rd V V.heap.size A (pack (gam (gapN (a : Int) R i))) → Calls Tryz.prog 103 #[.pointer (some ⟨P, 0, none⟩), .agg #[.int .i64 ((gam (gapN (a : Int) R i)).length : Int), .slice A (pack (gam (gapN (a : Int) R i))).length c], .int .i64 0] V (AddP P V (l0 ++ gam R.length ++ gams (rnu (a : Int) ls (R.take i)) ++ gam (gapN (a : Int) R i)))) := fun A c V hV hR2 => add_any P _ _ _ A _ c 0 V (hwc.on hV) (.inl ⟨gam_len40 _ (by omega), rfl, rfl, hR2, rfl⟩)
      have HAn : Hid (∀ V, WC V P (l0 ++ gam R.length ++ gams (rnu (a : Int) ls (R.take i)) ++ gam (gapN (a : Int) R i)) → Calls Tryz.prog 100 #[.pointer (some ⟨P, 0, none⟩), .int .i64 ((mny R i - ls : Nat) : Int)] V (AddP P V (l0 ++ gam R.length ++ gams (rnu (a : Int) ls (R.take i)) ++ gam (gapN (a : Int) R i) ++ gam (mny R i - ls)))) := fun V hV => addNumber_any P _ _ (by omega) V hV
      have hPwr := hwc.lt
      have HrR := Lib.hid hrR; have HrS := Lib.hid hrS; have HWB := Lib.hid hwb
      have t1 : ((mny R i : Int) - (ls : Int)) = ((mny R i - ls : Nat) : Int) := by omega
      have t2 : wrap64 ((mny R i - ls : Nat) : Int) = ((mny R i - ls : Nat) : Int) := by unfold wrap64; omega
      have t3 : i ≤ cR := by have := (own_capT hrR).1; omega
      have t4 : (i : Int) ≤ (cR : Int) := by omega
      have t5 : ¬ (cR : Int) < (i : Int) := by omega
      clear hwc hrR hrS hwb htk hrd hpre r0 r1
      generalize gapN (a : Int) R i = g at *
      generalize (gam g).length = gl at *
      generalize (pack (gam g)).length = gn at *
      generalize hmy : mny R i - ls = y at *
      generalize frm R i = f at *
      generalize mny R i = m at *
      clear hmy
      go_wp2_with fail
      generalize hV : wr.alloc (.cells #[.int .i64 (f : Int), .int .i64 (m : Int)] 130) = V0
      have HV0 : Hid (Below wr.heap.size wr V0) := hV ▸ one_below wr _
      have HBx : Hid (V0.heap[wr.heap.size]? = some (.cells #[.int .i64 (f : Int), .int .i64 (m : Int)] 130 (0, 0))) := hV ▸ World.alloc_heap_new wr _
      have hzs : wr.heap.size < V0.heap.size := (Array.getElem?_eq_some_iff.1 HBx.out).1
      clear hV k0 k1
      have HCl : Hid (∀ V, Below V0.heap.size V0 V → V.cell? ⟨wr.heap.size, 0, none⟩ = some (.int .i64 (f : Int))) := fun V hV => ((hV.cell (p := ⟨wr.heap.size, 0, none⟩) hzs).trans (cell_at HBx.out _)).trans rfl
      go_region_held3 (fun w' => w'.cell? ⟨wr.heap.size, 0, none⟩ = some (.int .i64 (f : Int)))
        (first | exact hk6 | (refine HCl.out _ ?_; first | exact hk3.out | exact hk1.out | exact (Below.refl _ V0).drew | exact Below.refl _ _))
        (first
          | (go_at_call 103; have hx := hr3.out; refine (HAd.out A3 c3 w3 (HV0.out.trans (hk3.out.mono HV0.out.size)) hx).mono ?_; rintro e w4 ⟨rfl, hw4, hb4⟩; have hk4 := Lib.hid hw4; have hk5 := Lib.hid hb4; have hk6 : w4.cell? ⟨wr.heap.size, 0, none⟩ = some (.int .i64 (f : Int)) := (wb_cell hb4 (Nat.lt_of_lt_of_le hzs hk3.out.size) (by omega)).trans (HCl.out _ hk3.out); clear hw4 hb4 hx)
          | (go_at_call 124; have hy := hk1.out; refine (HGam.out w2).mono ?_; rintro e w3 ⟨A3, c3, rfl, r3, b3⟩; have hk3 : Hid (Below V0.heap.size V0 w3) := hy.trans (b3.mono hy.size); have hr3 := Lib.hid r3; clear r3 b3 hy)
          | (go_at_call 128; refine (HGap.out V0.drew _ HV0.out.drew).mono ?_; rintro e w2 ⟨rfl, B2⟩; have hk1 : Hid (Below V0.heap.size V0 w2) := ((Below.refl _ V0).drew).trans B2; clear B2))
      all_goals (
        have HWBr : Hid (WB P wr w4) := (wb_below (HV0.out.trans (hk3.out.mono HV0.out.size))).trans hk5.out
        have hne : some wr.heap.size ≠ some P := by simp; omega
        have hb4 : w4.heap[wr.heap.size]? = some (.cells #[.int .i64 (f : Int), .int .i64 (m : Int)] 130 (0, 0)) := ((hk5.out.block _ (Nat.lt_of_lt_of_le hzs hk3.out.size) hne).trans (hk3.out.block _ hzs)).trans HBx.out
        have j1 : w4.cell? ⟨wr.heap.size, 1, none⟩ = some (.int .i64 (m : Int)) := (cell_at hb4 _).trans rfl
        have HAn4 := Lib.hid (HAn.out w4 hk4.out)
        clear hb4 hne
        go_wp2_with fail
        refine HAn4.out.mono ?_
        rintro e w5 ⟨rfl, hw, hb5⟩
        have HW5 : Hid (WC w5 P (l0 ++ gam R.length ++ gams (rnu (a : Int) ls (R.take (i + 1))))) := by show WC _ _ _; rw [HEq.out]; exact hw
        have HBr : Hid (WB P wr w5) := HWBr.out.trans hb5
        have HB5 : Hid (WB P w w5) := HWB.out.trans HBr.out
        have HrR5 := Lib.hid (own_wb HrR.out HBr.out hPw)
        have HrS5 := Lib.hid (own_wb HrS.out HBr.out hPw)
        clear hw hb5 HrR HrS HWB
        go_wp2
        go_roundw
        case rel => exact ⟨i + 1, hlt, by go_num, HW5.out, HrR5.out, HrS5.out, HB5.out⟩
        case measure => simp [intOf]; omega)
    · obtain rfl : i = R.length := by omega
      rw [List.take_length] at hwc
      have HWq : Hid (WC wr P (l0 ++ (gam R.length ++ gams (rnu (a : Int) ls R)))) := by show WC _ _ _; rw [← List.append_assoc]; exact hwc
      have HrS := Lib.hid hrS; have HWB := Lib.hid hwb
      clear hwc hrR hrS hwb
      go_wp2
      go_ret
      exact ⟨⟨_, _, rfl, HrS.out⟩, HWq.out, HWB.out⟩
end

section
set_option maxRecDepth 100000
set_option linter.unusedVariables false
open Go.RowKit Go.Shelf

theorem pnum_le {L : List Bool} {s most x s' : Nat} (h : pnum L s most = some (x, s')) : x ≤ most ∧ s' ≤ L.length := by
  unfold pnum at h
  split at h
  · rename_i hh
    simp only [Option.some.injEq, Prod.mk.injEq] at h
    have := (thenR_bound L (uR L s)).1
    obtain ⟨rfl, rfl⟩ := h
    exact ⟨hh.2, this⟩
  · cases h
/-- What is new lies ahead of the block, which is changed in no other way. -/
theorem WB.then {P B : Nat} {w a b : World} (h : WB P w a) (k : Below B a b) (hw : w.heap.size ≤ B) : WB P w b :=
  ⟨k.os.trans h.os, k.tape.trans h.tape, k.output.trans h.output, Nat.le_trans h.size k.size, fun j hj hne => (k.block j (Nat.lt_of_lt_of_le hj hw)).trans (h.block j hj hne)⟩
theorem RB.low {w V : World} {B Q : Nat} {L : List Bool} {A : Option Addr} {c s : Nat} (h : RB w Q L A c s) (hb : Below B w V) (hQ : Q < B) : RB V Q L A c s := (hb.block Q hQ).trans h
/-- Where a round's number fails, so do all. -/
theorem pbl_none (L : List Bool) (m : Nat) (acc : List Nat) (s : Nat) (h : pnum L s 300 = none) : pbl L (m + 1) acc s = none := by unfold pbl; rw [h]
theorem pbl_some (L : List Bool) (m : Nat) (acc : List Nat) (s x s' : Nat) (h : pnum L s 300 = some (x, s')) : pbl L (m + 1) acc s = pbl L m (acc ++ [x + (if acc = [] then 0 else 1)]) s' := by
  show (match pnum L s 300 with | none => none | some (x, s') => pbl L m (acc ++ [x + (if acc = [] then 0 else 1)]) s') = _
  rw [h]
/-- Blocks come back, or the reader gives up. -/
def TbP (Q : Nat) (L : List Bool) (A : Option Addr) (c : Nat) (w : World) (o : Option (List Nat × Nat)) (e : Ending) (w' : World) : Prop :=
  WB Q w w' ∧ match o with
    | none => Bad e
    | some (B, s) => (∃ A1 c1, e = .returned (.slice A1 B.length c1) ∧ w'.ownsRow w.heap.size 3 1 (.slice A1 B.length c1) B.length (zc (ns B))) ∧ RB w' Q L A c s ∧ s ≤ L.length
def TbRel (L : List Bool) (A : Option Addr) (c Q n : Nat) (o : Option (List Nat × Nat)) (w : World) (v p : Value) (wr : World) : Prop :=
  ∃ (i s : Nat) (acc : List Nat), i ≤ n ∧ p = .int .i64 (i : Int) ∧ acc.length = i ∧ s ≤ L.length ∧ pbl L (n - i) acc s = o ∧ wr.ownsRow w.heap.size 3 1 v acc.length (zc (ns acc)) ∧ RB wr Q L A c s ∧ Rd wr Q A (pack L) ∧ WB Q w wr
set_option maxHeartbeats 4000000 in
theorem take_blocks (L : List Bool) (hL : L.length ≤ 8192) (A : Option Addr) (c Q s : Nat) (hs : s ≤ L.length) (w : World) (hQ : RB w Q L A c s) (hR : Rd w Q A (pack L)) :
    Calls Tryz.prog 107 #[.pointer (some ⟨Q, 0, none⟩)] w (TbP Q L A c w (pblocks L s)) := by
  have hlt := hQ.lt
  have HTk : Hid (∀ (V : World) (s : Nat), s ≤ L.length → RB V Q L A c s → Rd V Q A (pack L) → Calls Tryz.prog 105 #[.pointer (some ⟨Q, 0, none⟩), .int .i64 300] V (TkP Q L A c V (pnum L s 300))) := fun V s h1 h2 h3 => take_num L hL A c Q s h1 300 (by omega) V h2 h3
  have HT0 := Lib.hid (HTk.out w s hs hQ hR)
  have HR := Lib.hid hR
  obtain ⟨i0, hi, hz0, hz1, hz2⟩ := info_parts info3
  have HP : Hid (pblocks L s = match pnum L s 300 with | none => none | some (n, s') => pbl L n [] s') := rfl
  generalize pblocks L s = o at *
  clear hQ hR
  rcases hpn : pnum L s 300 with _ | ⟨n, s1⟩
  · rw [hpn] at HT0 HP
    clear hpn
    go_enter Tryz.func107, Tryz.ntmps107
    go_wp2_with fail
    refine HT0.out.mono ?_
    rintro e w1 ⟨hwb, rfl⟩
    have HW := Lib.hid hwb
    clear hwb
    go_wp2
    exact ⟨rfl, HW.out, by rw [HP.out]; rfl⟩
  · rw [hpn] at HT0 HP
    obtain ⟨hn, hs1⟩ := pnum_le hpn
    clear hpn
    go_enter Tryz.func107, Tryz.ntmps107
    go_wp2_with fail
    refine HT0.out.mono ?_
    rintro e w1 ⟨hwb, rfl, hrb⟩
    have HW1 := Lib.hid hwb; have HRB1 := Lib.hid hrb
    clear hwb hrb HT0
    go_wp2
    go_loopw [3, 7] (fun v p wr => TbRel L A c Q n o w v p wr) (fun _ p _ => n - (intOf p).toNat)
    case atStart => exact ⟨0, s1, [], Nat.zero_le _, rfl, rfl, hs1, HP.out.symm, ⟨rfl, .inl ⟨rfl, rfl⟩⟩, HRB1.out, rd_low HR.out HW1.out hlt, HW1.out⟩
    case round =>
      obtain ⟨i, s2, acc, hi', rfl, hai, hs2, hpb, hrow, hrb, hrd, hwb⟩ := hrel
      clear HW1 HRB1
      obtain ⟨Av, cv, rfl⟩ := own_slice3 hrow
      by_cases hlt2 : i < n
      · have HT := Lib.hid (HTk.out wr s2 hs2 hrb hrd)
        obtain ⟨m, hm⟩ : ∃ m, n - i = m + 1 := ⟨n - i - 1, by omega⟩
        rw [hm] at hpb
        have HWB := Lib.hid hwb; have HRow := Lib.hid hrow; have HRd := Lib.hid hrd
        clear hwb hrb hrd
        rcases hpn : pnum L s2 300 with _ | ⟨x, s3⟩
        · rw [hpn] at HT
          rw [pbl_none L m acc s2 hpn] at hpb
          subst hpb
          clear hpn hrow
          go_wp2_with fail
          refine HT.out.mono ?_
          rintro e w2 ⟨hwb, rfl⟩
          have HW := Lib.hid (HWB.out.trans hwb)
          clear hwb
          go_wp2
          exact ⟨rfl, HW.out, rfl⟩
        · rw [hpn] at HT
          rw [pbl_some L m acc s2 x s3 hpn] at hpb
          obtain ⟨hx, hs3⟩ := pnum_le hpn
          have hpe : (if acc = [] then (0 : Nat) else 1) = if i = 0 then 0 else 1 := by
            by_cases h0 : i = 0
            · rw [if_pos h0, if_pos (List.eq_nil_of_length_eq_zero (by omega))]
            · rw [if_neg h0, if_neg (fun e => h0 (by rw [← hai, e]; rfl))]
          rw [hpe] at hpb
          obtain ⟨y, hy⟩ : ∃ y : Nat, (if i = 0 then (0 : Nat) else 1) = y := ⟨_, rfl⟩
          have hyi : (if i = 0 then (0 : Int) else 1) = (y : Int) := by rw [← hy]; split <;> rfl
          have HLb := Lib.hid (fun V => lblock_any i (by omega) V)
          rw [hy] at hpb
          rw [hyi] at HLb
          have hy1 : y ≤ 1 := by rw [← hy]; split <;> omega
          clear hy hyi hpe hpn
          have HPb := Lib.hid hpb
          have t1 : IntKind.i64.wrap ((x : Int) + (y : Int)) = (x : Int) + (y : Int) := IntWalk.i64_in _ (by omega)
          have HZc : Hid (zc (ns acc) ++ [Value.int .i64 ((x : Int) + (y : Int))] = zc (ns (acc ++ [x + y]))) := by show _ = _; rw [ns_append, zc_append]; rfl
          have HLn : Hid ((acc ++ [x + y]).length = i + 1) := by show _ = _; rw [List.length_append, hai]; rfl
          clear hpb hrow
          rw [hai] at HRow ⊢
          go_wp2_with fail
          refine HT.out.mono ?_
          rintro e w2 ⟨hwb, rfl, hrb⟩
          have HW2 := Lib.hid hwb; have HRB2 := Lib.hid hrb
          have hrow := own_wb HRow.out hwb hlt
          have hws : w.heap.size ≤ w2.heap.size := Nat.le_trans HWB.out.size hwb.size
          clear hwb hrb HRow HT
          go_wp2_with fail
          refine (HLb.out _).mono ?_
          rintro e w' ⟨rfl, rfl⟩
          go_wp2_with (at_builtin; refine wpList_append_own _ rfl _ _ 22 rfl w.heap.size 3 i0 (.int .i64 0) 1 8 Tryz.underlying22 hi hz0 hz1 hz2 rfl (by decide) _ _ _ rfl (hrow.alloc _) ⟨w2.heap.size, 0, none⟩ 1 1 [.int .i64 ((x : Int) + (y : Int))] rfl rfl (news_row w2 [.int .i64 ((x : Int) + (y : Int))] _) (by simp [Value.oneCell']) (by unfold maxLen; omega) (by omega) (by simp; omega) ?_; intro v' w3 hown' hgrow _; obtain ⟨Av', cv', rfl⟩ := own_slice3 hown')
          rw [HZc.out] at hown'
          have HO3 := Lib.hid hown'
          have hBw : Below w.heap.size w2 w3 := ((Below.refl w.heap.size w2).alloc hws _).trans (grown_low hgrow (hrow.alloc _) (by simp; omega))
          have HWB3 : Hid (WB Q w w3) := (HWB.out.trans HW2.out).then hBw (Nat.le_refl _)
          have HRB3 := Lib.hid (HRB2.out.low hBw hlt)
          clear hown' hgrow hrow hBw
          go_wp2
          go_roundw
          case rel => exact ⟨i + 1, s3, acc ++ [x + y], hlt2, by go_num, HLn.out, hs3, by rw [show n - (i + 1) = m by omega]; exact HPb.out, by rw [HLn.out]; exact HO3.out, HRB3.out, rd_low HR.out HWB3.out hlt, HWB3.out⟩
          case measure => simp [intOf]; omega
      · have e0 : n - i = 0 := by omega
        rw [e0] at hpb
        have HPb : Hid (o = some (acc, s2)) := hpb.symm
        have HRow := Lib.hid hrow; have HRB := Lib.hid hrb; have HWB := Lib.hid hwb
        clear hpb hrow hrb hrd hwb e0
        generalize hk : acc.length = k at *
        have HK := Lib.hid hk
        clear hk
        go_wp2
        go_ret
        exact ⟨HWB.out, by rw [HPb.out]; exact ⟨⟨_, _, by rw [HK.out]; rfl, by rw [HK.out]; exact HRow.out⟩, HRB.out, hs2⟩⟩
end

section
set_option maxRecDepth 100000
set_option linter.unusedVariables false
open Go.RowKit Go.Shelf

theorem getLast_getD (r : List Ri) (n : Nat) (hn : r.length = n) (h1 : 1 ≤ n) : r.getLast? = some (r[n - 1]?.getD (0, 0)) := by
  rw [List.getLast?_eq_getElem?, hn, List.getElem?_eq_getElem (by omega)]; rfl
theorem unfold_lim (g : Nat) (hg : g ≤ 2097152) : -1048577 ≤ unfold_ g ∧ unfold_ g ≤ 1048577 := by unfold unfold_; split <;> omega
/-- How far the runs go that were taken. -/
def InLim (r : List Ri) : Prop := ∀ p ∈ r, -4000000 ≤ p.1 ∧ p.1 ≤ 4000000 * (r.length : Int) ∧ 0 ≤ p.2 ∧ p.2 ≤ 700
theorem fro_lim (r : List Ri) (h : InLim r) (a g : Nat) (ha : a ≤ 1048576) (hg : g ≤ 2097152) : -4000000 ≤ fro a g r ∧ fro a g r ≤ 4000000 * ((r.length : Int) + 1) := by
  have hu := unfold_lim g hg
  unfold fro
  cases hl : r.getLast? with
  | none => simp only; omega
  | some p =>
    have := h p (List.mem_of_getLast? hl)
    simp only
    omega
theorem inLim_snoc (r : List Ri) (h : InLim r) (f m : Int) (h1 : -4000000 ≤ f) (h2 : f ≤ 4000000 * ((r.length : Int) + 1)) (h3 : 0 ≤ m) (h4 : m ≤ 700) : InLim (r ++ [(f, m)]) := by
  intro p hp
  rw [List.length_append]
  rcases List.mem_append.1 hp with hp | hp
  · have := h p hp
    simp only [List.length_singleton]
    omega
  · obtain rfl : p = (f, m) := by simpa using hp
    simp only [List.length_singleton]
    omega
set_option maxHeartbeats 1000000 in
theorem fromOf_any (r : List Ri) (n : Nat) (hn : r.length = n) (hn2 : n ≤ 300) (hb : InLim r) (a g : Nat) (ha : a ≤ 1048576) (hg : g ≤ 2097152) (A : Option Addr) (c : Nat) (w : World) (h : RdV w w.heap.size A (rcs r)) :
    Calls Tryz.prog 162 #[.int .u64 (g : Int), .slice A n c, .int .i64 (a : Int)] w fun e w' => e = .returned (.int .i64 (fro a g r)) ∧ Below w.heap.size w w' := by
  have hlim := fro_lim r hb a g ha hg
  by_cases h0 : n = 0
  · subst h0
    obtain rfl : r = [] := List.eq_nil_of_length_eq_zero hn
    have HU := Lib.hid (unfold_any g (by omega) w)
    have hu := unfold_lim g hg
    have e : fro a g [] = (a : Int) + unfold_ g := rfl
    rw [e]
    clear h hn hb e hlim
    generalize unfold_ g = u at *
    have t1 : IntKind.i64.wrap ((a : Int) + u) = (a : Int) + u := IntWalk.i64_in _ (by omega)
    go_enter Tryz.func162, Tryz.ntmps162
    go_wp2_with fail
    refine HU.out.mono ?_
    rintro e w' ⟨rfl, rfl⟩
    go_wp2
    go_ret
    exact ⟨rfl, Below.refl _ _⟩
  · obtain ⟨f, m, hfm⟩ : ∃ f m, r[n - 1]?.getD ((0, 0) : Ri) = (f, m) := ⟨_, _, rfl⟩
    have hgl := getLast_getD r n hn (by omega)
    rw [hfm] at hgl
    have hfb := hb _ (List.mem_of_getLast? hgl)
    simp only at hfb
    rw [hn] at hfb
    have HL := Lib.hid (lfrom_any r n hn (by omega) (by omega) f m hfm (by omega) (by omega) A c w h)
    have e : fro a g r = f + m + 1 + (g : Int) := by unfold fro; rw [hgl]
    rw [e]
    rw [e] at hlim
    have t1 : IntKind.i64.wrap (f + m + 1 + (g : Int)) = f + m + 1 + (g : Int) := IntWalk.i64_in _ (by omega)
    have t2 : IntKind.i64.wrap (g : Int) = (g : Int) := IntWalk.i64_in _ (by omega)
    have t0 : ((n : Int) == 0) = false := by simp; omega
    clear h hn hb e hlim hgl hfm
    go_enter Tryz.func162, Tryz.ntmps162
    go_wp2_with fail
    refine HL.out.mono ?_
    rintro e w1 ⟨rfl, B1⟩
    have HB := Lib.hid B1
    clear B1
    go_wp2
    go_ret
    exact ⟨by first | rfl | (simp [t1, t2]; done) | simp [t1], HB.out⟩
theorem prn_none (L : List Bool) (a ls m : Nat) (acc : List Ri) (s : Nat) (h : pnum L s 2097152 = none) : prn L a ls (m + 1) acc s = none := by unfold prn; rw [h]
theorem prn_none2 (L : List Bool) (a ls m : Nat) (acc : List Ri) (s g s1 : Nat) (h : pnum L s 2097152 = some (g, s1)) (h2 : pnum L s1 300 = none) : prn L a ls (m + 1) acc s = none := by
  unfold prn; rw [h]; simp only; rw [h2]
theorem prn_some (L : List Bool) (a ls m : Nat) (acc : List Ri) (s g s1 x s2 : Nat) (h : pnum L s 2097152 = some (g, s1)) (h2 : pnum L s1 300 = some (x, s2)) : prn L a ls (m + 1) acc s = prn L a ls m (acc ++ [(fro a g acc, ((ls + x : Nat) : Int))]) s2 := by
  show (match pnum L s 2097152 with | none => none | some (g, s1) => match pnum L s1 300 with | none => none | some (x, s2) => prn L a ls m (acc ++ [(fro a g acc, ((ls + x : Nat) : Int))]) s2) = _
  rw [h]; simp only; rw [h2]
/-- Runs come back, or the reader gives up. -/
def TrP (Q : Nat) (L : List Bool) (A : Option Addr) (c : Nat) (w : World) (o : Option (List Ri × Nat)) (e : Ending) (w' : World) : Prop :=
  WB Q w w' ∧ match o with
    | none => Bad e
    | some (r, s) => (∃ A1 c1, e = .returned (.slice A1 r.length c1) ∧ w'.ownsRow w.heap.size 130 2 (.slice A1 r.length c1) r.length (rcs r)) ∧ RB w' Q L A c s ∧ s ≤ L.length ∧ r.length ≤ 300
def TrRel (L : List Bool) (A : Option Addr) (c Q n a ls : Nat) (o : Option (List Ri × Nat)) (w : World) (v p : Value) (wr : World) : Prop :=
  ∃ (i s : Nat) (acc : List Ri), i ≤ n ∧ p = .int .i64 (i : Int) ∧ acc.length = i ∧ InLim acc ∧ s ≤ L.length ∧ prn L a ls (n - i) acc s = o ∧ wr.ownsRow w.heap.size 130 2 v acc.length (rcs acc) ∧ RB wr Q L A c s ∧ Rd wr Q A (pack L) ∧ WB Q w wr
set_option maxHeartbeats 8000000 in
theorem take_runs (L : List Bool) (hL : L.length ≤ 8192) (A : Option Addr) (c Q s : Nat) (hs : s ≤ L.length) (a ls : Nat) (ha : a ≤ 1048576) (hls : ls ≤ 300) (w : World) (hQ : RB w Q L A c s) (hR : Rd w Q A (pack L)) :
    Calls Tryz.prog 132 #[.pointer (some ⟨Q, 0, none⟩), .int .i64 (a : Int), .int .i64 (ls : Int)] w (TrP Q L A c w (pruns L a ls s)) := by
  have hlt := hQ.lt
  have HTk : Hid (∀ (V : World) (s : Nat), s ≤ L.length → RB V Q L A c s → Rd V Q A (pack L) → Calls Tryz.prog 105 #[.pointer (some ⟨Q, 0, none⟩), .int .i64 300] V (TkP Q L A c V (pnum L s 300))) := fun V s h1 h2 h3 => take_num L hL A c Q s h1 300 (by omega) V h2 h3
  have HTg : Hid (∀ (V : World) (s : Nat), s ≤ L.length → RB V Q L A c s → Rd V Q A (pack L) → Calls Tryz.prog 105 #[.pointer (some ⟨Q, 0, none⟩), .int .i64 2097152] V (TkP Q L A c V (pnum L s 2097152))) := fun V s h1 h2 h3 => take_num L hL A c Q s h1 2097152 (by omega) V h2 h3
  have HT0 := Lib.hid (HTk.out w s hs hQ hR)
  have HR := Lib.hid hR
  obtain ⟨i0, hi, hz0, hz1, hz2⟩ := info_parts info_run
  have HP : Hid (pruns L a ls s = match pnum L s 300 with | none => none | some (n, s') => prn L a ls n [] s') := rfl
  generalize pruns L a ls s = o at *
  clear hQ hR
  rcases hpn : pnum L s 300 with _ | ⟨n, s1⟩
  · rw [hpn] at HT0 HP
    clear hpn
    go_enter Tryz.func132, Tryz.ntmps132
    go_wp2_with fail
    refine HT0.out.mono ?_
    rintro e w1 ⟨hwb, rfl⟩
    have HW := Lib.hid hwb
    clear hwb
    go_wp2
    exact ⟨rfl, HW.out, by rw [HP.out]; rfl⟩
  · rw [hpn] at HT0 HP
    obtain ⟨hn, hs1⟩ := pnum_le hpn
    clear hpn
    go_enter Tryz.func132, Tryz.ntmps132
    go_wp2_with fail
    refine HT0.out.mono ?_
    rintro e w1 ⟨hwb, rfl, hrb⟩
    have HW1 := Lib.hid hwb; have HRB1 := Lib.hid hrb
    clear hwb hrb HT0
    go_wp2
    go_loopw [7, 11] (fun v p wr => TrRel L A c Q n a ls o w v p wr) (fun _ p _ => n - (intOf p).toNat)
    case atStart => exact ⟨0, s1, [], Nat.zero_le _, rfl, rfl, (fun p hp => by cases hp), hs1, HP.out.symm, ⟨rfl, .inl ⟨rfl, rfl⟩⟩, HRB1.out, rd_low HR.out HW1.out hlt, HW1.out⟩
    case round =>
      obtain ⟨i, s2, acc, hi', rfl, hai, hlim, hs2, hpb, hrow, hrb, hrd, hwb⟩ := hrel
      clear HW1 HRB1
      obtain ⟨Av, cv, rfl⟩ := own_sliceT hrow
      by_cases hlt2 : i < n
      · have HT := Lib.hid (HTg.out wr s2 hs2 hrb hrd)
        obtain ⟨m, hm⟩ : ∃ m, n - i = m + 1 := ⟨n - i - 1, by omega⟩
        rw [hm] at hpb
        have HWB := Lib.hid hwb; have HRow := Lib.hid hrow; have HRd := Lib.hid hrd
        clear hwb hrb hrd
        rcases hpn : pnum L s2 2097152 with _ | ⟨g, s3⟩
        · rw [hpn] at HT
          rw [prn_none L a ls m acc s2 hpn] at hpb
          subst hpb
          clear hpn hrow
          go_wp2_with fail
          refine HT.out.mono ?_
          rintro e w2 ⟨hwb, rfl⟩
          have HW := Lib.hid (HWB.out.trans hwb)
          clear hwb
          go_wp2
          exact ⟨rfl, HW.out, rfl⟩
        · rw [hpn] at HT
          obtain ⟨hg, hs3⟩ := pnum_le hpn
          have hfl := fro_lim acc hlim a g ha hg
          have c1 : IntKind.u64.wrap (g : Int) = (g : Int) := u64w _ (by omega) (by omega)
          have HFr : Hid (∀ V, WB Q wr V → Calls Tryz.prog 162 #[.int .u64 (g : Int), .slice Av i cv, .int .i64 (a : Int)] V fun e w' => e = .returned (.int .i64 (fro a g acc)) ∧ Below V.heap.size V w') := fun V hV => by
            have := own_rdvT (own_wb HRow.out hV hlt)
            exact fromOf_any acc i hai (by omega) hlim a g ha hg Av cv V this
          have HLim := Lib.hid hlim
          rw [hai] at HRow
          clear hrow hlim
          rcases hpn2 : pnum L s3 300 with _ | ⟨x, s4⟩
          · rw [prn_none2 L a ls m acc s2 g s3 hpn hpn2] at hpb
            subst hpb
            clear hpn
            rw [hai]
            generalize fro a g acc = f at *
            go_wp2_with fail
            refine HT.out.mono ?_
            rintro e w2 ⟨hwb, rfl, hrb⟩
            have HW2 := Lib.hid (HWB.out.trans hwb); have HRB2 := Lib.hid hrb
            have HWr := Lib.hid hwb
            clear hwb hrb
            go_wp2_with fail
            refine (HFr.out w2 HWr.out).mono ?_
            rintro e w3 ⟨rfl, B3⟩
            have HW3 := Lib.hid (HW2.out.trans (wb_below B3))
            have HTx := Lib.hid (HTk.out w3 s3 hs3 (HRB2.out.on B3) (rd_low HR.out HW3.out hlt))
            rw [hpn2] at HTx
            clear B3 hpn2
            go_wp2_with fail
            refine HTx.out.mono ?_
            rintro e w4 ⟨hwb, rfl⟩
            have HW := Lib.hid (HW3.out.trans hwb)
            clear hwb
            go_wp2
            exact ⟨rfl, HW.out, rfl⟩
          · rw [prn_some L a ls m acc s2 g s3 x s4 hpn hpn2] at hpb
            obtain ⟨hx, hs4⟩ := pnum_le hpn2
            clear hpn
            rw [hai] at hfl ⊢
            obtain ⟨f, hf⟩ : ∃ f, fro a g acc = f := ⟨_, rfl⟩
            rw [hf] at hpb HFr hfl
            clear hf
            have HPb := Lib.hid hpb
            have t1 : IntKind.i64.wrap ((ls : Int) + (x : Int)) = (ls : Int) + (x : Int) := IntWalk.i64_in _ (by omega)
            have HZc : Hid (rcs acc ++ [Value.int .i64 f, Value.int .i64 ((ls : Int) + (x : Int))] = rcs (acc ++ [(f, ((ls + x : Nat) : Int))])) := by show _ = _; rw [rcs_append]; rfl
            have HLn : Hid ((acc ++ [(f, ((ls + x : Nat) : Int))]).length = i + 1) := by show _ = _; rw [List.length_append, hai]; rfl
            have HLm : Hid (InLim (acc ++ [(f, ((ls + x : Nat) : Int))])) := inLim_snoc acc HLim.out f _ hfl.1 (by rw [hai]; exact hfl.2) (by omega) (by omega)
            clear hpb hfl
            go_wp2_with fail
            refine HT.out.mono ?_
            rintro e w2 ⟨hwb, rfl, hrb⟩
            have HW2 := Lib.hid (HWB.out.trans hwb); have HRB2 := Lib.hid hrb
            have HWr := Lib.hid hwb
            clear hwb hrb
            go_wp2_with fail
            refine (HFr.out w2 HWr.out).mono ?_
            rintro e w3 ⟨rfl, B3⟩
            have HW3 := Lib.hid (HW2.out.trans (wb_below B3))
            have HWr3 := Lib.hid (HWr.out.trans (wb_below B3))
            have HTx := Lib.hid (HTk.out w3 s3 hs3 (HRB2.out.on B3) (rd_low HR.out HW3.out hlt))
            rw [hpn2] at HTx
            clear B3 hpn2 HWr HRB2
            go_wp2_with fail
            refine HTx.out.mono ?_
            rintro e w4 ⟨hwb, rfl, hrb⟩
            have HW4 := Lib.hid (HW3.out.trans hwb); have HRB4 := Lib.hid hrb
            have hrow := own_wb HRow.out (HWr3.out.trans hwb) hlt
            have hws : w.heap.size ≤ w4.heap.size := HW4.out.size
            clear hwb hrb HRow HT HTx HWr3
            go_wp2_with (at_builtin; refine wpList_append_own _ rfl _ _ 125 rfl w.heap.size 130 i0 (.agg #[.int .i64 0, .int .i64 0]) 2 16 Tryz.underlying125 hi hz0 hz1 hz2 rfl (by decide) _ _ _ rfl (hrow.alloc _) ⟨w4.heap.size, 0, none⟩ 1 1 [.int .i64 f, .int .i64 ((ls : Int) + (x : Int))] rfl rfl (news_row w4 [.int .i64 f, .int .i64 ((ls : Int) + (x : Int))] _) (by simp [Value.oneCell']) (by unfold maxLen; omega) (by omega) (by simp; omega) ?_; intro v' w5 hown' hgrow _; obtain ⟨Av', cv', rfl⟩ := own_sliceT hown')
            rw [HZc.out] at hown'
            have HO3 := Lib.hid hown'
            have hBw : Below w.heap.size w4 w5 := ((Below.refl w.heap.size w4).alloc hws _).trans (grown_low hgrow (hrow.alloc _) (by simp; omega))
            have HWB3 : Hid (WB Q w w5) := HW4.out.then hBw (Nat.le_refl _)
            have HRB3 := Lib.hid (HRB4.out.low hBw hlt)
            clear hown' hgrow hrow hBw
            go_wp2
            go_roundw
            case rel => exact ⟨i + 1, s4, _, hlt2, by go_num, HLn.out, HLm.out, hs4, by rw [show n - (i + 1) = m by omega]; exact HPb.out, by rw [HLn.out]; exact HO3.out, HRB3.out, rd_low HR.out HWB3.out hlt, HWB3.out⟩
            case measure => simp [intOf]; omega
      · have e0 : n - i = 0 := by omega
        rw [e0] at hpb
        have HPb : Hid (o = some (acc, s2)) := hpb.symm
        have HRow := Lib.hid hrow; have HRB := Lib.hid hrb; have HWB := Lib.hid hwb
        clear hpb hrow hrb hrd hwb e0
        generalize hk : acc.length = k at *
        have HK := Lib.hid hk
        clear hk
        go_wp2
        go_ret
        exact ⟨HWB.out, by rw [HPb.out]; exact ⟨⟨_, _, by rw [HK.out]; rfl, by rw [HK.out]; exact HRow.out⟩, HRB.out, hs2, by rw [HK.out]; omega⟩⟩
end

section
set_option maxRecDepth 100000
set_option linter.unusedVariables false
open Go.RowKit Go.Shelf

/-- A list of the call's own and an error come back. -/
def IntsO (w : World) (l : List Nat) (err : Int) (e : Ending) (w' : World) : Prop :=
  ∃ A c, e = .returned (.tuple #[.slice A l.length c, .int .i64 err]) ∧ w'.ownsRow w.heap.size 3 1 (.slice A l.length c) l.length (zc (ns l)) ∧ Below w.heap.size w w'
set_option maxHeartbeats 8000000 in
theorem union_own (l1 l2 : List Nat) (n1 n2 : Nat) (hn1 : l1.length = n1) (hn2 : l2.length = n2) (h1 : n1 ≤ 100000) (h2 : n2 ≤ 100000) (M1 : List Nat) (M2 : Int) (hM : un l1 l2 = (M1, M2)) (A1 A2 : Option Addr) (c1 c2 : Nat) (hA1 : A1 = none → c1 = 0) (hA2 : A2 = none → c2 = 0) (w : World) (r1 : RdV w w.heap.size A1 (zc (ns l1))) (r2 : RdV w w.heap.size A2 (zc (ns l2))) :
    Calls Tryz.prog 138 #[.slice A1 n1 c1, .slice A2 n2 c2] w (IntsO w M1 M2) := by
  have hB1 := one_below w (.cells #[.slice A1 n1 c1, .slice A2 n2 c2] 22)
  have HC := Lib.hid (concat_two l1 l2 n1 n2 hn1 hn2 h1 h2 A1 A2 c1 c2 hA1 hA2 w.heap.size (w.alloc (.cells #[.slice A1 n1 c1, .slice A2 n2 c2] 22)) (World.alloc_heap_new _ _) (r1.on hB1) (r2.on hB1))
  have HB1 := Lib.hid hB1
  have HLen : Hid ((l1 ++ l2).length = n1 + n2) := by show _ = _; rw [List.length_append, hn1, hn2]
  have HMM := Lib.hid hM
  have HSz : Hid ((w.alloc (.cells #[.slice A1 n1 c1, .slice A2 n2 c2] 22)).heap.size = w.heap.size + 1) := World.size_alloc _ _
  clear hB1 hM r1 r2 hn1 hn2
  go_enter Tryz.func138, Tryz.ntmps138
  go_wp2_with fail
  refine HC.out.mono ?_
  rintro e w1 ⟨Av, cv, rfl, hr1, hb1⟩
  have HR1 : Hid (w1.ownsRow w.heap.size 3 1 (.slice Av (n1 + n2) cv) (n1 + n2) (zc (ns (l1 ++ l2)))) := own_base hr1 (by rw [HSz.out]; omega)
  have HB : Hid (Below w.heap.size w w1) := HB1.out.trans (hb1.mono (by rw [HSz.out]; omega))
  clear hr1 hb1 HC HB1 HSz
  have hN0 : n1 + n2 ≤ 200000 := by omega
  generalize n1 + n2 = N0 at *
  have HS := Lib.hid (sort_own (l1 ++ l2) N0 HLen.out (by omega) w.heap.size _ _ HR1.out HB.out.size)
  go_wp2_with fail
  refine HS.out.mono ?_
  rintro e w4 ⟨rfl, hr4, hb4⟩
  have HB4 : Hid (Below w.heap.size w w4) := HB.out.trans hb4
  have hl4 : (nso (l1 ++ l2)).length = N0 := by rw [(nso_perm _).length_eq]; exact HLen.out
  have HT := Lib.hid (twice_in (nso (l1 ++ l2)) N0 hl4 (by omega) Av cv w4 (own_rdv hr4))
  have HO4 := Lib.hid hr4
  have HL4 := Lib.hid hl4
  have HM : Hid ((M1, M2) = if tw (nso (l1 ++ l2)) = true then ([], 6) else if 300 < (nso (l1 ++ l2)).length then ([], 2) else (nso (l1 ++ l2), 0)) := HMM.out.symm
  rw [hl4] at HM
  clear hr4 hb4 hl4 HS HR1 HB HMM
  generalize nso (l1 ++ l2) = L at *
  cases htw : tw L with
  | true =>
    rw [htw] at HT HM
    rw [if_pos rfl] at HM
    obtain ⟨rfl, rfl⟩ : M1 = [] ∧ M2 = 6 := by have := HM.out; simpa using this
    clear HM htw
    go_wp2_with fail
    refine HT.out.mono ?_
    rintro e w5 ⟨rfl, B5⟩
    have HB5 := Lib.hid (HB4.out.trans (B5.mono HB4.out.size)); clear B5
    go_wp2
    go_ret2
    exact ⟨none, 0, rfl, ⟨rfl, .inl ⟨rfl, rfl⟩⟩, HB5.out⟩
  | false =>
    rw [htw] at HT HM
    rw [if_neg (by decide)] at HM
    by_cases h3 : 300 < N0
    · rw [if_pos h3] at HM
      obtain ⟨rfl, rfl⟩ : M1 = [] ∧ M2 = 2 := by have := HM.out; simpa using this
      clear HM htw
      go_wp2_with fail
      refine HT.out.mono ?_
      rintro e w5 ⟨rfl, B5⟩
      have HB5 := Lib.hid (HB4.out.trans (B5.mono HB4.out.size)); clear B5
      go_wp2
      go_ret2
      exact ⟨none, 0, rfl, ⟨rfl, .inl ⟨rfl, rfl⟩⟩, HB5.out⟩
    · rw [if_neg h3] at HM
      obtain ⟨rfl, rfl⟩ : M1 = L ∧ M2 = 0 := by have := HM.out; simpa using this
      clear HM htw
      go_wp2_with fail
      refine HT.out.mono ?_
      rintro e w5 ⟨rfl, B5⟩
      have HR5 := Lib.hid (own_keep HO4.out B5)
      have HB5 := Lib.hid (HB4.out.trans (B5.mono HB4.out.size)); clear B5
      go_wp2
      go_ret2
      exact ⟨Av, cv, by rw [HL4.out]; rfl, by rw [HL4.out]; exact HR5.out, HB5.out⟩
set_option maxHeartbeats 8000000 in
theorem merge_eo (r : List Ri) (n1 : Nat) (hn1 : r.length = n1) (hz1 : n1 ≤ 9223372036854775807) (xs : List Int) (n2 : Nat) (hn2 : xs.length = n2) (hz2 : n2 ≤ 9223372036854775807) (h0 : mgE0 r xs ≠ 0) (A1 A2 : Option Addr) (c1 c2 : Nat) (w : World) (h1 : RdV w w.heap.size A1 (rcs r)) (h2 : RdV w w.heap.size A2 (zc xs)) :
    Calls Tryz.prog 135 #[.slice A1 n1 c1, .slice A2 n2 c2] w (IntsO w [] (mgE0 r xs)) := by
  have HC1 := Lib.hid (rnck_any r n1 hn1 hz1 A1 c1 w h1)
  have HC2 : Hid (∀ V, Below w.heap.size w V → Calls Tryz.prog 43 #[.slice A2 n2 c2] V fun e w' => e = .returned (.int .i64 (rchk xs)) ∧ Below V.heap.size V w') := fun V hV => gcheck_any xs n2 hn2 hz2 A2 c2 V (h2.on hV)
  unfold mgE0 at *
  clear h1 h2 hn1 hn2
  by_cases hr : rkchk r = 0
  · rw [if_neg (by simpa using hr)] at *
    rw [hr] at HC1
    generalize rchk xs = e2 at *
    have t0 : (e2 != 0) = true := by simpa using h0
    clear h0 hr
    go_enter Tryz.func135, Tryz.ntmps135
    go_wp2_with fail
    refine HC1.out.mono ?_
    rintro e w1 ⟨rfl, B1⟩
    have HB1 := Lib.hid B1; clear B1
    go_wp2_with fail
    refine (HC2.out w1 HB1.out).mono ?_
    rintro e w2 ⟨rfl, B2⟩
    have HB2 := Lib.hid (HB1.out.trans (B2.mono HB1.out.size)); clear B2
    go_wp2
    go_ret2
    exact ⟨none, 0, rfl, ⟨rfl, .inl ⟨rfl, rfl⟩⟩, HB2.out⟩
  · rw [if_pos hr] at *
    generalize rkchk r = e1 at *
    have t0 : (e1 != 0) = true := by simpa using hr
    clear h0 hr HC2
    go_enter Tryz.func135, Tryz.ntmps135
    go_wp2_with fail
    refine HC1.out.mono ?_
    rintro e w1 ⟨rfl, B1⟩
    have HB1 := Lib.hid B1; clear B1
    go_wp2
    go_ret2
    exact ⟨none, 0, rfl, ⟨rfl, .inl ⟨rfl, rfl⟩⟩, HB1.out⟩
set_option maxHeartbeats 8000000 in
theorem merge_ino (R : List Rn) (hR : OkR R) (M1 : List Nat) (M2 : Int) (n1 : Nat) (hn1 : R.length = n1) (l : List Nat) (hl : Rising l) (hM : mg R l = (M1, M2)) (n2 : Nat) (hn2 : l.length = n2) (A1 A2 : Option Addr) (c1 c2 : Nat) (hA2 : A2 = none → c2 = 0) (w : World) (h1 : RdV w w.heap.size A1 (rcs (rz R))) (h2 : RdV w w.heap.size A2 (zc (ns l))) :
    Calls Tryz.prog 135 #[.slice A1 n1 c1, .slice A2 n2 c2] w (IntsO w M1 M2) := by
  have h300 : n1 ≤ 300 := by have := hR.1; omega
  have h3002 : n2 ≤ 300 := by have := hl.1; omega
  have HC1 : Hid (Calls Tryz.prog 165 #[.slice A1 n1 c1] w fun e w' => e = .returned (.int .i64 0) ∧ Below w.heap.size w w') := by
    have := rnck_any (rz R) n1 (by rw [rz_length, hn1]) (by omega) A1 c1 w h1
    rwa [rkchk_ok R hR] at this
  have HC2 : Hid (∀ V, Below w.heap.size w V → Calls Tryz.prog 43 #[.slice A2 n2 c2] V fun e w' => e = .returned (.int .i64 0) ∧ Below V.heap.size V w') := fun V hV => by
    have := gcheck_any (ns l) n2 (by rw [ns_length, hn2]) (by omega) A2 c2 V (h2.on hV)
    rwa [rchk_ok l hl] at this
  have HFl : Hid (∀ i, i ≤ n1 → (flatR (R.take i)).length ≤ 90000) := fun i hi => by
    have := flat_len (R.take i) (fun p hp => (hR.2.2 p (List.mem_of_mem_take hp)).1)
    have := List.length_take_le i R
    omega
  have HBd : Hid (∀ p ∈ R, p.1 ≤ 1048576 ∧ p.2 ≤ 300) := fun p hp => by have := hR.2.2 p hp; have := sep_pos R _ hR.2.1 p hp; omega
  obtain ⟨i0, hi, hz0, hz1, hz2⟩ := info_parts info3
  have HX1 := Lib.hid h1; have HX2 := Lib.hid h2; have HN1 := Lib.hid hn1; have HN2 := Lib.hid hn2; have HMM := Lib.hid hM
  clear h1 h2 hn1 hn2 hR hl hM
  go_enter Tryz.func135, Tryz.ntmps135
  go_wp2_with fail
  refine HC1.out.mono ?_
  rintro e w1 ⟨rfl, B1⟩
  have HB1 := Lib.hid B1; clear B1
  go_wp2_with fail
  refine (HC2.out w1 HB1.out).mono ?_
  rintro e w2 ⟨rfl, B2⟩
  have HB2 := Lib.hid (HB1.out.trans (B2.mono HB1.out.size)); clear B2 HB1
  go_wp2
  go_loopw [8, 23] (fun v p wr => MgRel R w v p wr) (fun _ p _ => n1 - (intOf p).toNat)
  case atStart => exact ⟨0, Nat.zero_le _, rfl, ⟨rfl, .inl ⟨rfl, rfl⟩⟩, HB2.out⟩
  case round =>
    obtain ⟨i, hi', rfl, hrow, hbel⟩ := hrel
    rw [HN1.out] at hi'
    by_cases hlt : i < n1
    · have hin : i < R.length := by rw [HN1.out]; exact hlt
      obtain ⟨r0, r1⟩ := rcs_at (rz R) i (by rw [rz_length]; exact hin)
      rw [rz_at R i hin] at r0 r1
      obtain ⟨b, off, rfl, hb, k0⟩ := (HX1.out.on hbel).at_ r0
      obtain ⟨b2, off2, hA2', hb2, k1⟩ := (HX1.out.on hbel).at_ r1
      simp only [Option.some.injEq, Addr.mk.injEq, and_true] at hA2'
      obtain ⟨rfl, rfl⟩ := hA2'
      rw [← Nat.add_assoc] at k1
      have hbd := HBd.out _ (mem_at R i hin)
      have htk := take_snocR R i hin
      have hfl := HFl.out i hi'
      generalize R[i]?.getD (0, 0) = x at *
      obtain ⟨f, m⟩ := x
      simp only at k0 k1 hbd
      have HT : Hid (flatR (R.take (i + 1)) = flatR (R.take i) ++ List.range' f m) := by show _ = _; rw [htk, flatR_snoc]; rfl
      have HB := Lib.hid hbel
      have hrow2 := (hrow.alloc (.cells #[.int .i64 (f : Int), .int .i64 (m : Int)] 130)).alloc (.cells #[.int .i64 (f : Int), .int .i64 (m : Int)] 130)
      have hbox2 : ((wr.alloc (.cells #[.int .i64 (f : Int), .int .i64 (m : Int)] 130)).alloc (.cells #[.int .i64 (f : Int), .int .i64 (m : Int)] 130)).heap[wr.heap.size + 1]? = some (.cells #[.int .i64 (f : Int), .int .i64 (m : Int)] 130 (0, 0)) := by
        have := World.alloc_heap_new (wr.alloc (.cells #[.int .i64 (f : Int), .int .i64 (m : Int)] 130)) (.cells #[.int .i64 (f : Int), .int .i64 (m : Int)] 130)
        rwa [World.size_alloc] at this
      obtain ⟨Av, cv, rfl⟩ := own_slice3 hrow
      have HA := Lib.hid (appseq_in f m hbd.1 hbd.2 (wr.heap.size + 1) w.heap.size _ _ (by omega) _ _ hrow2 hbox2 (by have := hbel.size; simp; omega))
      have hb2 : Below w.heap.size w ((wr.alloc (.cells #[.int .i64 (f : Int), .int .i64 (m : Int)] 130)).alloc (.cells #[.int .i64 (f : Int), .int .i64 (m : Int)] 130)) := (hbel.alloc hbel.size _).alloc (by have := hbel.size; simp; omega) _
      have HBB := Lib.hid hb2
      clear hrow hrow2 hbox2 hb2 hbel htk hbd r0 r1
      generalize hk : (flatR (R.take i)).length = k at *
      have HKl := Lib.hid hk; clear hk
      go_wp2_with fail
      refine (callsIn_wide.1 (nums_of 4 _ _ _)).mono ?_
      rintro e w' ⟨rfl, rfl⟩
      go_wp2_with fail
      refine HA.out.mono ?_
      rintro e w3 ⟨v', rfl, hown', hfr⟩
      obtain ⟨Av', cv', rfl⟩ := own_slice3 hown'
      have HO3 := Lib.hid hown'
      have HB3 : Hid (Below w.heap.size w w3) := HBB.out.trans (hfr.below (fun j hj => ⟨.inl hj, by have := HB.out.size; simp; omega⟩))
      clear hown' hfr
      go_wp2
      go_roundw
      case rel => exact ⟨i + 1, by rw [HN1.out]; omega, by go_num, by rw [HT.out, List.length_append, HKl.out, List.length_range', ns_append, zc_append]; exact HO3.out, HB3.out⟩
      case measure => simp [intOf]; omega
    · have e : R.take i = R := List.take_of_length_le (by rw [HN1.out]; omega)
      rw [e] at hrow
      have hfl := HFl.out n1 (Nat.le_refl _)
      rw [List.take_of_length_le (by rw [HN1.out]; omega)] at hfl
      obtain rfl : i = n1 := by omega
      obtain ⟨Av, cv, rfl⟩ := own_slice3 hrow
      have HB0 := Lib.hid hbel
      have hX2 := HX2.out.on hbel
      have HU := Lib.hid (union_own (flatR R) l (flatR R).length n2 rfl HN2.out (by omega) (by omega) M1 M2 HMM.out Av A2 cv c2 (own_none hrow) hA2 wr (own_rdv hrow) hX2)
      clear hbel e hrow hX2 HC1 HC2 HB2
      generalize (flatR R).length = N at *
      go_wp2_with fail
      refine HU.out.mono ?_
      rintro e w3 ⟨A3, c3, rfl, k3, k4⟩
      have HB3 : Hid (Below w.heap.size w w3) := HB0.out.trans (k4.mono HB0.out.size)
      have HR3 := Lib.hid (own_base k3 HB0.out.size)
      clear k3 k4 HU
      go_wp2
      go_ret2
      exact ⟨A3, c3, rfl, HR3.out, HB3.out⟩
theorem merge_own (r : List Ri) (n1 : Nat) (hn1 : r.length = n1) (hz1 : n1 ≤ 9223372036854775807) (xs : List Int) (n2 : Nat) (hn2 : xs.length = n2) (hz2 : n2 ≤ 9223372036854775807) (A1 A2 : Option Addr) (c1 c2 : Nat) (hA2 : A2 = none → c2 = 0) (w : World) (h1 : RdV w w.heap.size A1 (rcs r)) (h2 : RdV w w.heap.size A2 (zc xs)) :
    Calls Tryz.prog 135 #[.slice A1 n1 c1, .slice A2 n2 c2] w (IntsO w (mgA r xs).1 (mgA r xs).2) := by
  by_cases h0 : mgE0 r xs = 0
  · obtain ⟨R, l, rfl, hR, rfl, hl⟩ := mgA_zero r xs h0
    rw [mgA_ok R hR l hl]
    exact merge_ino R hR _ _ n1 (by rw [rz_length] at hn1; exact hn1) l hl rfl n2 (by rw [ns_length] at hn2; exact hn2) A1 A2 c1 c2 hA2 w h1 h2
  · have e : mgA r xs = ([], mgE0 r xs) := by unfold mgA; rw [if_pos h0]
    rw [e]
    exact merge_eo r n1 hn1 hz1 xs n2 hn2 hz2 h0 A1 A2 c1 c2 w h1 h2
set_option maxHeartbeats 8000000 in
theorem pjoin_own (xs : List Int) (n : Nat) (hn : xs.length = n) (hn2 : n ≤ 9223372036854775807) (bs : List Int) (m : Nat) (hm : bs.length = m) (hm2 : m ≤ 9223372036854775807) (ys : List Int) (k : Nat) (hk : ys.length = k) (hk2 : k ≤ 9223372036854775807) (A1 A2 A3 : Option Addr) (c1 c2 c3 : Nat) (hA1 : A1 = none → c1 = 0) (hc1 : n ≤ c1) (hA3 : A3 = none → c3 = 0) (w : World) (h1 : RdV w w.heap.size A1 (zc xs)) (h2 : RdV w w.heap.size A2 (zc bs)) (h3 : RdV w w.heap.size A3 (zc ys)) :
    Calls Tryz.prog 110 #[.slice A1 n c1, .slice A2 m c2, .slice A3 k c3] w (IntsO w (jnA xs bs ys).1 (jnA xs bs ys).2) := by
  have HP := Lib.hid (pcopy_any xs n hn hn2 bs m hm hm2 A1 A2 c1 c2 hA1 hc1 w h1 h2)
  have HC : Hid (∀ V, Below w.heap.size w V → Calls Tryz.prog 43 #[.slice A3 k c3] V fun e w' => e = .returned (.int .i64 (rchk ys)) ∧ Below V.heap.size V w') := fun V hV => gcheck_any ys k hk hk2 A3 c3 V (h3.on hV)
  by_cases hc : cpE xs bs = 0
  · by_cases hr : rchk ys = 0
    · obtain ⟨l, rfl, hl⟩ := rchk_zero ys hr
      have hz : rchk xs = 0 := by
        by_cases hz : rchk xs = 0
        · exact hz
        · unfold cpE at hc; rw [if_pos (by simpa using hz)] at hc; exact hc
      obtain ⟨F, rfl, hF⟩ := rchk_zero xs hz
      have e : jnA (ns F) bs (ns l) = un (cpA (ns F) bs) l := by
        have e1 : jnE (ns F) bs (ns l) = 0 := by unfold jnE; rw [if_neg (by simpa using hc)]; exact hr
        have e2 : cpA (ns F) bs = cp true (tn bs) (tn (ns F)) := by unfold cpA; rw [if_neg (by simpa using hc)]
        unfold jnA
        rw [if_neg (by simpa using e1), ← e2, tn_ns l]
      rw [e]
      rw [ns_length] at hk
      have hcl : (cpA (ns F) bs).length ≤ 300 := by
        unfold cpA
        rw [if_neg (by simpa using hc), tn_ns]
        exact Nat.le_trans (cp_len (tn bs) true F).length_le hF.1
      rw [hc] at HP
      rw [hr] at HC
      generalize hM : cpA (ns F) bs = M at *
      have HU : Hid (∀ A c V, (A = none → c = 0) → RdV V V.heap.size A (zc (ns M)) → Below w.heap.size w V → Calls Tryz.prog 138 #[.slice A M.length c, .slice A3 k c3] V (IntsO V (un M l).1 (un M l).2)) := fun A c V hA hV hb => union_own M l M.length k rfl hk (by omega) (by have := hl.1; omega) _ _ rfl A A3 c c3 hA hA3 V hV (h3.on hb)
      clear h1 h2 h3 hn hm hk e hc hr hM hz
      generalize un M l = U at *
      go_enter Tryz.func110, Tryz.ntmps110
      go_wp2_with fail
      refine HP.out.mono ?_
      rintro e w1 ⟨A, c, rfl, k1, k2, k3, k4⟩
      have HB1 := Lib.hid k4; have HR1 := Lib.hid k3
      clear k3 k4
      go_wp2_with fail
      refine (HC.out w1 HB1.out).mono ?_
      rintro e w2 ⟨rfl, B2⟩
      have HB2 := Lib.hid (HB1.out.trans (B2.mono HB1.out.size))
      have HUu := Lib.hid (HU.out A c w2 k2 (HR1.out.on B2) HB2.out)
      clear B2 HU
      generalize M.length = ml at *
      go_wp2_with fail
      refine HUu.out.mono ?_
      rintro e w3 ⟨A5, c5, rfl, j3, j4⟩
      have HB3 := Lib.hid (HB2.out.trans (j4.mono HB2.out.size)); have HR3 := Lib.hid (own_base j3 HB2.out.size)
      clear j3 j4
      go_wp2
      go_ret2
      exact ⟨_, _, rfl, HR3.out, HB3.out⟩
    · have e : jnA xs bs ys = ([], rchk ys) := by
        have e1 : jnE xs bs ys = rchk ys := by unfold jnE; rw [if_neg (by simpa using hc)]
        unfold jnA
        rw [e1, if_pos (by simpa using hr)]
      rw [e]
      rw [hc] at HP
      generalize rchk ys = er at *
      have t0 : (er != 0) = true := by simpa using hr
      generalize (cpA xs bs) = M at *
      clear h1 h2 h3 hn hm hk e hc hr
      generalize M.length = ml at *
      go_enter Tryz.func110, Tryz.ntmps110
      go_wp2_with fail
      refine HP.out.mono ?_
      rintro e w1 ⟨A, c, rfl, k1, k2, k3, k4⟩
      have HB1 := Lib.hid k4
      clear k3 k4
      go_wp2_with fail
      refine (HC.out w1 HB1.out).mono ?_
      rintro e w2 ⟨rfl, B2⟩
      have HB2 := Lib.hid (HB1.out.trans (B2.mono HB1.out.size))
      clear B2
      go_wp2
      go_ret2
      exact ⟨none, 0, rfl, ⟨rfl, .inl ⟨rfl, rfl⟩⟩, HB2.out⟩
  · have e : jnA xs bs ys = ([], cpE xs bs) := by
      have e1 : jnE xs bs ys = cpE xs bs := by unfold jnE; rw [if_pos (by simpa using hc)]
      unfold jnA
      rw [e1, if_pos (by simpa using hc)]
    rw [e]
    generalize cpE xs bs = er at *
    have t0 : (er != 0) = true := by simpa using hc
    clear h1 h2 h3 hn hm hk e hc HC
    generalize (cpA xs bs) = M at *
    generalize M.length = ml at *
    go_enter Tryz.func110, Tryz.ntmps110
    go_wp2_with fail
    refine HP.out.mono ?_
    rintro e w1 ⟨A, c, rfl, k1, k2, k3, k4⟩
    have HB1 := Lib.hid k4
    clear k3 k4
    go_wp2
    go_ret2
    exact ⟨none, 0, rfl, ⟨rfl, .inl ⟨rfl, rfl⟩⟩, HB1.out⟩
end
end Go.Proofs.YticdnodlapafoaaGreat
