/- The document's own reading of gaps: GapsFrom, GapsRead; for whatever bits and numbers they are handed, each with its conditions. -/
import Derived.Test.YthldcdcpflamaaaJGNT
namespace Go.Proofs.Ythldcdcpflamaaa
set_option maxRecDepth 100000
set_option linter.unusedVariables false
open Go.RowKit Go.Shelf

def lenV : Value → Nat
  | .slice _ n _ => n
  | _ => 0
/-- At each round's head: what is read so far. -/
def GfRel (L : List Bool) (k a many p0 : Nat) (w : World) (fr pl v : Value) (wr : World) : Prop :=
  ∃ (i : Nat) (l : List Nat) (s : Nat), i ≤ many ∧ l.length = i ∧ fr = .int .i64 (s : Int) ∧ pl = .int .i64 ((lastOr l a : Nat) : Int) ∧ s ≤ L.length ∧ (∀ x ∈ l, x ≤ 1048576) ∧ rdG L k a many [] p0 = rdG L k a (many - i) l s ∧
    wr.ownsRow w.heap.size 3 1 v i (zc (ns l)) ∧ Below w.heap.size w wr
set_option maxHeartbeats 4000000 in
theorem gfrom_in (L : List Bool) (N : Nat) (hL : L.length = N) (hN : N ≤ 8192) (p0 : Nat) (hp : p0 ≤ N) (a : Nat) (ha : a ≤ 1048576) (k : Nat) (hk : 1 ≤ k) (hk2 : k ≤ 16) (many : Nat) (hm : many ≤ 300) (R : List Nat) (to : Nat) (e0 : Int)
    (hR : rdG L k a many [] p0 = (R, to, e0)) (A : Option Addr) (c : Nat) (w : World) (hA : RdV w w.heap.size A (ic L)) :
    Calls Try.prog 55 #[.slice A N c, .int .i64 (p0 : Int), .int .i64 (a : Int), .int .i64 (k : Int), .int .i64 (many : Int)] w (RdP w R to e0) := by
  have HZ : Hid (∀ s V, s ≤ N → RdV V V.heap.size A (ic L) → Calls Try.prog 79 #[.slice A N c, .int .i64 (s : Int), .int .i64 (k : Int)] V (ReadP V (zetR L s k).1 (zetR L s k).2.1 (zetR L s k).2.2)) := fun s V hs hV => zetaRead_any L N hL hN A c s k hs hk hk2 _ rfl V hV
  obtain ⟨i0, hi, hz0, hz1, hz2⟩ := info_parts info3
  have HA := Lib.hid hA; have HRes := Lib.hid hR; have HLL := Lib.hid hL
  clear hA hR hL
  go_enter Try.func55, Try.ntmps55
  go_wp2
  go_loopw [1, 2, 13] (fun fr pl v wr => GfRel L k a many p0 w fr pl v wr) (fun _ _ v _ => many - lenV v)
  case atStart => exact ⟨0, [], p0, Nat.zero_le _, rfl, rfl, rfl, by rw [HLL.out]; exact hp, by simp, rfl, ⟨rfl, .inl ⟨rfl, rfl⟩⟩, Below.refl _ _⟩
  case round =>
    obtain ⟨i, l, s, him, hli, rfl, rfl, hs, hle, hrd, hrow, hbel⟩ := hrel
    rw [HLL.out] at hs
    obtain ⟨Av, cv, rfl⟩ := own_slice3 hrow
    by_cases hlt : i < many
    · have hZ := HZ.out s wr hs (HA.out.on hbel)
      obtain ⟨b1, b2, b3⟩ := zetR_bd L s k (by rw [HLL.out]; exact hs) hk
      rw [HLL.out] at b2
      obtain ⟨j, hj⟩ : ∃ j, many - i = j + 1 := ⟨many - i - 1, by omega⟩
      rw [hj, rdG_succ] at hrd
      have hj2 : many - (i + 1) = j := by omega
      have HB := Lib.hid hbel; clear hbel
      generalize (zetR L s k).1 = g at *
      generalize (zetR L s k).2.1 = s2 at *
      generalize (zetR L s k).2.2 = ez at *
      have HRow := Lib.hid hrow
      have t1 : decide ((i : Int) < (many : Int)) = true := by simp; omega
      have t2 : decide (i < many) = true := by simpa using hlt
      by_cases hz : ez = 0
      · subst hz
        rw [if_neg (by omega)] at hrd
        have hlo := lastOr_le l a ha hle
        have hgn := gnx_el l g a ha
        have hfl : ((i : Int) == 0) = decide (l = []) := by
          by_cases h : l = []
          · subst h
            have : i = 0 := by rw [← hli]; rfl
            subst this; simp
          · have : i ≠ 0 := fun e => h (List.eq_nil_of_length_eq_zero (by omega))
            simp [h, this]
        have HGn := Lib.hid (fun V => gnext_any g (by omega) (lastOr l a) hlo (decide (l = [])) V)
        rw [hgn] at HGn
        generalize decide (l = []) = fl at *
        generalize hlst : lastOr l a = la at *
        clear hgn
        by_cases h0 : elE l g a = 0
        · rw [if_neg (by omega)] at hrd
          rw [if_pos h0] at HGn
          have hel : ∃ x : Nat, el l g a = (x : Int) ∧ x ≤ 1048576 := by
            unfold elE at h0
            split at h0
            · omega
            · exact ⟨(el l g a).toNat, by omega, by omega⟩
          obtain ⟨x, hx, hx2⟩ := hel
          rw [hx] at HGn
          rw [hx, Int.toNat_natCast] at hrd
          have HRd := Lib.hid hrd; have HZ2 := Lib.hid hZ
          have HLe := Lib.hid hle; have HLi := Lib.hid hli; have HJ2 := Lib.hid hj2
          have HLs : Hid (lastOr (l ++ [x]) a = x) := lastOr_snoc l x a
          clear hrd hZ hle hli hx h0 hj hj2 b3 hrow hlst hlo
          go_wp2_with fail
          refine HZ2.out.mono ?_
          rintro e w3 ⟨rfl, B3⟩
          have HB3 : Hid (Below w.heap.size w w3) := HB.out.trans (B3.mono HB.out.size)
          have HRow3 := Lib.hid (own_below HRow.out B3)
          have hz3 : w.heap.size ≤ w3.heap.size := Nat.le_trans HB.out.size B3.size
          clear B3
          have hrow := HRow3.out
          go_wp2_with fail
          refine (HGn.out _).mono ?_
          rintro e _ ⟨rfl, rfl⟩
          go_wp2_with (at_builtin; refine wpList_append_own _ rfl _ _ 22 rfl w.heap.size 3 i0 (.int .i64 0) 1 8 Try.underlying22 hi hz0 hz1 hz2 rfl (by decide) _ _ _ rfl (hrow.alloc _) ⟨w3.heap.size, 0, none⟩ 1 1 [.int .i64 (x : Int)] rfl rfl (news_row w3 [.int .i64 (x : Int)] _) (by simp [Value.oneCell']) (by unfold maxLen; omega) (by omega) (by simp; omega) ?_; intro v' w4 hown' hgrow _; obtain ⟨Av', cv', rfl⟩ := own_slice3 hown')
          have hzz : zc (ns l) ++ [Value.int .i64 (x : Int)] = zc (ns (l ++ [x])) := by rw [ns_append, zc_append]; rfl
          rw [hzz] at hown'
          have HO4 := Lib.hid hown'
          have HB4 : Hid (Below w.heap.size w w4) := HB3.out.trans (((Below.refl w.heap.size w3).alloc hz3 _).trans (grown_low hgrow (hrow.alloc _) (by simp; omega)))
          clear hown' hgrow hrow hzz
          go_roundw
          case rel => exact ⟨i + 1, l ++ [x], s2, by omega, by rw [List.length_append, HLi.out]; rfl, rfl, by rw [HLs.out], by rw [HLL.out]; exact b2, fun y hy => by
            rcases List.mem_append.1 hy with h | h
            · exact HLe.out y h
            · obtain rfl : y = x := by simpa using h
              exact hx2, by rw [HJ2.out]; exact HRd.out, HO4.out, HB4.out⟩
          case measure => simp [lenV]; omega
        · rw [if_pos h0] at hrd
          rw [if_neg h0] at HGn
          have HZ2 := Lib.hid hZ
          have hres := HRes.out.symm.trans hrd
          simp only [Prod.mk.injEq] at hres
          obtain ⟨rfl, rfl, rfl⟩ := hres
          clear hrd hZ hle hli h0 hj hj2 b3 hrow HRes hlst hlo
          go_wp2_with fail
          refine HZ2.out.mono ?_
          rintro e w3 ⟨rfl, B3⟩
          have HB3 : Hid (Below w.heap.size w w3) := HB.out.trans (B3.mono HB.out.size)
          clear B3
          go_wp2_with fail
          refine (HGn.out _).mono ?_
          rintro e _ ⟨rfl, rfl⟩
          go_wp2
          go_ret3
          exact ⟨none, 0, rfl, Nat.le_refl _, fun _ => rfl, .inl rfl, HB3.out⟩
      · rw [if_pos hz] at hrd
        have HZ2 := Lib.hid hZ
        have hres := HRes.out.symm.trans hrd
        simp only [Prod.mk.injEq] at hres
        obtain ⟨rfl, rfl, rfl⟩ := hres
        have t0 : (e0 != 0) = true := by simpa using hz
        clear hrd hZ hle hli hz hj hj2 b3 hrow HRes
        go_wp2_with fail
        refine HZ2.out.mono ?_
        rintro e w3 ⟨rfl, B3⟩
        have HB3 : Hid (Below w.heap.size w w3) := HB.out.trans (B3.mono HB.out.size)
        clear B3
        go_wp2
        go_ret3
        exact ⟨none, 0, rfl, Nat.le_refl _, fun _ => rfl, .inl rfl, HB3.out⟩
    · obtain rfl : i = many := by omega
      rw [Nat.sub_self] at hrd
      have hres := HRes.out.symm.trans hrd
      unfold rdG at hres
      simp only [Prod.mk.injEq] at hres
      obtain ⟨rfl, rfl, rfl⟩ := hres
      have t1 : decide ((i : Int) < (i : Int)) = false := by simp
      have t2 : decide (i < i) = false := by simp
      have HO := Lib.hid hrow
      have HB := Lib.hid hbel
      have HLi := Lib.hid hli
      clear hrow hbel hrd HRes hli hle
      go_wp2
      go_ret3
      exact ⟨Av, cv, by rw [HLi.out]; rfl, by rw [HLi.out]; exact own_cap HO.out, own_none HO.out, own_rdv HO.out, HB.out⟩
end Go.Proofs.Ythldcdcpflamaaa
