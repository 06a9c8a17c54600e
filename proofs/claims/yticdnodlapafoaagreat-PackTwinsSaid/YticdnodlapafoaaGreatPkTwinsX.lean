/- The document's own list of a gamma code; with its conditions. -/
import Derived.Test.YticdnodlapafoaaGreatJS4
import Derived.Test.YticdnodlapafoaaGreatJS2
import Derived.Deep.RegionHeld3
import Derived.Test.YticdnodlapafoaaGreatPkSa
import Derived.Test.YticdnodlapafoaaGreatPkBg
import Derived.Test.YticdnodlapafoaaGreatJS5
import Derived.Maps.AppendAt
import Derived.Test.YticdnodlapafoaaGreatJSNMem
import Derived.Test.YticdnodlapafoaaGreatJSWChk
import Derived.Deep.Matrix
import Derived.Deep.SlicePairs
import Derived.SizedLaws
import Derived.Test.YticdnodlapafoaaGreatJS8
import Derived.Test.YticdnodlapafoaaGreatJS9
namespace Go.Proofs.YticdnodlapafoaaGreat

section
set_option maxRecDepth 100000
set_option linter.unusedVariables false
open Go.RowKit

theorem u64_i64 (k : Nat) (h : k < 9223372036854775808) : IntKind.u64.wrap (IntKind.i64.wrap (k : Int)) = (k : Int) := by
  simp [IntKind.wrap, IntKind.bits, IntKind.signed]; omega
/-- What is behind the first. -/
theorem rdv_rest {w : World} {A : Option Addr} {c k : Nat} {B : List Bool} (h : RdV w w.heap.size A (ic B)) (hl : B.length = k + 1) (hc : k + 1 ≤ c) :
    RdV w w.heap.size (if c = 1 then A else Option.map (fun x => { block := x.block, off := x.off + 1 }) A) (ic (B.drop 1)) := by
  by_cases h1 : c = 1
  · left
    rw [List.drop_of_length_le (by omega)]; rfl
  · rw [if_neg h1]
    rcases h with h | ⟨b, off, rfl, hb, hcell⟩
    · have := congrArg List.length h
      rw [ic_length, hl] at this
      simp at this
    · refine .inr ⟨b, off + 1, rfl, hb, fun i v hi => ?_⟩
      have e : ic (B.drop 1) = (ic B).drop 1 := by simp [ic]
      rw [e, List.getElem?_drop] at hi
      rw [Nat.add_assoc]
      exact hcell (1 + i) v hi
/-- A slice of one number, newly laid. -/
theorem own_lit1 (w : World) (base : Nat) (hb : base ≤ w.heap.size) (u : Value) : (w.alloc (.cells #[u] 3)).ownsRow base 3 1 (.slice (some ⟨w.heap.size, 0, none⟩) 1 1) 1 [u] :=
  ⟨rfl, .inr ⟨w.heap.size, 1, #[u], rfl, hb, World.alloc_heap_new w _, Nat.le_refl _, by decide, rfl, rfl⟩⟩

/-- At each round's head: j bits have been written. -/
def BiRel (w : World) (n : Nat) (v p : Value) (wr : World) : Prop :=
  ∃ j : Nat, v = .int .u64 ((n / 2 ^ j : Nat) : Int) ∧ wr.ownsRow w.heap.size 3 1 p j (ic (nb n j)) ∧ Below w.heap.size w wr ∧ (j = 0 ∨ 2 ^ j ≤ 2 * n)

theorem bi_bit (n j : Nat) : ic (nb n (j + 1)) = [.int .i64 (((n / 2 ^ j : Nat) : Int) % 2)] ++ ic (nb n j) := by
  rw [nb_succ]
  generalize n / 2 ^ j = y
  have e : (((y % 2 == 1).toNat : Nat) : Int) = (y : Int) % 2 := by
    rcases (show y % 2 = 0 ∨ y % 2 = 1 by omega) with h | h
    · rw [h]; have : (y : Int) % 2 = 0 := by omega
      rw [this]; rfl
    · rw [h]; have : (y : Int) % 2 = 1 := by omega
      rw [this]; rfl
  simp [ic, e]

set_option maxHeartbeats 1000000 in
theorem binary_any (n K : Nat) (hn : n < 18446744073709551616) (h0 : 1 ≤ n) (h1 : n < 2 ^ K) (h2 : 2 ^ K ≤ 2 * n) (L : List Bool) (hL : L = nb n K) (w : World) :
    Calls Tryz.prog 61 #[.int .u64 (n : Int)] w (Listed w L) := by
  have HL := Lib.hid hL; clear hL
  have H1 := Lib.hid h1; clear h1
  have H2 := Lib.hid h2; clear h2
  go_enter Tryz.func61, Tryz.ntmps61
  go_wp2
  go_loopw [0, 3] (fun v p wr => BiRel w n v p wr) (fun v _ _ => (intOf v).toNat)
  case atStart => exact ⟨0, by rw [Nat.pow_zero, Nat.div_one], ⟨rfl, .inl ⟨rfl, rfl⟩⟩, Below.refl _ _, .inl rfl⟩
  case round =>
    obtain ⟨j, rfl, hrow, hbel, hj⟩ := hrel
    obtain ⟨Av, cv, rfl⟩ := own_slice3 hrow
    have hyn : n / 2 ^ j ≤ n := Nat.div_le_self _ _
    have HBel := Lib.hid hbel; clear hbel
    have HJ := Lib.hid hj; clear hj
    by_cases hlt : 0 < n / 2 ^ j
    · have HP : Hid (2 ^ j ≤ n) := by
        show _ ≤ _
        rcases Nat.lt_or_ge n (2 ^ j) with h | h
        · rw [Nat.div_eq_of_lt h] at hlt; omega
        · exact h
      have HJs : Hid ((j + 1) * 8 ≤ 140737488355328) := by
        have h64 : 2 ^ j < 2 ^ 64 := Nat.lt_of_le_of_lt HP.out hn
        have := pow_inj_le h64
        show _ ≤ _
        omega
      have HH : Hid (n / 2 ^ (j + 1) = n / 2 ^ j / 2) := by
        show _ = _
        rw [Nat.pow_succ, Nat.div_div_eq_div_mul]
      have HBit := Lib.hid (bi_bit n j)
      have HRow := Lib.hid hrow; clear hrow
      generalize n / 2 ^ j = y at *
      go_wp2_with (at_builtin; refine app3 rfl _ _ rfl w.heap.size _ 1 _ rfl (own_lit1 wr w.heap.size HBel.out.size _) Av j cv (ic (nb n j)) rfl (own_rdv (HRow.out.alloc _)) (by rw [ic_length, nb_length]) (ic_one _) (own_none HRow.out) (by have := HJs.out; omega) (by have := HBel.out.size; simp; omega) ?_; intro v' w3 hown' hgrow; obtain ⟨A3, c3, rfl⟩ := own_slice3 hown'; rw [Nat.add_comm 1 j] at hown' ⊢)
      have HGr := Lib.hid hgrow; clear hgrow
      have HOw := Lib.hid hown'; clear hown'
      refine ⟨⟨j + 1, by rw [HH.out]; go_num, ?_, (HBel.out.alloc HBel.out.size _).grown HGr.out (by have := HBel.out.size; simp; omega) (fun k hk => ((own_lit1 wr w.heap.size HBel.out.size (.int .i64 0)).lt k hk).1), .inr (by have := HP.out; rw [Nat.pow_succ]; omega)⟩, by simp [intOf]; omega⟩
      rw [HBit.out]
      exact HOw.out
    · have e0 : n / 2 ^ j = 0 := Nat.eq_zero_of_not_pos hlt
      have hjK : j = K := by
        have hnj : n < 2 ^ j := by
          rcases Nat.div_eq_zero_iff.1 e0 with h | h
          · have := Nat.two_pow_pos j; omega
          · exact h
        rcases HJ.out with rfl | h
        · rw [Nat.pow_zero] at hnj; omega
        · have a := pow_inj_le (a := j) (b := K + 1) (by have := H1.out; rw [Nat.pow_succ]; omega)
          have b := pow_inj_le (a := K) (b := j + 1) (by have := H2.out; rw [Nat.pow_succ]; omega)
          omega
      have HF : Hid (Listed w L (.returned (.slice Av j cv)) wr) := by
        have hl : L.length = j := by rw [HL.out, nb_length, hjK]
        refine ⟨Av, cv, by rw [hl], ?_, HBel.out⟩
        rw [hl, HL.out, ← hjK]
        exact hrow
      clear hrow HJ H1 H2
      rw [e0]
      go_wp2
      go_ret
      exact HF.out

/-- At each round's head: i - 1 noughts. -/
def GLRel (w1 : World) (k : Nat) (v p : Value) (wr : World) : Prop :=
  ∃ i : Nat, i ≤ k ∧ p = .int .i64 ((i : Int) + 1) ∧ wr.ownsRow w1.heap.size 3 1 v i (ic (List.replicate i false)) ∧ Below w1.heap.size w1 wr

set_option maxHeartbeats 1000000 in
theorem gammaList_any (n : Nat) (hn : n ≤ 1099511627776) (L : List Bool) (hL : L = gam n) (w : World) :
    Calls Tryz.prog 28 #[.int .u64 (n : Int)] w (Listed w L) := by
  obtain ⟨i0, hi, hz0, hz1, hz2⟩ := info_parts info3
  have a := lg_le n
  have b := lg_lt n
  have hk := lg_lt_of n 41 (by omega)
  have HBi := Lib.hid (binary_any (n + 1) (lg n + 1) (by omega) (by omega) b (by rw [Nat.pow_succ]; omega) _ rfl)
  have HL : Hid (L = List.replicate (lg n) false ++ nb (n + 1) (lg n + 1)) := by
    show _ = _
    rw [hL, nb_top _ _ a b]; simp [gam, uc]
  clear hL a b
  have HLen : Hid ((nb (n + 1) (lg n + 1)).length = lg n + 1) := nb_length _ _
  generalize nb (n + 1) (lg n + 1) = B at *
  generalize lg n = k at *
  go_enter Tryz.func28, Tryz.ntmps28
  go_wp2_with fail
  refine (HBi.out _).mono ?_
  rintro e w1 ⟨A1, c1, rfl, ho1, hb1⟩
  rw [HLen.out] at ho1 ⊢
  have HO1 := Lib.hid ho1; clear ho1
  have HB1 := Lib.hid hb1; clear hb1
  go_wp2
  go_loopw [4, 5] (fun v p wr => GLRel w1 k v p wr) (fun _ p _ => k + 1 - (intOf p).toNat)
  case atStart => exact ⟨0, Nat.zero_le _, rfl, ⟨rfl, .inl ⟨rfl, rfl⟩⟩, Below.refl _ _⟩
  case round =>
    obtain ⟨i, him, rfl, hrow, hbel⟩ := hrel
    obtain ⟨Av, cv, rfl⟩ := own_slice3 hrow
    have HBel := Lib.hid hbel; clear hbel
    by_cases hlt : i < k
    · go_wp2_with (at_builtin; refine wpList_append_own _ rfl _ _ 22 rfl w1.heap.size 3 i0 (.int .i64 0) 1 8 Tryz.underlying22 hi hz0 hz1 hz2 rfl (by decide) _ _ _ rfl (hrow.alloc _) ⟨wr.heap.size, 0, none⟩ 1 1 [.int .i64 0] rfl rfl (cell_one_new _ _ _) (by simp [Value.oneCell']) (by unfold maxLen; omega) (by omega) (by have := HBel.out.size; simp; omega) ?_; intro v' w3 hown' hgrow _; obtain ⟨g', cap', rfl⟩ := ownsRow_succ hown')
      have HGr := Lib.hid hgrow; clear hgrow
      have HOw := Lib.hid hown'; clear hown'
      go_roundw
      case rel =>
        refine ⟨i + 1, by omega, by go_num, ?_, (HBel.out.alloc HBel.out.size _).grown HGr.out (by have := HBel.out.size; simp; omega) (fun k hk => (hrow.lt k hk).1)⟩
        rw [List.replicate_succ', ic_append]
        exact HOw.out
      case measure => simp [intOf]; omega
    · have e : i = k := by omega
      subst e
      have HRow := Lib.hid hrow; clear hrow
      have HR1 : Hid (RdV wr wr.heap.size A1 (ic B)) := (own_rdv HO1.out).on HBel.out
      have HN1 := Lib.hid (own_none HO1.out)
      have HLb : Hid ((ic B).length = i + 1) := by show _ = _; rw [ic_length, HLen.out]
      go_wp2_with (at_builtin; refine app3 rfl _ _ rfl w1.heap.size _ i (ic (List.replicate i false)) rfl HRow.out A1 (i + 1) c1 (ic B) rfl HR1.out HLb.out (ic_one _) HN1.out (by omega) HBel.out.size ?_; intro v' w3 hown' hgrow; obtain ⟨A3, c3, rfl⟩ := own_slice3 hown')
      have HF : Hid (Listed w L (.returned (.slice A3 (i + (i + 1)) c3)) w3) := by
        have hl : L.length = i + (i + 1) := by rw [HL.out, List.length_append, List.length_replicate, HLen.out]
        refine ⟨A3, c3, by rw [hl], ?_, ?_⟩
        · rw [hl, HL.out, ic_append]
          exact own_base hown' HB1.out.size
        · exact HB1.out.trans ((HBel.out.grown hgrow HBel.out.size (fun k hk => (HRow.out.lt k hk).1)).mono HB1.out.size)
      clear hown' hgrow
      go_ret
      exact HF.out
end

section
set_option maxRecDepth 100000
set_option linter.unusedVariables false
open Go.RowKit Go.Shelf

theorem gs_cons (x : Rw) (t : List Rw) : gs (x :: t) = x.2.2 :: gs t := rfl
set_option maxHeartbeats 8000000 in
theorem refgchk_any (R : List Rw) (N : Nat) (hN : R.length = N) (hN2 : N ≤ 140737488355328) (A : Option Addr) (c : Nat) (w : World) (h : RdG w w.heap.size A R) :
    Calls Tryz.prog 40 #[.agg #[.slice A N c]] w fun e w' => e = .returned (.int .i64 (grE (gs R))) ∧ Below w.heap.size w w' := by
  obtain ⟨w1, hw1⟩ : ∃ w1, w.alloc (.cells #[.slice A N c] 52) = w1 := ⟨_, rfl⟩
  have hs0 : w1.heap.size = w.heap.size + 1 := by rw [← hw1]; exact World.size_alloc _ _
  have hs1 : w1.heap.size ≤ w.heap.size + 1 ∧ w.heap.size + 1 ≤ w1.heap.size := by omega
  clear hs0
  have hb1 : Below w.heap.size w w1 := hw1 ▸ one_below w _
  have kg1 : w1.cell? ⟨w.heap.size, 0, none⟩ = some (.slice A N c) := by rw [← hw1]; exact (cell_at (World.alloc_heap_new w _) 0).trans rfl
  have HH := Lib.hid (⟨hN, h.on hb1, kg1, hb1⟩ : R.length = N ∧ RdG w1 w1.heap.size A R ∧ w1.cell? ⟨w.heap.size, 0, none⟩ = some (.slice A N c) ∧ Below w.heap.size w w1)
  have HW := Lib.hid hw1
  have hbd := sumL_bd R (fun r hr => (h.2 r hr).2)
  rw [hN] at hbd
  obtain ⟨E, hE⟩ : ∃ E, grE (gs R) = E := ⟨_, rfl⟩
  have hgl : (gs R).length = N := by rw [gs_length]; exact hN
  rw [hE]
  unfold grE at hE
  rw [hgl] at hE
  clear hgl hN h hw1
  by_cases h100 : 100 < N
  · rw [if_pos h100] at hE
    subst hE
    have t1 : decide ((100 : Int) < (N : Int)) = true := by simp; omega
    have HB := Lib.hid hb1
    go_enter Tryz.func40, Tryz.ntmps40
    go_wp2
    rw [HW.out]
    go_ret
    exact ⟨rfl, HB.out⟩
  · rw [if_neg h100] at hE
    have HE := Lib.hid hE
    have t1 : decide ((100 : Int) < (N : Int)) = false := by simp; omega
    clear hE hb1 kg1
    go_enter Tryz.func40, Tryz.ntmps40
    go_wp2
    rw [HW.out]
    go_loopw [4, 5] (fun q p wr => ∃ i m : Nat, i ≤ N ∧ p = .int .i64 (i : Int) ∧ q = .int .i64 (m : Int) ∧ firstE (rsE (N : Int)) (gs R) = firstE (rsE (N : Int)) (gs (R.drop i)) ∧ m + sumL (gs (R.drop i)) = sumL (gs R) ∧ Below w1.heap.size w1 wr) (fun _ p _ => N - (intOf p).toNat)
    case atStart => exact ⟨0, 0, Nat.zero_le _, rfl, rfl, rfl, by simp, Below.refl _ _⟩
    case round =>
      obtain ⟨i, m, hi, rfl, rfl, hfe, hsm, hbel⟩ := hrel
      by_cases hlt : i < N
      · have hil : i < R.length := by rw [HH.out.1]; exact hlt
        rw [drop_rw R i hil, gs_cons] at hfe hsm
        rw [sumL_cons] at hsm
        rw [firstE_cons] at hfe
        obtain ⟨b, off, hA, hb0, k0'⟩ := HH.out.2.1.1.at_ (rcl_get R i hil)
        have hrd := HH.out.2.1.2 _ (rw_mem R i hil)
        generalize R[i]?.getD (none, 0, []) = x at *
        obtain ⟨A1, c1, xs⟩ := x
        unfold sl at k0'
        simp only at k0' hrd hfe hsm
        subst hA
        obtain ⟨n, hn⟩ : ∃ n, xs.length = n := ⟨_, rfl⟩
        rw [hn] at k0' hsm
        have HFs := Lib.hid (⟨hfe, hsm, hn⟩ : _ ∧ _ ∧ _)
        have hm1 : m + n ≤ 14073748835532800 := by omega
        have HBl := Lib.hid hbel
        have HRd := Lib.hid hrd
        have HK0 := Lib.hid (⟨hb0, k0'⟩ : _ ∧ _)
        have kg := (hbel.cell (p := ⟨w.heap.size, 0, none⟩) (by show w.heap.size < _; omega)).trans HH.out.2.2.1
        have t2 : (0 : Int) ≤ (i : Int) := by omega
        have t3 : (i : Int) < (N : Int) := by omega
        clear hfe hsm hn hbel hrd hb0 k0'
        go_wp2
        go_loopw [4, 6] (fun q p wq => ∃ (j : Nat) (v : Int), j ≤ n ∧ p = .int .i64 (j : Int) ∧ q = .int .i64 ((m + j : Nat) : Int) ∧ rsE (N : Int) xs = eachS (ckO (okG (N : Int))) id v (xs.drop j) ∧ ((j = 0 ∧ v = -1) ∨ (0 < j ∧ xs[j - 1]? = some v)) ∧ Below w1.heap.size w1 wq) (fun _ p _ => n - (intOf p).toNat)
        case atStart => exact ⟨0, -1, Nat.zero_le _, rfl, rfl, rfl, .inl ⟨rfl, rfl⟩, HBl.out⟩
        case round =>
          obtain ⟨j, v, hj, rfl, rfl, hrs, hv, hbel⟩ := hrel
          have kg2 := (hbel.cell (p := ⟨w.heap.size, 0, none⟩) (by show w.heap.size < _; omega)).trans HH.out.2.2.1
          have k2 := (hbel.cell (p := ⟨b, off + i, none⟩) HK0.out.1).trans HK0.out.2
          by_cases hjn : j < n
          · have hjl : j < xs.length := by rw [HFs.out.2.2]; exact hjn
            rw [drop_at xs j hjl, eachS_cons] at hrs
            obtain ⟨b2, o2, hA1, hb2, k3'⟩ := HRd.out.1.at_ (zc_get xs j hjl)
            have k3 := (hbel.cell (p := ⟨b2, o2 + j, none⟩) hb2).trans k3'
            obtain ⟨y, hy⟩ : ∃ y, xs[j]?.getD 0 = y := ⟨_, rfl⟩
            have hye : xs[j]? = some y := by rw [← hy, List.getElem?_eq_getElem hjl]; rfl
            rw [hy] at hrs k3
            have hprev : 0 < j → wr.cell? ⟨b2, o2 + (j - 1), none⟩ = some (.int .i64 v) := fun h0 => by
              have hvv : xs[j - 1]? = some v := by rcases hv with ⟨z, _⟩ | ⟨_, z⟩; omega; exact z
              have h1 : j - 1 < xs.length := by omega
              obtain ⟨b3, o3, hA3, hb3, k4⟩ := HRd.out.1.at_ (zc_get xs (j - 1) h1)
              rw [hA1] at hA3
              cases hA3
              rw [hvv] at k4
              exact (hbel.cell (p := ⟨b2, o2 + (j - 1), none⟩) hb3).trans k4
            subst hA1
            have t4 : (0 : Int) ≤ (j : Int) := by omega
            have t5 : (j : Int) < (n : Int) := by omega
            have a1 : IntKind.i64.wrap ((N : Int) - 1) = (N : Int) - 1 := IntWalk.i64_in _ (by omega)
            by_cases hok : okG (N : Int) y = true
            · have hyo : (0 : Int) ≤ y ∧ y ≤ (N : Int) - 1 := by unfold okG at hok; simp at hok; omega
              have HYs := Lib.hid (fun W => between_yes y 0 ((N : Int) - 1) hyo W)
              by_cases hyv : y ≤ v
              · have hj0 : 0 < j := by rcases hv with ⟨_, z⟩ | ⟨z, _⟩; omega; exact z
                have hE4 : E = 4 := by
                  have e1 : ckO (okG (N : Int)) v y = 4 := by unfold ckO; rw [if_neg (by simp [hok]), if_pos hyv]
                  rw [e1, if_neg (by decide)] at hrs
                  have := HE.out
                  rw [HFs.out.1, hrs, if_neg (by decide : ¬ ((4 : Int) = 0)), if_neg (by simp)] at this
                  exact this.symm
                have HE4 := Lib.hid hE4
                have k5 := hprev hj0
                have s1 : decide ((0 : Int) < (j : Int)) = true := by simp; omega
                have s2 : decide (y ≤ v) = true := by simpa using hyv
                have s3 : IntKind.i64.wrap ((j : Int) - 1) = ((j - 1 : Nat) : Int) := by rw [IntWalk.i64_in _ (by omega)]; omega
                have s4 : (0 : Int) ≤ ((j - 1 : Nat) : Int) := by omega
                have s5 : ((j - 1 : Nat) : Int) < (n : Int) := by omega
                have HBq := Lib.hid hbel
                generalize hjj : j - 1 = jj at *
                clear hE4 hok hrs hv hprev hbel hy hye hyo hjj
                go_wp2_with fail
                refine (HYs.out _).mono ?_
                rintro e wz ⟨rfl, rfl⟩
                go_wp2
                go_quiet (fail)
                go_wp2
                go_ret
                exact ⟨by rw [HE4.out]; rfl, HH.out.2.2.2.trans ((below_drewN HBq.out _).mono HH.out.2.2.2.size)⟩
              · have e1 : ckO (okG (N : Int)) v y = 0 := by unfold ckO; rw [if_neg (by simp [hok]), if_neg hyv]
                rw [if_pos e1] at hrs
                have HSt := Lib.hid (⟨hrs, by simpa using hye⟩ : rsE (N : Int) xs = eachS (ckO (okG (N : Int))) id y (xs.drop (j + 1)) ∧ xs[j + 1 - 1]? = some y)
                have HCt : Hid ((m : Int) + (j : Int) + 1 = ((m + (j + 1) : Nat) : Int)) := by show _ = _; omega
                have a2 : IntKind.i64.wrap (((m + j : Nat) : Int) + 1) = ((m + (j + 1) : Nat) : Int) := by rw [IntWalk.i64_in _ (by omega)]; omega
                have a3 : IntKind.i64.wrap ((m : Int) + (j : Int) + 1) = ((m + (j + 1) : Nat) : Int) := by rw [IntWalk.i64_in _ (by omega)]; omega
                have HBq := Lib.hid hbel
                have s2 : decide (y ≤ v) = false := by simpa using hyv
                by_cases hj0 : 0 < j
                · have k5 := hprev hj0
                  have s1 : decide ((0 : Int) < (j : Int)) = true := by simp; omega
                  have s3 : IntKind.i64.wrap ((j : Int) - 1) = ((j - 1 : Nat) : Int) := by rw [IntWalk.i64_in _ (by omega)]; omega
                  have s4 : (0 : Int) ≤ ((j - 1 : Nat) : Int) := by omega
                  have s5 : ((j - 1 : Nat) : Int) < (n : Int) := by omega
                  generalize hjj : j - 1 = jj at *
                  clear hok hrs hv hprev hbel hy hye hyo e1 hyv hjj
                  go_wp2_with fail
                  refine (HYs.out _).mono ?_
                  rintro e wz ⟨rfl, rfl⟩
                  go_wp2
                  go_quiet (fail)
                  go_wp2
                  go_roundw
                  case rel => exact ⟨j + 1, y, by omega, by go_num, by go_num, HSt.out.1, .inr ⟨by omega, HSt.out.2⟩, below_drewN HBq.out _⟩
                  case measure => simp [intOf]; omega
                · have s1 : decide ((0 : Int) < (j : Int)) = false := by simp; omega
                  clear hok hrs hv hprev hbel hy hye hyo e1 hyv
                  go_wp2_with fail
                  refine (HYs.out _).mono ?_
                  rintro e wz ⟨rfl, rfl⟩
                  go_wp2
                  go_quiet (fail)
                  go_wp2
                  go_roundw
                  case rel => exact ⟨j + 1, y, by omega, by go_num, by go_num, HSt.out.1, .inr ⟨by omega, HSt.out.2⟩, below_drewN HBq.out _⟩
                  case measure => simp [intOf]; omega
            · have hE3 : E = 3 := by
                have e1 : ckO (okG (N : Int)) v y = 3 := by unfold ckO; rw [if_pos (by simpa using hok)]
                rw [e1, if_neg (by decide)] at hrs
                have := HE.out
                rw [HFs.out.1, hrs, if_neg (by decide : ¬ ((3 : Int) = 0)), if_neg (by simp)] at this
                exact this.symm
              have HE3 := Lib.hid hE3
              have hno : ¬ ((0 : Int) ≤ y ∧ y ≤ (N : Int) - 1) := by intro q; apply hok; unfold okG; simp; omega
              have HNo := Lib.hid (fun W => between_no y 0 ((N : Int) - 1) hno W)
              have HBq := Lib.hid hbel
              clear hE3 hno hok hrs hv hprev hbel hy hye
              go_wp2_with fail
              refine (HNo.out _).mono ?_
              rintro e wz ⟨rfl, rfl⟩
              go_wp2
              go_ret
              exact ⟨by rw [HE3.out]; rfl, HH.out.2.2.2.trans (HBq.out.mono HH.out.2.2.2.size)⟩
          · obtain rfl : j = n := by omega
            have hz : rsE (N : Int) xs = 0 := by rw [hrs, List.drop_of_length_le (by rw [HFs.out.2.2]; omega)]; rfl
            have hf2 := HFs.out.1
            rw [if_pos hz] at hf2
            have HFn := Lib.hid (⟨hf2, HFs.out.2.1, hbel⟩ : _ ∧ _ ∧ _)
            clear hrs hv hbel hz hf2
            go_wp2
            go_roundw
            case rel => exact ⟨i + 1, m + j, by omega, by go_num, by go_num, HFn.out.1, by have := HFn.out.2.1; omega, HFn.out.2.2⟩
            case measure => simp [intOf]; omega
      · obtain rfl : i = N := by omega
        rw [List.drop_of_length_le (by rw [HH.out.1]; omega)] at hfe hsm
        have hf0 : firstE (rsE (i : Int)) (gs R) = 0 := hfe
        have hsm2 : m = sumL (gs R) := by have : sumL (gs []) = 0 := rfl; omega
        have hEE := HE.out
        rw [hf0, ← hsm2] at hEE
        have HBl := Lib.hid hbel
        by_cases h6 : 600 < m
        · rw [if_pos ⟨rfl, h6⟩] at hEE
          have s1 : decide ((600 : Int) < (m : Int)) = true := by simp; omega
          subst hEE
          clear hbel hfe hsm hf0 hsm2
          go_wp2
          go_ret
          exact ⟨rfl, HH.out.2.2.2.trans (HBl.out.mono HH.out.2.2.2.size)⟩
        · rw [if_neg (fun z => h6 z.2)] at hEE
          have s1 : decide ((600 : Int) < (m : Int)) = false := by simp; omega
          subst hEE
          clear hbel hfe hsm hf0 hsm2
          go_wp2
          go_ret
          exact ⟨rfl, HH.out.2.2.2.trans (HBl.out.mono HH.out.2.2.2.size)⟩
end

section
set_option maxRecDepth 100000
set_option linter.unusedVariables false
open Go.RowKit Go.Shelf

theorem tw_nd (B ls k : Nat) (g : List (List Nat)) (i : Nat) (hl : row g i = row g (i - 1)) (hB : B ≠ 0) : (ndB B ls k g i 1).length ≤ 3 + (gam (row g i).length).length + 1 := by
  have e : ndF g i 1 = row g i := by unfold ndF; rw [if_neg (by omega), hl]
  unfold ndB
  rw [if_neg hB, e, List.length_append]
  have h3 : (gam 1).length = 3 := by decide
  rw [h3]
  have hs : (sbits i 1 ls k (row g i) (row g i)).length ≤ (gam (row g i).length).length + 1 := by
    unfold sbits bksB bksR restB
    have e10 : ((1 : Nat) = 0) = False := by simp
    simp only [e10, if_false, bks_self, notin_self, if_true]
    split
    · simp
    · have e : (gam ([] : List Nat).length ++ gams (bnums [])).length = 1 := by decide
      rw [List.append_nil, List.length_append, e]; omega
  omega
theorem tw_bst (B ls k : Nat) (g : List (List Nat)) (i : Nat) (hi : 1 ≤ i) (hl : row g i = row g (i - 1)) (hB : B ≠ 0) : (ndB B ls k g i (bst B ls k g i)).length ≤ 3 + (gam (row g i).length).length + 1 := by
  have h1 := bst_min B ls k g i 1 (by omega)
  have h2 := tw_nd B ls k g i hl hB
  omega
/-- The rows with one of them told anew. -/
theorem gs_set (R : List Rw) (i : Nat) (r : Rw) : gs (R.set i r) = (gs R).set i r.2.2 := by simp [gs, List.map_set]
theorem rdg_set {w : World} {A : Option Addr} {R : List Rw} (i : Nat) (r : Rw) (hr : r ∈ R) (h : ∀ x ∈ R, RdV w w.heap.size x.1 (zc x.2.2) ∧ x.2.2.length ≤ 140737488355328) (hA : RdV w w.heap.size A (rcl (R.set i r))) : RdG w w.heap.size A (R.set i r) :=
  ⟨hA, fun x hx => by
    rcases List.mem_or_eq_of_mem_set hx with q | q
    · exact h x q
    · rw [q]; exact h r hr⟩
theorem cap_set {R : List Rw} (i : Nat) (r : Rw) (hr : r ∈ R) (h : ∀ x ∈ R, x.2.2.length ≤ x.2.1) : ∀ x ∈ R.set i r, x.2.2.length ≤ x.2.1 := fun x hx => by
  rcases List.mem_or_eq_of_mem_set hx with q | q
  · exact h x q
  · rw [q]; exact h r hr
end

section
set_option maxRecDepth 100000
set_option linter.unusedVariables false
open Go.RowKit Go.Shelf

/-- What was handed in, in two boxes. -/
def TwI (w W : World) (AG : Option Addr) (NG cG : Nat) (B ls k : Int) : Prop :=
  Below w.heap.size w W ∧ W.heap[w.heap.size]? = some (.cells #[.slice AG NG cG] 52 (0, 0)) ∧ W.heap[w.heap.size + 1]? = some (.cells #[.int .i64 B, .int .i64 ls, .int .i64 k] 24 (0, 0))
theorem TwI.on {w W X : World} {AG : Option Addr} {NG cG : Nat} {B ls k : Int} (h : TwI w W AG NG cG B ls k) (hb : Below W.heap.size W X) : TwI w X AG NG cG B ls k :=
  ⟨h.1.trans (hb.mono h.1.size), (hb.block _ (Array.getElem?_eq_some_iff.1 h.2.1).1).trans h.2.1, (hb.block _ (Array.getElem?_eq_some_iff.1 h.2.2).1).trans h.2.2⟩
theorem twi_at (w : World) (AG : Option Addr) (NG cG : Nat) (B ls k : Int) : ∃ w1, (w.alloc (.cells #[.slice AG NG cG] 52)).alloc (.cells #[.int .i64 B, .int .i64 ls, .int .i64 k] 24) = w1 ∧ TwI w w1 AG NG cG B ls k := by
  obtain ⟨w1, ew1, s1, hb1, g2, g3⟩ := two_at w NG B ls k AG cG
  exact ⟨w1, ew1, hb1, g2, g3⟩
theorem info_rowLs : (Tryz.prog.info? 22).map (fun i => (i.zero, i.size, i.bytes)) = some (some (.slice none 0 0), 1, 24) := by kernel_rfl
set_option maxHeartbeats 4000000 in
/-- Where the graph is not right, or there is no such node. -/
theorem packtwins_no (w : World) (A0 : Option Addr) (n0 c0 : Nat) (B ls k : Int) (node : Int) (E : Int)
    (h : E ≠ 0 ∨ node < 1 ∨ (n0 : Int) ≤ node)
    (HBg : Hid (∀ V, Calls Tryz.prog 36 #[] V fun e w' => e = .returned (.bool true) ∧ Below V.heap.size V w'))
    (HGc : Hid (∀ V, Below w.heap.size w V → Calls Tryz.prog 40 #[.agg #[.slice A0 n0 c0]] V fun e w' => e = .returned (.int .i64 E) ∧ Below V.heap.size V w')) :
    Calls Tryz.prog 13 #[.agg #[.slice A0 n0 c0], .agg #[.int .i64 B, .int .i64 ls, .int .i64 k], .int .i64 node] w fun e w' => e = .returned (.bool true) ∧ Below w.heap.size w w' := by
  obtain ⟨w1, ew1, hI⟩ := twi_at w A0 n0 c0 B ls k
  have HI1 := Lib.hid hI
  clear hI
  have main : (E ≠ 0) ∨ (E = 0 ∧ node < 1) ∨ (E = 0 ∧ ¬ node < 1 ∧ (n0 : Int) ≤ node) := by omega
  clear h
  rcases main with h | ⟨rfl, h⟩ | ⟨rfl, h2, h⟩
  all_goals (
    go_enter Tryz.func13, Tryz.ntmps13
    go_wp2_with fail
    try rw [ew1]
    refine (HBg.out w1).mono ?_
    rintro e w2 ⟨rfl, q2⟩
    have HI2 := Lib.hid (HI1.out.on q2)
    have k0 := box_cell HI2.out.2.1
    clear q2 ew1
    go_wp2_with fail
    refine (HGc.out w2 HI2.out.1).mono ?_
    rintro e w3 ⟨rfl, q3⟩
    have HI3 := Lib.hid (HI2.out.on q3)
    have k3 := box_cell HI3.out.2.1
    have HFin := Lib.hid HI3.out.1
    clear q3 k0
    try (have t1 : (E != 0) = true := by simpa using h)
    go_wp2
    go_ret
    exact ⟨rfl, HFin.out⟩)
theorem own_at {w : World} {base n : Nat} {e : TypeId} {v : Value} {xs : List Value} (h : w.ownsRow base e 1 v n xs) (hn : n ≠ 0) : ∃ g c, v = .slice (some ⟨g, 0, none⟩) n c ∧ base ≤ g ∧ n ≤ c := by
  rcases h.2 with ⟨-, q⟩ | ⟨g, c', cur, q1, q2, q3, q4, -⟩
  · exact absurd q hn
  · exact ⟨g, c', q1, q2, q4⟩
theorem own_rdvTw {w : World} {base g n c : Nat} {e : TypeId} {xs : List Value} (h : w.ownsRow base e 1 (.slice (some ⟨g, 0, none⟩) n c) n xs) : RdV w w.heap.size (some ⟨g, 0, none⟩) xs := by
  have hlt : g < w.heap.size := by
    rcases h.2 with ⟨q, -⟩ | ⟨g', _, cur, q1, q2, q3, -⟩
    · cases q
    · cases q1; exact (Array.getElem?_eq_some_iff.1 q3).1
  refine .inr ⟨g, 0, rfl, hlt, fun i v hi => ?_⟩
  have hl : i < n * 1 := by rw [← h.1]; exact (List.getElem?_eq_some_iff.1 hi).1
  rw [Nat.zero_add, h.cellAt i hl]; exact hi
/-- Behind the setting of a list. -/
def TwS (w W : World) (AG : Option Addr) (NG cG : Nat) (B ls k : Int) (tb : Nat) (A : Option Addr) (n c : Nat) (R : List Rw) : Prop :=
  TwI w W AG NG cG B ls k ∧ W.heap[tb]? = some (.cells #[.slice A n c] 52 (0, 0)) ∧ RdG W W.heap.size A R
theorem TwS.on {w W X : World} {AG : Option Addr} {NG cG : Nat} {B ls k : Int} {tb : Nat} {A : Option Addr} {n c : Nat} {R : List Rw} (h : TwS w W AG NG cG B ls k tb A n c R) (hb : Below W.heap.size W X) : TwS w X AG NG cG B ls k tb A n c R :=
  ⟨h.1.on hb, (hb.block _ (Array.getElem?_eq_some_iff.1 h.2.1).1).trans h.2.1, h.2.2.on hb⟩
set_option maxHeartbeats 8000000 in
theorem packtwins_w (w : World) (A0 : Option Addr) (n0 c0 : Nat) (R0 : List Rw) (B ls k : Int) (i j : Nat) (r1 : Rw) (hG : RdG w w.heap.size A0 R0) (hR0 : R0.length = n0) (hn0 : n0 ≤ 100) (hi1 : i = j + 1) (hi2 : i < n0) (hr1 : R0[j]? = some r1)
    (HBg : Hid (∀ V, Calls Tryz.prog 36 #[] V fun e w' => e = .returned (.bool true) ∧ Below V.heap.size V w'))
    (N1 B1 ls1 k1 len1 : Int) (n1 : Nat) (bs1 : List Nat) (m1 : Nat) (xs1 : List Int) (m2 : Nat) (xs2 : List Int) (e1 : Int) (si sj q : Nat) (hq : r1.2.2.length = q)
    (HE0 : Hid (e1 = 0 → B ≠ 0 → m2 = n0 ∧ xs2[i]? = some (si : Int) ∧ (i + 1 < n0 → xs2[i + 1]? = some (sj : Int)) ∧ (¬ i + 1 < n0 → len1 = (sj : Int)) ∧ si ≤ sj ∧ sj ≤ 8192 ∧ sj ≤ si + 3 + (gam q).length + 1 ∧ q ≤ 100))
    (HGc : Hid (∀ V, Below w.heap.size w V → Calls Tryz.prog 40 #[.agg #[.slice A0 n0 c0]] V fun e w' => e = .returned (.int .i64 0) ∧ Below V.heap.size V w'))
    (HWr : Hid (∀ A c V, RdG V V.heap.size A (R0.set i r1) → Calls Tryz.prog 30 #[.agg #[.slice A n0 c], .agg #[.int .i64 B, .int .i64 ls, .int .i64 k]] V (PwP V N1 B1 ls1 k1 len1 n1 bs1 e1)))
    (HTl : Hid (∀ A c V, RdG V V.heap.size A (R0.set i r1) → Calls Tryz.prog 32 #[.agg #[.slice A n0 c], .agg #[.int .i64 B, .int .i64 ls, .int .i64 k]] V (PtP V m1 xs1 m2 xs2 e1))) :
    Calls Tryz.prog 13 #[.agg #[.slice A0 n0 c0], .agg #[.int .i64 B, .int .i64 ls, .int .i64 k], .int .i64 (i : Int)] w fun e w' => e = .returned (.bool true) ∧ Below w.heap.size w w' := by
  obtain ⟨i0, hi0, hz0, hz1, hz2⟩ := info_parts info_rowLs
  obtain ⟨w1, ew1, hI⟩ := twi_at w A0 n0 c0 B ls k
  have HI1 := Lib.hid hI
  have HG := Lib.hid hG
  have HN : Hid (R0.length = n0 ∧ n0 ≤ 100 ∧ i = j + 1 ∧ i < n0 ∧ R0[j]? = some r1) := ⟨hR0, hn0, hi1, hi2, hr1⟩
  have t2 : ¬ (i : Int) < 1 := by omega
  have t3 : ¬ (n0 : Int) ≤ (i : Int) := by omega
  have HQ := Lib.hid hq
  clear hI hG hR0 hr1 hi1 hq
  go_enter Tryz.func13, Tryz.ntmps13
  go_wp2_with fail
  try rw [ew1]
  refine (HBg.out w1).mono ?_
  rintro e w2 ⟨rfl, q2⟩
  have HI2 := Lib.hid (HI1.out.on q2)
  have k0 := box_cell HI2.out.2.1
  clear q2 ew1 HI1
  go_wp2_with fail
  refine (HGc.out w2 HI2.out.1).mono ?_
  rintro e w3 ⟨rfl, q3⟩
  have HI3 := Lib.hid (HI2.out.on q3)
  have k3 := box_cell HI3.out.2.1
  clear q3 k0 HI2
  obtain ⟨W4, hW4⟩ : ∃ W4, w3.alloc (.cells #[] 22) = W4 := ⟨_, rfl⟩
  have hb4 : Below w3.heap.size w3 W4 := by { rw [← hW4]; exact one_below w3 _ }
  have hI4 := HI3.out.on hb4
  have k4 := box_cell hI4.2.1
  have own0 : W4.ownsRow w3.heap.size 22 1 (.slice (some ⟨w3.heap.size, 0, none⟩) 0 0) 0 [] := by
    rw [← hW4]
    exact World.ownsRow_lit (e := 22) (size := 1) w3 #[] 0 (Nat.le_refl _) (by unfold maxLen; omega) rfl
  obtain ⟨ba, oa, rfl, hba, hcell⟩ : ∃ ba oa, A0 = some ⟨ba, oa, none⟩ ∧ ba < w.heap.size ∧ ∀ j v, (rcl R0)[j]? = some v → w.cell? ⟨ba, oa + j, none⟩ = some v := by
    rcases HG.out.1 with h | h
    · have := congrArg List.length h; rw [rcl_length, HN.out.1] at this; have h2 : n0 = 0 := this; omega
    · exact h
  have HC0 := Lib.hid hcell
  have hnews : ∀ j u, (rcl R0)[j]? = some u → W4.cell? ((⟨ba, oa, none⟩ : Addr).add j) = some u := fun j u hj => by
    rw [add_plU]
    exact (hI4.1.cell (p := ⟨ba, oa + j, none⟩) hba).trans (hcell j u hj)
  have hrl : (rcl R0).length = n0 * 1 := by rw [rcl_length, HN.out.1, Nat.mul_one]
  have hone : ∀ u ∈ rcl R0, u.oneCell' = true := fun u hu => by
    obtain ⟨r, -, rfl⟩ := List.mem_map.1 hu
    rfl
  have HI4 := Lib.hid hI4
  have HB4 := Lib.hid hb4
  clear hcell hI4 hb4
  go_wp2_with (at_builtin; refine wpList_append_own_at _ rfl _ _ 50 rfl w3.heap.size 22 i0 (.slice none 0 0) 1 24 Tryz.underlying50 hi0 hz0 hz1 hz2 rfl (by decide) _ 0 [] rfl own0 ⟨ba, oa, none⟩ n0 c0 (rcl R0) rfl hrl hnews hone (by unfold maxLen; omega) (by omega) HB4.out.size ?_; intro v' Y hown' hgrow hnil hloc; clear hnil hloc; have hbY : Below w3.heap.size w3 Y := HB4.out.grown hgrow HB4.out.size (fun k hk => by { cases hk; exact Nat.le_refl _ }); rw [Nat.zero_add, List.nil_append] at hown'; obtain ⟨g, c', rfl, hg, hcY⟩ := own_at hown' (by omega))
  obtain ⟨W5, hW5⟩ : ∃ W5, Y.alloc (.cells #[.slice (some ⟨g, 0, none⟩) n0 c'] 52) = W5 := ⟨_, rfl⟩
  have hb5 : Below Y.heap.size Y W5 := by { rw [← hW5]; exact one_below Y _ }
  have hI5 := HI3.out.on (hbY.trans (hb5.mono hbY.size))
  have own5 : W5.ownsRow w3.heap.size 22 1 (.slice (some ⟨g, 0, none⟩) n0 c') n0 (rcl R0) := by { rw [← hW5]; exact hown'.alloc _ }
  have hx5 : W5.heap[Y.heap.size]? = some (.cells #[.slice (some ⟨g, 0, none⟩) n0 c'] 52 (0, 0)) := by { rw [← hW5]; exact World.alloc_heap_new Y _ }
  obtain ⟨tb, htb⟩ : ∃ tb, Y.heap.size = tb := ⟨_, rfl⟩
  have hgt : g < tb := by
    rw [← htb]
    rcases hown'.2 with ⟨q, -⟩ | ⟨g', _, cur, q1, q2, q3, -⟩
    · cases q
    · cases q1; exact (Array.getElem?_eq_some_iff.1 q3).1
  rw [htb] at hx5
  try rw [htb]
  try rw [hW5]
  clear hW5 hb5 hgrow hown' hnews htb
  obtain ⟨W6, own6, hW6, hb6, y4, y5⟩ : ∃ W6, W6.ownsRow w3.heap.size 22 1 (.slice (some ⟨g, 0, none⟩) n0 c') n0 (rcl (R0.set i r1)) ∧ W5.setCell ⟨g, i, none⟩ (.slice r1.1 r1.2.2.length r1.2.1) = W6 ∧ (∀ k, k ≠ g → W6.heap[k]? = W5.heap[k]?) ∧ (∃ z, W5.cell? ⟨g, i, none⟩ = some z) ∧ W5.frozen? ⟨g, i, none⟩ = false := by
    refine ⟨_, ?_, rfl, fun k hk => Below.heap_setCell W5 ⟨g, i, none⟩ _ k hk, ⟨sl (R0[i]?.getD (none, 0, [])), ?_⟩, ?_⟩
    · have := (own5.stored i (.slice r1.1 r1.2.2.length r1.2.1)).1
      rw [show (rcl R0).set i (.slice r1.1 r1.2.2.length r1.2.1) = rcl (R0.set i r1) by simp [rcl, List.map_set, sl]] at this
      exact this
    · rw [own5.cellAt i (by omega), rcl_get R0 i (by rw [HN.out.1]; exact hi2)]
    · rcases own5.2 with ⟨q, -⟩ | ⟨g', _, cur, q1, q2, q3, -⟩
      · cases q
      · cases q1; exact frz_at q3 i
  obtain ⟨z, y4⟩ := y4
  have y1 := box_cell hx5
  have y2 := box_cell hI5.2.1
  have y3 : W5.cell? ⟨ba, oa + j, none⟩ = some (.slice r1.1 r1.2.2.length r1.2.1) := (hI5.1.cell (p := ⟨ba, oa + j, none⟩) hba).trans (HC0.out j _ (by rw [rcl_get R0 j (by rw [HN.out.1]; have := HN.out.2.2.1; omega), HN.out.2.2.2.2]; rfl))
  have t5 : wrap64 ((i : Int) - 1) = (j : Int) := by { have hi1 := HN.out.2.2.1; rw [hi1]; unfold wrap64; omega }
  have hgw : g ≠ w.heap.size ∧ g ≠ ba ∧ g ≠ tb := by
    have h1 := (Array.getElem?_eq_some_iff.1 HI3.out.2.1).1
    omega
  have z1 : W6.cell? ⟨tb, 0, none⟩ = some (.slice (some ⟨g, 0, none⟩) n0 c') := (World.cell?_of_block (w := W5) (a := ⟨tb, 0, none⟩) (hb6 tb (Ne.symm hgw.2.2))).trans y1
  have z2 : W6.cell? ⟨w.heap.size, 0, none⟩ = some (.slice (some ⟨ba, oa, none⟩) n0 c0) := (World.cell?_of_block (w := W5) (a := ⟨w.heap.size, 0, none⟩) (hb6 _ (Ne.symm hgw.1))).trans y2
  have z3 : W6.cell? ⟨ba, oa + j, none⟩ = some (.slice r1.1 r1.2.2.length r1.2.1) := (World.cell?_of_block (w := W5) (a := ⟨ba, oa + j, none⟩) (hb6 _ (Ne.symm hgw.2.1))).trans y3
  have HS5 : Hid (W5.cell? ⟨tb, 0, none⟩ = some (.slice (some ⟨g, 0, none⟩) n0 c') ∧ W5.cell? ⟨w.heap.size, 0, none⟩ = some (.slice (some ⟨ba, oa, none⟩) n0 c0) ∧ W5.cell? ⟨ba, oa + j, none⟩ = some (.slice r1.1 r1.2.2.length r1.2.1)) := ⟨y1, y2, y3⟩
  have HS6 : Hid (W6.cell? ⟨tb, 0, none⟩ = some (.slice (some ⟨g, 0, none⟩) n0 c') ∧ W6.cell? ⟨w.heap.size, 0, none⟩ = some (.slice (some ⟨ba, oa, none⟩) n0 c0) ∧ W6.cell? ⟨ba, oa + j, none⟩ = some (.slice r1.1 r1.2.2.length r1.2.1)) := ⟨z1, z2, z3⟩
  have hj2 : j < n0 := by { have := HN.out.2.2.1; omega }
  have hi3 : i < n0 := hi2
  have hbw6 : Below w.heap.size w W6 := by { rw [← hW6]; exact hI5.1.setCell (p := ⟨g, i, none⟩) (Nat.le_trans HI3.out.1.size hg) _ }
  have HT6 : Hid (TwS w W6 (some ⟨ba, oa, none⟩) n0 c0 B ls k tb (some ⟨g, 0, none⟩) n0 c' (R0.set i r1)) :=
    ⟨⟨hbw6, (hb6 _ (Ne.symm hgw.1)).trans hI5.2.1, (hb6 _ (by have h1 := (Array.getElem?_eq_some_iff.1 HI3.out.2.2).1; omega)).trans hI5.2.2⟩, (hb6 _ (Ne.symm hgw.2.2)).trans hx5,
      rdg_set i r1 (List.mem_of_getElem? HN.out.2.2.2.2) (HG.out.on hbw6).2 (own_rdvTw own6)⟩
  have hcg : W6.cell? ⟨g, i, none⟩ = some (.slice r1.1 r1.2.2.length r1.2.1) := by
    rw [own6.cellAt i (by omega), rcl_get (R0.set i r1) i (by rw [List.length_set, HN.out.1]; exact hi2)]
    simp [sl, HN.out.1, hi2]
  have HCg := Lib.hid hcg
  have hgl : g < W6.heap.size := by
    rcases own6.2 with ⟨q, -⟩ | ⟨g', _, cur, q1, q2, q3, -⟩
    · cases q
    · cases q1; exact (Array.getElem?_eq_some_iff.1 q3).1
  have HGl := Lib.hid hgl
  clear hcg hgl
  have HO6 := Lib.hid own6
  have HB6 := Lib.hid hb6
  have HY := Lib.hid hbY
  have HI5 := Lib.hid hI5
  have HGT := Lib.hid (show g < tb ∧ w3.heap.size ≤ g ∧ g ≠ w.heap.size ∧ g ≠ ba ∧ g ≠ tb from ⟨hgt, hg, hgw⟩)
  have t6 : IntKind.i64.wrap ((i : Int) - 1) = (j : Int) := by rw [IntKind.wrap_i64]; unfold wrap64 at t5; exact t5
  have u1 : (0 : Int) ≤ (j : Int) := by omega
  have u2 : (j : Int) < (n0 : Int) := by omega
  have u3 : (0 : Int) ≤ (i : Int) := by omega
  have u4 : (i : Int) < (n0 : Int) := by omega
  have u5 : (j : Int) ≤ (n0 : Int) := by omega
  have u6 : (i : Int) ≤ (n0 : Int) := by omega
  clear hi2 t2 t3
  clear own5 own6 hb6 hbY hI5 y1 y2 y3 z1 z2 z3 hgw hgt hg k3 k4 own0 HB4 HI4
  go_region_held3 (fun V => V.cell? ⟨tb, 0, none⟩ = some (.slice (some ⟨g, 0, none⟩) n0 c') ∧ V.cell? ⟨w.heap.size, 0, none⟩ = some (.slice (some ⟨ba, oa, none⟩) n0 c0) ∧ V.cell? ⟨ba, oa + j, none⟩ = some (.slice r1.1 r1.2.2.length r1.2.1))
    ((first | exact HS5.out | exact HS6.out | (trace_state; fail)))
    (fail)
  have HT7 : Hid (TwS w W6.drew (some ⟨ba, oa, none⟩) n0 c0 B ls k tb (some ⟨g, 0, none⟩) n0 c' (R0.set i r1)) := ⟨⟨HT6.out.1.1.drew, HT6.out.1.2.1, HT6.out.1.2.2⟩, HT6.out.2.1, HT6.out.2.2⟩
  obtain ⟨X0, hX0⟩ : ∃ X0, W6.drew = X0 := ⟨_, rfl⟩
  have HCg7 : Hid (X0.cell? ⟨g, i, none⟩ = some (.slice r1.1 r1.2.2.length r1.2.1) ∧ g < X0.heap.size) := by { rw [← hX0]; exact ⟨HCg.out, HGl.out⟩ }
  rw [hX0] at HT7 ⊢
  have y1 := box_cell HT7.out.2.1
  obtain ⟨x1, x2, x3⟩ := how_at HT7.out.1.2.2
  clear hX0 hW6 y4 y5 t5 t6 u5 u6 HT6 HS5 HS6 HO6 HB6 HY HI5 HC0 HI3 HBg HGc hW4
  go_wp2_with fail
  refine (HWr.out _ _ X0 HT7.out.2.2).mono ?_
  rintro e w8 ⟨A8, c8, rfl, r8, q8⟩
  obtain ⟨X8, hX8, hth8, hx8, hbX8, hzX8⟩ := pd_new w8 [.int .i64 N1, .int .i64 B1, .int .i64 ls1, .int .i64 k1, .int .i64 len1, .slice A8 n1 c8] rfl
  have HT8 := Lib.hid (HT7.out.on (q8.trans (hbX8.mono q8.size)))
  have HP8 := Lib.hid hx8
  clear y1 x1 x2 x3
  have y1 := box_cell HT8.out.2.1
  obtain ⟨x1, x2, x3⟩ := how_at HT8.out.1.2.2
  have HCg8 : Hid (X8.cell? ⟨g, i, none⟩ = some (.slice r1.1 r1.2.2.length r1.2.1) ∧ g < X8.heap.size) := by { have hb := q8.trans (hbX8.mono q8.size); exact ⟨(hb.cell (p := ⟨g, i, none⟩) HCg7.out.2).trans HCg7.out.1, Nat.lt_of_lt_of_le HCg7.out.2 hb.size⟩ }
  clear q8 r8 hx8 hbX8 hzX8 HT7 HCg7 HCg HGl
  go_wp2_with (refine wpList_store_mid rfl 54 _ _ rfl w8.heap.size 0 #[.int .i64 N1, .int .i64 B1, .int .i64 ls1, .int .i64 k1, .int .i64 len1, .slice A8 n1 c8] rfl rfl hth8 info_pd (by simp [Value.oneCell']) ?_; rw [hX8]; clear hX8 hth8)
  refine (HTl.out _ _ X8 HT8.out.2.2).mono ?_
  rintro e w9 ⟨A4, c4, A5, c5, rfl, r4, r5, q9⟩
  have HT9 := Lib.hid (HT8.out.on q9)
  have HP9 : Hid (w9.heap[w8.heap.size]? = some (.cells #[.int .i64 N1, .int .i64 B1, .int .i64 ls1, .int .i64 k1, .int .i64 len1, .slice A8 n1 c8] 54 (0, 0))) := (q9.block _ (Array.getElem?_eq_some_iff.1 HP8.out).1).trans HP8.out
  have HS9 := Lib.hid r5
  have HCg9 : Hid (w9.cell? ⟨g, i, none⟩ = some (.slice r1.1 r1.2.2.length r1.2.1) ∧ g < w9.heap.size) := ⟨(q9.cell (p := ⟨g, i, none⟩) HCg8.out.2).trans HCg8.out.1, Nat.lt_of_lt_of_le HCg8.out.2 q9.size⟩
  clear r4 r5 q9 y1 x1 x2 x3 HT8 HP8 HTl HWr
  have HF9 := Lib.hid HT9.out.1.1
  by_cases h1 : e1 = 0
  · subst h1
    have x1 := (how_at HT9.out.1.2.2).1
    by_cases h2 : B = 0
    · subst h2
      go_wp2
      go_ret
      exact ⟨rfl, HF9.out⟩
    · have t7 : (B == 0) = false := by simpa using h2
      have hE := HE0.out rfl h2
      obtain ⟨rfl, hsi, hsj, hlen, hle, hmax, hbd, hq100⟩ := hE
      have x4 : w9.cell? ⟨w8.heap.size, 4, none⟩ = some (.int .i64 len1) := (cell_at HP9.out 4).trans rfl
      obtain ⟨b5, o5, rfl, l5, m5⟩ := HS9.out.at_ (i := i) (v := .int .i64 (si : Int)) (by unfold zc; rw [List.getElem?_map, hsi]; rfl)
      have t8 : IntKind.i64.wrap ((i : Int) + 1) = (i : Int) + 1 := by rw [IntKind.wrap_i64]; omega
      have HE := Lib.hid (⟨hle, hmax, hbd, hq100⟩ : si ≤ sj ∧ sj ≤ 8192 ∧ sj ≤ si + 3 + (gam q).length + 1 ∧ q ≤ 100)
      have HM5 := Lib.hid (⟨l5, m5⟩ : b5 < w9.heap.size ∧ w9.cell? ⟨b5, o5 + i, none⟩ = some (.int .i64 (si : Int)))
      have t9 : ¬ (i : Int) + 1 < 0 := by omega
      have t10 : (0 : Int) ≤ (i : Int) + 1 := by omega
      have hglb : (gam q).length ≤ 100 := by
        rw [gam_length]
        have : lg q ≤ 20 := by
          rcases Nat.lt_or_ge 20 (lg q) with h | h
          · have h2 := lg_le q
            have h3 : 2 ^ 21 ≤ 2 ^ lg q := Nat.pow_le_pow_right (by decide) h
            omega
          · exact h
        omega
      obtain ⟨gl, hgl2⟩ : ∃ gl, (gam q).length = gl := ⟨_, rfl⟩
      have HG1 : Hid (∀ V, Calls Tryz.prog 28 #[.int .u64 1] V fun e w' => (∃ A c, e = .returned (.slice A 3 c)) ∧ Below V.heap.size V w') := fun V => (gammaList_any 1 (by omega) _ rfl V).mono fun e w' h => by { obtain ⟨A, c, h1, h2, h3⟩ := h; exact ⟨⟨A, c, h1⟩, h3⟩ }
      have HG2 : Hid (∀ V, Calls Tryz.prog 28 #[.int .u64 (q : Int)] V fun e w' => (∃ A c, e = .returned (.slice A gl c)) ∧ Below V.heap.size V w') := fun V => (gammaList_any q (by omega) _ rfl V).mono fun e w' h => by { obtain ⟨A, c, h1, h2, h3⟩ := h; rw [hgl2] at h1; exact ⟨⟨A, c, h1⟩, h3⟩ }
      obtain ⟨d, hd⟩ : ∃ d : Nat, sj - si = d := ⟨_, rfl⟩
      have v1 : IntKind.i64.wrap ((sj : Int) - (si : Int)) = (d : Int) := by rw [IntKind.wrap_i64]; omega
      have v2 : IntKind.i64.wrap (3 + (gl : Int)) = 3 + (gl : Int) := by rw [IntKind.wrap_i64]; omega
      have v3 : IntKind.i64.wrap (3 + (gl : Int) + 1) = 3 + (gl : Int) + 1 := by rw [IntKind.wrap_i64]; omega
      have v4 : (d : Int) ≤ 3 + (gl : Int) + 1 := by omega
      have v0 : IntKind.i64.wrap (q : Int) = (q : Int) := by rw [IntKind.wrap_i64]; omega
      have v5 : IntKind.u64.wrap (q : Int) = (q : Int) := by have := u64_i64 q (by omega); rw [v0] at this; exact this
      clear v0
      have HK : Hid (∀ V, Below w9.heap.size w9 V → V.cell? ⟨b5, o5 + i, none⟩ = some (.int .i64 (si : Int)) ∧ V.cell? ⟨tb, 0, none⟩ = some (.slice (some ⟨g, 0, none⟩) m2 c') ∧ V.cell? ⟨g, i, none⟩ = some (.slice r1.1 q r1.2.1)) := fun V hV =>
        ⟨(hV.cell (p := ⟨b5, o5 + i, none⟩) HM5.out.1).trans HM5.out.2, box_cell (HT9.out.on hV).2.1, by rw [← HQ.out]; exact (hV.cell (p := ⟨g, i, none⟩) HCg9.out.2).trans HCg9.out.1⟩
      have HD9 : Hid (Below w9.heap.size w9 w9.drew) := (Below.refl _ _).drew
      clear h2 hle hmax hbd hq100 l5 m5 hsi hglb hgl2 hd
      by_cases hlt : i + 1 < m2
      · have m6 : w9.cell? ⟨b5, o5 + (i + 1), none⟩ = some (.int .i64 (sj : Int)) := by
          obtain ⟨b6, o6, ex, -, m6⟩ := HS9.out.at_ (i := i + 1) (v := .int .i64 (sj : Int)) (by unfold zc; rw [List.getElem?_map, hsj hlt]; rfl)
          injection ex with ex; injection ex with ea eb ec
          subst ea; subst eb
          exact m6
        have t11 : (i : Int) + 1 < (m2 : Int) := by omega
        have t12 : ((i : Int) + 1).toNat = i + 1 := by omega
        clear hsj hlen hlt
        go_wp2
        go_region_held3 (fun V => V.cell? ⟨b5, o5 + i, none⟩ = some (.int .i64 (si : Int)) ∧ V.cell? ⟨tb, 0, none⟩ = some (.slice (some ⟨g, 0, none⟩) m2 c') ∧ V.cell? ⟨g, i, none⟩ = some (.slice r1.1 q r1.2.1))
          ((first | exact HK.out _ HX2.out | exact HK.out _ HX1.out | exact HK.out _ HD9.out))
          ((first
            | (have hx := HX1.out; go_at_call 28; refine (HG2.out _).mono ?_; rintro e wg2 ⟨⟨Ag2, cg2, rfl⟩, bq⟩; have HX2 : Hid (Below w9.heap.size w9 wg2) := HX1.out.trans (bq.mono HX1.out.size); clear bq hx)
            | (go_at_call 28; refine (HG1.out _).mono ?_; rintro e wg1 ⟨⟨Ag1, cg1, rfl⟩, bq⟩; have HX1 : Hid (Below w9.heap.size w9 wg1) := HD9.out.trans (bq.mono HD9.out.size); clear bq)))
        all_goals (
          have HFin := Lib.hid (HF9.out.trans (HX2.out.mono HF9.out.size))
          go_wp2
          go_ret
          exact ⟨by first | rfl | (simp; done) | (simp; omega), HFin.out⟩)
      · have t11 : ¬ (i : Int) + 1 < (m2 : Int) := by omega
        obtain rfl := hlen hlt
        clear hsj hlt
        go_wp2
        go_region_held3 (fun V => V.cell? ⟨b5, o5 + i, none⟩ = some (.int .i64 (si : Int)) ∧ V.cell? ⟨tb, 0, none⟩ = some (.slice (some ⟨g, 0, none⟩) m2 c') ∧ V.cell? ⟨g, i, none⟩ = some (.slice r1.1 q r1.2.1))
          ((first | exact HK.out _ HX2.out | exact HK.out _ HX1.out | exact HK.out _ HD9.out))
          ((first
            | (have hx := HX1.out; go_at_call 28; refine (HG2.out _).mono ?_; rintro e wg2 ⟨⟨Ag2, cg2, rfl⟩, bq⟩; have HX2 : Hid (Below w9.heap.size w9 wg2) := HX1.out.trans (bq.mono HX1.out.size); clear bq hx)
            | (go_at_call 28; refine (HG1.out _).mono ?_; rintro e wg1 ⟨⟨Ag1, cg1, rfl⟩, bq⟩; have HX1 : Hid (Below w9.heap.size w9 wg1) := HD9.out.trans (bq.mono HD9.out.size); clear bq)))
        all_goals (
          have HFin := Lib.hid (HF9.out.trans (HX2.out.mono HF9.out.size))
          go_wp2
          go_ret
          exact ⟨by first | rfl | (simp; done) | (simp; omega), HFin.out⟩)
  · have t7 : (e1 != 0) = true := by simpa using h1
    clear h1
    go_wp2
    go_ret
    exact ⟨rfl, HF9.out⟩
end

section
open Go.ChangeShapes Go.WideShapes Go.ChangeAt Go.RowKit Go.Joins

theorem cells3i : Tryz.prog.cellsOf 3 = 1 := by kernel_rfl
end

section
open Go.ChangeShapes Go.WideShapes Go.ChangeAt Go.RowKit Go.Joins Go.Deep

theorem cellsG : Tryz.prog.cellsOf 52 = 1 := by kernel_rfl
theorem cellsL1 : Tryz.prog.cellsOf 22 = 1 := by kernel_rfl
theorem cellsL2 : Tryz.prog.cellsOf 50 = 1 := by kernel_rfl
theorem bytesL1 : Tryz.prog.bytesOf 22 = 24 := by kernel_rfl
theorem bytesI1 : Tryz.prog.bytesOf 3 = 8 := by kernel_rfl
theorem weightsAll_mem {H : Type} {P : Program} {e : TypeId} {n : Nat} : ∀ {l : List (DataW H)} {d : DataW H}, d ∈ l → n ∈ d.weights P e → n ∈ DataW.weightsAll P e l
  | x :: t, d, hd, hn => by
    simp only [DataW.weightsAll, List.mem_append]
    rcases List.mem_cons.1 hd with rfl | h
    · exact .inl hn
    · exact .inr (weightsAll_mem h hn)
theorem add_plG (b off k : Nat) : (⟨b, off, none⟩ : Addr).add k = ⟨b, off + k, none⟩ := by unfold Addr.add; split <;> simp_all
theorem zc_mem {l : List Int} {i : Nat} {v : Value} (h : (zc l)[i]? = some v) : ∃ hi : i < l.length, v = .int .i64 l[i] := by
  unfold zc at h
  rw [List.getElem?_map] at h
  obtain ⟨x, hx, rfl⟩ := Option.map_eq_some_iff.1 h
  obtain ⟨hi, rfl⟩ := List.getElem?_eq_some_iff.1 hx
  exact ⟨hi, rfl⟩
end

section
set_option linter.unusedVariables false
open Go.ChangeShapes Go.WideShapes Go.ChangeAt Go.RowKit Go.Joins Go.Shelf

theorem cellsHow : Tryz.prog.cellsOf 24 = 3 := by kernel_rfl
set_option maxRecDepth 100000 in
/-- A way to tell lists that was handed in. -/
theorem open_how {H : Type} {enc : TypeId × Value → H} {W : World} {base : Nat} {v : Value} {d : DataW H} {p : List MemPlace}
    (hv : Value.okWide Tryz.prog W .any base 24 v) (h : DataW.Trod enc Tryz.prog W 0 (fun _ => true) true 24 v d p) :
    ∃ (b s k : Int), v = .agg #[.int .i64 b, .int .i64 s, .int .i64 k] ∧ (-9223372036854775808 ≤ b ∧ b ≤ 9223372036854775807) ∧ (-9223372036854775808 ≤ s ∧ s ≤ 9223372036854775807) ∧ (-9223372036854775808 ≤ k ∧ k ≤ 9223372036854775807) := by
  obtain ⟨c0, c1, c2, y0, y1, y2, m, rfl, rfl, rfl, hy0, hy1, hy2⟩ := open_agg3 Tryz.underlying24 (by kernel_rfl) cellsHow hv h
  obtain ⟨a, e0, _, wa⟩ := DataW.trod_int Tryz.underlying3 hy0
  obtain ⟨b, e1, _, wb⟩ := DataW.trod_int Tryz.underlying3 hy1
  obtain ⟨c, e2, _, wc⟩ := DataW.trod_int Tryz.underlying3 hy2
  simp at e0 e1 e2
  subst e0; subst e1; subst e2
  exact ⟨a, b, c, rfl, bounds_i64 wa, bounds_i64 wb, bounds_i64 wc⟩
end

section
open Go.ChangeShapes Go.WideShapes Go.ChangeAt Go.RowKit Go.Joins Go.Deep

set_option maxRecDepth 100000 in
/-- A graph that was handed in. -/
theorem open_graphC {H : Type} {enc : TypeId × Value → H} {W : World} {base : Nat} {v : Value} {d : DataW H} {p : List MemPlace}
    (hv : Value.okWide Tryz.prog W .any base 52 v) (h : DataW.Trod enc Tryz.prog W 0 (fun _ => true) true 52 v d p)
    (hz : ∀ n ∈ d.weights Tryz.prog 52, n ≤ reachBytes) :
    ∃ (A : Option Addr) (c : Nat) (R : List Rw), v = .agg #[.slice A R.length c] ∧ RdG W W.heap.size A R ∧ R.length ≤ 140737488355328 ∧ ∀ r ∈ R, r.2.2.length ≤ r.2.1 := by
  obtain ⟨cs, rfl, hsz⟩ := okWide_struct Tryz.underlying52 hv
  obtain ⟨c0, rfl⟩ := Array.size_eq_one_iff.1 (hsz.trans cellsG)
  obtain ⟨fuel, hf⟩ := h
  obtain ⟨y0, n, hx, _, h0⟩ := trod_struct1 Tryz.underlying52 hf
  simp only [Prod.mk.injEq] at hx
  obtain ⟨rfl, rfl⟩ := hx
  simp [Value.cells, cellsL2] at h0
  have hz0 : ∀ n ∈ y0.1.weights Tryz.prog 50, n ≤ reachBytes := fun n hn => hz n (by
    unfold DataW.weights
    rw [Tryz.underlying52]
    simp only [List.map_cons, List.map_nil, DataW.weightsEach, List.append_nil]
    exact hn)
  have hrb := reachBytes_lt
  rcases open_int_rows Tryz.underlying50 Tryz.underlying22 Tryz.underlying3 cellsL1 cells3i h0 with ⟨hcs, _⟩ | ⟨a, len, cap, A, L, C, Z, hcs, _, hl, hm, hx, hrow⟩
  · simp at hcs
    subst hcs
    exact ⟨none, 0, [], rfl, ⟨.inl rfl, fun r hr => by simp at hr⟩, by simp, by simp⟩
  · simp at hcs
    subst hcs
    rw [hx] at hz0
    have hlen : (len + (cap - len)) * 24 ≤ reachBytes := hz0 _ (by
      simp only [DataW.weights, Tryz.underlying50, List.length_map, List.length_range, bytesL1]
      exact List.mem_cons_self)
    have hrl : ∀ r, r < len → L r ≤ 140737488355328 := fun r hr => by
      obtain ⟨_, q1, q2, q3, _, q5, _⟩ := hrow r (by omega)
      cases hA : A r with
      | none => rw [q5 hA] at q1; omega
      | some a' =>
        have := hz0 (((Z r).take (L r)).length * 8 + ((Z r).drop (L r)).length * 8) (by
          simp only [DataW.weights, Tryz.underlying50, List.length_map, List.length_range, bytesL1]
          refine List.mem_cons_of_mem _ (List.mem_append.2 (.inl (weightsAll_mem (List.mem_map.2 ⟨r, List.mem_range.2 hr, rfl⟩) ?_)))
          unfold intRow
          rw [hA]
          simp only [DataW.weights, Tryz.underlying22, bytesI1, lits, List.length_map]
          refine List.mem_cons.2 (.inl ?_)
          omega)
        rw [List.length_take] at this
        omega
    refine ⟨some a, cap, (List.range len).map fun r => (A r, C r, (Z r).take (L r)), by simp, ⟨?_, ?_⟩, by simp; omega, fun r hr => by { obtain ⟨i, hi, rfl⟩ := List.mem_map.1 hr; have hil := List.mem_range.1 hi; obtain ⟨q0, q1, q2, q3, q4, q5, q6⟩ := hrow i (by omega); simp only [List.length_take]; omega }⟩
    · rcases Nat.eq_zero_or_pos len with h0 | h0
      · left; rw [h0]; rfl
      · obtain ⟨b, off, spot⟩ := a
        have hspot : spot = none := by simpa [Addr.add] using World.cell?_spot (hrow 0 (by omega)).1
        subst hspot
        refine .inr ⟨b, off, rfl, ?_, fun i v hi => ?_⟩
        · have := (hrow 0 (by omega)).1
          exact lt_of_cell (p := ⟨b, off + 0, none⟩) (by rw [← add_plG]; exact this)
        · unfold rcl at hi
          rw [List.getElem?_map, List.getElem?_map] at hi
          obtain ⟨y, hy, rfl⟩ := Option.map_eq_some_iff.1 hi
          obtain ⟨j, hj, rfl⟩ := Option.map_eq_some_iff.1 hy
          obtain ⟨hil, rfl⟩ := List.getElem?_eq_some_iff.1 hj
          rw [List.length_range] at hil
          have := hrow i (by omega)
          rw [add_plG] at this
          simp only [List.getElem_range]
          unfold sl
          simp only [List.length_take]
          rw [this.1]
          have e : min (L i) (Z i).length = L i := by have q1 := this.2.1; have q2 := this.2.2.2.1; omega
          rw [e]
    · intro r hr
      obtain ⟨i, hi, rfl⟩ := List.mem_map.1 hr
      have hil := List.mem_range.1 hi
      obtain ⟨q0, q1, q2, q3, q4, q5, q6⟩ := hrow i (by omega)
      refine ⟨?_, by simp only [List.length_take]; have := hrl i hil; omega⟩
      simp only
      rcases Nat.eq_zero_or_pos (L i) with h0 | h0
      · left; rw [h0]; rfl
      · cases hA : A i with
        | none => rw [q5 hA] at q1; omega
        | some a' =>
          obtain ⟨_, q7⟩ := q6 a' hA
          obtain ⟨b, off, spot⟩ := a'
          have hspot : spot = none := by simpa [Addr.add] using World.cell?_spot (q7 0 (by omega))
          subst hspot
          refine .inr ⟨b, off, rfl, ?_, fun j v hj => ?_⟩
          · have := q7 0 (by omega)
            exact lt_of_cell (p := ⟨b, off + 0, none⟩) (by rw [← add_plG]; exact this)
          · obtain ⟨hjl, rfl⟩ := zc_mem hj
            have hjl2 : j < L i := by rw [List.length_take] at hjl; omega
            have := q7 j (by omega)
            rw [add_plG] at this
            rw [this]
            simp [List.getD_eq_getElem?_getD, List.getElem?_eq_getElem (show j < (Z i).length by omega)]
end

section
set_option maxRecDepth 100000
set_option linter.unusedVariables false
open Go.RowKit Go.Shelf

theorem nz_get (l : List Nat) (i x : Nat) (h : l[i]? = some x) : (ns l)[i]? = some (x : Int) := by unfold ns; rw [List.getElem?_map, h]; rfl
set_option maxHeartbeats 1000000 in
theorem packTwins_law (A0 : Option Addr) (c0 : Nat) (R0 : List Rw) (B ls k : Int) (node : Int) (w : World) (hG : RdG w w.heap.size A0 R0) (hn : R0.length ≤ 140737488355328) (hcap : ∀ r ∈ R0, r.2.2.length ≤ r.2.1) :
    Calls Tryz.prog 13 #[.agg #[.slice A0 R0.length c0], .agg #[.int .i64 B, .int .i64 ls, .int .i64 k], .int .i64 node] w fun e w' => e = .returned (.bool true) ∧ Below w.heap.size w w' := by
  have HBg : Hid (∀ V, Calls Tryz.prog 36 #[] V fun e w' => e = .returned (.bool true) ∧ Below V.heap.size V w') := fun V => packbegun_ok V
  have HGc : Hid (∀ V, Below w.heap.size w V → Calls Tryz.prog 40 #[.agg #[.slice A0 R0.length c0]] V fun e w' => e = .returned (.int .i64 (grE (gs R0))) ∧ Below V.heap.size V w') := fun V hV => refgchk_any R0 _ rfl hn A0 c0 V (hG.on hV)
  by_cases hno : grE (gs R0) ≠ 0 ∨ node < 1 ∨ (R0.length : Int) ≤ node
  · exact packtwins_no w A0 _ c0 B ls k node (grE (gs R0)) hno HBg HGc
  · have hE : grE (gs R0) = 0 := by
      by_cases q : grE (gs R0) = 0
      · exact q
      · exact absurd (Or.inl q) hno
    have h1 : ¬ node < 1 := fun q => hno (.inr (.inl q))
    have h2 : ¬ (R0.length : Int) ≤ node := fun q => hno (.inr (.inr q))
    clear hno
    obtain ⟨i, rfl⟩ := Int.eq_ofNat_of_zero_le (show 0 ≤ node by omega)
    obtain ⟨j, rfl⟩ : ∃ j, i = j + 1 := ⟨i - 1, by omega⟩
    have hi2 : j + 1 < R0.length := by omega
    rw [hE] at HGc
    obtain ⟨g, hg, hok⟩ := grE_zero _ hE
    have hgl : R0.length = g.length := by have := congrArg List.length hg; rw [gs_length, List.length_map] at this; exact this
    have hn100 : R0.length ≤ 100 := by rw [hgl]; exact hok.nodes
    obtain ⟨r1, hr1⟩ : ∃ r1, R0[j]? = some r1 := ⟨_, List.getElem?_eq_getElem (by omega)⟩
    have hrm : r1 ∈ R0 := List.mem_of_getElem? hr1
    have hcap2 := cap_set (j + 1) r1 hrm hcap
    have hl2 : (R0.set (j + 1) r1).length = R0.length := by simp
    -- a row of the graph
    have hq : r1.2.2.length ≤ 100 := by
      have hx : (gs R0)[j]? = some r1.2.2 := by unfold gs; rw [List.getElem?_map, hr1]; rfl
      rw [hg, List.getElem?_map] at hx
      obtain ⟨l, hl, hx⟩ := Option.map_eq_some_iff.1 hx
      rw [← hx, ns_length]
      exact Nat.le_trans (ris_few l g.length (hok.ris l (List.mem_of_getElem? hl)) (hok.bd l (List.mem_of_getElem? hl))) hok.nodes
    by_cases h0 : (if grE (gs (R0.set (j + 1) r1)) = 0 then hck B ls k else grE (gs (R0.set (j + 1) r1))) = 0
    · have hz : grE (gs (R0.set (j + 1) r1)) = 0 := by
        by_cases q : grE (gs (R0.set (j + 1) r1)) = 0
        · exact q
        · rw [if_neg q] at h0; exact absurd h0 q
      rw [if_pos hz] at h0
      obtain ⟨B', ls', k', rfl, rfl, rfl, hB, hls, hk, hk2⟩ := hck_nat h0
      obtain ⟨g2, hg2, hok2⟩ := grE_zero _ hz
      have hGr : GrR g2 (R0.set (j + 1) r1) := ⟨hok2, hg2, hcap2⟩
      by_cases hf : (pkB B' ls' k' g2 R0.length).length ≤ 8192
      · have HPk : ∀ A c V, RdG V V.heap.size A (R0.set (j + 1) r1) → Calls Tryz.prog 63 #[.agg #[.slice A R0.length c], .agg #[.int .i64 (B' : Int), .int .i64 (ls' : Int), .int .i64 (k' : Int)]] V (PaP V (R0.length : Int) (B' : Int) (ls' : Int) (k' : Int) ((pkB B' ls' k' g2 R0.length).length : Int) (pack (pkB B' ls' k' g2 R0.length)).length (pack (pkB B' ls' k' g2 R0.length)) R0.length (ns (pkA B' ls' k' g2 R0.length)) R0.length (ns (pkS B' ls' k' g2 R0.length)) 0) := fun A c V hV => (pack_ok hGr R0.length hl2 B' ls' k' hB hls hk hk2 A c V hV).mono fun e w' q => by
          unfold PakP at q
          rw [if_pos hf] at q
          exact q
        have hr2 : row g2 (j + 1) = row g2 j := by
          have e1 := hGr.row (j + 1)
          have e2 := hGr.row j
          rw [List.getElem?_set_self hi2] at e1
          rw [List.getElem?_set_ne (by omega), hr1] at e2
          exact ns_inj (e1.symm.trans e2)
        have hrq : (row g2 (j + 1)).length = r1.2.2.length := by
          have e1 := hGr.row (j + 1)
          rw [List.getElem?_set_self hi2] at e1
          have := congrArg List.length e1
          rw [ns_length] at this
          exact this.symm
        refine packtwins_w w A0 _ c0 R0 _ _ _ (j + 1) j r1 hG rfl hn100 rfl hi2 hr1 HBg (R0.length : Int) (B' : Int) (ls' : Int) (k' : Int) ((pkB B' ls' k' g2 R0.length).length : Int) _ (pack (pkB B' ls' k' g2 R0.length)) R0.length (ns (pkA B' ls' k' g2 R0.length)) R0.length (ns (pkS B' ls' k' g2 R0.length)) 0 (pkB B' ls' k' g2 (j + 1)).length (pkB B' ls' k' g2 (j + 1 + 1)).length r1.2.2.length rfl
          (Lib.hid fun _ hBn => ⟨rfl, nz_get _ _ _ (pkS_get hi2), fun q => nz_get _ _ _ (pkS_get q), fun q => ?_, pkB_le B' ls' k' g2 (by omega), Nat.le_trans (pkB_le B' ls' k' g2 (by omega)) hf, ?_, hq⟩) HGc
          (Lib.hid fun A c V hV => write_l R0.length _ _ _ A c _ _ _ _ _ _ _ R0.length _ R0.length _ 0 V (Lib.hid fun W hW => HPk A c W (hV.on hW)))
          (Lib.hid fun A c V hV => told_l R0.length _ _ _ A c _ _ _ _ _ _ _ R0.length _ R0.length _ 0 V (Lib.hid fun W hW => HPk A c W (hV.on hW)))
        · rw [show R0.length = j + 1 + 1 by omega]
        · rw [pkB_succ, List.length_append]
          have := tw_bst B' ls' k' g2 (j + 1) (by omega) (by simpa using hr2) (by omega)
          rw [hrq] at this
          omega
      · have HPk : ∀ A c V, RdG V V.heap.size A (R0.set (j + 1) r1) → Calls Tryz.prog 63 #[.agg #[.slice A R0.length c], .agg #[.int .i64 (B' : Int), .int .i64 (ls' : Int), .int .i64 (k' : Int)]] V (PaP V 0 0 0 0 0 0 [] 0 [] 0 [] 8) := fun A c V hV => (pack_ok hGr R0.length hl2 B' ls' k' hB hls hk hk2 A c V hV).mono fun e w' q => by
          unfold PakP at q
          rw [if_neg hf] at q
          exact ⟨none, 0, none, 0, none, 0, q.1, .inl rfl, .inl rfl, .inl rfl, q.2⟩
        exact packtwins_w w A0 _ c0 R0 _ _ _ (j + 1) j r1 hG rfl hn100 rfl hi2 hr1 HBg 0 0 0 0 0 0 [] 0 [] 0 [] 8 0 0 r1.2.2.length rfl (Lib.hid fun q => absurd q (by omega)) HGc
          (Lib.hid fun A c V hV => write_l R0.length _ _ _ A c _ _ _ _ _ _ _ 0 [] 0 [] 8 V (Lib.hid fun W hW => HPk A c W (hV.on hW)))
          (Lib.hid fun A c V hV => told_l R0.length _ _ _ A c 0 0 0 0 0 0 [] 0 [] 0 [] 8 V (Lib.hid fun W hW => HPk A c W (hV.on hW)))
    · obtain ⟨e0, he0⟩ : ∃ e0, (if grE (gs (R0.set (j + 1) r1)) = 0 then hck B ls k else grE (gs (R0.set (j + 1) r1))) = e0 := ⟨_, rfl⟩
      rw [he0] at h0
      have HPk : ∀ A c V, RdG V V.heap.size A (R0.set (j + 1) r1) → Calls Tryz.prog 63 #[.agg #[.slice A R0.length c], .agg #[.int .i64 B, .int .i64 ls, .int .i64 k]] V (PaP V 0 0 0 0 0 0 [] 0 [] 0 [] e0) := fun A c V hV => pack_e (R0.set (j + 1) r1) R0.length hl2 hn B ls k e0 he0 h0 A c V hV
      exact packtwins_w w A0 _ c0 R0 _ _ _ (j + 1) j r1 hG rfl hn100 rfl hi2 hr1 HBg 0 0 0 0 0 0 [] 0 [] 0 [] e0 0 0 r1.2.2.length rfl (Lib.hid fun q => absurd q h0) HGc
        (Lib.hid fun A c V hV => write_l R0.length _ _ _ A c _ _ _ _ _ _ _ 0 [] 0 [] e0 V (Lib.hid fun W hW => HPk A c W (hV.on hW)))
        (Lib.hid fun A c V hV => told_l R0.length _ _ _ A c 0 0 0 0 0 0 [] 0 [] 0 [] e0 V (Lib.hid fun W hW => HPk A c W (hV.on hW)))
end

section
open Go.ChangeShapes Go.WideShapes Go.ChangeAt Go.RowKit
open Go.ChangeMaps (open_string shut_string)

set_option linter.unusedVariables false
set_option maxRecDepth 100000 in
theorem packTwins_lifted (os : Os) (started : os.Started) (H : Type) (enc : TypeId × Value → H) :
    ReturnsInHanded {} Tryz.checked os 13 .any (Rows.packTwinsSpec.pre6 enc Tryz.prog Tryz.f13 Rows.packTwinsRow.domain false) (Rows.packTwinsSpec.post enc Tryz.prog Tryz.f13 false true false false) := by
  refine returnsInHanded_of_change_sized (C := Tryz.checked) own started (by kernel_rfl) Tryz.func13
    (ChangeSpec.witness6 (enc := enc) (C := Tryz.checked) false ⟨#[], #[.agg #[.slice none 0 0], .agg #[.int .i64 0, .int .i64 0, .int .i64 0], .int .i64 0], []⟩ 8 (by kernel_rfl) (by kernel_rfl) (by kernel_rfl) (by kernel_rfl)) ?_
  intro W base args ds gs before hval0 hW hcnd hzz _
  have hval : ∀ (j : Nat) t v, Tryz.f13.params[j]? = some t → args[j]? = some v → Value.okWide Tryz.prog W .any base t v := hval0
  have hW' := hW
  obtain ⟨p, q, hA0, hV, rfl, hfz, hnd⟩ := hW
  have hA : DataW.TrodAll enc Tryz.prog W 0 (fun _ => true) true Tryz.f13.params.toList args.toList ds p := hA0
  rw [Tryz.params13] at hA hval hzz
  obtain ⟨v0, vs0, d0, ds0, p0, q0, hargs, rfl, rfl, h0, r0⟩ := trodAll_cons hA
  obtain ⟨v1, vs1, d1, ds1, p1, q1, rfl, rfl, rfl, h1, r1⟩ := trodAll_cons r0
  obtain ⟨v2, vs2, d2, ds2, p2, q2, rfl, rfl, rfl, h2, r2⟩ := trodAll_cons r1
  obtain ⟨rfl, rfl, rfl⟩ := trodAll_nil r2
  obtain rfl : args = #[v0, v1, v2] := by cases args; simp_all
  obtain ⟨rfl, rfl⟩ := trodVars_none hV
  have k0 := h0
  have lt0 : ∀ x ∈ p0, x.block < W.heap.size := by obtain ⟨m, hm⟩ := k0; exact DataW.trod_lt m _ _ _ hm
  obtain ⟨A0, c0, R0, rfl, rd0, nn0, cp0⟩ := open_graphC (hval 0 52 v0 rfl rfl) h0 (fun n hn => of_decide_eq_true (List.all_eq_true.1 hzz n (DataW.weights_mem_each (j := 0) (t := 52) (d := d0) rfl rfl n hn)))
  have k1 := h1
  have lt1 : ∀ x ∈ p1, x.block < W.heap.size := by obtain ⟨m, hm⟩ := k1; exact DataW.trod_lt m _ _ _ hm
  obtain ⟨hb1, hs1, hk1, rfl, bb1, bs1, bk1⟩ := open_how (hval 1 24 v1 rfl rfl) h1
  obtain ⟨x2, rfl, rfl, rfl, wx2⟩ := open_int Tryz.underlying3 (hval 2 3 v2 rfl rfl) h2
  have bd2 := bounds_i64 wx2
  clear hA0 hval0
  refine (packTwins_law A0 c0 R0 hb1 hs1 hk1 x2 W rd0 nn0 cp0).mono fun e W' ⟨he, bel⟩ => ?_
  subst he
  exact ⟨_, rfl, _, _, _, [], _, [], hW', trodAll_mk1 (shut_bool Tryz.underlying4 _), (trodAll_cons_mk (Below.trod laidOut (by kernel_rfl) (of_decide_eq_true (by kernel_rfl)) k0 bel lt0) (trodAll_cons_mk (Below.trod laidOut (by kernel_rfl) (of_decide_eq_true (by kernel_rfl)) k1 bel lt1) (trodAll_cons_mk (shut_int Tryz.underlying3 wx2) trodAll_mk0))), rfl, bel.frame _, fun h => by cases h⟩

theorem PackTwins_holds : Rows.PackTwinsSaid :=
  OpenClaim.holds_of_wide 13 Tryz.f13 rfl rfl rfl rfl rfl rfl rfl ⟨rfl, rfl, rfl, rfl, rfl⟩ rfl rfl rfl rfl rfl (by kernel_rfl) Tryz.func13 (by kernel_rfl)
    (of_decide_eq_true (by kernel_rfl)) (by unfold Func.isWrapper; first | (rw [if_pos (by decide +kernel)]; kernel_rfl) | (rw [if_neg (by decide +kernel)]; exact ⟨rfl, rfl⟩))
    (fun os started H enc _ => packTwins_lifted os started H enc)
#print axioms PackTwins_holds
end
end Go.Proofs.YticdnodlapafoaaGreat
