/- Is an arc in a list. -/
import Derived.Test.YtffgmjfanpgbbaaWEnd
import Derived.Test.YtffgmjfanpgbbaaDJB
import Derived.Deep.RegionLaw
import Derived.Test.YtffgmjfanpgbbaaOpen
import Derived.Test.YtffgmjfanpgbbaaNMem
import Derived.Test.YtffgmjfanpgbbaaWChk
import Derived.Deep.Matrix
import Derived.Deep.SlicePairs
import Derived.SizedLaws
import Derived.Test.YtffgmjfanpgbbaaRN5
namespace Go.Proofs.Ytffgmjfanpgbbaa

section
set_option maxRecDepth 100000
set_option linter.unusedVariables false
open Go.RowKit Go.Shelf

theorem eqlA_run (a b c d : Int) (w : World) : (binOp .eql 65 (.agg #[.int .i64 a, .int .i64 b]) (.agg #[.int .i64 c, .int .i64 d])).run Try.prog w = .ok (.bool (a == c && b == d)) w := by
  have h60 := Try.underlying65
  have h3 := Try.underlying3
  by_cases h1 : a = c <;> by_cases h2 : b = d <;> simp [go_sem, h60, h3, h1, h2]
def HaRel (xs : List Ri) (z : Ri) (w : World) (p : Value) (wr : World) : Prop := ∃ i : Nat, i ≤ xs.length ∧ p = .int .i64 (i : Int) ∧ (∀ j, j < i → xs[j]?.getD (0, 0) ≠ z) ∧ Below w.heap.size w wr
set_option maxHeartbeats 1000000 in
theorem hasArc_any (xs : List Ri) (n : Nat) (hn : xs.length = n) (hn2 : n ≤ 1000000000) (z1 z2 : Int) (r : Bool) (hr : (r = true ∧ (z1, z2) ∈ xs) ∨ (r = false ∧ (z1, z2) ∉ xs)) (A : Option Addr) (c : Nat) (w : World) (h : RdV w w.heap.size A (rcs xs)) :
    Calls Try.prog 59 #[.slice A n c, .agg #[.int .i64 z1, .int .i64 z2]] w fun e w' => e = .returned (.bool r) ∧ Below w.heap.size w w' := by
  have HX := Lib.hid h; have HN := Lib.hid hn; have HR := Lib.hid hr
  have hb0 := one_below w (.cells #[.int .i64 z1, .int .i64 z2] 65)
  have n0 := World.alloc_heap_new w (.cells #[.int .i64 z1, .int .i64 z2] 65)
  have hs0 : w.heap.size < (w.alloc (.cells #[.int .i64 z1, .int .i64 z2] 65)).heap.size := by simp
  have HB0 := Lib.hid (⟨hb0, n0, hs0⟩ : _ ∧ _ ∧ _)
  clear h hn hr hb0 n0 hs0
  go_enter Try.func59, Try.ntmps59
  go_wp2
  go_loopw [5] (fun p wr => HaRel xs (z1, z2) w p wr ∧ Below (w.heap.size + 1) (w.alloc (.cells #[.int .i64 z1, .int .i64 z2] 65)) wr) (fun p _ => n - (intOf p).toNat)
  case atStart => exact ⟨⟨0, Nat.zero_le _, rfl, fun j hj => absurd hj (Nat.not_lt_zero _), HB0.out.1⟩, Below.refl _ _⟩
  case round =>
    obtain ⟨⟨i, hi, rfl, hno, hbel⟩, hbel2⟩ := hrel
    rw [HN.out] at hi
    have hz := (hbel2.block w.heap.size (by omega)).trans HB0.out.2.1
    have z0 : wr.cell? ⟨w.heap.size, 0, none⟩ = some (.int .i64 z1) := (cell_at hz 0).trans rfl
    have z3 : wr.cell? ⟨w.heap.size, 1, none⟩ = some (.int .i64 z2) := (cell_at hz 1).trans rfl
    by_cases hlt : i < n
    · have hin : i < xs.length := by rw [HN.out]; exact hlt
      obtain ⟨q0, q1⟩ := rcs_at xs i hin
      obtain ⟨b, off, rfl, hb, k0⟩ := (HX.out.on hbel).at_ q0
      obtain ⟨b2, off2, hA2, hb2, k1⟩ := (HX.out.on hbel).at_ q1
      simp only [Option.some.injEq, Addr.mk.injEq, and_true] at hA2
      obtain ⟨rfl, rfl⟩ := hA2
      rw [← Nat.add_assoc] at k1
      have hmem : xs[i]?.getD (0, 0) ∈ xs := by rw [List.getElem?_eq_getElem hin]; exact List.getElem_mem hin
      have HNo := Lib.hid hno
      have hstep : xs[i]?.getD (0, 0) ≠ (z1, z2) → ∀ j, j < i + 1 → xs[j]?.getD (0, 0) ≠ (z1, z2) := fun hne j hj => by
        rcases Nat.lt_or_ge j i with h | h
        · exact HNo.out j h
        · obtain rfl : j = i := by omega
          exact hne
      clear hno HNo q0 q1
      generalize xs[i]?.getD (0, 0) = x at *
      obtain ⟨x1, x2⟩ := x
      simp only at k0 k1
      have HBl := Lib.hid (⟨hbel, hbel2⟩ : _ ∧ _)
      clear hbel hbel2 hz
      by_cases hx : (x1, x2) = (z1, z2)
      · have hr : r = true := by
          rcases HR.out with ⟨h, _⟩ | ⟨_, h⟩
          · exact h
          · exact absurd (hx ▸ hmem) h
        simp only [Prod.mk.injEq] at hx
        obtain ⟨rfl, rfl⟩ := hx
        have hq : ∀ V : World, (binOp .eql 65 (.agg #[.int .i64 x1, .int .i64 x2]) (.agg #[.int .i64 x1, .int .i64 x2])).run Try.prog V = .ok (.bool true) V := fun V => by rw [eqlA_run]; simp
        have HRr := Lib.hid hr
        clear hr hstep hmem HR
        go_wp2
        go_quiet (fail)
        go_wp2
        go_ret
        exact ⟨by rw [HRr.out]; rfl, below_drewN HBl.out.1 _⟩
      · have HSt := Lib.hid (hstep hx)
        have t1 : (x1 == z1 && x2 == z2) = false := by
          rw [Bool.and_eq_false_iff]
          by_cases h : x1 = z1
          · right; simp; intro h2; exact hx (by rw [h, h2])
          · left; simpa using h
        have hq : ∀ V : World, (binOp .eql 65 (.agg #[.int .i64 x1, .int .i64 x2]) (.agg #[.int .i64 z1, .int .i64 z2])).run Try.prog V = .ok (.bool false) V := fun V => by rw [eqlA_run, t1]
        clear hstep hmem hx t1
        go_wp2
        go_quiet (fail)
        go_wp2
        go_roundw
        case rel => exact ⟨⟨i + 1, by rw [HN.out]; omega, by go_num, HSt.out, below_drewN HBl.out.1 _⟩, below_drewN HBl.out.2 _⟩
        case measure => simp [intOf]; omega
    · have hr : r = false := by
        rcases HR.out with ⟨_, h⟩ | ⟨h, _⟩
        · obtain ⟨j, hj, he⟩ := List.getElem_of_mem h
          exact absurd (by rw [List.getElem?_eq_getElem hj]; exact he) (hno j (by rw [HN.out] at hj; omega))
        · exact h
      have HRr := Lib.hid hr
      have HBl := Lib.hid hbel
      clear hr hno HR hbel hbel2 hz
      go_wp2
      go_ret
      exact ⟨by rw [HRr.out]; rfl, HBl.out⟩
end

section
set_option maxRecDepth 100000
set_option linter.unusedVariables false
open Go.RowKit Go.Shelf

theorem gs_cons (x : Rw) (t : List Rw) : gs (x :: t) = x.2.2 :: gs t := rfl
set_option maxHeartbeats 8000000 in
theorem refgchk_any (R : List Rw) (N : Nat) (hN : R.length = N) (hN2 : N ≤ 140737488355328) (A : Option Addr) (c : Nat) (w : World) (h : RdG w w.heap.size A R) :
    Calls Try.prog 20 #[.agg #[.slice A N c]] w fun e w' => e = .returned (.int .i64 (grE (gs R))) ∧ Below w.heap.size w w' := by
  obtain ⟨w1, hw1⟩ : ∃ w1, w.alloc (.cells #[.slice A N c] 24) = w1 := ⟨_, rfl⟩
  have hs0 : w1.heap.size = w.heap.size + 1 := by rw [← hw1]; exact World.size_alloc _ _
  have hs1 : w1.heap.size ≤ w.heap.size + 1 ∧ w.heap.size + 1 ≤ w1.heap.size := by omega
  clear hs0
  have hb1 : Below w.heap.size w w1 := hw1 ▸ one_below w _
  have kg1 : w1.cell? ⟨w.heap.size, 0, none⟩ = some (.slice A N c) := by rw [← hw1]; exact (cell_at (World.alloc_heap_new w _) 0).trans rfl
  have HH := Lib.hid (⟨hN, h.on hb1, kg1, hb1⟩ : R.length = N ∧ RdG w1 w1.heap.size A R ∧ w1.cell? ⟨w.heap.size, 0, none⟩ = some (.slice A N c) ∧ Below w.heap.size w w1)
  have HW := Lib.hid hw1
  have hbd := sumL_bd R (fun r hr => (h.2 r hr).2)
  rw [hN] at hbd
  obtain ⟨E, hE⟩ : ∃ E, grE (gs R) = E := ⟨_, rfl⟩
  have hgl : (gs R).length = N := by rw [gs_length]; exact hN
  rw [hE]
  unfold grE at hE
  rw [hgl] at hE
  clear hgl hN h hw1
  by_cases h100 : 100 < N
  · rw [if_pos h100] at hE
    subst hE
    have t1 : decide ((100 : Int) < (N : Int)) = true := by simp; omega
    have HB := Lib.hid hb1
    go_enter Try.func20, Try.ntmps20
    go_wp2
    rw [HW.out]
    go_ret
    exact ⟨rfl, HB.out⟩
  · rw [if_neg h100] at hE
    have HE := Lib.hid hE
    have t1 : decide ((100 : Int) < (N : Int)) = false := by simp; omega
    clear hE hb1 kg1
    go_enter Try.func20, Try.ntmps20
    go_wp2
    rw [HW.out]
    go_loopw [4, 5] (fun q p wr => ∃ i m : Nat, i ≤ N ∧ p = .int .i64 (i : Int) ∧ q = .int .i64 (m : Int) ∧ firstE (rsE (N : Int)) (gs R) = firstE (rsE (N : Int)) (gs (R.drop i)) ∧ m + sumL (gs (R.drop i)) = sumL (gs R) ∧ Below w1.heap.size w1 wr) (fun _ p _ => N - (intOf p).toNat)
    case atStart => exact ⟨0, 0, Nat.zero_le _, rfl, rfl, rfl, by simp, Below.refl _ _⟩
    case round =>
      obtain ⟨i, m, hi, rfl, rfl, hfe, hsm, hbel⟩ := hrel
      by_cases hlt : i < N
      · have hil : i < R.length := by rw [HH.out.1]; exact hlt
        rw [drop_rw R i hil, gs_cons] at hfe hsm
        rw [sumL_cons] at hsm
        rw [firstE_cons] at hfe
        obtain ⟨b, off, hA, hb0, k0'⟩ := HH.out.2.1.1.at_ (rcl_get R i hil)
        have hrd := HH.out.2.1.2 _ (rw_mem R i hil)
        generalize R[i]?.getD (none, 0, []) = x at *
        obtain ⟨A1, c1, xs⟩ := x
        unfold sl at k0'
        simp only at k0' hrd hfe hsm
        subst hA
        obtain ⟨n, hn⟩ : ∃ n, xs.length = n := ⟨_, rfl⟩
        rw [hn] at k0' hsm
        have HFs := Lib.hid (⟨hfe, hsm, hn⟩ : _ ∧ _ ∧ _)
        have hm1 : m + n ≤ 14073748835532800 := by omega
        have HBl := Lib.hid hbel
        have HRd := Lib.hid hrd
        have HK0 := Lib.hid (⟨hb0, k0'⟩ : _ ∧ _)
        have kg := (hbel.cell (p := ⟨w.heap.size, 0, none⟩) (by show w.heap.size < _; omega)).trans HH.out.2.2.1
        have t2 : (0 : Int) ≤ (i : Int) := by omega
        have t3 : (i : Int) < (N : Int) := by omega
        clear hfe hsm hn hbel hrd hb0 k0'
        go_wp2
        go_loopw [4, 6] (fun q p wq => ∃ (j : Nat) (v : Int), j ≤ n ∧ p = .int .i64 (j : Int) ∧ q = .int .i64 ((m + j : Nat) : Int) ∧ rsE (N : Int) xs = eachS (ckO (okG (N : Int))) id v (xs.drop j) ∧ ((j = 0 ∧ v = -1) ∨ (0 < j ∧ xs[j - 1]? = some v)) ∧ Below w1.heap.size w1 wq) (fun _ p _ => n - (intOf p).toNat)
        case atStart => exact ⟨0, -1, Nat.zero_le _, rfl, rfl, rfl, .inl ⟨rfl, rfl⟩, HBl.out⟩
        case round =>
          obtain ⟨j, v, hj, rfl, rfl, hrs, hv, hbel⟩ := hrel
          have kg2 := (hbel.cell (p := ⟨w.heap.size, 0, none⟩) (by show w.heap.size < _; omega)).trans HH.out.2.2.1
          have k2 := (hbel.cell (p := ⟨b, off + i, none⟩) HK0.out.1).trans HK0.out.2
          by_cases hjn : j < n
          · have hjl : j < xs.length := by rw [HFs.out.2.2]; exact hjn
            rw [drop_at xs j hjl, eachS_cons] at hrs
            obtain ⟨b2, o2, hA1, hb2, k3'⟩ := HRd.out.1.at_ (zc_get xs j hjl)
            have k3 := (hbel.cell (p := ⟨b2, o2 + j, none⟩) hb2).trans k3'
            obtain ⟨y, hy⟩ : ∃ y, xs[j]?.getD 0 = y := ⟨_, rfl⟩
            have hye : xs[j]? = some y := by rw [← hy, List.getElem?_eq_getElem hjl]; rfl
            rw [hy] at hrs k3
            have hprev : 0 < j → wr.cell? ⟨b2, o2 + (j - 1), none⟩ = some (.int .i64 v) := fun h0 => by
              have hvv : xs[j - 1]? = some v := by rcases hv with ⟨z, _⟩ | ⟨_, z⟩; omega; exact z
              have h1 : j - 1 < xs.length := by omega
              obtain ⟨b3, o3, hA3, hb3, k4⟩ := HRd.out.1.at_ (zc_get xs (j - 1) h1)
              rw [hA1] at hA3
              cases hA3
              rw [hvv] at k4
              exact (hbel.cell (p := ⟨b2, o2 + (j - 1), none⟩) hb3).trans k4
            subst hA1
            have t4 : (0 : Int) ≤ (j : Int) := by omega
            have t5 : (j : Int) < (n : Int) := by omega
            have a1 : IntKind.i64.wrap ((N : Int) - 1) = (N : Int) - 1 := IntWalk.i64_in _ (by omega)
            by_cases hok : okG (N : Int) y = true
            · have hyo : (0 : Int) ≤ y ∧ y ≤ (N : Int) - 1 := by unfold okG at hok; simp at hok; omega
              have HYs := Lib.hid (fun W => between_yes y 0 ((N : Int) - 1) hyo W)
              by_cases hyv : y ≤ v
              · have hj0 : 0 < j := by rcases hv with ⟨_, z⟩ | ⟨z, _⟩; omega; exact z
                have hE4 : E = 4 := by
                  have e1 : ckO (okG (N : Int)) v y = 4 := by unfold ckO; rw [if_neg (by simp [hok]), if_pos hyv]
                  rw [e1, if_neg (by decide)] at hrs
                  have := HE.out
                  rw [HFs.out.1, hrs, if_neg (by decide : ¬ ((4 : Int) = 0)), if_neg (by simp)] at this
                  exact this.symm
                have HE4 := Lib.hid hE4
                have k5 := hprev hj0
                have s1 : decide ((0 : Int) < (j : Int)) = true := by simp; omega
                have s2 : decide (y ≤ v) = true := by simpa using hyv
                have s3 : IntKind.i64.wrap ((j : Int) - 1) = ((j - 1 : Nat) : Int) := by rw [IntWalk.i64_in _ (by omega)]; omega
                have s4 : (0 : Int) ≤ ((j - 1 : Nat) : Int) := by omega
                have s5 : ((j - 1 : Nat) : Int) < (n : Int) := by omega
                have HBq := Lib.hid hbel
                generalize hjj : j - 1 = jj at *
                clear hE4 hok hrs hv hprev hbel hy hye hyo hjj
                go_wp2_with fail
                refine (HYs.out _).mono ?_
                rintro e wz ⟨rfl, rfl⟩
                go_wp2
                go_quiet (fail)
                go_wp2
                go_ret
                exact ⟨by rw [HE4.out]; rfl, HH.out.2.2.2.trans ((below_drewN HBq.out _).mono HH.out.2.2.2.size)⟩
              · have e1 : ckO (okG (N : Int)) v y = 0 := by unfold ckO; rw [if_neg (by simp [hok]), if_neg hyv]
                rw [if_pos e1] at hrs
                have HSt := Lib.hid (⟨hrs, by simpa using hye⟩ : rsE (N : Int) xs = eachS (ckO (okG (N : Int))) id y (xs.drop (j + 1)) ∧ xs[j + 1 - 1]? = some y)
                have HCt : Hid ((m : Int) + (j : Int) + 1 = ((m + (j + 1) : Nat) : Int)) := by show _ = _; omega
                have a2 : IntKind.i64.wrap (((m + j : Nat) : Int) + 1) = ((m + (j + 1) : Nat) : Int) := by rw [IntWalk.i64_in _ (by omega)]; omega
                have a3 : IntKind.i64.wrap ((m : Int) + (j : Int) + 1) = ((m + (j + 1) : Nat) : Int) := by rw [IntWalk.i64_in _ (by omega)]; omega
                have HBq := Lib.hid hbel
                have s2 : decide (y ≤ v) = false := by simpa using hyv
                by_cases hj0 : 0 < j
                · have k5 := hprev hj0
                  have s1 : decide ((0 : Int) < (j : Int)) = true := by simp; omega
                  have s3 : IntKind.i64.wrap ((j : Int) - 1) = ((j - 1 : Nat) : Int) := by rw [IntWalk.i64_in _ (by omega)]; omega
                  have s4 : (0 : Int) ≤ ((j - 1 : Nat) : Int) := by omega
                  have s5 : ((j - 1 : Nat) : Int) < (n : Int) := by omega
                  generalize hjj : j - 1 = jj at *
                  clear hok hrs hv hprev hbel hy hye hyo e1 hyv hjj
                  go_wp2_with fail
                  refine (HYs.out _).mono ?_
                  rintro e wz ⟨rfl, rfl⟩
                  go_wp2
                  go_quiet (fail)
                  go_wp2
                  go_roundw
                  case rel => exact ⟨j + 1, y, by omega, by go_num, by go_num, HSt.out.1, .inr ⟨by omega, HSt.out.2⟩, below_drewN HBq.out _⟩
                  case measure => simp [intOf]; omega
                · have s1 : decide ((0 : Int) < (j : Int)) = false := by simp; omega
                  clear hok hrs hv hprev hbel hy hye hyo e1 hyv
                  go_wp2_with fail
                  refine (HYs.out _).mono ?_
                  rintro e wz ⟨rfl, rfl⟩
                  go_wp2
                  go_quiet (fail)
                  go_wp2
                  go_roundw
                  case rel => exact ⟨j + 1, y, by omega, by go_num, by go_num, HSt.out.1, .inr ⟨by omega, HSt.out.2⟩, below_drewN HBq.out _⟩
                  case measure => simp [intOf]; omega
            · have hE3 : E = 3 := by
                have e1 : ckO (okG (N : Int)) v y = 3 := by unfold ckO; rw [if_pos (by simpa using hok)]
                rw [e1, if_neg (by decide)] at hrs
                have := HE.out
                rw [HFs.out.1, hrs, if_neg (by decide : ¬ ((3 : Int) = 0)), if_neg (by simp)] at this
                exact this.symm
              have HE3 := Lib.hid hE3
              have hno : ¬ ((0 : Int) ≤ y ∧ y ≤ (N : Int) - 1) := by intro q; apply hok; unfold okG; simp; omega
              have HNo := Lib.hid (fun W => between_no y 0 ((N : Int) - 1) hno W)
              have HBq := Lib.hid hbel
              clear hE3 hno hok hrs hv hprev hbel hy hye
              go_wp2_with fail
              refine (HNo.out _).mono ?_
              rintro e wz ⟨rfl, rfl⟩
              go_wp2
              go_ret
              exact ⟨by rw [HE3.out]; rfl, HH.out.2.2.2.trans (HBq.out.mono HH.out.2.2.2.size)⟩
          · obtain rfl : j = n := by omega
            have hz : rsE (N : Int) xs = 0 := by rw [hrs, List.drop_of_length_le (by rw [HFs.out.2.2]; omega)]; rfl
            have hf2 := HFs.out.1
            rw [if_pos hz] at hf2
            have HFn := Lib.hid (⟨hf2, HFs.out.2.1, hbel⟩ : _ ∧ _ ∧ _)
            clear hrs hv hbel hz hf2
            go_wp2
            go_roundw
            case rel => exact ⟨i + 1, m + j, by omega, by go_num, by go_num, HFn.out.1, by have := HFn.out.2.1; omega, HFn.out.2.2⟩
            case measure => simp [intOf]; omega
      · obtain rfl : i = N := by omega
        rw [List.drop_of_length_le (by rw [HH.out.1]; omega)] at hfe hsm
        have hf0 : firstE (rsE (i : Int)) (gs R) = 0 := hfe
        have hsm2 : m = sumL (gs R) := by have : sumL (gs []) = 0 := rfl; omega
        have hEE := HE.out
        rw [hf0, ← hsm2] at hEE
        have HBl := Lib.hid hbel
        by_cases h6 : 600 < m
        · rw [if_pos ⟨rfl, h6⟩] at hEE
          have s1 : decide ((600 : Int) < (m : Int)) = true := by simp; omega
          subst hEE
          clear hbel hfe hsm hf0 hsm2
          go_wp2
          go_ret
          exact ⟨rfl, HH.out.2.2.2.trans (HBl.out.mono HH.out.2.2.2.size)⟩
        · rw [if_neg (fun z => h6 z.2)] at hEE
          have s1 : decide ((600 : Int) < (m : Int)) = false := by simp; omega
          subst hEE
          clear hbel hfe hsm hf0 hsm2
          go_wp2
          go_ret
          exact ⟨rfl, HH.out.2.2.2.trans (HBl.out.mono HH.out.2.2.2.size)⟩
end

section
set_option maxRecDepth 100000
set_option linter.unusedVariables false
open Go.RowKit Go.Shelf

theorem row_ofR (R : List Rw) (g : List (List Nat)) (h : gs R = g.map ns) (i : Nat) (hi : i < g.length) : (R[i]?.getD (none, 0, [])).2.2 = ns (row g i) := by
  have h1 : (gs R)[i]? = (g.map ns)[i]? := by rw [h]
  unfold gs at h1
  have hl : R.length = g.length := by have := congrArg List.length h; rwa [gs_length, List.length_map] at this
  rw [List.getElem?_map, List.getElem?_map, List.getElem?_eq_getElem (by omega), List.getElem?_eq_getElem hi] at h1
  simp only [Option.map_some, Option.some.injEq] at h1
  rw [List.getElem?_eq_getElem (by omega)]
  unfold row
  rw [List.getElem?_eq_getElem hi]
  exact h1
theorem arcs_take_succ (g : List (List Nat)) (i : Nat) (h : i < g.length) : arcs 0 (g.take (i + 1)) = arcs 0 (g.take i) ++ (row g i).map (fun x => (i, x)) := by
  rw [List.take_succ_eq_append_getElem h, arcs_snoc]
  have e : g[i] = row g i := by unfold row; rw [List.getElem?_eq_getElem h]; rfl
  rw [e, Nat.zero_add, List.length_take, Nat.min_eq_left (by omega)]
theorem arcs_take_le (g : List (List Nat)) (i : Nat) (h : i ≤ g.length) : (arcs 0 (g.take i)).length ≤ (arcs 0 g).length := by
  have : ∀ (a b : List (List Nat)) (o : Nat), (arcs o a).length ≤ (arcs o (a ++ b)).length := by
    intro a
    induction a with
    | nil => intro b o; simp [arcs]
    | cons l t ih => intro b o; have := ih b (o + 1); simp only [arcs, List.cons_append, List.length_append, List.length_map]; omega
  have h2 := this (g.take i) (g.drop i) 0
  rwa [List.take_append_drop] at h2
set_option maxHeartbeats 4000000 in
theorem refarcs_ok (R : List Rw) (g : List (List Nat)) (hg : gs R = g.map ns) (hok : GOk g) (N : Nat) (hN : R.length = N) (A : Option Addr) (c : Nat) (w : World) (h : RdG w w.heap.size A R) :
    Calls Try.prog 22 #[.agg #[.slice A N c]] w fun e w' => ∃ v, e = .returned v ∧ w'.ownsRow w.heap.size 65 2 v (arcs 0 g).length (acs (arcs 0 g)) ∧ Below w.heap.size w w' := by
  obtain ⟨i0, hi, hz0, hz1, hz2⟩ := info_parts info_arc
  have hgl : g.length = N := by have := congrArg List.length hg; rw [gs_length, List.length_map] at this; omega
  have hN1 : N ≤ 100 := by have := hok.nodes; omega
  have h600 := hok.many
  obtain ⟨w1, hw1⟩ : ∃ w1, w.alloc (.cells #[.slice A N c] 24) = w1 := ⟨_, rfl⟩
  have hs0 : w1.heap.size = w.heap.size + 1 := by rw [← hw1]; exact World.size_alloc _ _
  have hs1 : w1.heap.size ≤ w.heap.size + 1 ∧ w.heap.size + 1 ≤ w1.heap.size := by omega
  clear hs0
  have hb1 : Below w.heap.size w w1 := hw1 ▸ one_below w _
  have kg1 : w1.cell? ⟨w.heap.size, 0, none⟩ = some (.slice A N c) := by rw [← hw1]; exact (cell_at (World.alloc_heap_new w _) 0).trans rfl
  have HH := Lib.hid (⟨hg, hgl, hN, h.on hb1, kg1, hb1⟩ : gs R = g.map ns ∧ g.length = N ∧ R.length = N ∧ RdG w1 w1.heap.size A R ∧ w1.cell? ⟨w.heap.size, 0, none⟩ = some (.slice A N c) ∧ Below w.heap.size w w1)
  have HW := Lib.hid hw1
  clear hg hok hgl hN h hb1 kg1 hw1
  go_enter Try.func22, Try.ntmps22
  go_wp2
  rw [HW.out]
  go_loopw [3, 4] (fun v p wr => ∃ i : Nat, i ≤ N ∧ p = .int .i64 (i : Int) ∧ wr.ownsRow w1.heap.size 65 2 v (arcs 0 (g.take i)).length (acs (arcs 0 (g.take i))) ∧ Below w1.heap.size w1 wr) (fun _ p _ => N - (intOf p).toNat)
  case atStart => exact ⟨0, Nat.zero_le _, rfl, ⟨rfl, .inl ⟨rfl, rfl⟩⟩, Below.refl _ _⟩
  case round =>
    obtain ⟨i, hi2, rfl, hrow, hbel⟩ := hrel
    have kg := (hbel.cell (p := ⟨w.heap.size, 0, none⟩) (by show w.heap.size < _; omega)).trans HH.out.2.2.2.2.1
    by_cases hlt : i < N
    · have hil : i < R.length := by rw [HH.out.2.2.1]; exact hlt
      obtain ⟨b, off, hA, hb0, k0'⟩ := HH.out.2.2.2.1.1.at_ (rcl_get R i hil)
      have k0 := (hbel.cell (p := ⟨b, off + i, none⟩) hb0).trans k0'
      have hrd := HH.out.2.2.2.1.2 _ (rw_mem R i hil)
      have hro := row_ofR R g HH.out.1 i (by rw [HH.out.2.1]; exact hlt)
      have hts := arcs_take_succ g i (by rw [HH.out.2.1]; exact hlt)
      have htl := arcs_take_le g (i + 1) (by rw [HH.out.2.1]; omega)
      rw [hts, List.length_append, List.length_map] at htl
      generalize R[i]?.getD (none, 0, []) = x at *
      obtain ⟨A1, c1, xs⟩ := x
      unfold sl at k0 k0'
      simp only at k0 k0' hrd hro
      subst hro
      rw [ns_length] at k0 k0'
      generalize arcs 0 (g.take i) = P at *
      generalize row g i = rw1 at *
      obtain ⟨m, hm⟩ : ∃ m, rw1.length = m := ⟨_, rfl⟩
      rw [hm] at k0 k0' htl
      have HT := Lib.hid (⟨hts, hm⟩ : _ ∧ _)
      have t1 : (0 : Int) ≤ (i : Int) := by omega
      have t2 : (i : Int) < (N : Int) := by omega
      subst hA
      have hrow0 := hrow
      have HBl := Lib.hid hbel
      clear hts hm hbel hrow
      go_wp2
      go_loopw [3, 5] (fun v p wq => ∃ j : Nat, j ≤ m ∧ p = .int .i64 (j : Int) ∧ wq.ownsRow w1.heap.size 65 2 v (P.length + j) (acs (P ++ (rw1.take j).map (fun x => (i, x)))) ∧ Below w1.heap.size w1 wq) (fun _ p _ => m - (intOf p).toNat)
      case atStart => exact ⟨0, Nat.zero_le _, rfl, by simpa using hrow0, HBl.out⟩
      case round =>
        obtain ⟨j, hj, rfl, hrow, hbel⟩ := hrel
        obtain ⟨Av, cv, rfl⟩ := own_sliceT hrow
        have kg2 := (hbel.cell (p := ⟨w.heap.size, 0, none⟩) (by show w.heap.size < _; omega)).trans HH.out.2.2.2.2.1
        have k2 := (hbel.cell (p := ⟨b, off + i, none⟩) (by show b < _; have := HBl.out.block; exact hb0)).trans k0'
        by_cases hjm : j < m
        · have hjl : j < rw1.length := by rw [HT.out.2]; exact hjm
          obtain ⟨b2, o2, hA1, hb2, k3'⟩ := hrd.1.at_ (zc_getN rw1 j (rw1[j]?.getD 0) (by rw [List.getElem?_eq_getElem hjl]; rfl))
          have k3 := (hbel.cell (p := ⟨b2, o2 + j, none⟩) hb2).trans k3'
          have htk : acs (P ++ (rw1.take (j + 1)).map (fun x => (i, x))) = acs (P ++ (rw1.take j).map (fun x => (i, x))) ++ [.int .i64 (i : Int), .int .i64 ((rw1[j]?.getD 0 : Nat) : Int)] := by
            rw [List.take_succ_eq_append_getElem hjl, List.map_append, List.map_cons, List.map_nil, ← List.append_assoc, acs_snoc, List.getElem?_eq_getElem hjl]; rfl
          have HTk := Lib.hid htk
          have HQl := Lib.hid hbel
          have hPl : P.length + j ≤ 1000 := by omega
          generalize rw1[j]?.getD 0 = x at *
          subst hA1
          have t3 : (0 : Int) ≤ (j : Int) := by omega
          have t4 : (j : Int) < (m : Int) := by omega
          clear htk k3' k0' hbel hrd
          go_wp2_with (at_builtin; refine wpList_append_own _ rfl _ _ 25 rfl w1.heap.size 65 i0 (.agg #[.int .i64 0, .int .i64 0]) 2 16 Try.underlying25 hi hz0 hz1 hz2 rfl (by decide) _ _ _ rfl (hrow.alloc _) ⟨wr.heap.size, 0, none⟩ 1 1 [.int .i64 (i : Int), .int .i64 (x : Int)] rfl rfl (news_row wr [.int .i64 (i : Int), .int .i64 (x : Int)] _) (by simp [Value.oneCell']) (by unfold maxLen; omega) (by omega) (by have := HQl.out.size; simp; omega) ?_; intro v' w3 hown' hgrow _)
          refine ⟨⟨j + 1, by omega, by go_num, ?_, ?_⟩, by simp [intOf]; omega⟩
          · rw [HTk.out]; exact hown'
          · exact HQl.out.trans (((Below.refl w1.heap.size wr).alloc HQl.out.size _).trans (grown_low hgrow (hrow.alloc _) (by have := HQl.out.size; simp; omega)))
        · obtain rfl : j = m := by omega
          have hfin : wr.ownsRow w1.heap.size 65 2 (.slice Av (P.length + j) cv) (arcs 0 (g.take (i + 1))).length (acs (arcs 0 (g.take (i + 1)))) := by
            rw [HT.out.1, List.length_append, List.length_map, HT.out.2]
            rwa [List.take_of_length_le (by rw [HT.out.2]; omega)] at hrow
          have HFn := Lib.hid (⟨hfin, hbel⟩ : _ ∧ _)
          clear hfin hrow hbel
          go_wp2
          go_roundw
          case rel => exact ⟨i + 1, by omega, by go_num, HFn.out.1, HFn.out.2⟩
          case measure => simp [intOf]; omega
    · obtain rfl : i = N := by omega
      rw [List.take_of_length_le (by rw [HH.out.2.1]; omega)] at hrow
      obtain ⟨Av, cv, rfl⟩ := own_sliceT hrow
      have HFn := Lib.hid (⟨hrow, hbel⟩ : _ ∧ _)
      clear hrow hbel
      go_wp2
      go_ret
      refine ⟨_, rfl, ⟨HFn.out.1.1, ?_⟩, HH.out.2.2.2.2.2.trans (HFn.out.2.mono HH.out.2.2.2.2.2.size)⟩
      rcases HFn.out.1.2 with z | ⟨q, cap, cur, z1, z2, z3⟩
      · exact .inl z
      · exact .inr ⟨q, cap, cur, z1, Nat.le_trans HH.out.2.2.2.2.2.size z2, z3⟩
end

section
set_option maxRecDepth 100000
set_option linter.unusedVariables false
open Go.RowKit Go.Shelf

theorem arcs_asc : ∀ (g : List (List Nat)) (o : Nat), (∀ l ∈ g, l.Pairwise (· < ·)) → (arcs o g).Pairwise (fun a b => a.1 < b.1 ∨ a.1 = b.1 ∧ a.2 < b.2)
  | [], o, _ => by simp [arcs]
  | l :: t, o, h => by
    show (l.map (fun x => (o, x)) ++ arcs (o + 1) t).Pairwise _
    rw [List.pairwise_append]
    refine ⟨List.pairwise_map.2 ((h l (by simp)).imp fun hab => .inr ⟨rfl, hab⟩), arcs_asc t (o + 1) (fun l hl => h l (by simp [hl])), fun a ha b hb => ?_⟩
    obtain ⟨x, _, rfl⟩ := List.mem_map.1 ha
    have := (arcs_fst t (o + 1) b hb).1
    exact .inl (by show o < b.1; omega)
theorem turn_asc {g : List (List Nat)} (hok : GOk g) (y : Nat) : (tos ((arcs 0 g).map rev) y).Pairwise (· < ·) := by
  unfold tos
  rw [List.pairwise_map]
  have h1 : ((arcs 0 g).map rev).Pairwise (fun a b => a.2 < b.2 ∨ a.2 = b.2 ∧ a.1 < b.1) := List.pairwise_map.2 (arcs_asc g 0 (fun l hl => by
    obtain ⟨i, hi, rfl⟩ := List.getElem_of_mem hl
    have := row_ris hok i
    unfold row at this
    rwa [List.getElem?_eq_getElem hi] at this))
  refine List.Pairwise.imp_of_mem ?_ (h1.filter _)
  intro a b ha hb hab
  have e1 := (List.mem_filter.1 ha).2
  have e2 := (List.mem_filter.1 hb).2
  simp only [beq_iff_eq] at e1 e2
  rcases hab with q | ⟨_, q⟩
  · exact q
  · omega
theorem nso_id {l : List Nat} (h : l.Pairwise (· < ·)) : nso l = l :=
  ris_ext (nso_ris (h.imp fun hab => Nat.ne_of_lt hab)) h (fun x => (nso_perm l).mem_iff)
theorem turn_rows {g : List (List Nat)} (hok : GOk g) {N : Nat} (hN : g.length = N) : (List.range N).map (tos ((arcs 0 g).map rev)) = gturn g := by
  unfold gturn wa rws
  rw [hN, List.map_map]
  exact List.map_congr_left fun y _ => (nso_id (turn_asc hok y)).symm
/-- The arcs turned round, of the first i nodes and the first j of node i. -/
def tn (g : List (List Nat)) (i j : Nat) : List Ar := (arcs 0 (g.take i)).map rev ++ ((row g i).take j).map (fun x => (x, i))
theorem tn_row (g : List (List Nat)) (i : Nat) (h : i < g.length) : tn g i (row g i).length = tn g (i + 1) 0 := by
  unfold tn
  rw [arcs_take_succ g i h, List.take_length, List.map_append, List.map_map]
  simp [rev, Function.comp_def]
theorem tn_end (g : List (List Nat)) : tn g g.length 0 = (arcs 0 g).map rev := by unfold tn; simp
theorem tn_succ (g : List (List Nat)) (i j : Nat) (h : j < (row g i).length) : tn g i (j + 1) = tn g i j ++ [(qa (row g i) j, i)] := by
  unfold tn
  rw [List.take_succ_eq_append_getElem h, List.map_append, ← List.append_assoc, qa_get h]; rfl
theorem tn_len (g : List (List Nat)) (hok : GOk g) (i j y : Nat) : (tos (tn g i j) y).length ≤ 2000 := by
  have h1 := tos_length (tn g i j) y
  have h2 : (tn g i j).length ≤ 1200 := by
    unfold tn
    rw [List.length_append, List.length_map, List.length_map, List.length_take]
    have := row_len hok i
    by_cases hi : i ≤ g.length
    · have := arcs_take_le g i hi; have := hok.many; omega
    · rw [List.take_of_length_le (by omega)]; have := hok.many; omega
  omega
/-- What the call holds: the graph's box, the answer's, the row of lists, the box of the graph that is made. -/
structure TnH (w W : World) (N : Nat) (A : Option Addr) (c : Nat) (v : Nat → Value) (rows : Nat → List Nat) : Prop where
  low : Below w.heap.size w W
  gr : GR W (w.heap.size + 4) (w.heap.size + 1 + 1) N v rows
  h0 : W.heap[w.heap.size]? = some (.cells #[.slice A N c] 24 (0, 0))
  h1 : W.heap[w.heap.size + 1]? = some (.cells #[.slice none 0 0] 24 (0, 0))
  h3 : W.heap[w.heap.size + 1 + 1 + 1]? = some (.cells #[.slice (some ⟨w.heap.size + 1 + 1, 0, none⟩) N N] 24 (0, 0))
theorem TnH.size {w W : World} {N c : Nat} {A : Option Addr} {v : Nat → Value} {rows : Nat → List Nat} (h : TnH w W N A c v rows) : w.heap.size + 4 ≤ W.heap.size := by
  have := (Array.getElem?_eq_some_iff.1 h.h3).1; omega
theorem TnH.congr {w W : World} {N c : Nat} {A : Option Addr} {v : Nat → Value} {rows rows' : Nat → List Nat} (h : TnH w W N A c v rows) (e : ∀ i, i < N → rows i = rows' i) : TnH w W N A c v rows' := ⟨h.low, h.gr.congr (fun _ _ => rfl) e, h.h0, h.h1, h.h3⟩
theorem tnh_start (w : World) (N : Nat) (A : Option Addr) (c : Nat) : TnH w ((((w.alloc (.cells #[.slice A N c] 24)).alloc (.cells #[.slice none 0 0] 24)).alloc (.cells (madeCells #[.slice none 0 0] N) 32)).alloc (.cells #[.slice (some ⟨w.heap.size + 1 + 1, 0, none⟩) N N] 24)) N A c (fun _ => .slice none 0 0) (fun _ => []) := by
  obtain ⟨W1, h1⟩ : ∃ W1, w.alloc (.cells #[.slice A N c] 24) = W1 := ⟨_, rfl⟩
  have n1 := World.alloc_heap_new w (.cells #[.slice A N c] 24)
  have z1 : W1.heap.size = w.heap.size + 1 := by rw [← h1]; exact World.size_alloc _ _
  have b1 := one_below w (.cells #[.slice A N c] 24)
  rw [h1] at n1 b1 ⊢
  obtain ⟨W2, h2⟩ : ∃ W2, W1.alloc (.cells #[.slice none 0 0] 24) = W2 := ⟨_, rfl⟩
  have n2 := World.alloc_heap_new W1 (.cells #[.slice none 0 0] 24)
  have z2 : W2.heap.size = W1.heap.size + 1 := by rw [← h2]; exact World.size_alloc _ _
  have b2 := one_below W1 (.cells #[.slice none 0 0] 24)
  rw [h2] at n2 b2 ⊢
  have g3 := GR.made W2 (w.heap.size + 4) N
  obtain ⟨W3, h3⟩ : ∃ W3, W2.alloc (.cells (madeCells #[.slice none 0 0] N) 32) = W3 := ⟨_, rfl⟩
  have z3 : W3.heap.size = W2.heap.size + 1 := by rw [← h3]; exact World.size_alloc _ _
  have b3 := one_below W2 (.cells (madeCells #[.slice none 0 0] N) 32)
  rw [h3] at g3 b3 ⊢
  have n4 := World.alloc_heap_new W3 (.cells #[.slice (some ⟨w.heap.size + 1 + 1, 0, none⟩) N N] 24)
  have b4 := one_below W3 (.cells #[.slice (some ⟨w.heap.size + 1 + 1, 0, none⟩) N N] 24)
  rw [z2, z1] at g3
  rw [z3, z2, z1] at n4
  rw [z1] at n2
  have b34 := b3.trans (b4.mono b3.size)
  have b24 := b2.trans (b34.mono b2.size)
  refine ⟨b1.trans (b24.mono b1.size), g3.alloc _, (b24.block _ (by omega)).trans n1, (b34.block _ (by omega)).trans n2, n4⟩
/-- An append to one of the lists, and what is held behind it. -/
theorem TnH.app {w X w4 : World} {N c : Nat} {A : Option Addr} {v : Nat → Value} {rows : Nat → List Nat} (h : TnH w X N A c v rows) {i x k : Nat} (hi : i < N) {tmp : Obj} {v' : Value} (hk : (rows i).length = k)
    (hgrow : (X.alloc tmp).grownBy w4 (v i).ownBlock) (hown' : w4.ownsRow (w.heap.size + 4) 3 1 v' (k + 1) (zc (ns (rows i)) ++ [.int .i64 (x : Int)])) (hloc : v'.ownBlock = (v i).ownBlock ∨ v'.ownBlock = some (X.alloc tmp).heap.size) :
    (w4.cell? ⟨w.heap.size + 1 + 1 + 1, 0, none⟩ = some (.slice (some ⟨w.heap.size + 1 + 1, 0, none⟩) N N) ∧ w4.cell? ⟨w.heap.size + 1 + 1, i, none⟩ = some (v i)) ∧ w4.frozen? ⟨w.heap.size + 1 + 1, i, none⟩ = false ∧
    TnH w (w4.setCell ⟨w.heap.size + 1 + 1, i, none⟩ v') N A c (fun j => if j = i then v' else v j) (fun j => if j = i then rows i ++ [x] else rows j) := by
  obtain ⟨a1, a2, a3, a4, a5⟩ := h.gr.app hi hk hgrow hown' hloc w.heap.size (by omega) (by omega) h.low.size
  have b1 : ∀ (K : Nat) (cs : Array Value) (t : TypeId) (fr : Nat × Nat), t ≠ 3 → X.heap[K]? = some (.cells cs t fr) → w4.heap[K]? = some (.cells cs t fr) := fun K cs t fr ht hK =>
    (hgrow.block K (by have := (Array.getElem?_eq_some_iff.1 hK).1; rw [World.size_alloc]; omega) (fun e => by obtain ⟨_, cs', hc⟩ := own_int_block (h.gr.own i hi) e.symm; rw [hK] at hc; simp at hc; exact ht hc.2.1)).trans ((Below.heap_alloc X _ _ (Array.getElem?_eq_some_iff.1 hK).1).trans hK)
  have c3 := b1 _ _ _ _ (by decide) h.gr.blk
  refine ⟨⟨(cell_at (b1 _ _ _ _ (by decide) h.h3) 0).trans rfl, by rw [cell_at c3]; simp [hi]⟩, frz_at c3 _, ⟨h.low.trans a2, a1, a5 _ _ _ _ (by omega) (by decide) h.h0, a5 _ _ _ _ (by omega) (by decide) h.h1, a5 _ _ _ _ (by omega) (by decide) h.h3⟩⟩
set_option maxHeartbeats 8000000 in
theorem refturn_ok (R : List Rw) (g : List (List Nat)) (hg : gs R = g.map ns) (hok : GOk g) (N : Nat) (hN : R.length = N) (A : Option Addr) (c : Nat) (w : World) (h : RdG w w.heap.size A R) :
    Calls Try.prog 23 #[.agg #[.slice A N c]] w fun e w' => ∃ A R c, e = .returned (.agg #[.slice A N c]) ∧ gs R = (gturn g).map ns ∧ RdH w.heap.size w' A R ∧ Below w.heap.size w w' := by
  have hgl : g.length = N := by have := congrArg List.length hg; rw [gs_length, List.length_map] at this; omega
  have hN1 : N ≤ 100 := by have := hok.nodes; omega
  have hmk := run_make_row' (P := Try.prog) 22 32 (.slice none 0 0) 24 Try.underlying22 info_ints rfl .i64 .i64 N (by omega) (by omega)
  have HH := Lib.hid (⟨hg, hN, hgl, h, hok⟩ : gs R = g.map ns ∧ R.length = N ∧ g.length = N ∧ RdG w w.heap.size A R ∧ GOk g)
  clear h hN hg hok hgl
  go_enter Try.func23, Try.ntmps23
  go_wp2
  have HS0 := Lib.hid (tnh_start w N A c)
  generalize (((w.alloc (.cells #[.slice A N c] 24)).alloc (.cells #[.slice none 0 0] 24)).alloc (.cells (madeCells #[.slice none 0 0] N) 32)).alloc (.cells #[.slice (some ⟨w.heap.size + 1 + 1, 0, none⟩) N N] 24) = X0 at *
  clear hmk
  go_loopw [4] (fun p wr => ∃ (i : Nat) (v : Nat → Value), i ≤ N ∧ p = .int .i64 (i : Int) ∧ TnH w wr N A c v (tos (tn g i 0))) (fun p _ => N - (intOf p).toNat)
  case atStart => exact ⟨0, _, Nat.zero_le _, rfl, HS0.out.congr (fun i _ => by unfold tn tos; simp [arcs])⟩
  case round =>
   as_aux_lemma =>
    clear HS0
    obtain ⟨i, v, hi, rfl, hT⟩ := hrel
    have kg : wr.cell? ⟨w.heap.size, 0, none⟩ = some (.slice A N c) := (cell_at hT.h0 0).trans rfl
    by_cases hlt : i < N
    · have hil : i < R.length := by rw [HH.out.2.1]; exact hlt
      obtain ⟨b1, o1, rfl, hb1, kr'⟩ := HH.out.2.2.2.1.1.at_ (rcl_get R i hil)
      have hr1 := HH.out.2.2.2.1.2 _ (rw_mem R i hil)
      have hro := row_ofD R g HH.out.1 i (by rw [HH.out.2.2.1]; exact hlt)
      generalize R[i]?.getD (none, 0, []) = y at *
      obtain ⟨P1, d1, xs⟩ := y
      unfold sl at kr'
      simp only at kr' hr1 hro
      subst hro
      obtain ⟨m, hm⟩ : ∃ m, (row g i).length = m := ⟨_, rfl⟩
      rw [ns_length, hm] at kr' hr1
      have hm47 := hr1.2
      have HRw := Lib.hid (⟨hr1.1, hm, kr'⟩ : _ ∧ _ ∧ _)
      have HS := Lib.hid hT
      have t3 : (0 : Int) ≤ (i : Int) := by omega
      have t4 : (i : Int) < (N : Int) := by omega
      clear hT hr1 hm kr' hb1 hil
      go_wp2
      go_loopw [5] (fun p wr => ∃ (j : Nat) (v : Nat → Value), j ≤ m ∧ p = .int .i64 (j : Int) ∧ TnH w wr N (some ⟨b1, o1, none⟩) c v (tos (tn g i j))) (fun p _ => m - (intOf p).toNat)
      case atStart => exact ⟨0, v, Nat.zero_le _, rfl, HS.out⟩
      case round =>
       as_aux_lemma =>
        clear HS kg
        obtain ⟨j, v, hj, rfl, hT⟩ := hrel
        have kg : wr.cell? ⟨w.heap.size, 0, none⟩ = some (.slice (some ⟨b1, o1, none⟩) N c) := (cell_at hT.h0 0).trans rfl
        have kr : wr.cell? ⟨b1, o1 + i, none⟩ = some (.slice P1 m d1) := (hT.low.cell (World.block_lt_of_cell? _ _ HRw.out.2.2)).trans HRw.out.2.2
        by_cases hjm : j < m
        · have hjl : j < (row g i).length := by rw [HRw.out.2.1]; exact hjm
          obtain ⟨b4, o4, rfl, hb4, k3⟩ := (HRw.out.1.on hT.low).at_ (zc_getN (row g i) j (qa (row g i) j) (qa_eq hjl))
          have hto := HH.out.2.2.2.2.bdd i _ (qa_mem hjl)
          rw [HH.out.2.2.1] at hto
          have hsc := tn_succ g i j hjl
          obtain ⟨to, hto2⟩ : ∃ to, qa (row g i) j = to := ⟨_, rfl⟩
          rw [hto2] at k3 hto hsc
          have hln := tn_len g HH.out.2.2.2.2 i j to
          have HSc : Hid (∀ y, (if y = to then tos (tn g i j) to ++ [i] else tos (tn g i j) y) = tos (tn g i (j + 1)) y) := fun y => by
            rw [hsc, tos_snoc]
            by_cases e : y = to
            · rw [if_pos e, if_pos e.symm, e]
            · rw [if_neg e, if_neg (fun q => e q.symm)]
          obtain ⟨k, hk⟩ : ∃ k, (tos (tn g i j) to).length = k := ⟨_, rfl⟩
          rw [hk] at hln
          have hTd : TnH w wr.drew N (some ⟨b1, o1, none⟩) c v (tos (tn g i j)) := ⟨hT.low.drew, ⟨hT.gr.blk, hT.gr.own, hT.gr.dif⟩, hT.h0, hT.h1, hT.h3⟩
          have hown := hTd.gr.own to hto
          rw [hk] at hown
          obtain ⟨As, Cs, hvs⟩ := own_sliceT hown
          have HO := Lib.hid hown
          have HAp : Hid (∀ v' w4, (wr.drew.alloc (.cells #[.int .i64 (i : Int)] 3)).grownBy w4 (v to).ownBlock → w4.ownsRow (w.heap.size + 4) 3 1 v' (k + 1) (zc (ns (tos (tn g i j) to)) ++ [.int .i64 (i : Int)]) → (v'.ownBlock = (v to).ownBlock ∨ v'.ownBlock = some (wr.drew.alloc (.cells #[.int .i64 (i : Int)] 3)).heap.size) →
              (w4.cell? ⟨w.heap.size + 1 + 1 + 1, 0, none⟩ = some (.slice (some ⟨w.heap.size + 1 + 1, 0, none⟩) N N) ∧ w4.cell? ⟨w.heap.size + 1 + 1, to, none⟩ = some (v to)) ∧ w4.frozen? ⟨w.heap.size + 1 + 1, to, none⟩ = false ∧ (w4.setCell ⟨w.heap.size + 1 + 1, to, none⟩ v').cell? ⟨w.heap.size + 1 + 1 + 1, 0, none⟩ = some (.slice (some ⟨w.heap.size + 1 + 1, 0, none⟩) N N) ∧
              ∃ v2, TnH w (w4.setCell ⟨w.heap.size + 1 + 1, to, none⟩ v') N (some ⟨b1, o1, none⟩) c v2 (tos (tn g i (j + 1)))) := fun v' w4 q1 q2 q3 => by
            obtain ⟨r1, r2, r3⟩ := hTd.app hto hk q1 q2 q3
            exact ⟨r1, r2, (cell_at r3.h3 0).trans rfl, _, r3.congr (fun y _ => HSc.out y)⟩
          have hS0 : wr.drew.cell? ⟨w.heap.size + 1 + 1 + 1, 0, none⟩ = some (.slice (some ⟨w.heap.size + 1 + 1, 0, none⟩) N N) ∧ wr.drew.cell? ⟨w.heap.size + 1 + 1, to, none⟩ = some (.slice As k Cs) := by
            refine ⟨(cell_at hTd.h3 0).trans rfl, ?_⟩
            have := hTd.gr.cell hto
            rwa [hvs] at this
          have HS0 := Lib.hid hS0
          have HS1 : Hid ((wr.drew.alloc (.cells #[.int .i64 (i : Int)] 3)).cell? ⟨w.heap.size + 1 + 1 + 1, 0, none⟩ = some (.slice (some ⟨w.heap.size + 1 + 1, 0, none⟩) N N) ∧ (wr.drew.alloc (.cells #[.int .i64 (i : Int)] 3)).cell? ⟨w.heap.size + 1 + 1, to, none⟩ = some (.slice As k Cs)) := ⟨((one_below wr.drew _).cell (World.block_lt_of_cell? _ _ hS0.1)).trans hS0.1, ((one_below wr.drew _).cell (World.block_lt_of_cell? _ _ hS0.2)).trans hS0.2⟩
          have HZ : Hid (w.heap.size + 4 ≤ wr.heap.size) := hT.size
          have HV := Lib.hid hvs
          have t7 : (0 : Int) ≤ (j : Int) := by omega
          have t8 : (j : Int) < (m : Int) := by omega
          have t9 : (0 : Int) ≤ (to : Int) := by omega
          have t10 : (to : Int) < (N : Int) := by omega
          rw [hvs] at HAp HO
          have kq0 := hS0.2
          have kq1 := HS1.out.2
          have kb0 := HS0.out.1
          have kb1 := HS1.out.1
          have kq2 : (wr.alloc (.cells #[.int .i64 (i : Int)] 3)).cell? ⟨w.heap.size + 1 + 1, to, none⟩ = some (.slice As k Cs) := kq1
          have kb2 : (wr.alloc (.cells #[.int .i64 (i : Int)] 3)).cell? ⟨w.heap.size + 1 + 1 + 1, 0, none⟩ = some (.slice (some ⟨w.heap.size + 1 + 1, 0, none⟩) N N) := HS1.out.1
          have kb3 : wr.cell? ⟨w.heap.size + 1 + 1 + 1, 0, none⟩ = some (.slice (some ⟨w.heap.size + 1 + 1, 0, none⟩) N N) := HS0.out.1
          have kq3 : wr.cell? ⟨w.heap.size + 1 + 1, to, none⟩ = some (.slice As k Cs) := kq0
          clear hT hTd hown hS0 hsc hto2 hjl hvs hk
          go_wp2
          go_region_law
            ((refine app_at (by rfl) (.tmp 44) (.tmp 46) (by rfl) (w.heap.size + 4) (.slice As k Cs) k (zc (ns (tos (tn g i j) to))) (by rfl) (HO.out.alloc _) ⟨wr.drew.heap.size, 0, none⟩ (.int .i64 (i : Int)) (by rfl) (box_cell (World.alloc_heap_new wr.drew _)) rfl (by omega) (by have := HZ.out; show _ ≤ (wr.alloc _).heap.size; simp; omega) ?_; intro v' w4 hown' hgrow hloc; have HG := Lib.hid (HAp.out v' w4 hgrow hown' hloc); obtain ⟨g', cap', rfl⟩ := ownsRow_succ hown'; obtain ⟨⟨e3, e4⟩, e5, -⟩ := HG.out; clear hgrow hown' hloc))
          all_goals (
            clear kq0 kq1 kq2 kq3 kb0 kb1 kb2 kb3 e3 e4 e5 kg kr k3
            go_wp2
            go_roundw
            case rel => exact (by obtain ⟨v2, q2⟩ := HG.out.2.2.2; exact ⟨j + 1, v2, by omega, by go_num, q2⟩)
            case measure => simp [intOf]; omega)
        · obtain rfl : j = m := by omega
          have HE : Hid (TnH w wr N (some ⟨b1, o1, none⟩) c v (tos (tn g (i + 1) 0))) := by
            have h1 := hT
            rw [← HRw.out.2.1, tn_row g i (by rw [HH.out.2.2.1]; exact hlt)] at h1
            exact h1
          clear hT hjm
          go_wp2
          go_roundw
          case rel => exact ⟨i + 1, v, by omega, by go_num, HE.out⟩
          case measure => simp [intOf]; omega
    · obtain rfl : i = N := by omega
      have HE : Hid (TnH w wr i A c v (tos ((arcs 0 g).map rev))) := by
        have h1 := hT
        have e := tn_end g
        rw [HH.out.2.2.1] at e
        rw [e] at h1
        exact h1
      have k3 : wr.cell? ⟨w.heap.size + 1 + 1 + 1, 0, none⟩ = some (.slice (some ⟨w.heap.size + 1 + 1, 0, none⟩) i i) := (cell_at hT.h3 0).trans rfl
      have k1 : wr.cell? ⟨w.heap.size + 1, 0, none⟩ = some (.slice none 0 0) := (cell_at hT.h1 0).trans rfl
      have kf : wr.frozen? ⟨w.heap.size + 1, 0, none⟩ = false := frz_at hT.h1 0
      have HF : Hid (∃ R, gs R = (gturn g).map ns ∧ RdH w.heap.size (wr.setCell ⟨w.heap.size + 1, 0, none⟩ (.slice (some ⟨w.heap.size + 1 + 1, 0, none⟩) i i)) (some ⟨w.heap.size + 1 + 1, 0, none⟩) R ∧ Below w.heap.size w (wr.setCell ⟨w.heap.size + 1, 0, none⟩ (.slice (some ⟨w.heap.size + 1 + 1, 0, none⟩) i i))) := by
        refine ⟨_, ?_, fun W hk hW => ((HE.out.gr.other HE.out.h1 (by decide) (by omega)).onFrom (by omega) (by omega) hk).read (fun y hy => ?_), HE.out.low.setCell (p := ⟨w.heap.size + 1, 0, none⟩) (by show w.heap.size ≤ w.heap.size + 1; omega) _⟩
        · rw [rwl_gs, turn_rows HH.out.2.2.2.2 HH.out.2.2.1]
        · have h1 := tos_length ((arcs 0 g).map rev) y
          rw [List.length_map] at h1
          have := HH.out.2.2.2.2.many
          omega
      have kr2 : (wr.setCell ⟨w.heap.size + 1, 0, none⟩ (.slice (some ⟨w.heap.size + 1 + 1, 0, none⟩) i i)).cell? ⟨w.heap.size + 1, 0, none⟩ = some (.slice (some ⟨w.heap.size + 1 + 1, 0, none⟩) i i) := (cell_at (heap_set_same _ _ _ _ _ _ hT.h1) 0).trans rfl
      clear hT hlt
      go_wp2
      refine bodyPost_ret (v := .agg #[.slice (some ⟨w.heap.size + 1 + 1, 0, none⟩) i i]) (by simp [results, Try.results23, go_sem, kr2]) rfl ?_
      exact (by obtain ⟨R, q1, q2, q3⟩ := HF.out; exact ⟨some ⟨w.heap.size + 1 + 1, 0, none⟩, R, i, rfl, q1, q2, q3⟩)
end

section
set_option maxRecDepth 100000
set_option linter.unusedVariables false
open Go.RowKit Go.Shelf

/-- The first of the list of node i in both ways: those below j. -/
def bT (g : List (List Nat)) (i j : Nat) : List Nat := (row (gboth g) i).filter (fun x => decide (x < j))
theorem bT_zero (g : List (List Nat)) (i : Nat) : bT g i 0 = [] := by unfold bT; simp
theorem bT_full (g : List (List Nat)) (hok : GOk g) (i : Nat) (hi : i < g.length) : bT g i g.length = row (gboth g) i := by
  unfold bT
  rw [List.filter_eq_self]
  intro x hx
  simpa using gboth_bd hok hi hx
theorem bT_succ (g : List (List Nat)) (i j : Nat) : bT g i (j + 1) = if j ∈ row (gboth g) i then bT g i j ++ [j] else bT g i j := by
  have hr : (row (gboth g) i).Pairwise (· < ·) := gboth_ris i
  have hs : ∀ j, (bT g i j).Pairwise (· < ·) := fun j => hr.filter _
  by_cases h : j ∈ row (gboth g) i
  · rw [if_pos h]
    refine ris_ext (hs _) (List.pairwise_append.2 ⟨hs _, by simp, fun a ha b hb => ?_⟩) (fun x => ?_)
    · simp only [List.mem_singleton] at hb
      subst hb
      have := (List.mem_filter.1 ha).2
      simpa using this
    · unfold bT
      simp only [List.mem_filter, List.mem_append, List.mem_singleton, decide_eq_true_eq]
      constructor
      · rintro ⟨q1, q2⟩
        by_cases e : x = j
        · exact .inr e
        · exact .inl ⟨q1, by omega⟩
      · rintro (⟨q1, q2⟩ | rfl)
        · exact ⟨q1, by omega⟩
        · exact ⟨h, by omega⟩
  · rw [if_neg h]
    refine ris_ext (hs _) (hs _) (fun x => ?_)
    unfold bT
    simp only [List.mem_filter, decide_eq_true_eq]
    constructor
    · rintro ⟨q1, q2⟩
      refine ⟨q1, ?_⟩
      have : x ≠ j := fun e => h (e ▸ q1)
      omega
    · rintro ⟨q1, q2⟩; exact ⟨q1, by omega⟩
/-- All lists, where i are ready and one is begun. -/
def bR (g : List (List Nat)) (i j y : Nat) : List Nat := if y < i then row (gboth g) y else if y = i then bT g i j else []
/-- How many stand there. -/
def bN (g : List (List Nat)) (i j : Nat) : Nat := (arcs 0 ((gboth g).take i)).length + (bT g i j).length
theorem bR_next (g : List (List Nat)) (hok : GOk g) (i : Nat) (hi : i < g.length) (y : Nat) : bR g i g.length y = bR g (i + 1) 0 y := by
  unfold bR
  rw [bT_full g hok i hi, bT_zero]
  by_cases h1 : y < i
  · rw [if_pos h1, if_pos (by omega)]
  · rw [if_neg h1]
    by_cases h2 : y = i
    · rw [if_pos h2, if_pos (by omega), h2]
    · rw [if_neg h2, if_neg (by omega)]; split <;> rfl
theorem bN_next (g : List (List Nat)) (hok : GOk g) (i : Nat) (hi : i < g.length) : bN g i g.length = bN g (i + 1) 0 := by
  unfold bN
  rw [bT_full g hok i hi, bT_zero, arcs_take_succ (gboth g) i (by rw [gboth_length]; exact hi), List.length_append, List.length_map]
  rfl
theorem bN_end (g : List (List Nat)) (hok : GOk g) : bN g g.length 0 = (bth (arcs 0 g)).length := by
  unfold bN
  rw [bT_zero, ← gboth_length, List.take_length]
  exact (gboth_arcs hok).length_eq
theorem bN_le (g : List (List Nat)) (hok : GOk g) (i j : Nat) (hi : i < g.length) : bN g i j ≤ 1200 := by
  have h1 : bN g i j ≤ bN g i g.length := by
    unfold bN
    rw [bT_full g hok i hi]
    have : (bT g i j).length ≤ (row (gboth g) i).length := List.length_filter_le _ _
    omega
  rw [bN_next g hok i hi] at h1
  have h2 : bN g (i + 1) 0 ≤ (bth (arcs 0 g)).length := by
    rw [← (gboth_arcs hok).length_eq]
    unfold bN
    rw [bT_zero]
    exact arcs_take_le (gboth g) (i + 1) (by rw [gboth_length]; omega)
  have h3 := bth_length (arcs 0 g)
  have := hok.many
  omega
theorem bR_rows (g : List (List Nat)) {N : Nat} (hN : g.length = N) : (List.range N).map (bR g N 0) = gboth g := by
  apply List.ext_getElem (by simp [gboth_length, hN])
  intro i h1 h2
  have hi : i < N := by simpa using h1
  simp only [List.getElem_map, List.getElem_range]
  unfold bR
  rw [if_pos hi]
  unfold row
  rw [List.getElem?_eq_getElem h2]; rfl
theorem bT_len (g : List (List Nat)) (hok : GOk g) (i j : Nat) (hi : i < g.length) : (bT g i j).length ≤ 1200 := by
  have := bN_le g hok i j hi
  unfold bN at this
  omega
theorem TnH.below {w X Y : World} {N c : Nat} {A : Option Addr} {v : Nat → Value} {rows : Nat → List Nat} (h : TnH w X N A c v rows) (hb : Below X.heap.size X Y) : TnH w Y N A c v rows :=
  ⟨h.low.trans (hb.mono h.low.size), h.gr.below hb, (hb.block _ (Array.getElem?_eq_some_iff.1 h.h0).1).trans h.h0, (hb.block _ (Array.getElem?_eq_some_iff.1 h.h1).1).trans h.h1, (hb.block _ (Array.getElem?_eq_some_iff.1 h.h3).1).trans h.h3⟩
set_option maxHeartbeats 16000000 in
theorem refboth_ok (R : List Rw) (g : List (List Nat)) (hg : gs R = g.map ns) (hok : GOk g) (N : Nat) (hN : R.length = N) (A : Option Addr) (c : Nat) (w : World) (h : RdG w w.heap.size A R) :
    Calls Try.prog 24 #[.agg #[.slice A N c]] w fun e w' => (600 < (bth (arcs 0 g)).length ∧ e = .returned (.tuple #[.agg #[.slice none 0 0], .int .i64 2]) ∧ Below w.heap.size w w') ∨
      (¬ 600 < (bth (arcs 0 g)).length ∧ ∃ A R c, e = .returned (.tuple #[.agg #[.slice A N c], .int .i64 0]) ∧ gs R = (gboth g).map ns ∧ RdH w.heap.size w' A R ∧ Below w.heap.size w w') := by
  have hgl : g.length = N := by have := congrArg List.length hg; rw [gs_length, List.length_map] at this; omega
  have hN1 : N ≤ 100 := by have := hok.nodes; omega
  have hmk := run_make_row' (P := Try.prog) 22 32 (.slice none 0 0) 24 Try.underlying22 info_ints rfl .i64 .i64 N (by omega) (by omega)
  have HLd : Hid (∀ (i k : Nat), i < N → ∀ V, Below w.heap.size w V → Calls Try.prog 38 #[.agg #[.slice A N c], .int .i64 (i : Int), .int .i64 (k : Int)] V fun e w' => e = .returned (.bool (decide (k ∈ row g i))) ∧ Below V.heap.size V w') := fun i k hi V hV => by
    have := leads_any R N hN A c i hi (k : Int) V (h.on hV)
    rw [row_ofD R g hg i (by rw [hgl]; exact hi)] at this
    refine this.mono fun e w' ⟨q1, q2⟩ => ⟨?_, q2⟩
    rw [q1]
    congr 3
    unfold ns
    rw [List.mem_map]
    refine propext ⟨fun ⟨y, hy, e⟩ => ?_, fun h => ⟨k, h, rfl⟩⟩
    obtain rfl : y = k := by omega
    exact hy
  have HH := Lib.hid (⟨hg, hN, hgl, h, hok⟩ : gs R = g.map ns ∧ R.length = N ∧ g.length = N ∧ RdG w w.heap.size A R ∧ GOk g)
  clear h hN hg hok hgl
  go_enter Try.func24, Try.ntmps24
  go_wp2
  have HS0 := Lib.hid (tnh_start w N A c)
  generalize (((w.alloc (.cells #[.slice A N c] 24)).alloc (.cells #[.slice none 0 0] 24)).alloc (.cells (madeCells #[.slice none 0 0] N) 32)).alloc (.cells #[.slice (some ⟨w.heap.size + 1 + 1, 0, none⟩) N N] 24) = X0 at *
  clear hmk
  go_loopw [6, 7] (fun q p wr => ∃ (i : Nat) (v : Nat → Value) (n : Nat), i ≤ N ∧ q = .int .i64 (n : Int) ∧ n = bN g i 0 ∧ p = .int .i64 (i : Int) ∧ TnH w wr N A c v (bR g i 0)) (fun _ p _ => N - (intOf p).toNat)
  case atStart => exact ⟨0, _, 0, Nat.zero_le _, rfl, by unfold bN; rw [bT_zero]; simp [arcs], rfl, HS0.out.congr (fun i _ => by unfold bR; rw [bT_zero]; simp)⟩
  case round =>
   as_aux_lemma =>
    clear HS0
    obtain ⟨i, v, n, hi, rfl, hn, rfl, hT⟩ := hrel
    by_cases hlt : i < N
    · have HS := Lib.hid (⟨hT, hn⟩ : _ ∧ _)
      have t3 : (0 : Int) ≤ (i : Int) := by omega
      have t4 : (i : Int) < (N : Int) := by omega
      clear hT hn
      go_wp2
      go_loopw [6, 8] (fun q p wr => ∃ (j : Nat) (v : Nat → Value) (n : Nat), j ≤ N ∧ q = .int .i64 (n : Int) ∧ n = bN g i j ∧ p = .int .i64 (j : Int) ∧ TnH w wr N A c v (bR g i j)) (fun _ p _ => N - (intOf p).toNat)
      case atStart => exact ⟨0, v, n, Nat.zero_le _, rfl, HS.out.2, rfl, HS.out.1⟩
      case round =>
       as_aux_lemma =>
        clear HS
        obtain ⟨j, v, n, hj, rfl, hn, rfl, hT⟩ := hrel
        by_cases hjm : j < N
        · have kg : wr.cell? ⟨w.heap.size, 0, none⟩ = some (.slice A N c) := (cell_at hT.h0 0).trans rfl
          have hn12 : n ≤ 1200 := by rw [hn]; exact bN_le g HH.out.2.2.2.2 i j (by rw [HH.out.2.2.1]; exact hlt)
          have hkl := bT_len g HH.out.2.2.2.2 i j (by rw [HH.out.2.2.1]; exact hlt)
          have hmm : j ∈ row (gboth g) i ↔ j ∈ row g i ∨ i ∈ row g j := gboth_mem (by rw [HH.out.2.2.1]; exact hlt)
          have hyes : (j ∈ row g i ∨ i ∈ row g j) → bT g i (j + 1) = bT g i j ++ [j] := fun q => by rw [bT_succ, if_pos (hmm.2 q)]
          have hno : ¬ (j ∈ row g i ∨ i ∈ row g j) → bT g i (j + 1) = bT g i j := fun q => by rw [bT_succ, if_neg (fun r => q (hmm.1 r))]
          have HYN := Lib.hid (⟨hyes, hno⟩ : _ ∧ _)
          have HS := Lib.hid (⟨hT, hn⟩ : _ ∧ _)
          have HC := Lib.hid (HLd.out i j hlt wr hT.low)
          have t7 : (0 : Int) ≤ (j : Int) := by omega
          have t8 : (j : Int) < (N : Int) := by omega
          have a1 : IntKind.i64.wrap ((n : Int) + 1) = ((n + 1 : Nat) : Int) := by rw [IntKind.wrap_i64]; omega
          clear hT hn hmm hyes hno
          by_cases hm1 : j ∈ row g i
          · have e1 : decide (j ∈ row g i) = true := decide_eq_true hm1
            rw [e1] at HC
            have hb := HYN.out.1 (.inl hm1)
            have HB := Lib.hid hb
            clear hm1 e1 hb HYN
            go_wp2_with fail
            refine HC.out.mono ?_
            rintro e V ⟨rfl, bq⟩
            have HT : Hid (TnH w V N A c v (bR g i j)) := HS.out.1.below bq
            have HN := Lib.hid HS.out.2
            clear bq HC HS kg
            have hrow : bR g i j i = bT g i j := by unfold bR; rw [if_neg (by omega), if_pos rfl]
            have HSc : Hid (∀ y, (if y = i then bR g i j i ++ [j] else bR g i j y) = bR g i (j + 1) y) := fun y => by
              rw [hrow, ← HB.out]
              unfold bR
              by_cases e : y = i
              · rw [if_pos e, if_neg (by omega), if_pos e]
              · rw [if_neg e]
                by_cases e2 : y < i
                · rw [if_pos e2, if_pos e2]
                · rw [if_neg e2, if_neg e2, if_neg e, if_neg e]
            have HNx : Hid (n + 1 = bN g i (j + 1)) := by show _ = _; have := HN.out; unfold bN at this ⊢; rw [HB.out, List.length_append]; simp; omega
            obtain ⟨k, hk⟩ : ∃ k, (bR g i j i).length = k := ⟨_, rfl⟩
            have hln : k ≤ 2000 := by rw [← hk, hrow]; omega
            have hTd : TnH w V.drew N A c v (bR g i j) := ⟨HT.out.low.drew, ⟨HT.out.gr.blk, HT.out.gr.own, HT.out.gr.dif⟩, HT.out.h0, HT.out.h1, HT.out.h3⟩
            have hown := hTd.gr.own i hlt
            rw [hk] at hown
            obtain ⟨As, Cs, hvs⟩ := own_sliceT hown
            have HO := Lib.hid hown
            have HAp : Hid (∀ v' w4, (V.drew.alloc (.cells #[.int .i64 (j : Int)] 3)).grownBy w4 (v i).ownBlock → w4.ownsRow (w.heap.size + 4) 3 1 v' (k + 1) (zc (ns (bR g i j i)) ++ [.int .i64 (j : Int)]) → (v'.ownBlock = (v i).ownBlock ∨ v'.ownBlock = some (V.drew.alloc (.cells #[.int .i64 (j : Int)] 3)).heap.size) →
                (w4.cell? ⟨w.heap.size + 1 + 1 + 1, 0, none⟩ = some (.slice (some ⟨w.heap.size + 1 + 1, 0, none⟩) N N) ∧ w4.cell? ⟨w.heap.size + 1 + 1, i, none⟩ = some (v i)) ∧ w4.frozen? ⟨w.heap.size + 1 + 1, i, none⟩ = false ∧
                ∃ v2, TnH w (w4.setCell ⟨w.heap.size + 1 + 1, i, none⟩ v') N A c v2 (bR g i (j + 1))) := fun v' w4 q1 q2 q3 => by
              obtain ⟨r1, r2, r3⟩ := hTd.app hlt hk q1 q2 q3
              exact ⟨r1, r2, _, r3.congr (fun y _ => HSc.out y)⟩
            have hS0 : V.drew.cell? ⟨w.heap.size + 1 + 1 + 1, 0, none⟩ = some (.slice (some ⟨w.heap.size + 1 + 1, 0, none⟩) N N) ∧ V.drew.cell? ⟨w.heap.size + 1 + 1, i, none⟩ = some (.slice As k Cs) := by
              refine ⟨(cell_at hTd.h3 0).trans rfl, ?_⟩
              have := hTd.gr.cell hlt
              rwa [hvs] at this
            have HS0 := Lib.hid hS0
            have HS1 : Hid ((V.drew.alloc (.cells #[.int .i64 (j : Int)] 3)).cell? ⟨w.heap.size + 1 + 1 + 1, 0, none⟩ = some (.slice (some ⟨w.heap.size + 1 + 1, 0, none⟩) N N) ∧ (V.drew.alloc (.cells #[.int .i64 (j : Int)] 3)).cell? ⟨w.heap.size + 1 + 1, i, none⟩ = some (.slice As k Cs)) := ⟨((one_below V.drew _).cell (World.block_lt_of_cell? _ _ hS0.1)).trans hS0.1, ((one_below V.drew _).cell (World.block_lt_of_cell? _ _ hS0.2)).trans hS0.2⟩
            have HZ : Hid (w.heap.size + 4 ≤ V.heap.size) := HT.out.size
            have kq0 := hS0.2
            have kq1 := HS1.out.2
            have kb0 := HS0.out.1
            have kb1 := HS1.out.1
            have kq2 : (V.alloc (.cells #[.int .i64 (j : Int)] 3)).cell? ⟨w.heap.size + 1 + 1, i, none⟩ = some (.slice As k Cs) := kq1
            have kb2 : (V.alloc (.cells #[.int .i64 (j : Int)] 3)).cell? ⟨w.heap.size + 1 + 1 + 1, 0, none⟩ = some (.slice (some ⟨w.heap.size + 1 + 1, 0, none⟩) N N) := HS1.out.1
            have kb3 : V.cell? ⟨w.heap.size + 1 + 1 + 1, 0, none⟩ = some (.slice (some ⟨w.heap.size + 1 + 1, 0, none⟩) N N) := HS0.out.1
            have kq3 : V.cell? ⟨w.heap.size + 1 + 1, i, none⟩ = some (.slice As k Cs) := kq0
            rw [hvs] at HAp HO
            clear hTd hown hS0 hrow hvs hk HT HSc HN HB
            go_wp2
            go_region_law
              ((refine app_at (by rfl) (.tmp 42) (.tmp 44) (by rfl) (w.heap.size + 4) (.slice As k Cs) k (zc (ns (bR g i j i))) (by rfl) (HO.out.alloc _) ⟨V.drew.heap.size, 0, none⟩ (.int .i64 (j : Int)) (by rfl) (box_cell (World.alloc_heap_new V.drew _)) rfl (by omega) (by have := HZ.out; show _ ≤ (V.alloc _).heap.size; simp; omega) ?_; intro v' w4 hown' hgrow hloc; have HG := Lib.hid (HAp.out v' w4 hgrow hown' hloc); obtain ⟨g', cap', rfl⟩ := ownsRow_succ hown'; obtain ⟨⟨e3, e4⟩, e5, -⟩ := HG.out; clear hgrow hown' hloc))
            all_goals (
              clear kq0 kq1 kq2 kq3 kb0 kb1 kb2 kb3 e3 e4 e5
              go_wp2
              go_roundw
              case rel => exact (by obtain ⟨v2, q2⟩ := HG.out.2.2; exact ⟨j + 1, v2, n + 1, by omega, rfl, HNx.out, by go_num, q2⟩)
              case measure => simp [intOf]; omega)
          · have e1 : decide (j ∈ row g i) = false := decide_eq_false hm1
            rw [e1] at HC
            go_wp2_with fail
            refine HC.out.mono ?_
            rintro e V1 ⟨rfl, bq⟩
            have HT1 : Hid (TnH w V1 N A c v (bR g i j)) := HS.out.1.below bq
            have HN := Lib.hid HS.out.2
            have kg1 : V1.cell? ⟨w.heap.size, 0, none⟩ = some (.slice A N c) := (cell_at HT1.out.h0 0).trans rfl
            have HC2 := Lib.hid (HLd.out j i hjm V1 HT1.out.low)
            clear bq HC HS kg e1
            by_cases hm2 : i ∈ row g j
            · have e2 : decide (i ∈ row g j) = true := decide_eq_true hm2
              rw [e2] at HC2
              have hb := HYN.out.1 (.inr hm2)
              have HB := Lib.hid hb
              clear hm1 hm2 e2 hb HYN
              go_wp2_with fail
              refine HC2.out.mono ?_
              rintro e V ⟨rfl, bq⟩
              have HT : Hid (TnH w V N A c v (bR g i j)) := HT1.out.below bq
              clear bq HC2 HT1 kg1
              have hrow : bR g i j i = bT g i j := by unfold bR; rw [if_neg (by omega), if_pos rfl]
              have HSc : Hid (∀ y, (if y = i then bR g i j i ++ [j] else bR g i j y) = bR g i (j + 1) y) := fun y => by
                rw [hrow, ← HB.out]
                unfold bR
                by_cases e : y = i
                · rw [if_pos e, if_neg (by omega), if_pos e]
                · rw [if_neg e]
                  by_cases e2 : y < i
                  · rw [if_pos e2, if_pos e2]
                  · rw [if_neg e2, if_neg e2, if_neg e, if_neg e]
              have HNx : Hid (n + 1 = bN g i (j + 1)) := by show _ = _; have := HN.out; unfold bN at this ⊢; rw [HB.out, List.length_append]; simp; omega
              obtain ⟨k, hk⟩ : ∃ k, (bR g i j i).length = k := ⟨_, rfl⟩
              have hln : k ≤ 2000 := by rw [← hk, hrow]; omega
              have hTd : TnH w V.drew N A c v (bR g i j) := ⟨HT.out.low.drew, ⟨HT.out.gr.blk, HT.out.gr.own, HT.out.gr.dif⟩, HT.out.h0, HT.out.h1, HT.out.h3⟩
              have hown := hTd.gr.own i hlt
              rw [hk] at hown
              obtain ⟨As, Cs, hvs⟩ := own_sliceT hown
              have HO := Lib.hid hown
              have HAp : Hid (∀ v' w4, (V.drew.alloc (.cells #[.int .i64 (j : Int)] 3)).grownBy w4 (v i).ownBlock → w4.ownsRow (w.heap.size + 4) 3 1 v' (k + 1) (zc (ns (bR g i j i)) ++ [.int .i64 (j : Int)]) → (v'.ownBlock = (v i).ownBlock ∨ v'.ownBlock = some (V.drew.alloc (.cells #[.int .i64 (j : Int)] 3)).heap.size) →
                  (w4.cell? ⟨w.heap.size + 1 + 1 + 1, 0, none⟩ = some (.slice (some ⟨w.heap.size + 1 + 1, 0, none⟩) N N) ∧ w4.cell? ⟨w.heap.size + 1 + 1, i, none⟩ = some (v i)) ∧ w4.frozen? ⟨w.heap.size + 1 + 1, i, none⟩ = false ∧
                  ∃ v2, TnH w (w4.setCell ⟨w.heap.size + 1 + 1, i, none⟩ v') N A c v2 (bR g i (j + 1))) := fun v' w4 q1 q2 q3 => by
                obtain ⟨r1, r2, r3⟩ := hTd.app hlt hk q1 q2 q3
                exact ⟨r1, r2, _, r3.congr (fun y _ => HSc.out y)⟩
              have hS0 : V.drew.cell? ⟨w.heap.size + 1 + 1 + 1, 0, none⟩ = some (.slice (some ⟨w.heap.size + 1 + 1, 0, none⟩) N N) ∧ V.drew.cell? ⟨w.heap.size + 1 + 1, i, none⟩ = some (.slice As k Cs) := by
                refine ⟨(cell_at hTd.h3 0).trans rfl, ?_⟩
                have := hTd.gr.cell hlt
                rwa [hvs] at this
              have HS0 := Lib.hid hS0
              have HS1 : Hid ((V.drew.alloc (.cells #[.int .i64 (j : Int)] 3)).cell? ⟨w.heap.size + 1 + 1 + 1, 0, none⟩ = some (.slice (some ⟨w.heap.size + 1 + 1, 0, none⟩) N N) ∧ (V.drew.alloc (.cells #[.int .i64 (j : Int)] 3)).cell? ⟨w.heap.size + 1 + 1, i, none⟩ = some (.slice As k Cs)) := ⟨((one_below V.drew _).cell (World.block_lt_of_cell? _ _ hS0.1)).trans hS0.1, ((one_below V.drew _).cell (World.block_lt_of_cell? _ _ hS0.2)).trans hS0.2⟩
              have HZ : Hid (w.heap.size + 4 ≤ V.heap.size) := HT.out.size
              have kq0 := hS0.2
              have kq1 := HS1.out.2
              have kb0 := HS0.out.1
              have kb1 := HS1.out.1
              have kq2 : (V.alloc (.cells #[.int .i64 (j : Int)] 3)).cell? ⟨w.heap.size + 1 + 1, i, none⟩ = some (.slice As k Cs) := kq1
              have kb2 : (V.alloc (.cells #[.int .i64 (j : Int)] 3)).cell? ⟨w.heap.size + 1 + 1 + 1, 0, none⟩ = some (.slice (some ⟨w.heap.size + 1 + 1, 0, none⟩) N N) := HS1.out.1
              have kb3 : V.cell? ⟨w.heap.size + 1 + 1 + 1, 0, none⟩ = some (.slice (some ⟨w.heap.size + 1 + 1, 0, none⟩) N N) := HS0.out.1
              have kq3 : V.cell? ⟨w.heap.size + 1 + 1, i, none⟩ = some (.slice As k Cs) := kq0
              rw [hvs] at HAp HO
              clear hTd hown hS0 hrow hvs hk HT HSc HN HB
              go_wp2
              go_region_law
                ((refine app_at (by rfl) (.tmp 42) (.tmp 44) (by rfl) (w.heap.size + 4) (.slice As k Cs) k (zc (ns (bR g i j i))) (by rfl) (HO.out.alloc _) ⟨V.drew.heap.size, 0, none⟩ (.int .i64 (j : Int)) (by rfl) (box_cell (World.alloc_heap_new V.drew _)) rfl (by omega) (by have := HZ.out; show _ ≤ (V.alloc _).heap.size; simp; omega) ?_; intro v' w4 hown' hgrow hloc; have HG := Lib.hid (HAp.out v' w4 hgrow hown' hloc); obtain ⟨g', cap', rfl⟩ := ownsRow_succ hown'; obtain ⟨⟨e3, e4⟩, e5, -⟩ := HG.out; clear hgrow hown' hloc))
              all_goals (
                clear kq0 kq1 kq2 kq3 kb0 kb1 kb2 kb3 e3 e4 e5
                go_wp2
                go_roundw
                case rel => exact (by obtain ⟨v2, q2⟩ := HG.out.2.2; exact ⟨j + 1, v2, n + 1, by omega, rfl, HNx.out, by go_num, q2⟩)
                case measure => simp [intOf]; omega)
            · have e2 : decide (i ∈ row g j) = false := decide_eq_false hm2
              rw [e2] at HC2
              have hb := HYN.out.2 (fun q => q.elim hm1 hm2)
              have HB := Lib.hid hb
              clear hm1 hm2 e2 hb HYN
              go_wp2_with fail
              refine HC2.out.mono ?_
              rintro e V ⟨rfl, bq⟩
              have HE : Hid (TnH w V N A c v (bR g i (j + 1)) ∧ n = bN g i (j + 1)) := ⟨(HT1.out.below bq).congr (fun y _ => by unfold bR; rw [HB.out]), by have := HN.out; unfold bN at this ⊢; rw [HB.out]; exact this⟩
              clear bq HC2 HT1 kg1 HN
              go_wp2
              go_roundw
              case rel => exact ⟨j + 1, v, n, by omega, rfl, HE.out.2, by go_num, HE.out.1⟩
              case measure => simp [intOf]; omega
        · obtain rfl : j = N := by omega
          have HE : Hid (TnH w wr j A c v (bR g (i + 1) 0) ∧ n = bN g (i + 1) 0) := by
            have h1 := hT
            have h2 := hn
            have e := bN_next g HH.out.2.2.2.2 i (by rw [HH.out.2.2.1]; exact hlt)
            rw [HH.out.2.2.1] at e
            rw [e] at h2
            refine ⟨h1.congr (fun y _ => ?_), h2⟩
            have e2 := bR_next g HH.out.2.2.2.2 i (by rw [HH.out.2.2.1]; exact hlt) y
            rwa [HH.out.2.2.1] at e2
          clear hT hn hjm
          go_wp2
          go_roundw
          case rel => exact ⟨i + 1, v, n, by omega, rfl, HE.out.2, by go_num, HE.out.1⟩
          case measure => simp [intOf]; omega
    · obtain rfl : i = N := by omega
      have hnn : n = (bth (arcs 0 g)).length := by
        have e := bN_end g HH.out.2.2.2.2
        rw [HH.out.2.2.1] at e
        rw [hn, e]
      have k3 : wr.cell? ⟨w.heap.size + 1 + 1 + 1, 0, none⟩ = some (.slice (some ⟨w.heap.size + 1 + 1, 0, none⟩) i i) := (cell_at hT.h3 0).trans rfl
      have k1 : wr.cell? ⟨w.heap.size + 1, 0, none⟩ = some (.slice none 0 0) := (cell_at hT.h1 0).trans rfl
      have kf : wr.frozen? ⟨w.heap.size + 1, 0, none⟩ = false := frz_at hT.h1 0
      have HE := Lib.hid hT
      have HNn := Lib.hid hnn
      by_cases h6 : 600 < n
      · have kr2 : (wr.setCell ⟨w.heap.size + 1, 0, none⟩ (.slice none 0 0)).cell? ⟨w.heap.size + 1, 0, none⟩ = some (.slice none 0 0) := (cell_at (heap_set_same _ _ _ _ _ _ hT.h1) 0).trans rfl
        have HL : Hid (Below w.heap.size w (wr.setCell ⟨w.heap.size + 1, 0, none⟩ (.slice none 0 0))) := HE.out.low.setCell (p := ⟨w.heap.size + 1, 0, none⟩) (by show w.heap.size ≤ w.heap.size + 1; omega) _
        have t1 : decide ((600 : Int) < (n : Int)) = true := by simp; omega
        clear hT hlt hn hnn
        go_wp2
        refine bodyPost_ret (v := .tuple #[.agg #[.slice none 0 0], .int .i64 2]) (by simp [results, Try.results24, go_sem, kr2]) rfl ?_
        exact .inl ⟨by rw [← HNn.out]; exact h6, rfl, HL.out⟩
      · have kr2 : (wr.setCell ⟨w.heap.size + 1, 0, none⟩ (.slice (some ⟨w.heap.size + 1 + 1, 0, none⟩) i i)).cell? ⟨w.heap.size + 1, 0, none⟩ = some (.slice (some ⟨w.heap.size + 1 + 1, 0, none⟩) i i) := (cell_at (heap_set_same _ _ _ _ _ _ hT.h1) 0).trans rfl
        have HF : Hid (∃ R, gs R = (gboth g).map ns ∧ RdH w.heap.size (wr.setCell ⟨w.heap.size + 1, 0, none⟩ (.slice (some ⟨w.heap.size + 1 + 1, 0, none⟩) i i)) (some ⟨w.heap.size + 1 + 1, 0, none⟩) R ∧ Below w.heap.size w (wr.setCell ⟨w.heap.size + 1, 0, none⟩ (.slice (some ⟨w.heap.size + 1 + 1, 0, none⟩) i i))) := by
          refine ⟨_, ?_, fun W hk hW => ((HE.out.gr.other HE.out.h1 (by decide) (by omega)).onFrom (by omega) (by omega) hk).read (fun y hy => ?_), HE.out.low.setCell (p := ⟨w.heap.size + 1, 0, none⟩) (by show w.heap.size ≤ w.heap.size + 1; omega) _⟩
          · rw [rwl_gs, bR_rows g HH.out.2.2.1]
          · have h1 := bT_len g HH.out.2.2.2.2 y i (by rw [HH.out.2.2.1]; exact hy)
            have h2 := bT_full g HH.out.2.2.2.2 y (by rw [HH.out.2.2.1]; exact hy)
            rw [HH.out.2.2.1] at h2
            rw [h2] at h1
            unfold bR
            rw [if_pos hy]
            omega
        have t1 : decide ((600 : Int) < (n : Int)) = false := by simp; omega
        clear hT hlt hn hnn
        go_wp2
        refine bodyPost_ret (v := .tuple #[.agg #[.slice (some ⟨w.heap.size + 1 + 1, 0, none⟩) i i], .int .i64 0]) (by simp [results, Try.results24, go_sem, kr2]) rfl ?_
        exact .inr ⟨by rw [← HNn.out]; exact h6, by obtain ⟨R, q1, q2, q3⟩ := HF.out; exact ⟨some ⟨w.heap.size + 1 + 1, 0, none⟩, R, i, rfl, q1, q2, q3⟩⟩
end

section
set_option maxRecDepth 100000
set_option linter.unusedVariables false
open Go.RowKit Go.Shelf

set_option maxHeartbeats 1000000 in
theorem refof_range (n : Int) (hn : ¬ (0 ≤ n ∧ n ≤ 100)) (A : Option Addr) (m c : Nat) (w : World) :
    Calls Try.prog 21 #[.int .i64 n, .slice A m c] w (GrP w [] 3) := by
  have HB := Lib.hid (between_no n 0 100 hn (w.alloc (.cells #[.slice none 0 0] 24)))
  clear hn
  go_enter Try.func21, Try.ntmps21
  go_wp2_with fail
  refine HB.out.mono ?_
  rintro e w1 ⟨rfl, rfl⟩
  obtain ⟨kr, kf, kz⟩ := res_box (Below.refl (w.heap.size + 1) (w.alloc (.cells #[.slice none 0 0] 24)))
  go_wp2
  refine bodyPost_ret (v := .tuple #[.agg #[.slice none 0 0], .int .i64 3]) (by simp [results, Try.results21, go_sem]) rfl ?_
  exact ⟨none, [], 0, rfl, rfl, rdg_nil _, one_below w _⟩
set_option maxHeartbeats 1000000 in
theorem refof_many (n : Nat) (hn : n ≤ 100) (A : Option Addr) (m c : Nat) (hm : 600 < m) (w : World) :
    Calls Try.prog 21 #[.int .i64 (n : Int), .slice A m c] w (GrP w [] 2) := by
  have HB := Lib.hid (between_yes (n : Int) 0 100 (by omega) (w.alloc (.cells #[.slice none 0 0] 24)))
  have t1 : decide ((600 : Int) < (m : Int)) = true := by simp; omega
  clear hn hm
  go_enter Try.func21, Try.ntmps21
  go_wp2_with fail
  refine HB.out.mono ?_
  rintro e w1 ⟨rfl, rfl⟩
  obtain ⟨kr, kf, kz⟩ := res_box (Below.refl (w.heap.size + 1) (w.alloc (.cells #[.slice none 0 0] 24)))
  go_wp2
  refine bodyPost_ret (v := .tuple #[.agg #[.slice none 0 0], .int .i64 2]) (by simp [results, Try.results21, go_sem]) rfl ?_
  exact ⟨none, [], 0, rfl, rfl, rdg_nil _, one_below w _⟩
end

section
set_option maxRecDepth 100000
set_option linter.unusedVariables false
open Go.RowKit Go.Shelf

/-- The first of list i: those below j. -/
def cT (G : List (List Nat)) (i j : Nat) : List Nat := (row G i).filter (fun x => decide (x < j))
theorem cT_zero (G : List (List Nat)) (i : Nat) : cT G i 0 = [] := by unfold cT; simp
theorem cT_full (G : List (List Nat)) (n i : Nat) (hb : ∀ x ∈ row G i, x < n) : cT G i n = row G i := by
  unfold cT
  rw [List.filter_eq_self]
  intro x hx
  simpa using hb x hx
theorem cT_succ (G : List (List Nat)) (i j : Nat) (hr : (row G i).Pairwise (· < ·)) : cT G i (j + 1) = if j ∈ row G i then cT G i j ++ [j] else cT G i j := by
  have hs : ∀ j, (cT G i j).Pairwise (· < ·) := fun j => hr.filter _
  by_cases h : j ∈ row G i
  · rw [if_pos h]
    refine ris_ext (hs _) (List.pairwise_append.2 ⟨hs _, by simp, fun a ha b hb => ?_⟩) (fun x => ?_)
    · simp only [List.mem_singleton] at hb
      subst hb
      have := (List.mem_filter.1 ha).2
      simpa using this
    · unfold cT
      simp only [List.mem_filter, List.mem_append, List.mem_singleton, decide_eq_true_eq]
      constructor
      · rintro ⟨q1, q2⟩
        by_cases e : x = j
        · exact .inr e
        · exact .inl ⟨q1, by omega⟩
      · rintro (⟨q1, q2⟩ | rfl)
        · exact ⟨q1, by omega⟩
        · exact ⟨h, by omega⟩
  · rw [if_neg h]
    refine ris_ext (hs _) (hs _) (fun x => ?_)
    unfold cT
    simp only [List.mem_filter, decide_eq_true_eq]
    constructor
    · rintro ⟨q1, q2⟩
      refine ⟨q1, ?_⟩
      have : x ≠ j := fun e => h (e ▸ q1)
      omega
    · rintro ⟨q1, q2⟩; exact ⟨q1, by omega⟩
def cR (G : List (List Nat)) (i j y : Nat) : List Nat := if y < i then row G y else if y = i then cT G i j else []
theorem cR_next (G : List (List Nat)) (n i : Nat) (hb : ∀ x ∈ row G i, x < n) (y : Nat) : cR G i n y = cR G (i + 1) 0 y := by
  unfold cR
  rw [cT_full G n i hb, cT_zero]
  by_cases h1 : y < i
  · rw [if_pos h1, if_pos (by omega)]
  · rw [if_neg h1]
    by_cases h2 : y = i
    · rw [if_pos h2, if_pos (by omega), h2]
    · rw [if_neg h2, if_neg (by omega)]; split <;> rfl
theorem cR_rows (G : List (List Nat)) {n : Nat} (hn : G.length = n) : (List.range n).map (cR G n 0) = G := by
  apply List.ext_getElem (by simp [hn])
  intro i h1 h2
  have hi : i < n := by simpa using h1
  simp only [List.getElem_map, List.getElem_range]
  unfold cR
  rw [if_pos hi]
  unfold row
  rw [List.getElem?_eq_getElem h2]; rfl
theorem rcs_take (l : List Ri) (i : Nat) : rcs (l.take i) = (rcs l).take (i * 2) := by
  induction l generalizing i with
  | nil => simp [rcs]
  | cons p t ih =>
    cases i with
    | zero => simp [rcs]
    | succ i => rw [List.take_succ_cons, rcs_cons, rcs_cons, ih, show (i + 1) * 2 = i * 2 + 1 + 1 by omega, List.take_succ_cons, List.take_succ_cons]
theorem rdv_takeR {w : World} {B : Nat} {A : Option Addr} {l : List Ri} (h : RdV w B A (rcs l)) (i : Nat) : RdV w B A (rcs (l.take i)) := by
  rw [rcs_take]
  rcases h with h | ⟨b, off, q1, q2, q3⟩
  · left; rw [h]; simp
  · refine .inr ⟨b, off, q1, q2, fun j v hj => q3 j v ?_⟩
    have hl := (List.getElem?_eq_some_iff.1 hj).1
    rw [List.length_take] at hl
    rwa [List.getElem?_take_of_lt (by omega)] at hj
theorem caE_one (N : Int) (l : List Ri) (i : Nat) (hi : i < l.length) (S : List Ar) : caE N S (l.drop i) = if caO N S (l[i]?.getD (0, 0)) = 0 then caE N (S ++ [toA (l[i]?.getD (0, 0))]) (l.drop (i + 1)) else caO N S (l[i]?.getD (0, 0)) := by
  rw [List.drop_eq_getElem_cons hi, caE_cons, List.getElem?_eq_getElem hi]; rfl
theorem toA_mem {N : Int} (l : List Ri) (hl : ∀ p ∈ l, okG N p.1 = true ∧ okG N p.2 = true) (p : Ri) (hp : okG N p.1 = true ∧ okG N p.2 = true) : toA p ∈ l.map toA ↔ p ∈ l := by
  constructor
  · intro h
    obtain ⟨q, hq, e⟩ := List.mem_map.1 h
    have h1 := hl q hq
    unfold okG at h1 hp
    simp only [decide_eq_true_eq] at h1 hp
    unfold toA at e
    simp only [Prod.mk.injEq] at e
    have : q = p := Prod.ext (by omega) (by omega)
    rwa [← this]
  · intro h; exact List.mem_map.2 ⟨p, h, rfl⟩
/-- What the call holds: the answer's cell, the row of lists, the box of the graph that is made. -/
structure OfH (w W : World) (n O : Nat) (v : Nat → Value) (rows : Nat → List Nat) : Prop where
  low : Below w.heap.size w W
  gr : GR W (O + 2) O n v rows
  h1 : W.heap[w.heap.size]? = some (.cells #[.slice none 0 0] 24 (0, 0))
  h3 : W.heap[O + 1]? = some (.cells #[.slice (some ⟨O, 0, none⟩) n n] 24 (0, 0))
  lt : w.heap.size < O
theorem OfH.size {w W : World} {n O : Nat} {v : Nat → Value} {rows : Nat → List Nat} (h : OfH w W n O v rows) : O + 2 ≤ W.heap.size := by
  have := (Array.getElem?_eq_some_iff.1 h.h3).1; omega
theorem OfH.congr {w W : World} {n O : Nat} {v : Nat → Value} {rows rows' : Nat → List Nat} (h : OfH w W n O v rows) (e : ∀ i, i < n → rows i = rows' i) : OfH w W n O v rows' := ⟨h.low, h.gr.congr (fun _ _ => rfl) e, h.h1, h.h3, h.lt⟩
theorem OfH.below {w X Y : World} {n O : Nat} {v : Nat → Value} {rows : Nat → List Nat} (h : OfH w X n O v rows) (hb : Below X.heap.size X Y) : OfH w Y n O v rows :=
  ⟨h.low.trans (hb.mono h.low.size), h.gr.below hb, (hb.block _ (Array.getElem?_eq_some_iff.1 h.h1).1).trans h.h1, (hb.block _ (Array.getElem?_eq_some_iff.1 h.h3).1).trans h.h3, h.lt⟩
theorem ofh_start (w V : World) (n : Nat) (hV : Below (w.heap.size + 1) (w.alloc (.cells #[.slice none 0 0] 24)) V) : OfH w ((V.alloc (.cells (madeCells #[.slice none 0 0] n) 32)).alloc (.cells #[.slice (some ⟨V.heap.size, 0, none⟩) n n] 24)) n V.heap.size (fun _ => .slice none 0 0) (fun _ => []) := by
  have e := (hV.block w.heap.size (by omega)).trans (World.alloc_heap_new w (.cells #[.slice none 0 0] 24))
  have hz := (Array.getElem?_eq_some_iff.1 e).1
  have g3 := GR.made V (V.heap.size + 2) n
  obtain ⟨W3, h3⟩ : ∃ W3, V.alloc (.cells (madeCells #[.slice none 0 0] n) 32) = W3 := ⟨_, rfl⟩
  have z3 : W3.heap.size = V.heap.size + 1 := by rw [← h3]; exact World.size_alloc _ _
  have b3 := one_below V (.cells (madeCells #[.slice none 0 0] n) 32)
  rw [h3] at g3 b3 ⊢
  have n4 := World.alloc_heap_new W3 (.cells #[.slice (some ⟨V.heap.size, 0, none⟩) n n] 24)
  have b4 := one_below W3 (.cells #[.slice (some ⟨V.heap.size, 0, none⟩) n n] 24)
  rw [z3] at n4
  have b34 := b3.trans (b4.mono b3.size)
  have hw : Below w.heap.size w V := (one_below w _).trans (hV.mono (by omega))
  exact ⟨hw.trans (b34.mono hw.size), g3.alloc _, (b34.block _ hz).trans e, n4, hz⟩
theorem OfH.app {w X w4 : World} {n O : Nat} {v : Nat → Value} {rows : Nat → List Nat} (h : OfH w X n O v rows) {i x k : Nat} (hi : i < n) {tmp : Obj} {v' : Value} (hk : (rows i).length = k)
    (hgrow : (X.alloc tmp).grownBy w4 (v i).ownBlock) (hown' : w4.ownsRow (O + 2) 3 1 v' (k + 1) (zc (ns (rows i)) ++ [.int .i64 (x : Int)])) (hloc : v'.ownBlock = (v i).ownBlock ∨ v'.ownBlock = some (X.alloc tmp).heap.size) :
    (w4.cell? ⟨O + 1, 0, none⟩ = some (.slice (some ⟨O, 0, none⟩) n n) ∧ w4.cell? ⟨O, i, none⟩ = some (v i)) ∧ w4.frozen? ⟨O, i, none⟩ = false ∧
    OfH w (w4.setCell ⟨O, i, none⟩ v') n O (fun j => if j = i then v' else v j) (fun j => if j = i then rows i ++ [x] else rows j) := by
  have hlt := h.lt
  obtain ⟨a1, a2, a3, a4, a5⟩ := h.gr.app hi hk hgrow hown' hloc w.heap.size (by omega) (by omega) h.low.size
  have b1 : ∀ (K : Nat) (cs : Array Value) (t : TypeId) (fr : Nat × Nat), t ≠ 3 → X.heap[K]? = some (.cells cs t fr) → w4.heap[K]? = some (.cells cs t fr) := fun K cs t fr ht hK =>
    (hgrow.block K (by have := (Array.getElem?_eq_some_iff.1 hK).1; rw [World.size_alloc]; omega) (fun e => by obtain ⟨_, cs', hc⟩ := own_int_block (h.gr.own i hi) e.symm; rw [hK] at hc; simp at hc; exact ht hc.2.1)).trans ((Below.heap_alloc X _ _ (Array.getElem?_eq_some_iff.1 hK).1).trans hK)
  have c3 := b1 _ _ _ _ (by decide) h.gr.blk
  refine ⟨⟨(cell_at (b1 _ _ _ _ (by decide) h.h3) 0).trans rfl, by rw [cell_at c3]; simp [hi]⟩, frz_at c3 _, ⟨h.low.trans a2, a1, a5 _ _ _ _ (by omega) (by decide) h.h1, a5 _ _ _ _ (by omega) (by decide) h.h3, h.lt⟩⟩
theorem toA_rz (L : List Ar) : (rz L).map toA = L := by unfold rz toA; rw [List.map_map]; simp [Function.comp_def]
set_option maxHeartbeats 16000000 in
theorem refof_in (n : Nat) (hn : n ≤ 100) (l : List Ri) (m : Nat) (hl : l.length = m) (hm : m ≤ 600) (e0 : Int) (he : caE (n : Int) [] l = e0) (A : Option Addr) (c : Nat) (hc : m ≤ c) (w : World) (h : RdV w w.heap.size A (rcs l)) :
    Calls Try.prog 21 #[.int .i64 (n : Int), .slice A m c] w (GrP w (if e0 = 0 then wa n (l.map toA) else []) e0) := by
  have HB := Lib.hid (between_yes (n : Int) 0 100 (by omega) (w.alloc (.cells #[.slice none 0 0] 24)))
  have t1 : decide ((600 : Int) < (m : Int)) = false := by simp; omega
  have hmk := run_make_row' (P := Try.prog) 22 32 (.slice none 0 0) 24 Try.underlying22 info_ints rfl .i64 .i64 n (by omega) (by omega)
  have a1 : IntKind.i64.wrap ((n : Int) - 1) = (n : Int) - 1 := by rw [IntKind.wrap_i64]; omega
  obtain ⟨G, hG⟩ : ∃ G, (if e0 = 0 then wa n (l.map toA) else []) = G := ⟨_, rfl⟩
  rw [hG]
  have HG := Lib.hid hG
  clear hG
  have HH := Lib.hid (⟨hl, he, h⟩ : l.length = m ∧ caE (n : Int) [] l = e0 ∧ RdV w w.heap.size A (rcs l))
  clear hl he h
  go_enter Try.func21, Try.ntmps21
  go_wp2_with fail
  refine HB.out.mono ?_
  rintro e w1 ⟨rfl, rfl⟩
  clear HB
  go_wp2
  go_loopw [6] (fun p wr => ∃ i : Nat, i ≤ m ∧ p = .int .i64 (i : Int) ∧ caE (n : Int) ((l.take i).map toA) (l.drop i) = e0 ∧ (∀ p ∈ l.take i, okG (n : Int) p.1 = true ∧ okG (n : Int) p.2 = true) ∧ Below (w.heap.size + 1) (w.alloc (.cells #[.slice none 0 0] 24)) wr) (fun p _ => m - (intOf p).toNat)
  case atStart => exact ⟨0, Nat.zero_le _, rfl, by simpa using HH.out.2.1, fun p hp => by simp at hp, Below.refl _ _⟩
  case round =>
   as_aux_lemma =>
    obtain ⟨i, hi, rfl, he, hok, hbel⟩ := hrel
    have HBl := Lib.hid hbel
    have hb0 : Below w.heap.size w wr := (one_below w _).trans (hbel.mono (by omega))
    by_cases hlt : i < m
    · have hil : i < l.length := by rw [HH.out.1]; exact hlt
      obtain ⟨q0, q1⟩ := rcs_at l i hil
      obtain ⟨b, off, rfl, hb, k0⟩ := (HH.out.2.2.on hb0).at_ q0
      obtain ⟨b2, off2, hA2, hb2, k1⟩ := (HH.out.2.2.on hb0).at_ q1
      simp only [Option.some.injEq, Addr.mk.injEq, and_true] at hA2
      obtain ⟨rfl, rfl⟩ := hA2
      rw [← Nat.add_assoc] at k1
      have hca := caE_one (n : Int) l i hil ((l.take i).map toA)
      rw [he] at hca
      have htk : l.take (i + 1) = l.take i ++ [l[i]?.getD (0, 0)] := by rw [List.take_succ_eq_append_getElem hil, List.getElem?_eq_getElem hil]; rfl
      have HRt : Hid (∀ V, Below (w.heap.size + 1) (w.alloc (.cells #[.slice none 0 0] 24)) V → RdV V V.heap.size (some ⟨b, off, none⟩) (rcs (l.take i))) := fun V hV => (rdv_takeR HH.out.2.2 i).on ((one_below w _).trans (hV.mono (by omega)))
      have hlen : (l.take i).length = i := by rw [List.length_take, HH.out.1]; omega
      generalize l[i]?.getD (0, 0) = x at *
      obtain ⟨x1, x2⟩ := x
      simp only at k0 k1
      have t2 : (0 : Int) ≤ (i : Int) := by omega
      have t3 : (i : Int) < (m : Int) := by omega
      have t4 : (i : Int) ≤ (m : Int) := by omega
      have t5 : (i : Int) ≤ (c : Int) := by omega
      have t5n : i ≤ c := by omega
      have HS := Lib.hid (⟨hok, hca, htk, hlen⟩ : _ ∧ _ ∧ _ ∧ _)
      obtain ⟨kr, kf, kz⟩ := res_box hbel
      have HRs := Lib.hid (res_set hbel (.slice none 0 0))
      have kr2 := HRs.out.1
      clear he hok hbel hca htk hlen q0 q1 hb0
      by_cases c1 : okG (n : Int) x1 = true
      · have c1' : 0 ≤ x1 ∧ x1 ≤ (n : Int) - 1 := by unfold okG at c1; simp only [decide_eq_true_eq] at c1; omega
        have HB1 := Lib.hid (between_yes x1 0 ((n : Int) - 1) c1' wr)
        by_cases c2 : okG (n : Int) x2 = true
        · have c2' : 0 ≤ x2 ∧ x2 ≤ (n : Int) - 1 := by unfold okG at c2; simp only [decide_eq_true_eq] at c2; omega
          have HB2 := Lib.hid (between_yes x2 0 ((n : Int) - 1) c2' wr)
          have hmem := toA_mem (N := (n : Int)) (l.take i) HS.out.1 (x1, x2) ⟨c1, c2⟩
          have HMe := Lib.hid (⟨c1, c2, hmem⟩ : _ ∧ _ ∧ _)
          have k0d : wr.drew.cell? ⟨b, off + i * 2, none⟩ = some (.int .i64 x1) := k0
          have k1d : wr.drew.cell? ⟨b, off + i * 2 + 1, none⟩ = some (.int .i64 x2) := k1
          have HK := Lib.hid (⟨k0d, k1d⟩ : _ ∧ _)
          have HCa : Hid (∀ r : Bool, ((r = true ∧ (x1, x2) ∈ l.take i) ∨ (r = false ∧ (x1, x2) ∉ l.take i)) → Calls Try.prog 59 #[.slice (some ⟨b, off, none⟩) i c, .agg #[.int .i64 x1, .int .i64 x2]] wr.drew fun e w' => e = .returned (.bool r) ∧ Below wr.heap.size wr w') := fun r hr => (hasArc_any (l.take i) i HS.out.2.2.2 (by omega) x1 x2 r hr (some ⟨b, off, none⟩) c wr.drew (HRt.out wr.drew HBl.out.drew)).mono fun e w' ⟨q1, q2⟩ => ⟨q1, (Below.refl _ wr).drew.trans q2⟩
          clear hmem c1 c2 c1' c2' k0d k1d
          by_cases c3 : (x1, x2) ∈ l.take i
          · have HCb := Lib.hid (HCa.out true (.inl ⟨rfl, c3⟩))
            have HGn : Hid (G = [] ∧ e0 = 6) := by
              have e1 : e0 = 6 := by
                have h1 := HS.out.2.1
                have h2 : caO (n : Int) ((l.take i).map toA) (x1, x2) = 6 := by unfold caO; rw [if_pos ⟨HMe.out.1, HMe.out.2.1⟩, if_pos (HMe.out.2.2.2 c3)]
                rw [h2, if_neg (by decide)] at h1
                exact h1
              exact ⟨by rw [← HG.out, e1]; rfl, e1⟩
            have hG0 := HGn.out.1
            have he0 := HGn.out.2
            subst hG0 he0
            clear c3 HCa HGn HG HS HRt
            go_wp2_with fail
            refine HB1.out.mono ?_
            rintro e w7 ⟨rfl, rfl⟩
            go_wp2_with fail
            refine HB2.out.mono ?_
            rintro e w7 ⟨rfl, rfl⟩
            go_wp2
            go_region_held3 (fun w' => w'.cell? ⟨b, off + i * 2, none⟩ = some (.int .i64 x1) ∧ w'.cell? ⟨b, off + i * 2 + 1, none⟩ = some (.int .i64 x2))
              ((first | exact HK.out | (refine ⟨(HB9.out.cell (World.block_lt_of_cell? _ _ HK.out.1)).trans HK.out.1, (HB9.out.cell (World.block_lt_of_cell? _ _ HK.out.2)).trans HK.out.2⟩)))
              ((go_at_call 59; refine HCb.out.mono ?_; rintro e w9 ⟨rfl, b9⟩; have HB9 : Hid (Below wr.heap.size wr w9) := b9; clear b9))
            have hb9 : Below (w.heap.size + 1) (w.alloc (.cells #[.slice none 0 0] 24)) w9 := HBl.out.trans (HB9.out.mono (by have := HBl.out.size; rw [World.size_alloc] at this; exact this))
            obtain ⟨kr9, kf9, kz9⟩ := res_box hb9
            have HR9 := Lib.hid (res_set hb9 (.slice none 0 0))
            have kr29 := HR9.out.1
            clear hb9 kr kf kz kr2 k0 k1
            go_wp2
            refine bodyPost_ret (v := .tuple #[.agg #[.slice none 0 0], .int .i64 6]) (by simp [results, Try.results21, go_sem, kr29]) rfl ?_
            exact ⟨none, [], 0, rfl, rfl, rdg_nil _, HR9.out.2⟩
          · have HCb := Lib.hid (HCa.out false (.inr ⟨rfl, c3⟩))
            have HNx : Hid (caE (n : Int) ((l.take (i + 1)).map toA) (l.drop (i + 1)) = e0 ∧ ∀ p ∈ l.take (i + 1), okG (n : Int) p.1 = true ∧ okG (n : Int) p.2 = true) := by
              have h1 := HS.out.2.1
              have h2 : caO (n : Int) ((l.take i).map toA) (x1, x2) = 0 := by unfold caO; rw [if_pos ⟨HMe.out.1, HMe.out.2.1⟩, if_neg (fun q => c3 (HMe.out.2.2.1 q))]
              rw [h2, if_pos rfl] at h1
              rw [HS.out.2.2.1, List.map_append]
              refine ⟨h1.symm, fun p hp => ?_⟩
              rcases List.mem_append.1 hp with q | q
              · exact HS.out.1 p q
              · simp only [List.mem_singleton] at q
                subst q
                exact ⟨HMe.out.1, HMe.out.2.1⟩
            clear c3 HCa HS HRt
            go_wp2_with fail
            refine HB1.out.mono ?_
            rintro e w7 ⟨rfl, rfl⟩
            go_wp2_with fail
            refine HB2.out.mono ?_
            rintro e w7 ⟨rfl, rfl⟩
            go_wp2
            go_region_held3 (fun w' => w'.cell? ⟨b, off + i * 2, none⟩ = some (.int .i64 x1) ∧ w'.cell? ⟨b, off + i * 2 + 1, none⟩ = some (.int .i64 x2))
              ((first | exact HK.out | (refine ⟨(HB9.out.cell (World.block_lt_of_cell? _ _ HK.out.1)).trans HK.out.1, (HB9.out.cell (World.block_lt_of_cell? _ _ HK.out.2)).trans HK.out.2⟩)))
              ((go_at_call 59; refine HCb.out.mono ?_; rintro e w9 ⟨rfl, b9⟩; have HB9 : Hid (Below wr.heap.size wr w9) := b9; clear b9))
            have HE : Hid (Below (w.heap.size + 1) (w.alloc (.cells #[.slice none 0 0] 24)) w9) := HBl.out.trans (HB9.out.mono (by have := HBl.out.size; rw [World.size_alloc] at this; exact this))
            clear kr kf kz kr2 k0 k1
            go_wp2
            go_roundw
            case rel => exact ⟨i + 1, by omega, by go_num, HNx.out.1, HNx.out.2, HE.out⟩
            case measure => simp [intOf]; omega
        · have c2' : ¬ (0 ≤ x2 ∧ x2 ≤ (n : Int) - 1) := by unfold okG at c2; simp only [decide_eq_true_eq] at c2; omega
          have HB2 := Lib.hid (between_no x2 0 ((n : Int) - 1) c2' wr)
          have HGn : Hid (G = [] ∧ e0 = 3) := by
            have e1 : e0 = 3 := by
              have h1 := HS.out.2.1
              have h2 : caO (n : Int) ((l.take i).map toA) (x1, x2) = 3 := by unfold caO; rw [if_neg (fun q => c2 q.2)]
              rw [h2, if_neg (by decide)] at h1
              exact h1
            exact ⟨by rw [← HG.out, e1]; rfl, e1⟩
          have hG0 := HGn.out.1
          have he0 := HGn.out.2
          subst hG0 he0
          clear HGn HG HS c1 c2 c1' c2'
          go_wp2_with fail
          refine HB1.out.mono ?_
          rintro e w7 ⟨rfl, rfl⟩
          go_wp2_with fail
          refine HB2.out.mono ?_
          rintro e w7 ⟨rfl, rfl⟩
          go_wp2
          refine bodyPost_ret (v := .tuple #[.agg #[.slice none 0 0], .int .i64 3]) (by simp [results, Try.results21, go_sem, kr2]) rfl ?_
          exact ⟨none, [], 0, rfl, rfl, rdg_nil _, HRs.out.2⟩
      · have c1' : ¬ (0 ≤ x1 ∧ x1 ≤ (n : Int) - 1) := by unfold okG at c1; simp only [decide_eq_true_eq] at c1; omega
        have HB1 := Lib.hid (between_no x1 0 ((n : Int) - 1) c1' wr)
        have HGn : Hid (G = [] ∧ e0 = 3) := by
          have e1 : e0 = 3 := by
            have h1 := HS.out.2.1
            have h2 : caO (n : Int) ((l.take i).map toA) (x1, x2) = 3 := by unfold caO; rw [if_neg (fun q => c1 q.1)]
            rw [h2, if_neg (by decide)] at h1
            exact h1
          exact ⟨by rw [← HG.out, e1]; rfl, e1⟩
        have hG0 := HGn.out.1
        have he0 := HGn.out.2
        subst hG0 he0
        clear HGn HG HS c1 c1'
        go_wp2_with fail
        refine HB1.out.mono ?_
        rintro e w7 ⟨rfl, rfl⟩
        go_wp2
        refine bodyPost_ret (v := .tuple #[.agg #[.slice none 0 0], .int .i64 3]) (by simp [results, Try.results21, go_sem, kr2]) rfl ?_
        exact ⟨none, [], 0, rfl, rfl, rdg_nil _, HRs.out.2⟩
    · obtain rfl : i = m := by omega
      have HE0 : Hid (e0 = 0 ∧ G = wa n (l.map toA)) := by
        rw [List.drop_eq_nil_of_le (by rw [HH.out.1]; omega)] at he
        have e1 : e0 = 0 := he.symm
        exact ⟨e1, by rw [← HG.out, if_pos e1]⟩
      have he0 := HE0.out.1
      subst he0
      have HL : Hid ((l.map toA).Nodup ∧ (∀ a ∈ l.map toA, a.1 < n ∧ a.2 < n) ∧ G = wa n (l.map toA) ∧ ∀ p ∈ l, okG (n : Int) p.1 = true ∧ okG (n : Int) p.2 = true) := by
        obtain ⟨L, e, h1, h2⟩ := caE_zero (n : Int) l [] (by simp) HH.out.2.1
        have e2 : l.map toA = L := by rw [e, toA_rz]
        rw [e2]
        refine ⟨by simpa using h1, fun a ha => by have := h2 a ha; omega, by rw [← e2]; exact HE0.out.2, ?_⟩
        have h3 := hok
        rwa [List.take_of_length_le (by rw [HH.out.1]; omega)] at h3
      have HGi : Hid (G.length = n ∧ (∀ j, (row G j).Pairwise (· < ·)) ∧ (∀ j, j < n → ∀ x ∈ row G j, x < n) ∧ (∀ j k, j < n → k < n → (k ∈ row G j ↔ ((j : Int), (k : Int)) ∈ l)) ∧ ∀ j, j < n → (row G j).length ≤ 600) := by
        obtain ⟨q1, q2, q3, q4⟩ := HL.out
        rw [q3]
        refine ⟨wa_length _ _, fun j => wa_ris q1 j, fun j hj x hx => (q2 _ ((wa_mem n _ j x hj).1 hx)).2, fun j k hj hk => ?_, fun j hj => ?_⟩
        · rw [wa_mem n _ j k hj]
          have := toA_mem (N := (n : Int)) l q4 ((j : Int), (k : Int)) ⟨by unfold okG; simp; omega, by unfold okG; simp; omega⟩
          unfold toA at this ⊢
          simpa using this
        · rw [wa_row n _ j hj, (nso_perm _).length_eq]
          have h1 := tos_length (l.map toA) j
          rw [List.length_map, HH.out.1] at h1
          omega
      have HS0 := Lib.hid (ofh_start w wr n hbel)
      have HX : Hid (∀ V, Below w.heap.size w V → ∀ (j k : Nat) (r : Bool), ((r = true ∧ ((j : Int), (k : Int)) ∈ l) ∨ (r = false ∧ ((j : Int), (k : Int)) ∉ l)) → Calls Try.prog 59 #[.slice A i c, .agg #[.int .i64 (j : Int), .int .i64 (k : Int)]] V fun e w' => e = .returned (.bool r) ∧ Below V.heap.size V w') := fun V hV j k r hr => hasArc_any l i HH.out.1 (by omega) (j : Int) (k : Int) r hr A c V (HH.out.2.2.on hV)
      clear he hok hbel HG HE0 HL HBl hb0 hlt
      go_wp2
      generalize (wr.alloc (.cells (madeCells #[.slice none 0 0] n) 32)).alloc (.cells #[.slice (some ⟨wr.heap.size, 0, none⟩) n n] 24) = X0 at *
      generalize wr.heap.size = O at *
      clear hmk
      go_loopw [8] (fun p wq => ∃ (j : Nat) (v : Nat → Value), j ≤ n ∧ p = .int .i64 (j : Int) ∧ OfH w wq n O v (cR G j 0)) (fun p _ => n - (intOf p).toNat)
      case atStart => exact ⟨0, _, Nat.zero_le _, rfl, HS0.out.congr (fun y _ => by unfold cR; rw [cT_zero]; simp)⟩
      case round =>
       as_aux_lemma =>
        clear HS0
        obtain ⟨i, v, hi, rfl, hT⟩ := hrel
        by_cases hlt : i < n
        · have HS := Lib.hid hT
          clear hT
          go_wp2
          go_loopw [9] (fun p wr => ∃ (j : Nat) (v : Nat → Value), j ≤ n ∧ p = .int .i64 (j : Int) ∧ OfH w wr n O v (cR G i j)) (fun p _ => n - (intOf p).toNat)
          case atStart => exact ⟨0, v, Nat.zero_le _, rfl, HS.out⟩
          case round =>
           as_aux_lemma =>
            clear HS
            obtain ⟨j, v, hj, rfl, hT⟩ := hrel
            have hsucc := cT_succ G i j (HGi.out.2.1 i)
            by_cases hjm : j < n
            · have t3 : (0 : Int) ≤ (i : Int) := by omega
              have t4 : (i : Int) < (n : Int) := by omega
              have HS := Lib.hid hT
              have hmem := HGi.out.2.2.2.1 i j hlt hjm
              have hcl : (cT G i j).length ≤ 2000 := by
                have h1 : (cT G i j).length ≤ (cT G i n).length := by
                  rw [cT_full G n i (HGi.out.2.2.1 i hlt)]; exact List.length_filter_le _ _
                have h2 := HGi.out.2.2.2.2 i hlt
                rw [cT_full G n i (HGi.out.2.2.1 i hlt)] at h1
                omega
              by_cases hm1 : j ∈ row G i
              · have HC := Lib.hid (HX.out wr hT.low i j true (.inl ⟨rfl, hmem.1 hm1⟩))
                rw [if_pos hm1] at hsucc
                have HB := Lib.hid hsucc
                clear hm1 hmem hsucc hT
                go_wp2_with fail
                refine HC.out.mono ?_
                rintro e V ⟨rfl, bq⟩
                have HT : Hid (OfH w V n O v (cR G i j)) := HS.out.below bq
                have hkl := hcl
                clear bq HC HS hcl
                have hrow : cR G i j i = cT G i j := by unfold cR; rw [if_neg (by omega), if_pos rfl]
                have HSc : Hid (∀ y, (if y = i then cR G i j i ++ [j] else cR G i j y) = cR G i (j + 1) y) := fun y => by
                  rw [hrow, ← HB.out]
                  unfold cR
                  by_cases e : y = i
                  · rw [if_pos e, if_neg (by omega), if_pos e]
                  · rw [if_neg e]
                    by_cases e2 : y < i
                    · rw [if_pos e2, if_pos e2]
                    · rw [if_neg e2, if_neg e2, if_neg e, if_neg e]
                obtain ⟨k, hk⟩ : ∃ k, (cR G i j i).length = k := ⟨_, rfl⟩
                have hln : k ≤ 2000 := by rw [← hk, hrow]; omega
                have hTd : OfH w V.drew n O v (cR G i j) := ⟨HT.out.low.drew, ⟨HT.out.gr.blk, HT.out.gr.own, HT.out.gr.dif⟩, HT.out.h1, HT.out.h3, HT.out.lt⟩
                have hown := hTd.gr.own i hlt
                rw [hk] at hown
                obtain ⟨As, Cs, hvs⟩ := own_sliceT hown
                have HO := Lib.hid hown
                have HAp : Hid (∀ v' w4, (V.drew.alloc (.cells #[.int .i64 (j : Int)] 3)).grownBy w4 (v i).ownBlock → w4.ownsRow (O + 2) 3 1 v' (k + 1) (zc (ns (cR G i j i)) ++ [.int .i64 (j : Int)]) → (v'.ownBlock = (v i).ownBlock ∨ v'.ownBlock = some (V.drew.alloc (.cells #[.int .i64 (j : Int)] 3)).heap.size) →
                    (w4.cell? ⟨O + 1, 0, none⟩ = some (.slice (some ⟨O, 0, none⟩) n n) ∧ w4.cell? ⟨O, i, none⟩ = some (v i)) ∧ w4.frozen? ⟨O, i, none⟩ = false ∧
                    ∃ v2, OfH w (w4.setCell ⟨O, i, none⟩ v') n O v2 (cR G i (j + 1))) := fun v' w4 q1 q2 q3 => by
                  obtain ⟨r1, r2, r3⟩ := hTd.app hlt hk q1 q2 q3
                  exact ⟨r1, r2, _, r3.congr (fun y _ => HSc.out y)⟩
                have hS0 : V.drew.cell? ⟨O + 1, 0, none⟩ = some (.slice (some ⟨O, 0, none⟩) n n) ∧ V.drew.cell? ⟨O, i, none⟩ = some (.slice As k Cs) := by
                  refine ⟨(cell_at hTd.h3 0).trans rfl, ?_⟩
                  have := hTd.gr.cell hlt
                  rwa [hvs] at this
                have HS0 := Lib.hid hS0
                have HS1 : Hid ((V.drew.alloc (.cells #[.int .i64 (j : Int)] 3)).cell? ⟨O + 1, 0, none⟩ = some (.slice (some ⟨O, 0, none⟩) n n) ∧ (V.drew.alloc (.cells #[.int .i64 (j : Int)] 3)).cell? ⟨O, i, none⟩ = some (.slice As k Cs)) := ⟨((one_below V.drew _).cell (World.block_lt_of_cell? _ _ hS0.1)).trans hS0.1, ((one_below V.drew _).cell (World.block_lt_of_cell? _ _ hS0.2)).trans hS0.2⟩
                have HZ : Hid (O + 2 ≤ V.heap.size) := HT.out.size
                have kq0 := hS0.2
                have kq1 := HS1.out.2
                have kb0 := HS0.out.1
                have kb1 := HS1.out.1
                have kq2 : (V.alloc (.cells #[.int .i64 (j : Int)] 3)).cell? ⟨O, i, none⟩ = some (.slice As k Cs) := kq1
                have kb2 : (V.alloc (.cells #[.int .i64 (j : Int)] 3)).cell? ⟨O + 1, 0, none⟩ = some (.slice (some ⟨O, 0, none⟩) n n) := HS1.out.1
                have kb3 : V.cell? ⟨O + 1, 0, none⟩ = some (.slice (some ⟨O, 0, none⟩) n n) := HS0.out.1
                have kq3 : V.cell? ⟨O, i, none⟩ = some (.slice As k Cs) := kq0
                rw [hvs] at HAp HO
                clear hTd hown hS0 hrow hvs hk HT HSc HB
                go_wp2
                go_region_law
                  ((refine app_at (by rfl) (.tmp 79) (.tmp 81) (by rfl) (O + 2) (.slice As k Cs) k (zc (ns (cR G i j i))) (by rfl) (HO.out.alloc _) ⟨V.drew.heap.size, 0, none⟩ (.int .i64 (j : Int)) (by rfl) (box_cell (World.alloc_heap_new V.drew _)) rfl (by omega) (by have := HZ.out; show _ ≤ (V.alloc _).heap.size; simp; omega) ?_; intro v' w4 hown' hgrow hloc; have HG := Lib.hid (HAp.out v' w4 hgrow hown' hloc); obtain ⟨g', cap', rfl⟩ := ownsRow_succ hown'; obtain ⟨⟨e3, e4⟩, e5, -⟩ := HG.out; clear hgrow hown' hloc))
                all_goals (
                  clear kq0 kq1 kq2 kq3 kb0 kb1 kb2 kb3 e3 e4 e5
                  go_wp2
                  go_roundw
                  case rel => exact (by obtain ⟨v2, q2⟩ := HG.out.2.2; exact ⟨j + 1, v2, by omega, by go_num, q2⟩)
                  case measure => simp [intOf]; omega)
              · have HC := Lib.hid (HX.out wr hT.low i j false (.inr ⟨rfl, fun q => hm1 (hmem.2 q)⟩))
                rw [if_neg hm1] at hsucc
                have HB := Lib.hid hsucc
                clear hm1 hmem hsucc hT hcl
                go_wp2_with fail
                refine HC.out.mono ?_
                rintro e V ⟨rfl, bq⟩
                have HE : Hid (OfH w V n O v (cR G i (j + 1))) := (HS.out.below bq).congr (fun y _ => by unfold cR; rw [HB.out])
                clear bq HC HS
                go_wp2
                go_roundw
                case rel => exact ⟨j + 1, v, by omega, by go_num, HE.out⟩
                case measure => simp [intOf]; omega
            · obtain rfl : j = n := by omega
              have HE : Hid (OfH w wr j O v (cR G (i + 1) 0)) := hT.congr (fun y _ => cR_next G j i (HGi.out.2.2.1 i hlt) y)
              clear hT hjm hsucc
              go_wp2
              go_roundw
              case rel => exact ⟨i + 1, v, by omega, by go_num, HE.out⟩
              case measure => simp [intOf]; omega
        · obtain rfl : i = n := by omega
          have HE := Lib.hid hT
          have k3 : wr.cell? ⟨O + 1, 0, none⟩ = some (.slice (some ⟨O, 0, none⟩) i i) := (cell_at hT.h3 0).trans rfl
          have k1 : wr.cell? ⟨w.heap.size, 0, none⟩ = some (.slice none 0 0) := (cell_at hT.h1 0).trans rfl
          have kf : wr.frozen? ⟨w.heap.size, 0, none⟩ = false := frz_at hT.h1 0
          have kr2 : (wr.setCell ⟨w.heap.size, 0, none⟩ (.slice (some ⟨O, 0, none⟩) i i)).cell? ⟨w.heap.size, 0, none⟩ = some (.slice (some ⟨O, 0, none⟩) i i) := (cell_at (heap_set_same _ _ _ _ _ _ hT.h1) 0).trans rfl
          have HF : Hid (∃ R, gs R = G.map ns ∧ RdG (wr.setCell ⟨w.heap.size, 0, none⟩ (.slice (some ⟨O, 0, none⟩) i i)) (wr.setCell ⟨w.heap.size, 0, none⟩ (.slice (some ⟨O, 0, none⟩) i i)).heap.size (some ⟨O, 0, none⟩) R ∧ Below w.heap.size w (wr.setCell ⟨w.heap.size, 0, none⟩ (.slice (some ⟨O, 0, none⟩) i i))) := by
            refine ⟨_, ?_, (HE.out.gr.other HE.out.h1 (by decide) (by have := HE.out.lt; omega)).read (fun y hy => ?_), HE.out.low.setCell (p := ⟨w.heap.size, 0, none⟩) (Nat.le_refl _) _⟩
            · rw [rwl_gs, cR_rows G HGi.out.1]
            · unfold cR
              rw [if_pos hy]
              have := HGi.out.2.2.2.2 y hy
              omega
          have HGl := HGi.out.1
          clear hT hlt
          go_wp2
          refine bodyPost_ret (v := .tuple #[.agg #[.slice (some ⟨O, 0, none⟩) i i], .int .i64 0]) (by simp [results, Try.results21, go_sem, kr2]) rfl ?_
          exact (by obtain ⟨R, q1, q2, q3⟩ := HF.out; exact ⟨some ⟨O, 0, none⟩, R, i, by rw [HGl], q1, q2, q3⟩)
end

section
set_option maxRecDepth 100000
set_option linter.unusedVariables false
open Go.RowKit Go.Shelf

/-- Of answers what the document's reference answers. -/
theorem of_both (n : Int) (l : List Ri) (m : Nat) (hl : l.length = m) (A : Option Addr) (c : Nat) (hc : m ≤ c) : ∃ (G : List (List Nat)) (e : Int), G.length ≤ 100 ∧
    (∀ V : World, RdV V V.heap.size A (rcs l) → Calls Try.prog 16 #[.int .i64 n, .slice A m c] V (GrP V G e)) ∧
    (∀ V : World, RdV V V.heap.size A (rcs l) → Calls Try.prog 21 #[.int .i64 n, .slice A m c] V (GrP V G e)) := by
  by_cases hn : 0 ≤ n ∧ n ≤ 100
  · obtain ⟨k, rfl⟩ := Int.eq_ofNat_of_zero_le hn.1
    by_cases hm : 600 < m
    · exact ⟨[], 2, by simp, fun V _ => gof_many k (by omega) A m c hm V, fun V _ => refof_many k (by omega) A m c hm V⟩
    · by_cases h0 : caE (k : Int) [] l = 0
      · obtain ⟨L, e, h1, h2⟩ := caE_zero (k : Int) l [] (by simp) h0
        have e2 : l.map toA = L := by rw [e, toA_rz]
        refine ⟨wa k L, 0, by rw [wa_length]; omega, fun V h => ?_, fun V h => ?_⟩
        · rw [e] at h hl
          exact gof_ok k (by omega) L (by simpa using h1) (fun a ha => by have := h2 a ha; omega) m (by unfold rz at hl; simpa using hl) (by omega) A c V h
        · have := refof_in k (by omega) l m hl (by omega) 0 h0 A c hc V h
          rwa [if_pos rfl, e2] at this
      · refine ⟨[], caE (k : Int) [] l, by simp, fun V h => gof_arcs k (by omega) l m hl (by omega) _ rfl h0 A c V h, fun V h => ?_⟩
        have := refof_in k (by omega) l m hl (by omega) _ rfl A c hc V h
        rwa [if_neg h0] at this
  · exact ⟨[], 3, by simp, fun V _ => gof_range n hn A m c V, fun V _ => refof_range n hn A m c V⟩
set_option maxHeartbeats 16000000 in
theorem graphTells_e (A : Option Addr) (c : Nat) (R : List Rw) (n : Int) (B : Option Addr) (d : Nat) (l : List Ri) (w : World) (hA : RdG w w.heap.size A R) (hB : RdV w w.heap.size B (rcs l)) (hd : l.length ≤ d) (hn : R.length ≤ 140737488355328) (e0 : grE (gs R) ≠ 0) :
    Calls Try.prog 3 #[.agg #[.slice A R.length c], .int .i64 n, .slice B l.length d] w fun e w' => e = .returned (.bool true) ∧ Below w.heap.size w w' := by
  have HSl : Hid (∀ V A B c d, Calls Try.prog 29 #[.slice A 0 c, .slice B 0 d] V fun e w' => e = .returned (.bool true) ∧ Below V.heap.size V w') := fun V A B c d => by
    have := sameI_any V A B c d [] [] (by simp) (.inl rfl) (.inl rfl)
    simpa using this
  have HSr : Hid (∀ V A B c d, Calls Try.prog 27 #[.slice A 0 c, .slice B 0 d] V fun e w' => e = .returned (.bool true) ∧ Below V.heap.size V w') := fun V A B c d => by
    have := sameR_any V A B c d [] [] (by simp) (.inl rfl) (.inl rfl)
    simpa using this
  have HSz : Hid (∀ V A B c d, Calls Try.prog 28 #[.agg #[.slice A 0 c], .agg #[.slice B 0 d]] V fun e w' => e = .returned (.bool true) ∧ Below V.heap.size V w') := fun V A B c d => by
    have := sameG_any V A B c d [] [] 0 0 rfl rfl (by omega) ⟨.inl rfl, by simp⟩ ⟨.inl rfl, by simp⟩
    simpa [gs] using this
  have HSg : Hid (∀ (G : List (List Nat)) R S A B c d (V : World), gs R = G.map ns → gs S = G.map ns → RdG V V.heap.size A R → RdG V V.heap.size B S → G.length ≤ 1000000 → Calls Try.prog 28 #[.agg #[.slice A G.length c], .agg #[.slice B G.length d]] V fun e w' => e = .returned (.bool true) ∧ Below V.heap.size V w') := fun G R S A B c d V h1 h2 h3 h4 hl => by
    have l1 : R.length = G.length := by have := congrArg List.length h1; rwa [gs_length, List.length_map] at this
    have l2 : S.length = G.length := by have := congrArg List.length h2; rwa [gs_length, List.length_map] at this
    have := sameG_any V A B c d R S G.length G.length l1 l2 (by omega) h3 h4
    rw [h1, h2] at this
    simpa using this
  obtain ⟨N, hN⟩ : ∃ N, R.length = N := ⟨_, rfl⟩
  obtain ⟨m, hm⟩ : ∃ m, l.length = m := ⟨_, rfl⟩
  rw [hN] at hn ⊢
  rw [hm] at hd ⊢
  obtain ⟨G, eo, hGe, hof, href⟩ := of_both n l m hm B d hd
  have HOf := Lib.hid hof
  have HRef := Lib.hid href
  have HGl : Hid (G.length ≤ 1000000) := by show _ ≤ _; omega
  clear hof href hGe
  obtain ⟨e1, he1⟩ : ∃ e1, grE (gs R) = e1 := ⟨_, rfl⟩
  have h1 : e1 ≠ 0 := by rw [← he1]; exact e0
  have HAr : Hid (∀ A c V, RdG V V.heap.size A R → Calls Try.prog 15 #[.agg #[.slice A N c]] V (ArcsP V [] e1)) := fun A c V h => garcs_e R N hN hn e1 he1 h1 A c V h
  have HT : Hid (∀ A c V, RdG V V.heap.size A R → Calls Try.prog 17 #[.agg #[.slice A N c]] V (GrP V [] e1)) := fun A c V h => gturn_e R N hN hn e1 he1 h1 A c V h
  have HBo : Hid (∀ A c V, RdG V V.heap.size A R → Calls Try.prog 18 #[.agg #[.slice A N c]] V (GrP V [] e1)) := fun A c V h => gboth_e R N hN hn e1 he1 h1 A c V h
  have HD : Hid (∀ A c V, RdG V V.heap.size A R → Calls Try.prog 19 #[.agg #[.slice A N c]] V (DegP V [] [] e1)) := fun A c V h => gdeg_e R N hN hn e1 he1 h1 A c V h
  have HC : Hid (∀ A c V, RdG V V.heap.size A R → Calls Try.prog 26 #[.agg #[.slice A N c]] V fun e w' => e = .returned (.int .i64 e1) ∧ Below V.heap.size V w') := fun A c V h => by have := gchk_any R N hN hn A c V h; rwa [he1] at this
  have HRC : Hid (∀ A c V, RdG V V.heap.size A R → Calls Try.prog 20 #[.agg #[.slice A N c]] V fun e w' => e = .returned (.int .i64 e1) ∧ Below V.heap.size V w') := fun A c V h => by have := refgchk_any R N hN hn A c V h; rwa [he1] at this
  have t1 : (e1 == 0) = false := by simpa using h1
  have t2 : (e1 == e1) = true := by simp
  have t3 : (eo == eo) = true := by simp
  clear e0 hN hn he1 h1 hm hd
  have HB : Hid (Below w.heap.size w w) := Below.refl _ w
  have HR := Lib.hid hA; clear hA
  have HL := Lib.hid hB; clear hB
  go_enter Try.func3, Try.ntmps3
  have HBq : Hid (Below w.heap.size w (w.alloc (.cells #[.slice A N c] 24))) := one_below _ _
  replace HB : Hid (Below w.heap.size w (w.alloc (.cells #[.slice A N c] 24))) := HB.out.trans (HBq.out.mono HB.out.size)
  replace HR : Hid (RdG (w.alloc (.cells #[.slice A N c] 24)) ((w.alloc (.cells #[.slice A N c] 24))).heap.size A R) := HR.out.on HBq.out
  replace HL : Hid (RdV (w.alloc (.cells #[.slice A N c] 24)) ((w.alloc (.cells #[.slice A N c] 24))).heap.size B (rcs l)) := HL.out.on HBq.out
  clear HBq
  have K0 : Hid (((w.alloc (.cells #[.slice A N c] 24))).cell? ⟨w.heap.size, 0, none⟩ = some (.slice A N c)) := (cell_at (World.alloc_heap_new w _) 0).trans rfl
  have HC := Lib.hid (HAr.out A c _ HR.out)
  have k_K0 := K0.out
  go_wp2_with fail
  clear k_K0
  refine HC.out.mono ?_
  rintro e w1 ⟨A1, c1, rfl, -, -, bq⟩
  clear HC
  have HBc := Lib.hid bq; clear bq
  have HBq : Hid (Below (w.alloc (.cells #[.slice A N c] 24)).heap.size (w.alloc (.cells #[.slice A N c] 24)) w1) := HBc.out
  replace HB : Hid (Below w.heap.size w w1) := HB.out.trans (HBq.out.mono HB.out.size)
  replace HR : Hid (RdG w1 (w1).heap.size A R) := HR.out.on HBq.out
  replace HL : Hid (RdV w1 (w1).heap.size B (rcs l)) := HL.out.on HBq.out
  replace K0 : Hid ((w1).cell? ⟨w.heap.size, 0, none⟩ = some (.slice A N c)) := (HBq.out.cell (World.block_lt_of_cell? _ _ K0.out)).trans K0.out
  clear HBq
  clear HBc
  have HC := Lib.hid (HOf.out _ HL.out)
  have k_K0 := K0.out
  go_wp2_with fail
  clear k_K0
  refine HC.out.mono ?_
  rintro e w2 ⟨A2, R2, c2, rfl, g2, q2, bq⟩
  clear HC
  have HBc := Lib.hid bq; clear bq
  have HBq : Hid (Below w1.heap.size w1 w2) := HBc.out
  replace HB : Hid (Below w.heap.size w w2) := HB.out.trans (HBq.out.mono HB.out.size)
  replace HR : Hid (RdG w2 (w2).heap.size A R) := HR.out.on HBq.out
  replace HL : Hid (RdV w2 (w2).heap.size B (rcs l)) := HL.out.on HBq.out
  replace K0 : Hid ((w2).cell? ⟨w.heap.size, 0, none⟩ = some (.slice A N c)) := (HBq.out.cell (World.block_lt_of_cell? _ _ K0.out)).trans K0.out
  clear HBq
  clear HBc
  have Q2 : Hid (RdG w2 (w2).heap.size A2 R2) := q2
  have HG2 := Lib.hid g2; clear q2 g2
  have HBq : Hid (Below w2.heap.size w2 (w2.alloc (.cells #[.slice A2 G.length c2] 24))) := one_below _ _
  replace HB : Hid (Below w.heap.size w (w2.alloc (.cells #[.slice A2 G.length c2] 24))) := HB.out.trans (HBq.out.mono HB.out.size)
  replace HR : Hid (RdG (w2.alloc (.cells #[.slice A2 G.length c2] 24)) ((w2.alloc (.cells #[.slice A2 G.length c2] 24))).heap.size A R) := HR.out.on HBq.out
  replace HL : Hid (RdV (w2.alloc (.cells #[.slice A2 G.length c2] 24)) ((w2.alloc (.cells #[.slice A2 G.length c2] 24))).heap.size B (rcs l)) := HL.out.on HBq.out
  replace K0 : Hid (((w2.alloc (.cells #[.slice A2 G.length c2] 24))).cell? ⟨w.heap.size, 0, none⟩ = some (.slice A N c)) := (HBq.out.cell (World.block_lt_of_cell? _ _ K0.out)).trans K0.out
  replace Q2 : Hid (RdG (w2.alloc (.cells #[.slice A2 G.length c2] 24)) ((w2.alloc (.cells #[.slice A2 G.length c2] 24))).heap.size A2 R2) := Q2.out.on HBq.out
  clear HBq
  have K2 : Hid (((w2.alloc (.cells #[.slice A2 G.length c2] 24))).cell? ⟨w2.heap.size, 0, none⟩ = some (.slice A2 G.length c2)) := (cell_at (World.alloc_heap_new w2 _) 0).trans rfl
  have HC := Lib.hid (HT.out A c _ HR.out)
  have k_K0 := K0.out
  have k_K2 := K2.out
  go_wp2_with fail
  clear k_K0
  clear k_K2
  refine HC.out.mono ?_
  rintro e w3 ⟨A3, R3, c3, rfl, -, -, bq⟩
  clear HC
  have HBc := Lib.hid bq; clear bq
  have HBq : Hid (Below (w2.alloc (.cells #[.slice A2 G.length c2] 24)).heap.size (w2.alloc (.cells #[.slice A2 G.length c2] 24)) w3) := HBc.out
  replace HB : Hid (Below w.heap.size w w3) := HB.out.trans (HBq.out.mono HB.out.size)
  replace HR : Hid (RdG w3 (w3).heap.size A R) := HR.out.on HBq.out
  replace HL : Hid (RdV w3 (w3).heap.size B (rcs l)) := HL.out.on HBq.out
  replace K0 : Hid ((w3).cell? ⟨w.heap.size, 0, none⟩ = some (.slice A N c)) := (HBq.out.cell (World.block_lt_of_cell? _ _ K0.out)).trans K0.out
  replace Q2 : Hid (RdG w3 (w3).heap.size A2 R2) := Q2.out.on HBq.out
  replace K2 : Hid ((w3).cell? ⟨w2.heap.size, 0, none⟩ = some (.slice A2 G.length c2)) := (HBq.out.cell (World.block_lt_of_cell? _ _ K2.out)).trans K2.out
  clear HBq
  clear HBc
  have HBq : Hid (Below w3.heap.size w3 (w3.alloc (.cells #[.slice A3 0 c3] 24))) := one_below _ _
  replace HB : Hid (Below w.heap.size w (w3.alloc (.cells #[.slice A3 0 c3] 24))) := HB.out.trans (HBq.out.mono HB.out.size)
  replace HR : Hid (RdG (w3.alloc (.cells #[.slice A3 0 c3] 24)) ((w3.alloc (.cells #[.slice A3 0 c3] 24))).heap.size A R) := HR.out.on HBq.out
  replace HL : Hid (RdV (w3.alloc (.cells #[.slice A3 0 c3] 24)) ((w3.alloc (.cells #[.slice A3 0 c3] 24))).heap.size B (rcs l)) := HL.out.on HBq.out
  replace K0 : Hid (((w3.alloc (.cells #[.slice A3 0 c3] 24))).cell? ⟨w.heap.size, 0, none⟩ = some (.slice A N c)) := (HBq.out.cell (World.block_lt_of_cell? _ _ K0.out)).trans K0.out
  replace Q2 : Hid (RdG (w3.alloc (.cells #[.slice A3 0 c3] 24)) ((w3.alloc (.cells #[.slice A3 0 c3] 24))).heap.size A2 R2) := Q2.out.on HBq.out
  replace K2 : Hid (((w3.alloc (.cells #[.slice A3 0 c3] 24))).cell? ⟨w2.heap.size, 0, none⟩ = some (.slice A2 G.length c2)) := (HBq.out.cell (World.block_lt_of_cell? _ _ K2.out)).trans K2.out
  clear HBq
  have K3 : Hid (((w3.alloc (.cells #[.slice A3 0 c3] 24))).cell? ⟨w3.heap.size, 0, none⟩ = some (.slice A3 0 c3)) := (cell_at (World.alloc_heap_new w3 _) 0).trans rfl
  have HC := Lib.hid (HBo.out A c _ HR.out)
  have k_K0 := K0.out
  have k_K2 := K2.out
  have k_K3 := K3.out
  go_wp2_with fail
  clear k_K0
  clear k_K2
  clear k_K3
  refine HC.out.mono ?_
  rintro e w4 ⟨A4, R4, c4, rfl, -, -, bq⟩
  clear HC
  have HBc := Lib.hid bq; clear bq
  have HBq : Hid (Below (w3.alloc (.cells #[.slice A3 0 c3] 24)).heap.size (w3.alloc (.cells #[.slice A3 0 c3] 24)) w4) := HBc.out
  replace HB : Hid (Below w.heap.size w w4) := HB.out.trans (HBq.out.mono HB.out.size)
  replace HR : Hid (RdG w4 (w4).heap.size A R) := HR.out.on HBq.out
  replace HL : Hid (RdV w4 (w4).heap.size B (rcs l)) := HL.out.on HBq.out
  replace K0 : Hid ((w4).cell? ⟨w.heap.size, 0, none⟩ = some (.slice A N c)) := (HBq.out.cell (World.block_lt_of_cell? _ _ K0.out)).trans K0.out
  replace Q2 : Hid (RdG w4 (w4).heap.size A2 R2) := Q2.out.on HBq.out
  replace K2 : Hid ((w4).cell? ⟨w2.heap.size, 0, none⟩ = some (.slice A2 G.length c2)) := (HBq.out.cell (World.block_lt_of_cell? _ _ K2.out)).trans K2.out
  replace K3 : Hid ((w4).cell? ⟨w3.heap.size, 0, none⟩ = some (.slice A3 0 c3)) := (HBq.out.cell (World.block_lt_of_cell? _ _ K3.out)).trans K3.out
  clear HBq
  clear HBc
  have HBq : Hid (Below w4.heap.size w4 (w4.alloc (.cells #[.slice A4 0 c4] 24))) := one_below _ _
  replace HB : Hid (Below w.heap.size w (w4.alloc (.cells #[.slice A4 0 c4] 24))) := HB.out.trans (HBq.out.mono HB.out.size)
  replace HR : Hid (RdG (w4.alloc (.cells #[.slice A4 0 c4] 24)) ((w4.alloc (.cells #[.slice A4 0 c4] 24))).heap.size A R) := HR.out.on HBq.out
  replace HL : Hid (RdV (w4.alloc (.cells #[.slice A4 0 c4] 24)) ((w4.alloc (.cells #[.slice A4 0 c4] 24))).heap.size B (rcs l)) := HL.out.on HBq.out
  replace K0 : Hid (((w4.alloc (.cells #[.slice A4 0 c4] 24))).cell? ⟨w.heap.size, 0, none⟩ = some (.slice A N c)) := (HBq.out.cell (World.block_lt_of_cell? _ _ K0.out)).trans K0.out
  replace Q2 : Hid (RdG (w4.alloc (.cells #[.slice A4 0 c4] 24)) ((w4.alloc (.cells #[.slice A4 0 c4] 24))).heap.size A2 R2) := Q2.out.on HBq.out
  replace K2 : Hid (((w4.alloc (.cells #[.slice A4 0 c4] 24))).cell? ⟨w2.heap.size, 0, none⟩ = some (.slice A2 G.length c2)) := (HBq.out.cell (World.block_lt_of_cell? _ _ K2.out)).trans K2.out
  replace K3 : Hid (((w4.alloc (.cells #[.slice A4 0 c4] 24))).cell? ⟨w3.heap.size, 0, none⟩ = some (.slice A3 0 c3)) := (HBq.out.cell (World.block_lt_of_cell? _ _ K3.out)).trans K3.out
  clear HBq
  have K4 : Hid (((w4.alloc (.cells #[.slice A4 0 c4] 24))).cell? ⟨w4.heap.size, 0, none⟩ = some (.slice A4 0 c4)) := (cell_at (World.alloc_heap_new w4 _) 0).trans rfl
  have HC := Lib.hid (HD.out A c _ HR.out)
  have k_K0 := K0.out
  go_wp2_with fail
  clear k_K0
  refine HC.out.mono ?_
  rintro e w5 ⟨A5, c5, A6, c6, rfl, -, -, bq⟩
  clear HC
  have HBc := Lib.hid bq; clear bq
  have HBq : Hid (Below (w4.alloc (.cells #[.slice A4 0 c4] 24)).heap.size (w4.alloc (.cells #[.slice A4 0 c4] 24)) w5) := HBc.out
  replace HB : Hid (Below w.heap.size w w5) := HB.out.trans (HBq.out.mono HB.out.size)
  replace HR : Hid (RdG w5 (w5).heap.size A R) := HR.out.on HBq.out
  replace HL : Hid (RdV w5 (w5).heap.size B (rcs l)) := HL.out.on HBq.out
  replace K0 : Hid ((w5).cell? ⟨w.heap.size, 0, none⟩ = some (.slice A N c)) := (HBq.out.cell (World.block_lt_of_cell? _ _ K0.out)).trans K0.out
  replace Q2 : Hid (RdG w5 (w5).heap.size A2 R2) := Q2.out.on HBq.out
  replace K2 : Hid ((w5).cell? ⟨w2.heap.size, 0, none⟩ = some (.slice A2 G.length c2)) := (HBq.out.cell (World.block_lt_of_cell? _ _ K2.out)).trans K2.out
  replace K3 : Hid ((w5).cell? ⟨w3.heap.size, 0, none⟩ = some (.slice A3 0 c3)) := (HBq.out.cell (World.block_lt_of_cell? _ _ K3.out)).trans K3.out
  replace K4 : Hid ((w5).cell? ⟨w4.heap.size, 0, none⟩ = some (.slice A4 0 c4)) := (HBq.out.cell (World.block_lt_of_cell? _ _ K4.out)).trans K4.out
  clear HBq
  clear HBc
  have HC := Lib.hid (HRC.out A c _ HR.out)
  have k_K0 := K0.out
  go_wp2_with fail
  clear k_K0
  refine HC.out.mono ?_
  rintro e w6 ⟨rfl, bq⟩
  clear HC
  have HBc := Lib.hid bq; clear bq
  have HBq : Hid (Below w5.heap.size w5 w6) := HBc.out
  replace HB : Hid (Below w.heap.size w w6) := HB.out.trans (HBq.out.mono HB.out.size)
  replace HR : Hid (RdG w6 (w6).heap.size A R) := HR.out.on HBq.out
  replace HL : Hid (RdV w6 (w6).heap.size B (rcs l)) := HL.out.on HBq.out
  replace K0 : Hid ((w6).cell? ⟨w.heap.size, 0, none⟩ = some (.slice A N c)) := (HBq.out.cell (World.block_lt_of_cell? _ _ K0.out)).trans K0.out
  replace Q2 : Hid (RdG w6 (w6).heap.size A2 R2) := Q2.out.on HBq.out
  replace K2 : Hid ((w6).cell? ⟨w2.heap.size, 0, none⟩ = some (.slice A2 G.length c2)) := (HBq.out.cell (World.block_lt_of_cell? _ _ K2.out)).trans K2.out
  replace K3 : Hid ((w6).cell? ⟨w3.heap.size, 0, none⟩ = some (.slice A3 0 c3)) := (HBq.out.cell (World.block_lt_of_cell? _ _ K3.out)).trans K3.out
  replace K4 : Hid ((w6).cell? ⟨w4.heap.size, 0, none⟩ = some (.slice A4 0 c4)) := (HBq.out.cell (World.block_lt_of_cell? _ _ K4.out)).trans K4.out
  clear HBq
  clear HBc
  have HC := Lib.hid (HRef.out _ HL.out)
  have k_K0 := K0.out
  go_wp2_with fail
  clear k_K0
  refine HC.out.mono ?_
  rintro e w7 ⟨A7, R7, c7, rfl, g7, q7, bq⟩
  clear HC
  have HBc := Lib.hid bq; clear bq
  have HBq : Hid (Below w6.heap.size w6 w7) := HBc.out
  replace HB : Hid (Below w.heap.size w w7) := HB.out.trans (HBq.out.mono HB.out.size)
  replace HR : Hid (RdG w7 (w7).heap.size A R) := HR.out.on HBq.out
  replace HL : Hid (RdV w7 (w7).heap.size B (rcs l)) := HL.out.on HBq.out
  replace K0 : Hid ((w7).cell? ⟨w.heap.size, 0, none⟩ = some (.slice A N c)) := (HBq.out.cell (World.block_lt_of_cell? _ _ K0.out)).trans K0.out
  replace Q2 : Hid (RdG w7 (w7).heap.size A2 R2) := Q2.out.on HBq.out
  replace K2 : Hid ((w7).cell? ⟨w2.heap.size, 0, none⟩ = some (.slice A2 G.length c2)) := (HBq.out.cell (World.block_lt_of_cell? _ _ K2.out)).trans K2.out
  replace K3 : Hid ((w7).cell? ⟨w3.heap.size, 0, none⟩ = some (.slice A3 0 c3)) := (HBq.out.cell (World.block_lt_of_cell? _ _ K3.out)).trans K3.out
  replace K4 : Hid ((w7).cell? ⟨w4.heap.size, 0, none⟩ = some (.slice A4 0 c4)) := (HBq.out.cell (World.block_lt_of_cell? _ _ K4.out)).trans K4.out
  clear HBq
  clear HBc
  have Q7 : Hid (RdG w7 (w7).heap.size A7 R7) := q7
  have HG7 := Lib.hid g7; clear q7 g7
  have HBq : Hid (Below w7.heap.size w7 (w7.alloc (.cells #[.slice A7 G.length c7] 24))) := one_below _ _
  replace HB : Hid (Below w.heap.size w (w7.alloc (.cells #[.slice A7 G.length c7] 24))) := HB.out.trans (HBq.out.mono HB.out.size)
  replace HR : Hid (RdG (w7.alloc (.cells #[.slice A7 G.length c7] 24)) ((w7.alloc (.cells #[.slice A7 G.length c7] 24))).heap.size A R) := HR.out.on HBq.out
  replace HL : Hid (RdV (w7.alloc (.cells #[.slice A7 G.length c7] 24)) ((w7.alloc (.cells #[.slice A7 G.length c7] 24))).heap.size B (rcs l)) := HL.out.on HBq.out
  replace K0 : Hid (((w7.alloc (.cells #[.slice A7 G.length c7] 24))).cell? ⟨w.heap.size, 0, none⟩ = some (.slice A N c)) := (HBq.out.cell (World.block_lt_of_cell? _ _ K0.out)).trans K0.out
  replace Q2 : Hid (RdG (w7.alloc (.cells #[.slice A7 G.length c7] 24)) ((w7.alloc (.cells #[.slice A7 G.length c7] 24))).heap.size A2 R2) := Q2.out.on HBq.out
  replace K2 : Hid (((w7.alloc (.cells #[.slice A7 G.length c7] 24))).cell? ⟨w2.heap.size, 0, none⟩ = some (.slice A2 G.length c2)) := (HBq.out.cell (World.block_lt_of_cell? _ _ K2.out)).trans K2.out
  replace K3 : Hid (((w7.alloc (.cells #[.slice A7 G.length c7] 24))).cell? ⟨w3.heap.size, 0, none⟩ = some (.slice A3 0 c3)) := (HBq.out.cell (World.block_lt_of_cell? _ _ K3.out)).trans K3.out
  replace K4 : Hid (((w7.alloc (.cells #[.slice A7 G.length c7] 24))).cell? ⟨w4.heap.size, 0, none⟩ = some (.slice A4 0 c4)) := (HBq.out.cell (World.block_lt_of_cell? _ _ K4.out)).trans K4.out
  replace Q7 : Hid (RdG (w7.alloc (.cells #[.slice A7 G.length c7] 24)) ((w7.alloc (.cells #[.slice A7 G.length c7] 24))).heap.size A7 R7) := Q7.out.on HBq.out
  clear HBq
  have K7 : Hid (((w7.alloc (.cells #[.slice A7 G.length c7] 24))).cell? ⟨w7.heap.size, 0, none⟩ = some (.slice A7 G.length c7)) := (cell_at (World.alloc_heap_new w7 _) 0).trans rfl
  have HBq : Hid (Below (w7.alloc (.cells #[.slice A7 G.length c7] 24)).heap.size (w7.alloc (.cells #[.slice A7 G.length c7] 24)) ((w7.alloc (.cells #[.slice A7 G.length c7] 24)).alloc (.cells #[.slice none 0 0] 24))) := one_below _ _
  replace HB : Hid (Below w.heap.size w ((w7.alloc (.cells #[.slice A7 G.length c7] 24)).alloc (.cells #[.slice none 0 0] 24))) := HB.out.trans (HBq.out.mono HB.out.size)
  replace HR : Hid (RdG ((w7.alloc (.cells #[.slice A7 G.length c7] 24)).alloc (.cells #[.slice none 0 0] 24)) (((w7.alloc (.cells #[.slice A7 G.length c7] 24)).alloc (.cells #[.slice none 0 0] 24))).heap.size A R) := HR.out.on HBq.out
  replace HL : Hid (RdV ((w7.alloc (.cells #[.slice A7 G.length c7] 24)).alloc (.cells #[.slice none 0 0] 24)) (((w7.alloc (.cells #[.slice A7 G.length c7] 24)).alloc (.cells #[.slice none 0 0] 24))).heap.size B (rcs l)) := HL.out.on HBq.out
  replace K0 : Hid ((((w7.alloc (.cells #[.slice A7 G.length c7] 24)).alloc (.cells #[.slice none 0 0] 24))).cell? ⟨w.heap.size, 0, none⟩ = some (.slice A N c)) := (HBq.out.cell (World.block_lt_of_cell? _ _ K0.out)).trans K0.out
  replace Q2 : Hid (RdG ((w7.alloc (.cells #[.slice A7 G.length c7] 24)).alloc (.cells #[.slice none 0 0] 24)) (((w7.alloc (.cells #[.slice A7 G.length c7] 24)).alloc (.cells #[.slice none 0 0] 24))).heap.size A2 R2) := Q2.out.on HBq.out
  replace K2 : Hid ((((w7.alloc (.cells #[.slice A7 G.length c7] 24)).alloc (.cells #[.slice none 0 0] 24))).cell? ⟨w2.heap.size, 0, none⟩ = some (.slice A2 G.length c2)) := (HBq.out.cell (World.block_lt_of_cell? _ _ K2.out)).trans K2.out
  replace K3 : Hid ((((w7.alloc (.cells #[.slice A7 G.length c7] 24)).alloc (.cells #[.slice none 0 0] 24))).cell? ⟨w3.heap.size, 0, none⟩ = some (.slice A3 0 c3)) := (HBq.out.cell (World.block_lt_of_cell? _ _ K3.out)).trans K3.out
  replace K4 : Hid ((((w7.alloc (.cells #[.slice A7 G.length c7] 24)).alloc (.cells #[.slice none 0 0] 24))).cell? ⟨w4.heap.size, 0, none⟩ = some (.slice A4 0 c4)) := (HBq.out.cell (World.block_lt_of_cell? _ _ K4.out)).trans K4.out
  replace Q7 : Hid (RdG ((w7.alloc (.cells #[.slice A7 G.length c7] 24)).alloc (.cells #[.slice none 0 0] 24)) (((w7.alloc (.cells #[.slice A7 G.length c7] 24)).alloc (.cells #[.slice none 0 0] 24))).heap.size A7 R7) := Q7.out.on HBq.out
  replace K7 : Hid ((((w7.alloc (.cells #[.slice A7 G.length c7] 24)).alloc (.cells #[.slice none 0 0] 24))).cell? ⟨w7.heap.size, 0, none⟩ = some (.slice A7 G.length c7)) := (HBq.out.cell (World.block_lt_of_cell? _ _ K7.out)).trans K7.out
  clear HBq
  have K8 : Hid ((((w7.alloc (.cells #[.slice A7 G.length c7] 24)).alloc (.cells #[.slice none 0 0] 24))).cell? ⟨w7.heap.size + 1, 0, none⟩ = some (.slice none 0 0)) := (cell_at (by have h := World.alloc_heap_new (w7.alloc (.cells #[.slice A7 G.length c7] 24)) (.cells #[.slice none 0 0] 24); simp only [World.size_alloc] at h; exact h) 0).trans rfl
  have HBq : Hid (Below ((w7.alloc (.cells #[.slice A7 G.length c7] 24)).alloc (.cells #[.slice none 0 0] 24)).heap.size ((w7.alloc (.cells #[.slice A7 G.length c7] 24)).alloc (.cells #[.slice none 0 0] 24)) (((w7.alloc (.cells #[.slice A7 G.length c7] 24)).alloc (.cells #[.slice none 0 0] 24)).alloc (.cells #[.slice none 0 0] 24))) := one_below _ _
  replace HB : Hid (Below w.heap.size w (((w7.alloc (.cells #[.slice A7 G.length c7] 24)).alloc (.cells #[.slice none 0 0] 24)).alloc (.cells #[.slice none 0 0] 24))) := HB.out.trans (HBq.out.mono HB.out.size)
  replace HR : Hid (RdG (((w7.alloc (.cells #[.slice A7 G.length c7] 24)).alloc (.cells #[.slice none 0 0] 24)).alloc (.cells #[.slice none 0 0] 24)) ((((w7.alloc (.cells #[.slice A7 G.length c7] 24)).alloc (.cells #[.slice none 0 0] 24)).alloc (.cells #[.slice none 0 0] 24))).heap.size A R) := HR.out.on HBq.out
  replace HL : Hid (RdV (((w7.alloc (.cells #[.slice A7 G.length c7] 24)).alloc (.cells #[.slice none 0 0] 24)).alloc (.cells #[.slice none 0 0] 24)) ((((w7.alloc (.cells #[.slice A7 G.length c7] 24)).alloc (.cells #[.slice none 0 0] 24)).alloc (.cells #[.slice none 0 0] 24))).heap.size B (rcs l)) := HL.out.on HBq.out
  replace K0 : Hid (((((w7.alloc (.cells #[.slice A7 G.length c7] 24)).alloc (.cells #[.slice none 0 0] 24)).alloc (.cells #[.slice none 0 0] 24))).cell? ⟨w.heap.size, 0, none⟩ = some (.slice A N c)) := (HBq.out.cell (World.block_lt_of_cell? _ _ K0.out)).trans K0.out
  replace Q2 : Hid (RdG (((w7.alloc (.cells #[.slice A7 G.length c7] 24)).alloc (.cells #[.slice none 0 0] 24)).alloc (.cells #[.slice none 0 0] 24)) ((((w7.alloc (.cells #[.slice A7 G.length c7] 24)).alloc (.cells #[.slice none 0 0] 24)).alloc (.cells #[.slice none 0 0] 24))).heap.size A2 R2) := Q2.out.on HBq.out
  replace K2 : Hid (((((w7.alloc (.cells #[.slice A7 G.length c7] 24)).alloc (.cells #[.slice none 0 0] 24)).alloc (.cells #[.slice none 0 0] 24))).cell? ⟨w2.heap.size, 0, none⟩ = some (.slice A2 G.length c2)) := (HBq.out.cell (World.block_lt_of_cell? _ _ K2.out)).trans K2.out
  replace K3 : Hid (((((w7.alloc (.cells #[.slice A7 G.length c7] 24)).alloc (.cells #[.slice none 0 0] 24)).alloc (.cells #[.slice none 0 0] 24))).cell? ⟨w3.heap.size, 0, none⟩ = some (.slice A3 0 c3)) := (HBq.out.cell (World.block_lt_of_cell? _ _ K3.out)).trans K3.out
  replace K4 : Hid (((((w7.alloc (.cells #[.slice A7 G.length c7] 24)).alloc (.cells #[.slice none 0 0] 24)).alloc (.cells #[.slice none 0 0] 24))).cell? ⟨w4.heap.size, 0, none⟩ = some (.slice A4 0 c4)) := (HBq.out.cell (World.block_lt_of_cell? _ _ K4.out)).trans K4.out
  replace Q7 : Hid (RdG (((w7.alloc (.cells #[.slice A7 G.length c7] 24)).alloc (.cells #[.slice none 0 0] 24)).alloc (.cells #[.slice none 0 0] 24)) ((((w7.alloc (.cells #[.slice A7 G.length c7] 24)).alloc (.cells #[.slice none 0 0] 24)).alloc (.cells #[.slice none 0 0] 24))).heap.size A7 R7) := Q7.out.on HBq.out
  replace K7 : Hid (((((w7.alloc (.cells #[.slice A7 G.length c7] 24)).alloc (.cells #[.slice none 0 0] 24)).alloc (.cells #[.slice none 0 0] 24))).cell? ⟨w7.heap.size, 0, none⟩ = some (.slice A7 G.length c7)) := (HBq.out.cell (World.block_lt_of_cell? _ _ K7.out)).trans K7.out
  replace K8 : Hid (((((w7.alloc (.cells #[.slice A7 G.length c7] 24)).alloc (.cells #[.slice none 0 0] 24)).alloc (.cells #[.slice none 0 0] 24))).cell? ⟨w7.heap.size + 1, 0, none⟩ = some (.slice none 0 0)) := (HBq.out.cell (World.block_lt_of_cell? _ _ K8.out)).trans K8.out
  clear HBq
  have K9 : Hid (((((w7.alloc (.cells #[.slice A7 G.length c7] 24)).alloc (.cells #[.slice none 0 0] 24)).alloc (.cells #[.slice none 0 0] 24))).cell? ⟨w7.heap.size + 1 + 1, 0, none⟩ = some (.slice none 0 0)) := (cell_at (by have h := World.alloc_heap_new ((w7.alloc (.cells #[.slice A7 G.length c7] 24)).alloc (.cells #[.slice none 0 0] 24)) (.cells #[.slice none 0 0] 24); simp only [World.size_alloc] at h; exact h) 0).trans rfl
  have HC := Lib.hid (graphbegun_true (((w7.alloc (.cells #[.slice A7 G.length c7] 24)).alloc (.cells #[.slice none 0 0] 24)).alloc (.cells #[.slice none 0 0] 24)))
  have k_K0 := K0.out
  have k_K2 := K2.out
  have k_K3 := K3.out
  have k_K4 := K4.out
  have k_K7 := K7.out
  have k_K8 := K8.out
  have k_K9 := K9.out
  go_wp2_with fail
  clear k_K0
  clear k_K2
  clear k_K3
  clear k_K4
  clear k_K7
  clear k_K8
  clear k_K9
  refine HC.out.mono ?_
  rintro e v1 ⟨rfl, bq⟩
  clear HC
  have HBc := Lib.hid bq; clear bq
  have HBq : Hid (Below (((w7.alloc (.cells #[.slice A7 G.length c7] 24)).alloc (.cells #[.slice none 0 0] 24)).alloc (.cells #[.slice none 0 0] 24)).heap.size (((w7.alloc (.cells #[.slice A7 G.length c7] 24)).alloc (.cells #[.slice none 0 0] 24)).alloc (.cells #[.slice none 0 0] 24)) v1) := HBc.out
  replace HB : Hid (Below w.heap.size w v1) := HB.out.trans (HBq.out.mono HB.out.size)
  replace HR : Hid (RdG v1 (v1).heap.size A R) := HR.out.on HBq.out
  replace HL : Hid (RdV v1 (v1).heap.size B (rcs l)) := HL.out.on HBq.out
  replace K0 : Hid ((v1).cell? ⟨w.heap.size, 0, none⟩ = some (.slice A N c)) := (HBq.out.cell (World.block_lt_of_cell? _ _ K0.out)).trans K0.out
  replace Q2 : Hid (RdG v1 (v1).heap.size A2 R2) := Q2.out.on HBq.out
  replace K2 : Hid ((v1).cell? ⟨w2.heap.size, 0, none⟩ = some (.slice A2 G.length c2)) := (HBq.out.cell (World.block_lt_of_cell? _ _ K2.out)).trans K2.out
  replace K3 : Hid ((v1).cell? ⟨w3.heap.size, 0, none⟩ = some (.slice A3 0 c3)) := (HBq.out.cell (World.block_lt_of_cell? _ _ K3.out)).trans K3.out
  replace K4 : Hid ((v1).cell? ⟨w4.heap.size, 0, none⟩ = some (.slice A4 0 c4)) := (HBq.out.cell (World.block_lt_of_cell? _ _ K4.out)).trans K4.out
  replace Q7 : Hid (RdG v1 (v1).heap.size A7 R7) := Q7.out.on HBq.out
  replace K7 : Hid ((v1).cell? ⟨w7.heap.size, 0, none⟩ = some (.slice A7 G.length c7)) := (HBq.out.cell (World.block_lt_of_cell? _ _ K7.out)).trans K7.out
  replace K8 : Hid ((v1).cell? ⟨w7.heap.size + 1, 0, none⟩ = some (.slice none 0 0)) := (HBq.out.cell (World.block_lt_of_cell? _ _ K8.out)).trans K8.out
  replace K9 : Hid ((v1).cell? ⟨w7.heap.size + 1 + 1, 0, none⟩ = some (.slice none 0 0)) := (HBq.out.cell (World.block_lt_of_cell? _ _ K9.out)).trans K9.out
  clear HBq
  clear HBc
  have HC := Lib.hid (HC.out A c _ HR.out)
  have k_K0 := K0.out
  have k_K2 := K2.out
  have k_K3 := K3.out
  have k_K4 := K4.out
  have k_K7 := K7.out
  have k_K8 := K8.out
  have k_K9 := K9.out
  go_wp2_with fail
  clear k_K0
  clear k_K2
  clear k_K3
  clear k_K4
  clear k_K7
  clear k_K8
  clear k_K9
  refine HC.out.mono ?_
  rintro e v2 ⟨rfl, bq⟩
  clear HC
  have HBc := Lib.hid bq; clear bq
  have HBq : Hid (Below v1.heap.size v1 v2) := HBc.out
  replace HB : Hid (Below w.heap.size w v2) := HB.out.trans (HBq.out.mono HB.out.size)
  replace HR : Hid (RdG v2 (v2).heap.size A R) := HR.out.on HBq.out
  replace HL : Hid (RdV v2 (v2).heap.size B (rcs l)) := HL.out.on HBq.out
  replace K0 : Hid ((v2).cell? ⟨w.heap.size, 0, none⟩ = some (.slice A N c)) := (HBq.out.cell (World.block_lt_of_cell? _ _ K0.out)).trans K0.out
  replace Q2 : Hid (RdG v2 (v2).heap.size A2 R2) := Q2.out.on HBq.out
  replace K2 : Hid ((v2).cell? ⟨w2.heap.size, 0, none⟩ = some (.slice A2 G.length c2)) := (HBq.out.cell (World.block_lt_of_cell? _ _ K2.out)).trans K2.out
  replace K3 : Hid ((v2).cell? ⟨w3.heap.size, 0, none⟩ = some (.slice A3 0 c3)) := (HBq.out.cell (World.block_lt_of_cell? _ _ K3.out)).trans K3.out
  replace K4 : Hid ((v2).cell? ⟨w4.heap.size, 0, none⟩ = some (.slice A4 0 c4)) := (HBq.out.cell (World.block_lt_of_cell? _ _ K4.out)).trans K4.out
  replace Q7 : Hid (RdG v2 (v2).heap.size A7 R7) := Q7.out.on HBq.out
  replace K7 : Hid ((v2).cell? ⟨w7.heap.size, 0, none⟩ = some (.slice A7 G.length c7)) := (HBq.out.cell (World.block_lt_of_cell? _ _ K7.out)).trans K7.out
  replace K8 : Hid ((v2).cell? ⟨w7.heap.size + 1, 0, none⟩ = some (.slice none 0 0)) := (HBq.out.cell (World.block_lt_of_cell? _ _ K8.out)).trans K8.out
  replace K9 : Hid ((v2).cell? ⟨w7.heap.size + 1 + 1, 0, none⟩ = some (.slice none 0 0)) := (HBq.out.cell (World.block_lt_of_cell? _ _ K9.out)).trans K9.out
  clear HBq
  clear HBc
  have HC := Lib.hid (HSr.out v2 A1 none c1 0)
  have k_K0 := K0.out
  have k_K2 := K2.out
  have k_K3 := K3.out
  have k_K4 := K4.out
  have k_K7 := K7.out
  have k_K8 := K8.out
  have k_K9 := K9.out
  go_wp2_with fail
  clear k_K0
  clear k_K2
  clear k_K3
  clear k_K4
  clear k_K7
  clear k_K8
  clear k_K9
  refine HC.out.mono ?_
  rintro e v3 ⟨rfl, bq⟩
  clear HC
  have HBc := Lib.hid bq; clear bq
  have HBq : Hid (Below v2.heap.size v2 v3) := HBc.out
  replace HB : Hid (Below w.heap.size w v3) := HB.out.trans (HBq.out.mono HB.out.size)
  replace HR : Hid (RdG v3 (v3).heap.size A R) := HR.out.on HBq.out
  replace HL : Hid (RdV v3 (v3).heap.size B (rcs l)) := HL.out.on HBq.out
  replace K0 : Hid ((v3).cell? ⟨w.heap.size, 0, none⟩ = some (.slice A N c)) := (HBq.out.cell (World.block_lt_of_cell? _ _ K0.out)).trans K0.out
  replace Q2 : Hid (RdG v3 (v3).heap.size A2 R2) := Q2.out.on HBq.out
  replace K2 : Hid ((v3).cell? ⟨w2.heap.size, 0, none⟩ = some (.slice A2 G.length c2)) := (HBq.out.cell (World.block_lt_of_cell? _ _ K2.out)).trans K2.out
  replace K3 : Hid ((v3).cell? ⟨w3.heap.size, 0, none⟩ = some (.slice A3 0 c3)) := (HBq.out.cell (World.block_lt_of_cell? _ _ K3.out)).trans K3.out
  replace K4 : Hid ((v3).cell? ⟨w4.heap.size, 0, none⟩ = some (.slice A4 0 c4)) := (HBq.out.cell (World.block_lt_of_cell? _ _ K4.out)).trans K4.out
  replace Q7 : Hid (RdG v3 (v3).heap.size A7 R7) := Q7.out.on HBq.out
  replace K7 : Hid ((v3).cell? ⟨w7.heap.size, 0, none⟩ = some (.slice A7 G.length c7)) := (HBq.out.cell (World.block_lt_of_cell? _ _ K7.out)).trans K7.out
  replace K8 : Hid ((v3).cell? ⟨w7.heap.size + 1, 0, none⟩ = some (.slice none 0 0)) := (HBq.out.cell (World.block_lt_of_cell? _ _ K8.out)).trans K8.out
  replace K9 : Hid ((v3).cell? ⟨w7.heap.size + 1 + 1, 0, none⟩ = some (.slice none 0 0)) := (HBq.out.cell (World.block_lt_of_cell? _ _ K9.out)).trans K9.out
  clear HBq
  clear HBc
  have HC := Lib.hid (HSg.out G R2 R7 A2 A7 c2 c7 v3 HG2.out HG7.out Q2.out Q7.out HGl.out)
  have k_K0 := K0.out
  have k_K2 := K2.out
  have k_K3 := K3.out
  have k_K4 := K4.out
  have k_K7 := K7.out
  have k_K8 := K8.out
  have k_K9 := K9.out
  go_wp2_with fail
  clear k_K0
  clear k_K2
  clear k_K3
  clear k_K4
  clear k_K7
  clear k_K8
  clear k_K9
  refine HC.out.mono ?_
  rintro e v4 ⟨rfl, bq⟩
  clear HC
  have HBc := Lib.hid bq; clear bq
  have HBq : Hid (Below v3.heap.size v3 v4) := HBc.out
  replace HB : Hid (Below w.heap.size w v4) := HB.out.trans (HBq.out.mono HB.out.size)
  replace HR : Hid (RdG v4 (v4).heap.size A R) := HR.out.on HBq.out
  replace HL : Hid (RdV v4 (v4).heap.size B (rcs l)) := HL.out.on HBq.out
  replace K0 : Hid ((v4).cell? ⟨w.heap.size, 0, none⟩ = some (.slice A N c)) := (HBq.out.cell (World.block_lt_of_cell? _ _ K0.out)).trans K0.out
  replace Q2 : Hid (RdG v4 (v4).heap.size A2 R2) := Q2.out.on HBq.out
  replace K2 : Hid ((v4).cell? ⟨w2.heap.size, 0, none⟩ = some (.slice A2 G.length c2)) := (HBq.out.cell (World.block_lt_of_cell? _ _ K2.out)).trans K2.out
  replace K3 : Hid ((v4).cell? ⟨w3.heap.size, 0, none⟩ = some (.slice A3 0 c3)) := (HBq.out.cell (World.block_lt_of_cell? _ _ K3.out)).trans K3.out
  replace K4 : Hid ((v4).cell? ⟨w4.heap.size, 0, none⟩ = some (.slice A4 0 c4)) := (HBq.out.cell (World.block_lt_of_cell? _ _ K4.out)).trans K4.out
  replace Q7 : Hid (RdG v4 (v4).heap.size A7 R7) := Q7.out.on HBq.out
  replace K7 : Hid ((v4).cell? ⟨w7.heap.size, 0, none⟩ = some (.slice A7 G.length c7)) := (HBq.out.cell (World.block_lt_of_cell? _ _ K7.out)).trans K7.out
  replace K8 : Hid ((v4).cell? ⟨w7.heap.size + 1, 0, none⟩ = some (.slice none 0 0)) := (HBq.out.cell (World.block_lt_of_cell? _ _ K8.out)).trans K8.out
  replace K9 : Hid ((v4).cell? ⟨w7.heap.size + 1 + 1, 0, none⟩ = some (.slice none 0 0)) := (HBq.out.cell (World.block_lt_of_cell? _ _ K9.out)).trans K9.out
  clear HBq
  clear HBc
  have HC := Lib.hid (HSz.out v4 A3 none c3 0)
  have k_K0 := K0.out
  have k_K2 := K2.out
  have k_K3 := K3.out
  have k_K4 := K4.out
  have k_K7 := K7.out
  have k_K8 := K8.out
  have k_K9 := K9.out
  go_wp2_with fail
  clear k_K0
  clear k_K2
  clear k_K3
  clear k_K4
  clear k_K7
  clear k_K8
  clear k_K9
  refine HC.out.mono ?_
  rintro e v5 ⟨rfl, bq⟩
  clear HC
  have HBc := Lib.hid bq; clear bq
  have HBq : Hid (Below v4.heap.size v4 v5) := HBc.out
  replace HB : Hid (Below w.heap.size w v5) := HB.out.trans (HBq.out.mono HB.out.size)
  replace HR : Hid (RdG v5 (v5).heap.size A R) := HR.out.on HBq.out
  replace HL : Hid (RdV v5 (v5).heap.size B (rcs l)) := HL.out.on HBq.out
  replace K0 : Hid ((v5).cell? ⟨w.heap.size, 0, none⟩ = some (.slice A N c)) := (HBq.out.cell (World.block_lt_of_cell? _ _ K0.out)).trans K0.out
  replace Q2 : Hid (RdG v5 (v5).heap.size A2 R2) := Q2.out.on HBq.out
  replace K2 : Hid ((v5).cell? ⟨w2.heap.size, 0, none⟩ = some (.slice A2 G.length c2)) := (HBq.out.cell (World.block_lt_of_cell? _ _ K2.out)).trans K2.out
  replace K3 : Hid ((v5).cell? ⟨w3.heap.size, 0, none⟩ = some (.slice A3 0 c3)) := (HBq.out.cell (World.block_lt_of_cell? _ _ K3.out)).trans K3.out
  replace K4 : Hid ((v5).cell? ⟨w4.heap.size, 0, none⟩ = some (.slice A4 0 c4)) := (HBq.out.cell (World.block_lt_of_cell? _ _ K4.out)).trans K4.out
  replace Q7 : Hid (RdG v5 (v5).heap.size A7 R7) := Q7.out.on HBq.out
  replace K7 : Hid ((v5).cell? ⟨w7.heap.size, 0, none⟩ = some (.slice A7 G.length c7)) := (HBq.out.cell (World.block_lt_of_cell? _ _ K7.out)).trans K7.out
  replace K8 : Hid ((v5).cell? ⟨w7.heap.size + 1, 0, none⟩ = some (.slice none 0 0)) := (HBq.out.cell (World.block_lt_of_cell? _ _ K8.out)).trans K8.out
  replace K9 : Hid ((v5).cell? ⟨w7.heap.size + 1 + 1, 0, none⟩ = some (.slice none 0 0)) := (HBq.out.cell (World.block_lt_of_cell? _ _ K9.out)).trans K9.out
  clear HBq
  clear HBc
  have HC := Lib.hid (HSz.out v5 A4 none c4 0)
  have k_K0 := K0.out
  have k_K2 := K2.out
  have k_K3 := K3.out
  have k_K4 := K4.out
  have k_K7 := K7.out
  have k_K8 := K8.out
  have k_K9 := K9.out
  go_wp2_with fail
  clear k_K0
  clear k_K2
  clear k_K3
  clear k_K4
  clear k_K7
  clear k_K8
  clear k_K9
  refine HC.out.mono ?_
  rintro e v6 ⟨rfl, bq⟩
  clear HC
  have HBc := Lib.hid bq; clear bq
  have HBq : Hid (Below v5.heap.size v5 v6) := HBc.out
  replace HB : Hid (Below w.heap.size w v6) := HB.out.trans (HBq.out.mono HB.out.size)
  replace HR : Hid (RdG v6 (v6).heap.size A R) := HR.out.on HBq.out
  replace HL : Hid (RdV v6 (v6).heap.size B (rcs l)) := HL.out.on HBq.out
  replace K0 : Hid ((v6).cell? ⟨w.heap.size, 0, none⟩ = some (.slice A N c)) := (HBq.out.cell (World.block_lt_of_cell? _ _ K0.out)).trans K0.out
  replace Q2 : Hid (RdG v6 (v6).heap.size A2 R2) := Q2.out.on HBq.out
  replace K2 : Hid ((v6).cell? ⟨w2.heap.size, 0, none⟩ = some (.slice A2 G.length c2)) := (HBq.out.cell (World.block_lt_of_cell? _ _ K2.out)).trans K2.out
  replace K3 : Hid ((v6).cell? ⟨w3.heap.size, 0, none⟩ = some (.slice A3 0 c3)) := (HBq.out.cell (World.block_lt_of_cell? _ _ K3.out)).trans K3.out
  replace K4 : Hid ((v6).cell? ⟨w4.heap.size, 0, none⟩ = some (.slice A4 0 c4)) := (HBq.out.cell (World.block_lt_of_cell? _ _ K4.out)).trans K4.out
  replace Q7 : Hid (RdG v6 (v6).heap.size A7 R7) := Q7.out.on HBq.out
  replace K7 : Hid ((v6).cell? ⟨w7.heap.size, 0, none⟩ = some (.slice A7 G.length c7)) := (HBq.out.cell (World.block_lt_of_cell? _ _ K7.out)).trans K7.out
  replace K8 : Hid ((v6).cell? ⟨w7.heap.size + 1, 0, none⟩ = some (.slice none 0 0)) := (HBq.out.cell (World.block_lt_of_cell? _ _ K8.out)).trans K8.out
  replace K9 : Hid ((v6).cell? ⟨w7.heap.size + 1 + 1, 0, none⟩ = some (.slice none 0 0)) := (HBq.out.cell (World.block_lt_of_cell? _ _ K9.out)).trans K9.out
  clear HBq
  clear HBc
  have HC := Lib.hid (HSl.out v6 A5 none c5 0)
  have k_K0 := K0.out
  have k_K2 := K2.out
  have k_K3 := K3.out
  have k_K4 := K4.out
  have k_K7 := K7.out
  have k_K8 := K8.out
  have k_K9 := K9.out
  go_wp2_with fail
  clear k_K0
  clear k_K2
  clear k_K3
  clear k_K4
  clear k_K7
  clear k_K8
  clear k_K9
  refine HC.out.mono ?_
  rintro e v7 ⟨rfl, bq⟩
  clear HC
  have HBc := Lib.hid bq; clear bq
  have HBq : Hid (Below v6.heap.size v6 v7) := HBc.out
  replace HB : Hid (Below w.heap.size w v7) := HB.out.trans (HBq.out.mono HB.out.size)
  replace HR : Hid (RdG v7 (v7).heap.size A R) := HR.out.on HBq.out
  replace HL : Hid (RdV v7 (v7).heap.size B (rcs l)) := HL.out.on HBq.out
  replace K0 : Hid ((v7).cell? ⟨w.heap.size, 0, none⟩ = some (.slice A N c)) := (HBq.out.cell (World.block_lt_of_cell? _ _ K0.out)).trans K0.out
  replace Q2 : Hid (RdG v7 (v7).heap.size A2 R2) := Q2.out.on HBq.out
  replace K2 : Hid ((v7).cell? ⟨w2.heap.size, 0, none⟩ = some (.slice A2 G.length c2)) := (HBq.out.cell (World.block_lt_of_cell? _ _ K2.out)).trans K2.out
  replace K3 : Hid ((v7).cell? ⟨w3.heap.size, 0, none⟩ = some (.slice A3 0 c3)) := (HBq.out.cell (World.block_lt_of_cell? _ _ K3.out)).trans K3.out
  replace K4 : Hid ((v7).cell? ⟨w4.heap.size, 0, none⟩ = some (.slice A4 0 c4)) := (HBq.out.cell (World.block_lt_of_cell? _ _ K4.out)).trans K4.out
  replace Q7 : Hid (RdG v7 (v7).heap.size A7 R7) := Q7.out.on HBq.out
  replace K7 : Hid ((v7).cell? ⟨w7.heap.size, 0, none⟩ = some (.slice A7 G.length c7)) := (HBq.out.cell (World.block_lt_of_cell? _ _ K7.out)).trans K7.out
  replace K8 : Hid ((v7).cell? ⟨w7.heap.size + 1, 0, none⟩ = some (.slice none 0 0)) := (HBq.out.cell (World.block_lt_of_cell? _ _ K8.out)).trans K8.out
  replace K9 : Hid ((v7).cell? ⟨w7.heap.size + 1 + 1, 0, none⟩ = some (.slice none 0 0)) := (HBq.out.cell (World.block_lt_of_cell? _ _ K9.out)).trans K9.out
  clear HBq
  clear HBc
  have HC := Lib.hid (HSl.out v7 A6 none c6 0)
  have k_K0 := K0.out
  have k_K2 := K2.out
  have k_K3 := K3.out
  have k_K4 := K4.out
  have k_K7 := K7.out
  have k_K8 := K8.out
  have k_K9 := K9.out
  go_wp2_with fail
  clear k_K0
  clear k_K2
  clear k_K3
  clear k_K4
  clear k_K7
  clear k_K8
  clear k_K9
  refine HC.out.mono ?_
  rintro e v8 ⟨rfl, bq⟩
  clear HC
  have HBc := Lib.hid bq; clear bq
  have HBq : Hid (Below v7.heap.size v7 v8) := HBc.out
  replace HB : Hid (Below w.heap.size w v8) := HB.out.trans (HBq.out.mono HB.out.size)
  replace HR : Hid (RdG v8 (v8).heap.size A R) := HR.out.on HBq.out
  replace HL : Hid (RdV v8 (v8).heap.size B (rcs l)) := HL.out.on HBq.out
  replace K0 : Hid ((v8).cell? ⟨w.heap.size, 0, none⟩ = some (.slice A N c)) := (HBq.out.cell (World.block_lt_of_cell? _ _ K0.out)).trans K0.out
  replace Q2 : Hid (RdG v8 (v8).heap.size A2 R2) := Q2.out.on HBq.out
  replace K2 : Hid ((v8).cell? ⟨w2.heap.size, 0, none⟩ = some (.slice A2 G.length c2)) := (HBq.out.cell (World.block_lt_of_cell? _ _ K2.out)).trans K2.out
  replace K3 : Hid ((v8).cell? ⟨w3.heap.size, 0, none⟩ = some (.slice A3 0 c3)) := (HBq.out.cell (World.block_lt_of_cell? _ _ K3.out)).trans K3.out
  replace K4 : Hid ((v8).cell? ⟨w4.heap.size, 0, none⟩ = some (.slice A4 0 c4)) := (HBq.out.cell (World.block_lt_of_cell? _ _ K4.out)).trans K4.out
  replace Q7 : Hid (RdG v8 (v8).heap.size A7 R7) := Q7.out.on HBq.out
  replace K7 : Hid ((v8).cell? ⟨w7.heap.size, 0, none⟩ = some (.slice A7 G.length c7)) := (HBq.out.cell (World.block_lt_of_cell? _ _ K7.out)).trans K7.out
  replace K8 : Hid ((v8).cell? ⟨w7.heap.size + 1, 0, none⟩ = some (.slice none 0 0)) := (HBq.out.cell (World.block_lt_of_cell? _ _ K8.out)).trans K8.out
  replace K9 : Hid ((v8).cell? ⟨w7.heap.size + 1 + 1, 0, none⟩ = some (.slice none 0 0)) := (HBq.out.cell (World.block_lt_of_cell? _ _ K9.out)).trans K9.out
  clear HBq
  clear HBc
  go_wp2
  go_ret
  exact ⟨rfl, HB.out⟩
end

section
set_option maxRecDepth 100000
set_option linter.unusedVariables false
open Go.RowKit Go.Shelf

theorem take_succ_qa {o : List Nat} {k : Nat} (h : k < o.length) : o.take (k + 1) = o.take k ++ [qa o k] := by
  rw [List.take_succ_eq_append_getElem h, qa_get h]
theorem own_keep2 {w X : World} {base k n : Nat} {T : TypeId} {v : Value} {xs : List Value} (h : w.ownsRow base T k v n xs) (hk : ∀ j, base ≤ j → j < w.heap.size → X.heap[j]? = w.heap[j]?) : X.ownsRow base T k v n xs := by
  refine ⟨h.1, ?_⟩
  rcases h.2 with h0 | ⟨g, cap, cur, e, h1, h2, h3⟩
  · exact .inl h0
  · exact .inr ⟨g, cap, cur, e, h1, (hk g h1 (Array.getElem?_eq_some_iff.1 h2).1).trans h2, h3⟩
theorem RdH.same {lo : Nat} {w X : World} {A : Option Addr} {R : List Rw} (h : RdH lo w A R) (hk : ∀ k, lo ≤ k → k < w.heap.size → X.heap[k]? = w.heap[k]?) (hs : w.heap.size ≤ X.heap.size) : RdH lo X A R :=
  fun W hkk hW => h W (fun k h1 h2 => (hkk k h1 (Nat.lt_of_lt_of_le h2 hs)).trans (hk k h1 h2)) (Nat.le_trans hs hW)
/-- The two boxes of graphs, ahead of which all is as it was. -/
structure Bx2 (W7 V : World) (P : Nat) (v8 v9 : Value) : Prop where
  low : Below W7.heap.size W7 V
  eq : P = W7.heap.size
  h8 : V.heap[P]? = some (.cells #[v8] 24 (0, 0))
  h9 : V.heap[P + 1]? = some (.cells #[v9] 24 (0, 0))
theorem Bx2.lt {W7 V : World} {P : Nat} {v8 v9 : Value} (h : Bx2 W7 V P v8 v9) : P + 1 < V.heap.size := (Array.getElem?_eq_some_iff.1 h.h9).1
theorem Bx2.on {W7 V X : World} {P : Nat} {v8 v9 : Value} (h : Bx2 W7 V P v8 v9) (hb : Below V.heap.size V X) : Bx2 W7 X P v8 v9 :=
  ⟨h.low.trans (hb.mono h.low.size), h.eq, (hb.block _ (by have := h.lt; omega)).trans h.h8, (hb.block _ h.lt).trans h.h9⟩
theorem Bx2.drew {W7 V : World} {P : Nat} {v8 v9 : Value} (h : Bx2 W7 V P v8 v9) : Bx2 W7 V.drew P v8 v9 := ⟨h.low.drew, h.eq, h.h8, h.h9⟩
theorem Bx2.set8 {W7 V : World} {P : Nat} {v8 v9 : Value} (h : Bx2 W7 V P v8 v9) (x : Value) : Bx2 W7 (V.setCell ⟨P, 0, none⟩ x) P x v9 :=
  ⟨h.low.setCell (p := ⟨P, 0, none⟩) (by show W7.heap.size ≤ P; rw [h.eq]; exact Nat.le_refl _) x, h.eq, by rw [heap_set_same _ _ _ _ _ _ h.h8]; simp, (Below.heap_setCell _ _ _ _ (by show P + 1 ≠ P; omega)).trans h.h9⟩
theorem Bx2.set9 {W7 V : World} {P : Nat} {v8 v9 : Value} (h : Bx2 W7 V P v8 v9) (x : Value) : Bx2 W7 (V.setCell ⟨P + 1, 0, none⟩ x) P v8 x :=
  ⟨h.low.setCell (p := ⟨P + 1, 0, none⟩) (by show W7.heap.size ≤ P + 1; rw [h.eq]; exact Nat.le_succ _) x, h.eq, (Below.heap_setCell _ _ _ _ (by show P ≠ P + 1; omega)).trans h.h8, by rw [heap_set_same _ _ _ _ _ _ h.h9]; simp⟩
theorem Bx2.cells {W7 V : World} {P : Nat} {v8 v9 : Value} (h : Bx2 W7 V P v8 v9) : (V.cell? ⟨P, 0, none⟩ = some v8 ∧ V.frozen? ⟨P, 0, none⟩ = false) ∧ V.cell? ⟨P + 1, 0, none⟩ = some v9 ∧ V.frozen? ⟨P + 1, 0, none⟩ = false :=
  ⟨⟨(cell_at h.h8 0).trans rfl, frz_at h.h8 0⟩, (cell_at h.h9 0).trans rfl, frz_at h.h9 0⟩
/-- Two lists of numbers, each in a row of its own. -/
structure Tw (Z V : World) (v u : Value) (a b : List Nat) : Prop where
  low : Below Z.heap.size Z V
  o1 : V.ownsRow Z.heap.size 3 1 v a.length (zc (ns a))
  o2 : V.ownsRow Z.heap.size 3 1 u b.length (zc (ns b))
  ne : ∀ r, v.ownBlock = some r → u.ownBlock ≠ some r
theorem Tw.alloc {Z V : World} {v u : Value} {a b : List Nat} (h : Tw Z V v u a b) (o : Obj) : Tw Z (V.alloc o) v u a b := ⟨h.low.trans ((one_below V o).mono h.low.size), h.o1.alloc _, h.o2.alloc _, h.ne⟩
theorem Tw.drew {Z V : World} {v u : Value} {a b : List Nat} (h : Tw Z V v u a b) : Tw Z V.drew v u a b := ⟨h.low.drew, h.o1, h.o2, h.ne⟩
theorem Tw.lt {Z V : World} {v u : Value} {a b : List Nat} (h : Tw Z V v u a b) : (∀ r, v.ownBlock = some r → r < V.heap.size) ∧ ∀ r, u.ownBlock = some r → r < V.heap.size := by
  refine ⟨fun r e => ?_, fun r e => ?_⟩
  · obtain ⟨_, cs, hc⟩ := own_int_block h.o1 e; exact (Array.getElem?_eq_some_iff.1 hc).1
  · obtain ⟨_, cs, hc⟩ := own_int_block h.o2 e; exact (Array.getElem?_eq_some_iff.1 hc).1
theorem Tw.app1 {Z V X : World} {v u v' : Value} {a b : List Nat} {x : Nat} (h : Tw Z V v u a b) (h1 : X.ownsRow Z.heap.size 3 1 v' (a.length + 1) (zc (ns a) ++ [.int .i64 (x : Int)])) (h2 : V.grownBy X v.ownBlock) (h3 : v'.ownBlock = v.ownBlock ∨ v'.ownBlock = some V.heap.size) : Tw Z X v' u (a ++ [x]) b := by
  have hl := h.lt.2
  refine ⟨h.low.trans (grown_low h2 h.o1 h.low.size), ?_, ?_, fun r e => ?_⟩
  · rw [List.length_append, List.length_singleton]
    have e : zc (ns (a ++ [x])) = zc (ns a) ++ [.int .i64 (x : Int)] := by unfold zc ns; simp
    rw [e]; exact h1
  · refine ⟨h.o2.1, ?_⟩
    rcases h.o2.2 with h0 | ⟨g, cap, cur, e, q1, q2, q3⟩
    · exact .inl h0
    · refine .inr ⟨g, cap, cur, e, q1, (h2.block g (Array.getElem?_eq_some_iff.1 q2).1 (fun q => h.ne g q.symm (by rw [e]; rfl))).trans q2, q3⟩
  · rcases h3 with q | q
    · exact h.ne r (q.symm.trans e)
    · intro e2
      have := hl r e2
      rw [q] at e
      have := Option.some.inj e
      omega
theorem Tw.swap {Z V : World} {v u : Value} {a b : List Nat} (h : Tw Z V v u a b) : Tw Z V u v b a := ⟨h.low, h.o2, h.o1, fun r e q => h.ne r q e⟩
theorem refboth_tot (R : List Rw) (g : List (List Nat)) (hg : gs R = g.map ns) (hok : GOk g) (N : Nat) (hN : R.length = N) (A : Option Addr) (c : Nat) (w : World) (h : RdG w w.heap.size A R) :
    Calls Try.prog 24 #[.agg #[.slice A N c]] w fun e w' => ∃ A R c, e = .returned (.tuple #[.agg #[.slice A (if 600 < (bth (arcs 0 g)).length then [] else gboth g).length c], .int .i64 (if 600 < (bth (arcs 0 g)).length then 2 else 0)]) ∧ gs R = (if 600 < (bth (arcs 0 g)).length then [] else gboth g).map ns ∧ RdH w.heap.size w' A R ∧ Below w.heap.size w w' := by
  have hgl : g.length = N := by have := congrArg List.length hg; rw [gs_length, List.length_map] at this; omega
  refine (refboth_ok R g hg hok N hN A c w h).mono ?_
  rintro e w' (⟨q, q1, q2⟩ | ⟨q, A, R, c, q1, q2, q3, q4⟩)
  · rw [if_pos q, if_pos q]
    exact ⟨none, [], 0, q1, rfl, fun W _ _ => rdg_nil W, q2⟩
  · rw [if_neg q, if_neg q]
    exact ⟨A, R, c, by rw [gboth_length, hgl]; exact q1, q2, q3, q4⟩
theorem dF_row {g : List (List Nat)} (hok : GOk g) {i : Nat} (h : i < g.length) : (row g i).length = qa (dFrom g.length (arcs 0 g)) i := by
  unfold qa
  rw [dFrom_get _ _ _ h, Option.getD_some]
  have := wa_row g.length (arcs 0 g) i h
  rw [wa_self hok] at this
  rw [this, (nso_perm _).length_eq]
theorem dT_row {g : List (List Nat)} {i : Nat} (h : i < g.length) : (row (gturn g) i).length = qa (dTo g.length (arcs 0 g)) i := by
  unfold qa dTo
  rw [dFrom_get _ _ _ h, Option.getD_some]
  unfold gturn
  rw [wa_row _ _ _ h, (nso_perm _).length_eq]
set_option maxHeartbeats 16000000 in
theorem graphTells_ok (A : Option Addr) (c : Nat) (R : List Rw) (n : Int) (B : Option Addr) (d : Nat) (l : List Ri) (w : World) (hA : RdG w w.heap.size A R) (hB : RdV w w.heap.size B (rcs l)) (hd : l.length ≤ d) (hn : R.length ≤ 140737488355328) (e0 : grE (gs R) = 0) :
    Calls Try.prog 3 #[.agg #[.slice A R.length c], .int .i64 n, .slice B l.length d] w fun e w' => e = .returned (.bool true) ∧ Below w.heap.size w w' := by
  have HSl : Hid (∀ V A B c d, Calls Try.prog 29 #[.slice A 0 c, .slice B 0 d] V fun e w' => e = .returned (.bool true) ∧ Below V.heap.size V w') := fun V A B c d => by
    have := sameI_any V A B c d [] [] (by simp) (.inl rfl) (.inl rfl)
    simpa using this
  have HSr : Hid (∀ V A B c d, Calls Try.prog 27 #[.slice A 0 c, .slice B 0 d] V fun e w' => e = .returned (.bool true) ∧ Below V.heap.size V w') := fun V A B c d => by
    have := sameR_any V A B c d [] [] (by simp) (.inl rfl) (.inl rfl)
    simpa using this
  have HSz : Hid (∀ V A B c d, Calls Try.prog 28 #[.agg #[.slice A 0 c], .agg #[.slice B 0 d]] V fun e w' => e = .returned (.bool true) ∧ Below V.heap.size V w') := fun V A B c d => by
    have := sameG_any V A B c d [] [] 0 0 rfl rfl (by omega) ⟨.inl rfl, by simp⟩ ⟨.inl rfl, by simp⟩
    simpa [gs] using this
  have HSg : Hid (∀ (G : List (List Nat)) R S A B c d (V : World), gs R = G.map ns → gs S = G.map ns → RdG V V.heap.size A R → RdG V V.heap.size B S → G.length ≤ 1000000 → Calls Try.prog 28 #[.agg #[.slice A G.length c], .agg #[.slice B G.length d]] V fun e w' => e = .returned (.bool true) ∧ Below V.heap.size V w') := fun G R S A B c d V h1 h2 h3 h4 hl => by
    have l1 : R.length = G.length := by have := congrArg List.length h1; rwa [gs_length, List.length_map] at this
    have l2 : S.length = G.length := by have := congrArg List.length h2; rwa [gs_length, List.length_map] at this
    have := sameG_any V A B c d R S G.length G.length l1 l2 (by omega) h3 h4
    rw [h1, h2] at this
    simpa using this
  obtain ⟨N, hN⟩ : ∃ N, R.length = N := ⟨_, rfl⟩
  obtain ⟨m, hm⟩ : ∃ m, l.length = m := ⟨_, rfl⟩
  rw [hN] at hn ⊢
  rw [hm] at hd ⊢
  obtain ⟨G, eo, hGe, hof, href⟩ := of_both n l m hm B d hd
  have HOf := Lib.hid hof
  have HRef := Lib.hid href
  have HGl : Hid (G.length ≤ 1000000) := by show _ ≤ _; omega
  clear hof href hGe
  obtain ⟨g, hg, hok⟩ := grE_zero _ e0
  have hgl : g.length = N := by have := congrArg List.length hg; rw [gs_length, List.length_map] at this; omega
  have hN1 : N ≤ 100 := by have := hok.nodes; omega
  obtain ⟨Gb, hGb⟩ : ∃ Gb, (if 600 < (bth (arcs 0 g)).length then [] else gboth g) = Gb := ⟨_, rfl⟩
  obtain ⟨eb, heb⟩ : ∃ eb : Int, (if 600 < (bth (arcs 0 g)).length then 2 else 0) = eb := ⟨_, rfl⟩
  have HAr : Hid (∀ A c V, RdG V V.heap.size A R → Calls Try.prog 15 #[.agg #[.slice A N c]] V (ArcsP V (arcs 0 g) 0)) := fun A c V h => garcs_ok R g hg hok N hN e0 A c V h
  have HT : Hid (∀ A c V, RdG V V.heap.size A R → Calls Try.prog 17 #[.agg #[.slice A N c]] V fun e w' => ∃ A R c, e = .returned (.tuple #[.agg #[.slice A N c], .int .i64 0]) ∧ gs R = (gturn g).map ns ∧ RdG w' w'.heap.size A R ∧ Below V.heap.size V w') := fun A c V h => by have := gturn_okW R g hg hok N hN A c V h; unfold GrP at this; rwa [gturn_length, hgl] at this
  have HBo : Hid (∀ A c V, RdG V V.heap.size A R → Calls Try.prog 18 #[.agg #[.slice A N c]] V (GrP V Gb eb)) := fun A c V h => by have := gboth_okW R g hg hok N hN A c V h; rwa [hGb, heb] at this
  have HD : Hid (∀ A c V, RdG V V.heap.size A R → Calls Try.prog 19 #[.agg #[.slice A N c]] V (DegP V (dFrom N (arcs 0 g)) (dTo N (arcs 0 g)) 0)) := fun A c V h => gdeg_ok R g hg hok N hN A c V h
  have HC : Hid (∀ A c V, RdG V V.heap.size A R → Calls Try.prog 26 #[.agg #[.slice A N c]] V fun e w' => e = .returned (.int .i64 0) ∧ Below V.heap.size V w') := fun A c V h => by have := gchk_any R N hN hn A c V h; rwa [e0] at this
  have HRC : Hid (∀ A c V, RdG V V.heap.size A R → Calls Try.prog 20 #[.agg #[.slice A N c]] V fun e w' => e = .returned (.int .i64 0) ∧ Below V.heap.size V w') := fun A c V h => by have := refgchk_any R N hN hn A c V h; rwa [e0] at this
  have HRA : Hid (∀ A c V, RdG V V.heap.size A R → Calls Try.prog 22 #[.agg #[.slice A N c]] V fun e w' => ∃ v, e = .returned v ∧ w'.ownsRow V.heap.size 65 2 v (arcs 0 g).length (acs (arcs 0 g)) ∧ Below V.heap.size V w') := fun A c V h => refarcs_ok R g hg hok N hN A c V h
  have HRT : Hid (∀ A c V, RdG V V.heap.size A R → Calls Try.prog 23 #[.agg #[.slice A N c]] V fun e w' => ∃ A R c, e = .returned (.agg #[.slice A N c]) ∧ gs R = (gturn g).map ns ∧ RdH V.heap.size w' A R ∧ Below V.heap.size V w') := fun A c V h => refturn_ok R g hg hok N hN A c V h
  have HRB : Hid (∀ A c V, RdG V V.heap.size A R → Calls Try.prog 24 #[.agg #[.slice A N c]] V fun e w' => ∃ A R c, e = .returned (.tuple #[.agg #[.slice A Gb.length c], .int .i64 eb]) ∧ gs R = Gb.map ns ∧ RdH V.heap.size w' A R ∧ Below V.heap.size V w') := fun A c V h => by have := refboth_tot R g hg hok N hN A c V h; rwa [hGb, heb] at this
  have HGb : Hid (Gb.length ≤ 1000000) := by show _ ≤ _; rw [← hGb]; split; simp; rw [gboth_length]; omega
  have hF : ∀ i, i < N → (row g i).length = qa (dFrom N (arcs 0 g)) i := fun i hi => by have := dF_row hok (i := i) (by rw [hgl]; exact hi); rwa [hgl] at this
  have hT : ∀ i, i < N → (row (gturn g) i).length = qa (dTo N (arcs 0 g)) i := fun i hi => by have := dT_row (g := g) (i := i) (by rw [hgl]; exact hi); rwa [hgl] at this
  have hFl : (dFrom N (arcs 0 g)).length = N := dFrom_length _ _
  have hTl : (dTo N (arcs 0 g)).length = N := dTo_length _ _
  generalize dFrom N (arcs 0 g) = F at *
  generalize dTo N (arcs 0 g) = T at *
  have HFT := Lib.hid (⟨hF, hT, hFl, hTl⟩ : _ ∧ _ ∧ _ ∧ _)
  have t3 : (eo == eo) = true := by simp
  have t4 : (eb == eb) = true := by simp
  have HOk : Hid (GOk g ∧ g.length = N ∧ gs R = g.map ns ∧ R.length = N) := ⟨hok, hgl, hg, hN⟩
  have HRl : Hid (∀ i, i < N → (row g i).length ≤ 600 ∧ (row (gturn g) i).length ≤ 600) := fun i _ => ⟨row_len hok i, row_len (gturn_ok hok) i⟩
  clear e0 hN hn hg hok hgl hm hd hGb heb hF hT hFl hTl
  have HB : Hid (Below w.heap.size w w) := Below.refl _ w
  have HR := Lib.hid hA; clear hA
  have HL := Lib.hid hB; clear hB
  go_enter Try.func3, Try.ntmps3
  have HBq : Hid (Below w.heap.size w (w.alloc (.cells #[.slice A N c] 24))) := one_below _ _
  replace HB : Hid (Below w.heap.size w (w.alloc (.cells #[.slice A N c] 24))) := HB.out.trans (HBq.out.mono HB.out.size)
  replace HR : Hid (RdG (w.alloc (.cells #[.slice A N c] 24)) ((w.alloc (.cells #[.slice A N c] 24))).heap.size A R) := HR.out.on HBq.out
  replace HL : Hid (RdV (w.alloc (.cells #[.slice A N c] 24)) ((w.alloc (.cells #[.slice A N c] 24))).heap.size B (rcs l)) := HL.out.on HBq.out
  clear HBq
  have K0 : Hid (((w.alloc (.cells #[.slice A N c] 24))).cell? ⟨w.heap.size, 0, none⟩ = some (.slice A N c)) := (cell_at (World.alloc_heap_new w _) 0).trans rfl
  have HC := Lib.hid (HAr.out A c _ HR.out)
  have k_K0 := K0.out
  go_wp2_with fail
  clear k_K0
  refine HC.out.mono ?_
  rintro e w1 ⟨A1, c1, rfl, -, q1, bq⟩
  clear HC
  have HBc := Lib.hid bq; clear bq
  have HBq : Hid (Below (w.alloc (.cells #[.slice A N c] 24)).heap.size (w.alloc (.cells #[.slice A N c] 24)) w1) := HBc.out
  replace HB : Hid (Below w.heap.size w w1) := HB.out.trans (HBq.out.mono HB.out.size)
  replace HR : Hid (RdG w1 (w1).heap.size A R) := HR.out.on HBq.out
  replace HL : Hid (RdV w1 (w1).heap.size B (rcs l)) := HL.out.on HBq.out
  replace K0 : Hid ((w1).cell? ⟨w.heap.size, 0, none⟩ = some (.slice A N c)) := (HBq.out.cell (World.block_lt_of_cell? _ _ K0.out)).trans K0.out
  clear HBq
  clear HBc
  have Q1 : Hid (RdV w1 (w1).heap.size A1 (acs (arcs 0 g))) := q1
  clear q1
  have HC := Lib.hid (HOf.out _ HL.out)
  have k_K0 := K0.out
  go_wp2_with fail
  clear k_K0
  refine HC.out.mono ?_
  rintro e w2 ⟨A2, R2, c2, rfl, g2, q2, bq⟩
  clear HC
  have HBc := Lib.hid bq; clear bq
  have HBq : Hid (Below w1.heap.size w1 w2) := HBc.out
  replace HB : Hid (Below w.heap.size w w2) := HB.out.trans (HBq.out.mono HB.out.size)
  replace HR : Hid (RdG w2 (w2).heap.size A R) := HR.out.on HBq.out
  replace HL : Hid (RdV w2 (w2).heap.size B (rcs l)) := HL.out.on HBq.out
  replace K0 : Hid ((w2).cell? ⟨w.heap.size, 0, none⟩ = some (.slice A N c)) := (HBq.out.cell (World.block_lt_of_cell? _ _ K0.out)).trans K0.out
  replace Q1 : Hid (RdV w2 (w2).heap.size A1 (acs (arcs 0 g))) := Q1.out.on HBq.out
  clear HBq
  clear HBc
  have Q2 : Hid (RdG w2 (w2).heap.size A2 R2) := q2
  have HG2 := Lib.hid g2; clear q2 g2
  have HBq : Hid (Below w2.heap.size w2 (w2.alloc (.cells #[.slice A2 G.length c2] 24))) := one_below _ _
  replace HB : Hid (Below w.heap.size w (w2.alloc (.cells #[.slice A2 G.length c2] 24))) := HB.out.trans (HBq.out.mono HB.out.size)
  replace HR : Hid (RdG (w2.alloc (.cells #[.slice A2 G.length c2] 24)) ((w2.alloc (.cells #[.slice A2 G.length c2] 24))).heap.size A R) := HR.out.on HBq.out
  replace HL : Hid (RdV (w2.alloc (.cells #[.slice A2 G.length c2] 24)) ((w2.alloc (.cells #[.slice A2 G.length c2] 24))).heap.size B (rcs l)) := HL.out.on HBq.out
  replace K0 : Hid (((w2.alloc (.cells #[.slice A2 G.length c2] 24))).cell? ⟨w.heap.size, 0, none⟩ = some (.slice A N c)) := (HBq.out.cell (World.block_lt_of_cell? _ _ K0.out)).trans K0.out
  replace Q1 : Hid (RdV (w2.alloc (.cells #[.slice A2 G.length c2] 24)) ((w2.alloc (.cells #[.slice A2 G.length c2] 24))).heap.size A1 (acs (arcs 0 g))) := Q1.out.on HBq.out
  replace Q2 : Hid (RdG (w2.alloc (.cells #[.slice A2 G.length c2] 24)) ((w2.alloc (.cells #[.slice A2 G.length c2] 24))).heap.size A2 R2) := Q2.out.on HBq.out
  clear HBq
  have K2 : Hid (((w2.alloc (.cells #[.slice A2 G.length c2] 24))).cell? ⟨w2.heap.size, 0, none⟩ = some (.slice A2 G.length c2)) := (cell_at (World.alloc_heap_new w2 _) 0).trans rfl
  have HC := Lib.hid (HT.out A c _ HR.out)
  have k_K0 := K0.out
  have k_K2 := K2.out
  go_wp2_with fail
  clear k_K0
  clear k_K2
  refine HC.out.mono ?_
  rintro e w3 ⟨A3, R3, c3, rfl, g3, q3, bq⟩
  clear HC
  have HBc := Lib.hid bq; clear bq
  have HBq : Hid (Below (w2.alloc (.cells #[.slice A2 G.length c2] 24)).heap.size (w2.alloc (.cells #[.slice A2 G.length c2] 24)) w3) := HBc.out
  replace HB : Hid (Below w.heap.size w w3) := HB.out.trans (HBq.out.mono HB.out.size)
  replace HR : Hid (RdG w3 (w3).heap.size A R) := HR.out.on HBq.out
  replace HL : Hid (RdV w3 (w3).heap.size B (rcs l)) := HL.out.on HBq.out
  replace K0 : Hid ((w3).cell? ⟨w.heap.size, 0, none⟩ = some (.slice A N c)) := (HBq.out.cell (World.block_lt_of_cell? _ _ K0.out)).trans K0.out
  replace Q1 : Hid (RdV w3 (w3).heap.size A1 (acs (arcs 0 g))) := Q1.out.on HBq.out
  replace Q2 : Hid (RdG w3 (w3).heap.size A2 R2) := Q2.out.on HBq.out
  replace K2 : Hid ((w3).cell? ⟨w2.heap.size, 0, none⟩ = some (.slice A2 G.length c2)) := (HBq.out.cell (World.block_lt_of_cell? _ _ K2.out)).trans K2.out
  clear HBq
  clear HBc
  have Q3 : Hid (RdG w3 (w3).heap.size A3 R3) := q3
  have HG3 := Lib.hid g3; clear q3 g3
  have HBq : Hid (Below w3.heap.size w3 (w3.alloc (.cells #[.slice A3 N c3] 24))) := one_below _ _
  replace HB : Hid (Below w.heap.size w (w3.alloc (.cells #[.slice A3 N c3] 24))) := HB.out.trans (HBq.out.mono HB.out.size)
  replace HR : Hid (RdG (w3.alloc (.cells #[.slice A3 N c3] 24)) ((w3.alloc (.cells #[.slice A3 N c3] 24))).heap.size A R) := HR.out.on HBq.out
  replace HL : Hid (RdV (w3.alloc (.cells #[.slice A3 N c3] 24)) ((w3.alloc (.cells #[.slice A3 N c3] 24))).heap.size B (rcs l)) := HL.out.on HBq.out
  replace K0 : Hid (((w3.alloc (.cells #[.slice A3 N c3] 24))).cell? ⟨w.heap.size, 0, none⟩ = some (.slice A N c)) := (HBq.out.cell (World.block_lt_of_cell? _ _ K0.out)).trans K0.out
  replace Q1 : Hid (RdV (w3.alloc (.cells #[.slice A3 N c3] 24)) ((w3.alloc (.cells #[.slice A3 N c3] 24))).heap.size A1 (acs (arcs 0 g))) := Q1.out.on HBq.out
  replace Q2 : Hid (RdG (w3.alloc (.cells #[.slice A3 N c3] 24)) ((w3.alloc (.cells #[.slice A3 N c3] 24))).heap.size A2 R2) := Q2.out.on HBq.out
  replace K2 : Hid (((w3.alloc (.cells #[.slice A3 N c3] 24))).cell? ⟨w2.heap.size, 0, none⟩ = some (.slice A2 G.length c2)) := (HBq.out.cell (World.block_lt_of_cell? _ _ K2.out)).trans K2.out
  replace Q3 : Hid (RdG (w3.alloc (.cells #[.slice A3 N c3] 24)) ((w3.alloc (.cells #[.slice A3 N c3] 24))).heap.size A3 R3) := Q3.out.on HBq.out
  clear HBq
  have K3 : Hid (((w3.alloc (.cells #[.slice A3 N c3] 24))).cell? ⟨w3.heap.size, 0, none⟩ = some (.slice A3 N c3)) := (cell_at (World.alloc_heap_new w3 _) 0).trans rfl
  have HC := Lib.hid (HBo.out A c _ HR.out)
  have k_K0 := K0.out
  have k_K2 := K2.out
  have k_K3 := K3.out
  go_wp2_with fail
  clear k_K0
  clear k_K2
  clear k_K3
  refine HC.out.mono ?_
  rintro e w4 ⟨A4, R4, c4, rfl, g4, q4, bq⟩
  clear HC
  have HBc := Lib.hid bq; clear bq
  have HBq : Hid (Below (w3.alloc (.cells #[.slice A3 N c3] 24)).heap.size (w3.alloc (.cells #[.slice A3 N c3] 24)) w4) := HBc.out
  replace HB : Hid (Below w.heap.size w w4) := HB.out.trans (HBq.out.mono HB.out.size)
  replace HR : Hid (RdG w4 (w4).heap.size A R) := HR.out.on HBq.out
  replace HL : Hid (RdV w4 (w4).heap.size B (rcs l)) := HL.out.on HBq.out
  replace K0 : Hid ((w4).cell? ⟨w.heap.size, 0, none⟩ = some (.slice A N c)) := (HBq.out.cell (World.block_lt_of_cell? _ _ K0.out)).trans K0.out
  replace Q1 : Hid (RdV w4 (w4).heap.size A1 (acs (arcs 0 g))) := Q1.out.on HBq.out
  replace Q2 : Hid (RdG w4 (w4).heap.size A2 R2) := Q2.out.on HBq.out
  replace K2 : Hid ((w4).cell? ⟨w2.heap.size, 0, none⟩ = some (.slice A2 G.length c2)) := (HBq.out.cell (World.block_lt_of_cell? _ _ K2.out)).trans K2.out
  replace Q3 : Hid (RdG w4 (w4).heap.size A3 R3) := Q3.out.on HBq.out
  replace K3 : Hid ((w4).cell? ⟨w3.heap.size, 0, none⟩ = some (.slice A3 N c3)) := (HBq.out.cell (World.block_lt_of_cell? _ _ K3.out)).trans K3.out
  clear HBq
  clear HBc
  have Q4 : Hid (RdG w4 (w4).heap.size A4 R4) := q4
  have HG4 := Lib.hid g4; clear q4 g4
  have HBq : Hid (Below w4.heap.size w4 (w4.alloc (.cells #[.slice A4 Gb.length c4] 24))) := one_below _ _
  replace HB : Hid (Below w.heap.size w (w4.alloc (.cells #[.slice A4 Gb.length c4] 24))) := HB.out.trans (HBq.out.mono HB.out.size)
  replace HR : Hid (RdG (w4.alloc (.cells #[.slice A4 Gb.length c4] 24)) ((w4.alloc (.cells #[.slice A4 Gb.length c4] 24))).heap.size A R) := HR.out.on HBq.out
  replace HL : Hid (RdV (w4.alloc (.cells #[.slice A4 Gb.length c4] 24)) ((w4.alloc (.cells #[.slice A4 Gb.length c4] 24))).heap.size B (rcs l)) := HL.out.on HBq.out
  replace K0 : Hid (((w4.alloc (.cells #[.slice A4 Gb.length c4] 24))).cell? ⟨w.heap.size, 0, none⟩ = some (.slice A N c)) := (HBq.out.cell (World.block_lt_of_cell? _ _ K0.out)).trans K0.out
  replace Q1 : Hid (RdV (w4.alloc (.cells #[.slice A4 Gb.length c4] 24)) ((w4.alloc (.cells #[.slice A4 Gb.length c4] 24))).heap.size A1 (acs (arcs 0 g))) := Q1.out.on HBq.out
  replace Q2 : Hid (RdG (w4.alloc (.cells #[.slice A4 Gb.length c4] 24)) ((w4.alloc (.cells #[.slice A4 Gb.length c4] 24))).heap.size A2 R2) := Q2.out.on HBq.out
  replace K2 : Hid (((w4.alloc (.cells #[.slice A4 Gb.length c4] 24))).cell? ⟨w2.heap.size, 0, none⟩ = some (.slice A2 G.length c2)) := (HBq.out.cell (World.block_lt_of_cell? _ _ K2.out)).trans K2.out
  replace Q3 : Hid (RdG (w4.alloc (.cells #[.slice A4 Gb.length c4] 24)) ((w4.alloc (.cells #[.slice A4 Gb.length c4] 24))).heap.size A3 R3) := Q3.out.on HBq.out
  replace K3 : Hid (((w4.alloc (.cells #[.slice A4 Gb.length c4] 24))).cell? ⟨w3.heap.size, 0, none⟩ = some (.slice A3 N c3)) := (HBq.out.cell (World.block_lt_of_cell? _ _ K3.out)).trans K3.out
  replace Q4 : Hid (RdG (w4.alloc (.cells #[.slice A4 Gb.length c4] 24)) ((w4.alloc (.cells #[.slice A4 Gb.length c4] 24))).heap.size A4 R4) := Q4.out.on HBq.out
  clear HBq
  have K4 : Hid (((w4.alloc (.cells #[.slice A4 Gb.length c4] 24))).cell? ⟨w4.heap.size, 0, none⟩ = some (.slice A4 Gb.length c4)) := (cell_at (World.alloc_heap_new w4 _) 0).trans rfl
  have HC := Lib.hid (HD.out A c _ HR.out)
  have k_K0 := K0.out
  go_wp2_with fail
  clear k_K0
  refine HC.out.mono ?_
  rintro e w5 ⟨A5, c5, A6, c6, rfl, q5, q6, bq⟩
  clear HC
  have HBc := Lib.hid bq; clear bq
  have HBq : Hid (Below (w4.alloc (.cells #[.slice A4 Gb.length c4] 24)).heap.size (w4.alloc (.cells #[.slice A4 Gb.length c4] 24)) w5) := HBc.out
  replace HB : Hid (Below w.heap.size w w5) := HB.out.trans (HBq.out.mono HB.out.size)
  replace HR : Hid (RdG w5 (w5).heap.size A R) := HR.out.on HBq.out
  replace HL : Hid (RdV w5 (w5).heap.size B (rcs l)) := HL.out.on HBq.out
  replace K0 : Hid ((w5).cell? ⟨w.heap.size, 0, none⟩ = some (.slice A N c)) := (HBq.out.cell (World.block_lt_of_cell? _ _ K0.out)).trans K0.out
  replace Q1 : Hid (RdV w5 (w5).heap.size A1 (acs (arcs 0 g))) := Q1.out.on HBq.out
  replace Q2 : Hid (RdG w5 (w5).heap.size A2 R2) := Q2.out.on HBq.out
  replace K2 : Hid ((w5).cell? ⟨w2.heap.size, 0, none⟩ = some (.slice A2 G.length c2)) := (HBq.out.cell (World.block_lt_of_cell? _ _ K2.out)).trans K2.out
  replace Q3 : Hid (RdG w5 (w5).heap.size A3 R3) := Q3.out.on HBq.out
  replace K3 : Hid ((w5).cell? ⟨w3.heap.size, 0, none⟩ = some (.slice A3 N c3)) := (HBq.out.cell (World.block_lt_of_cell? _ _ K3.out)).trans K3.out
  replace Q4 : Hid (RdG w5 (w5).heap.size A4 R4) := Q4.out.on HBq.out
  replace K4 : Hid ((w5).cell? ⟨w4.heap.size, 0, none⟩ = some (.slice A4 Gb.length c4)) := (HBq.out.cell (World.block_lt_of_cell? _ _ K4.out)).trans K4.out
  clear HBq
  clear HBc
  have Q5 : Hid (RdV w5 (w5).heap.size A5 (zc (ns F))) := q5
  have Q6 : Hid (RdV w5 (w5).heap.size A6 (zc (ns T))) := q6
  clear q5 q6
  rw [HFT.out.2.2.1, HFT.out.2.2.2]
  have HC := Lib.hid (HRC.out A c _ HR.out)
  have k_K0 := K0.out
  go_wp2_with fail
  clear k_K0
  refine HC.out.mono ?_
  rintro e w6 ⟨rfl, bq⟩
  clear HC
  have HBc := Lib.hid bq; clear bq
  have HBq : Hid (Below w5.heap.size w5 w6) := HBc.out
  replace HB : Hid (Below w.heap.size w w6) := HB.out.trans (HBq.out.mono HB.out.size)
  replace HR : Hid (RdG w6 (w6).heap.size A R) := HR.out.on HBq.out
  replace HL : Hid (RdV w6 (w6).heap.size B (rcs l)) := HL.out.on HBq.out
  replace K0 : Hid ((w6).cell? ⟨w.heap.size, 0, none⟩ = some (.slice A N c)) := (HBq.out.cell (World.block_lt_of_cell? _ _ K0.out)).trans K0.out
  replace Q1 : Hid (RdV w6 (w6).heap.size A1 (acs (arcs 0 g))) := Q1.out.on HBq.out
  replace Q2 : Hid (RdG w6 (w6).heap.size A2 R2) := Q2.out.on HBq.out
  replace K2 : Hid ((w6).cell? ⟨w2.heap.size, 0, none⟩ = some (.slice A2 G.length c2)) := (HBq.out.cell (World.block_lt_of_cell? _ _ K2.out)).trans K2.out
  replace Q3 : Hid (RdG w6 (w6).heap.size A3 R3) := Q3.out.on HBq.out
  replace K3 : Hid ((w6).cell? ⟨w3.heap.size, 0, none⟩ = some (.slice A3 N c3)) := (HBq.out.cell (World.block_lt_of_cell? _ _ K3.out)).trans K3.out
  replace Q4 : Hid (RdG w6 (w6).heap.size A4 R4) := Q4.out.on HBq.out
  replace K4 : Hid ((w6).cell? ⟨w4.heap.size, 0, none⟩ = some (.slice A4 Gb.length c4)) := (HBq.out.cell (World.block_lt_of_cell? _ _ K4.out)).trans K4.out
  replace Q5 : Hid (RdV w6 (w6).heap.size A5 (zc (ns F))) := Q5.out.on HBq.out
  replace Q6 : Hid (RdV w6 (w6).heap.size A6 (zc (ns T))) := Q6.out.on HBq.out
  clear HBq
  clear HBc
  have HC := Lib.hid (HRef.out _ HL.out)
  have k_K0 := K0.out
  go_wp2_with fail
  clear k_K0
  refine HC.out.mono ?_
  rintro e w7 ⟨A7, R7, c7, rfl, g7, q7, bq⟩
  clear HC
  have HBc := Lib.hid bq; clear bq
  have HBq : Hid (Below w6.heap.size w6 w7) := HBc.out
  replace HB : Hid (Below w.heap.size w w7) := HB.out.trans (HBq.out.mono HB.out.size)
  replace HR : Hid (RdG w7 (w7).heap.size A R) := HR.out.on HBq.out
  replace HL : Hid (RdV w7 (w7).heap.size B (rcs l)) := HL.out.on HBq.out
  replace K0 : Hid ((w7).cell? ⟨w.heap.size, 0, none⟩ = some (.slice A N c)) := (HBq.out.cell (World.block_lt_of_cell? _ _ K0.out)).trans K0.out
  replace Q1 : Hid (RdV w7 (w7).heap.size A1 (acs (arcs 0 g))) := Q1.out.on HBq.out
  replace Q2 : Hid (RdG w7 (w7).heap.size A2 R2) := Q2.out.on HBq.out
  replace K2 : Hid ((w7).cell? ⟨w2.heap.size, 0, none⟩ = some (.slice A2 G.length c2)) := (HBq.out.cell (World.block_lt_of_cell? _ _ K2.out)).trans K2.out
  replace Q3 : Hid (RdG w7 (w7).heap.size A3 R3) := Q3.out.on HBq.out
  replace K3 : Hid ((w7).cell? ⟨w3.heap.size, 0, none⟩ = some (.slice A3 N c3)) := (HBq.out.cell (World.block_lt_of_cell? _ _ K3.out)).trans K3.out
  replace Q4 : Hid (RdG w7 (w7).heap.size A4 R4) := Q4.out.on HBq.out
  replace K4 : Hid ((w7).cell? ⟨w4.heap.size, 0, none⟩ = some (.slice A4 Gb.length c4)) := (HBq.out.cell (World.block_lt_of_cell? _ _ K4.out)).trans K4.out
  replace Q5 : Hid (RdV w7 (w7).heap.size A5 (zc (ns F))) := Q5.out.on HBq.out
  replace Q6 : Hid (RdV w7 (w7).heap.size A6 (zc (ns T))) := Q6.out.on HBq.out
  clear HBq
  clear HBc
  have Q7 : Hid (RdG w7 (w7).heap.size A7 R7) := q7
  have HG7 := Lib.hid g7; clear q7 g7
  have HBq : Hid (Below w7.heap.size w7 (w7.alloc (.cells #[.slice A7 G.length c7] 24))) := one_below _ _
  replace HB : Hid (Below w.heap.size w (w7.alloc (.cells #[.slice A7 G.length c7] 24))) := HB.out.trans (HBq.out.mono HB.out.size)
  replace HR : Hid (RdG (w7.alloc (.cells #[.slice A7 G.length c7] 24)) ((w7.alloc (.cells #[.slice A7 G.length c7] 24))).heap.size A R) := HR.out.on HBq.out
  replace HL : Hid (RdV (w7.alloc (.cells #[.slice A7 G.length c7] 24)) ((w7.alloc (.cells #[.slice A7 G.length c7] 24))).heap.size B (rcs l)) := HL.out.on HBq.out
  replace K0 : Hid (((w7.alloc (.cells #[.slice A7 G.length c7] 24))).cell? ⟨w.heap.size, 0, none⟩ = some (.slice A N c)) := (HBq.out.cell (World.block_lt_of_cell? _ _ K0.out)).trans K0.out
  replace Q1 : Hid (RdV (w7.alloc (.cells #[.slice A7 G.length c7] 24)) ((w7.alloc (.cells #[.slice A7 G.length c7] 24))).heap.size A1 (acs (arcs 0 g))) := Q1.out.on HBq.out
  replace Q2 : Hid (RdG (w7.alloc (.cells #[.slice A7 G.length c7] 24)) ((w7.alloc (.cells #[.slice A7 G.length c7] 24))).heap.size A2 R2) := Q2.out.on HBq.out
  replace K2 : Hid (((w7.alloc (.cells #[.slice A7 G.length c7] 24))).cell? ⟨w2.heap.size, 0, none⟩ = some (.slice A2 G.length c2)) := (HBq.out.cell (World.block_lt_of_cell? _ _ K2.out)).trans K2.out
  replace Q3 : Hid (RdG (w7.alloc (.cells #[.slice A7 G.length c7] 24)) ((w7.alloc (.cells #[.slice A7 G.length c7] 24))).heap.size A3 R3) := Q3.out.on HBq.out
  replace K3 : Hid (((w7.alloc (.cells #[.slice A7 G.length c7] 24))).cell? ⟨w3.heap.size, 0, none⟩ = some (.slice A3 N c3)) := (HBq.out.cell (World.block_lt_of_cell? _ _ K3.out)).trans K3.out
  replace Q4 : Hid (RdG (w7.alloc (.cells #[.slice A7 G.length c7] 24)) ((w7.alloc (.cells #[.slice A7 G.length c7] 24))).heap.size A4 R4) := Q4.out.on HBq.out
  replace K4 : Hid (((w7.alloc (.cells #[.slice A7 G.length c7] 24))).cell? ⟨w4.heap.size, 0, none⟩ = some (.slice A4 Gb.length c4)) := (HBq.out.cell (World.block_lt_of_cell? _ _ K4.out)).trans K4.out
  replace Q5 : Hid (RdV (w7.alloc (.cells #[.slice A7 G.length c7] 24)) ((w7.alloc (.cells #[.slice A7 G.length c7] 24))).heap.size A5 (zc (ns F))) := Q5.out.on HBq.out
  replace Q6 : Hid (RdV (w7.alloc (.cells #[.slice A7 G.length c7] 24)) ((w7.alloc (.cells #[.slice A7 G.length c7] 24))).heap.size A6 (zc (ns T))) := Q6.out.on HBq.out
  replace Q7 : Hid (RdG (w7.alloc (.cells #[.slice A7 G.length c7] 24)) ((w7.alloc (.cells #[.slice A7 G.length c7] 24))).heap.size A7 R7) := Q7.out.on HBq.out
  clear HBq
  have K7 : Hid (((w7.alloc (.cells #[.slice A7 G.length c7] 24))).cell? ⟨w7.heap.size, 0, none⟩ = some (.slice A7 G.length c7)) := (cell_at (World.alloc_heap_new w7 _) 0).trans rfl
  obtain ⟨W7, hW7⟩ : ∃ W7, w7.alloc (.cells #[.slice A7 G.length c7] 24) = W7 := ⟨_, rfl⟩
  rw [hW7] at HB
  rw [hW7] at HR
  rw [hW7] at HL
  rw [hW7] at K0
  rw [hW7] at Q1
  rw [hW7] at Q2
  rw [hW7] at K2
  rw [hW7] at Q3
  rw [hW7] at K3
  rw [hW7] at Q4
  rw [hW7] at K4
  rw [hW7] at Q5
  rw [hW7] at Q6
  rw [hW7] at Q7
  rw [hW7] at K7
  have hS7 : W7.heap.size = w7.heap.size + 1 := by rw [← hW7]; exact World.size_alloc _ _
  obtain ⟨X, hX⟩ : ∃ X, (W7.alloc (.cells #[.slice none 0 0] 24)).alloc (.cells #[.slice none 0 0] 24) = X := ⟨_, rfl⟩
  have HXe : Hid (((w7.alloc (.cells #[.slice A7 G.length c7] 24)).alloc (.cells #[.slice none 0 0] 24)).alloc (.cells #[.slice none 0 0] 24) = X) := by show _ = _; rw [hW7]; exact hX
  have HBx : Hid (Bx2 W7 X (w7.heap.size + 1) (.slice none 0 0) (.slice none 0 0)) := by
    have b1 := one_below W7 (.cells #[.slice none 0 0] 24)
    have n1 := World.alloc_heap_new W7 (.cells #[.slice none 0 0] 24)
    have s1 : (W7.alloc (.cells #[.slice none 0 0] 24)).heap.size = W7.heap.size + 1 := World.size_alloc _ _
    have b2 := one_below (W7.alloc (.cells #[.slice none 0 0] 24)) (.cells #[.slice none 0 0] 24)
    have n2 := World.alloc_heap_new (W7.alloc (.cells #[.slice none 0 0] 24)) (.cells #[.slice none 0 0] 24)
    rw [hX] at b2 n2
    rw [s1, hS7] at n2
    rw [hS7] at n1
    exact ⟨b1.trans (b2.mono b1.size), hS7.symm, (b2.block _ (by rw [s1]; omega)).trans n1, n2⟩
  clear hX
  obtain ⟨P, hP⟩ : ∃ P, w7.heap.size + 1 = P := ⟨_, rfl⟩
  rw [hP] at HBx
  have HPw : Hid (w7.heap.size + 1 = P) := hP
  have HK0 : Hid (∀ V, Below W7.heap.size W7 V → V.cell? ⟨w.heap.size, 0, none⟩ = some (.slice A N c)) := fun V hV => (hV.cell (World.block_lt_of_cell? _ _ K0.out)).trans K0.out
  have k_K0 := HK0.out X HBx.out.low
  rw [← HXe.out] at k_K0
  have HXs : Hid (P + 1 < X.heap.size) := HBx.out.lt
  clear hW7 hS7 hP
  have HCa := Lib.hid (HRA.out A c X.drew (HR.out.on HBx.out.low.drew))
  go_wp2_with fail
  rw [HXe.out, HPw.out]
  clear k_K0
  go_region_held3 (fun w' => w'.cell? ⟨w.heap.size, 0, none⟩ = some (.slice A N c))
    ((first | exact HK0.out _ HBx.out.low.drew | exact HK0.out _ HBa.out.low | exact HK0.out _ HBb.out.low | exact HK0.out _ HBy.out.low))
    ((first | (go_at_call 22; refine HCa.out.mono ?_; rintro e wa ⟨va, rfl, qa1, ba⟩; have HBa : Hid (Bx2 W7 wa P (.slice none 0 0) (.slice none 0 0)) := HBx.out.drew.on ba; have HQa := Lib.hid qa1; obtain ⟨Ava, cva, rfl⟩ := own_sliceT qa1; have HSa : Hid (X.heap.size ≤ wa.heap.size) := ba.size; clear qa1 ba) | (go_at_call 23; refine (HRT.out A c wa (HR.out.on HBa.out.low)).mono ?_; rintro e wb ⟨A9, R9, c9, rfl, g9, q9, bb⟩; have HBb : Hid (Bx2 W7 wb P (.slice none 0 0) (.slice none 0 0)) := HBa.out.on bb; have HQb := Lib.hid (⟨g9, q9, bb⟩ : _ ∧ _ ∧ _); obtain ⟨⟨k8, f8⟩, -⟩ := HBb.out.cells; have HBy : Hid (Bx2 W7 (wb.setCell ⟨P, 0, none⟩ (.slice A9 N c9)) P (.slice A9 N c9) (.slice none 0 0)) := HBb.out.set8 _; clear g9 q9 bb)))
  all_goals (
    clear k8 f8
    obtain ⟨Y, hY⟩ : ∃ Y, wb.setCell ⟨P, 0, none⟩ (.slice A9 N c9) = Y := ⟨_, rfl⟩
    have HY1 : Hid (Y.ownsRow X.heap.size 65 2 (.slice Ava (arcs 0 g).length cva) (arcs 0 g).length (acs (arcs 0 g))) := by
      rw [← hY]
      have h1 := HXs.out
      exact own_keep2 HQa.out (fun j h2 h3 => (Below.heap_setCell _ _ _ _ (by show j ≠ P; have : X.drew.heap.size = X.heap.size := rfl; omega)).trans (HQb.out.2.2.block j h3))
    have HY2 : Hid (gs R9 = (gturn g).map ns ∧ RdH wa.heap.size Y A9 R9) := ⟨HQb.out.1, by
      rw [← hY]
      have h1 := HXs.out; have h2 := HSa.out
      exact HQb.out.2.1.same (fun k h3 h4 => Below.heap_setCell _ _ _ _ (by show k ≠ P; omega)) (by simp [World.setCell])⟩
    rw [hY] at HBy ⊢
    clear hY HQa HQb HBb HBa HCa HRA HRT
    have k0 := HK0.out Y HBy.out.low
    have HCb := Lib.hid (HRB.out A c Y (HR.out.on HBy.out.low))
    go_wp2_with fail
    refine HCb.out.mono ?_
    rintro e wc ⟨A10, R10, c10, rfl, g10, q10, bc⟩
    have HBc : Hid (Bx2 W7 wc P (.slice A9 N c9) (.slice none 0 0)) := HBy.out.on bc
    have HZ0 : Hid (Bx2 W7 (wc.setCell ⟨P + 1, 0, none⟩ (.slice A10 Gb.length c10)) P (.slice A9 N c9) (.slice A10 Gb.length c10)) := HBc.out.set9 _
    have HZ1 : Hid ((wc.setCell ⟨P + 1, 0, none⟩ (.slice A10 Gb.length c10)).ownsRow X.heap.size 65 2 (.slice Ava (arcs 0 g).length cva) (arcs 0 g).length (acs (arcs 0 g))) := by
      have h1 := HXs.out
      exact own_keep2 HY1.out (fun j h2 h3 => (Below.heap_setCell _ _ _ _ (by show j ≠ P + 1; omega)).trans (bc.block j h3))
    have HZ2 : Hid (RdH wa.heap.size (wc.setCell ⟨P + 1, 0, none⟩ (.slice A10 Gb.length c10)) A9 R9) := by
      have h1 := HXs.out; have h2 := HSa.out
      exact HY2.out.2.same (fun k h3 h4 => (Below.heap_setCell _ _ _ _ (by show k ≠ P + 1; omega)).trans (bc.block k h4)) (by have := bc.size; simpa [World.setCell] using this)
    have HZ3 : Hid (gs R10 = Gb.map ns ∧ RdG (wc.setCell ⟨P + 1, 0, none⟩ (.slice A10 Gb.length c10)) (wc.setCell ⟨P + 1, 0, none⟩ (.slice A10 Gb.length c10)).heap.size A10 R10) := ⟨g10, q10 _ (fun k h3 h4 => Below.heap_setCell _ _ _ _ (by show k ≠ P + 1; have := HBy.out.lt; omega)) (by simp [World.setCell])⟩
    obtain ⟨-, k9, f9⟩ := HBc.out.cells
    clear g10 q10 bc k0 HCb HRB
    go_wp2
    clear k9 f9
    obtain ⟨Z, hZ⟩ : ∃ Z, wc.setCell ⟨P + 1, 0, none⟩ (.slice A10 Gb.length c10) = Z := ⟨_, rfl⟩
    rw [hZ] at HZ0 HZ1 HZ2 HZ3 ⊢
    clear hZ HBc HY1 HBy
    have HZc : Hid (∀ V, Below Z.heap.size Z V → V.cell? ⟨w.heap.size, 0, none⟩ = some (.slice A N c) ∧ V.cell? ⟨P, 0, none⟩ = some (.slice A9 N c9) ∧ RdG V V.heap.size A R ∧ RdG V V.heap.size A9 R9) := fun V hV => ⟨HK0.out V (HZ0.out.low.trans (hV.mono HZ0.out.low.size)), (HZ0.out.on hV).cells.1.1, HR.out.on (HZ0.out.low.trans (hV.mono HZ0.out.low.size)), HZ2.out.here.on hV⟩
    go_loopw [24, 25, 27] (fun a b p wr => ∃ i : Nat, i ≤ N ∧ p = .int .i64 (i : Int) ∧ Tw Z wr a b (F.take i) (T.take i)) (fun _ _ p _ => N - (intOf p).toNat)
    case atStart => exact ⟨0, Nat.zero_le _, rfl, Below.refl _ _, ⟨rfl, .inl ⟨rfl, rfl⟩⟩, ⟨rfl, .inl ⟨rfl, rfl⟩⟩, fun r e => by cases e⟩
    case round =>
     as_aux_lemma =>
      obtain ⟨i, hi, rfl, hT⟩ := hrel
      obtain ⟨Af, cf, rfl⟩ := own_sliceT hT.o1
      obtain ⟨At, ct, rfl⟩ := own_sliceT hT.o2
      obtain ⟨k0, k1, z1, z2⟩ := HZc.out Z (Below.refl _ _)
      by_cases hlt : i < N
      · have hiR : i < R.length := by rw [HOk.out.2.2.2]; exact hlt
        have hi9 : i < R9.length := by have := congrArg List.length HY2.out.1; rw [gs_length, List.length_map, gturn_length, HOk.out.2.1] at this; omega
        obtain ⟨b1, o1, rfl, hb1, k2⟩ := z1.1.at_ (rcl_get R i hiR)
        obtain ⟨b2, o2, rfl, hb2, k3⟩ := z2.1.at_ (rcl_get R9 i hi9)
        have e1 := row_ofD R g HOk.out.2.2.1 i (by rw [HOk.out.2.1]; exact hlt)
        have e2 := row_ofD R9 (gturn g) HY2.out.1 i (by rw [gturn_length, HOk.out.2.1]; exact hlt)
        have l1 := HFT.out.1 i hlt
        have l2 := HFT.out.2.1 i hlt
        obtain ⟨m1, m2⟩ := HRl.out i hlt
        have ft := take_succ_qa (o := F) (k := i) (by rw [HFT.out.2.2.1]; exact hlt)
        have tt := take_succ_qa (o := T) (k := i) (by rw [HFT.out.2.2.2]; exact hlt)
        generalize R[i]?.getD (none, 0, []) = x1 at *
        generalize R9[i]?.getD (none, 0, []) = x2 at *
        obtain ⟨P1, d1, y1⟩ := x1
        obtain ⟨P2, d2, y2⟩ := x2
        unfold sl at k2 k3
        simp only at k2 k3 e1 e2
        subst e1 e2
        rw [ns_length] at k2 k3
        rw [l1] at k2 m1
        rw [l2] at k3 m2
        generalize qa F i = x at *
        generalize qa T i = z at *
        have hfl : (F.take i).length = i := by rw [List.length_take, HFT.out.2.2.1]; omega
        have htl : (T.take i).length = i := by rw [List.length_take, HFT.out.2.2.2]; omega
        have HTk := Lib.hid (⟨ft, tt⟩ : _ ∧ _)
        rw [hfl, htl]
        generalize F.take i = fi at *
        generalize T.take i = ti at *
        have HCl : Hid (∀ V, Below Z.heap.size Z V → V.cell? ⟨w.heap.size, 0, none⟩ = some (.slice (some ⟨b1, o1, none⟩) N c) ∧ V.cell? ⟨P, 0, none⟩ = some (.slice (some ⟨b2, o2, none⟩) N c9) ∧ V.cell? ⟨b1, o1 + i, none⟩ = some (.slice P1 x d1) ∧ V.cell? ⟨b2, o2 + i, none⟩ = some (.slice P2 z d2)) := fun V hV => ⟨(hV.cell (World.block_lt_of_cell? _ _ k0)).trans k0, (hV.cell (World.block_lt_of_cell? _ _ k1)).trans k1, (hV.cell (World.block_lt_of_cell? _ _ k2)).trans k2, (hV.cell (World.block_lt_of_cell? _ _ k3)).trans k3⟩
        have t5 : (0 : Int) ≤ (i : Int) := by omega
        have t6 : (i : Int) < (N : Int) := by omega
        clear z1 z2 hb1 hb2 hiR hi9 ft tt l1 l2
        have HTw := Lib.hid hT
        have HFl : Hid (fi.length = i ∧ ti.length = i) := ⟨hfl, htl⟩
        clear hT k0 k1 k2 k3 hfl htl
        obtain ⟨k0, k1, k2, k3⟩ := HCl.out wr HTw.out.low
        go_wp2_with fail
        generalize hQ2 : Exit.inBlock _ _ = Q2
        have HRest : Hid (∀ (W : World) (v8 v17 : Value) (b7 b16 : Nat), Tw Z W v8 v17 (fi ++ [x]) (ti ++ [z]) → Q2 Exit.normal { tmps := #[Value.agg #[Value.slice (some { block := b1, off := o1 }) N c], Value.int IntKind.i64 n, Value.slice B m d, Value.pointer (some { block := w.heap.size, off := 0 }), undef, undef, Value.bool false, Value.slice A1 (arcs 0 g).length c1, Value.int IntKind.i64 0, Value.pointer (some { block := w2.heap.size, off := 0 }), Value.int IntKind.i64 eo, Value.pointer (some { block := w3.heap.size, off := 0 }), Value.int IntKind.i64 0, Value.pointer (some { block := w4.heap.size, off := 0 }), Value.int IntKind.i64 eb, Value.slice A5 N c5, Value.slice A6 N c6, Value.int IntKind.i64 0, Value.int IntKind.i64 0, Value.pointer (some { block := w7.heap.size, off := 0 }), Value.int IntKind.i64 eo, Value.slice Ava (arcs 0 g).length cva, Value.pointer (some { block := P, off := 0 }), Value.pointer (some { block := P + 1, off := 0 }), v8, v17, Value.int IntKind.i64 eb, Value.int IntKind.i64 ↑i, Value.tuple #[Value.slice A1 (arcs 0 g).length c1, Value.int IntKind.i64 0], Value.agg #[Value.slice (some { block := b1, off := o1 }) N c], Value.tuple #[Value.slice A1 (arcs 0 g).length c1, Value.int IntKind.i64 0], Value.slice A1 (arcs 0 g).length c1, Value.int IntKind.i64 0, Value.tuple #[Value.agg #[Value.slice A2 G.length c2], Value.int IntKind.i64 eo], Value.int IntKind.i64 n, Value.slice B m d, Value.tuple #[Value.agg #[Value.slice A2 G.length c2], Value.int IntKind.i64 eo], Value.agg #[Value.slice A2 G.length c2], Value.int IntKind.i64 eo, Value.tuple #[Value.agg #[Value.slice A3 N c3], Value.int IntKind.i64 0], Value.agg #[Value.slice (some { block := b1, off := o1 }) N c], Value.tuple #[Value.agg #[Value.slice A3 N c3], Value.int IntKind.i64 0], Value.agg #[Value.slice A3 N c3], Value.int IntKind.i64 0, Value.tuple #[Value.agg #[Value.slice A4 Gb.length c4], Value.int IntKind.i64 eb], Value.agg #[Value.slice (some { block := b1, off := o1 }) N c], Value.tuple #[Value.agg #[Value.slice A4 Gb.length c4], Value.int IntKind.i64 eb], Value.agg #[Value.slice A4 Gb.length c4], Value.int IntKind.i64 eb, Value.tuple #[Value.slice A5 N c5, Value.slice A6 N c6, Value.int IntKind.i64 0], Value.agg #[Value.slice (some { block := b1, off := o1 }) N c], Value.tuple #[Value.slice A5 N c5, Value.slice A6 N c6, Value.int IntKind.i64 0], Value.slice A5 N c5, Value.slice A6 N c6, Value.int IntKind.i64 0, Value.agg #[Value.slice (some { block := b1, off := o1 }) N c], Value.int IntKind.i64 0, Value.tuple #[Value.agg #[Value.slice A7 G.length c7], Value.int IntKind.i64 eo], Value.int IntKind.i64 n, Value.slice B m d, Value.tuple #[Value.agg #[Value.slice A7 G.length c7], Value.int IntKind.i64 eo], Value.agg #[Value.slice A7 G.length c7], Value.int IntKind.i64 eo, Value.int IntKind.i64 0, Value.int IntKind.i64 0, Value.bool true, Value.agg #[Value.slice (some { block := b1, off := o1 }) N c], Value.slice Ava (arcs 0 g).length cva, Value.agg #[Value.slice (some { block := b1, off := o1 }) N c], Value.agg #[Value.slice (some { block := b2, off := o2 }) N c9], Value.tuple #[Value.agg #[Value.slice A10 Gb.length c10], Value.int IntKind.i64 eb], Value.agg #[Value.slice (some { block := b1, off := o1 }) N c], Value.tuple #[Value.agg #[Value.slice A10 Gb.length c10], Value.int IntKind.i64 eb], Value.agg #[Value.slice A10 Gb.length c10], Value.int IntKind.i64 eb, Value.int IntKind.i64 ↑i, Value.pointer (some { block := w.heap.size, off := 0 }), Value.slice (some { block := b1, off := o1 }) N c, Value.int IntKind.i64 ↑N, Value.bool true, u80, u81, Value.slice Af i cf, Value.pointer (some { block := w.heap.size, off := 0 }), Value.slice (some { block := b1, off := o1 }) N c, Value.int IntKind.i64 ↑i, Value.pointer (some { block := b1, off := o1 + i }), Value.slice P1 x d1, Value.int IntKind.i64 ↑x, Value.slice (some { block := b7, off := 0 }) 1 1, v8, Value.slice At i ct, Value.pointer (some { block := P, off := 0 }), Value.slice (some { block := b2, off := o2 }) N c9, Value.int IntKind.i64 ↑i, Value.pointer (some { block := b2, off := o2 + i }), Value.slice P2 z d2, Value.int IntKind.i64 ↑z, Value.slice (some { block := b16, off := 0 }) 1 1, v17, undef, undef, undef, undef, undef, undef, undef, undef, undef, undef, undef, undef, undef, undef, undef, undef, undef, undef, undef, undef, undef, undef, undef, undef, undef, undef, undef, undef, undef, undef, undef, undef, undef, undef, undef, undef, undef, undef, undef, undef, undef, undef, undef, undef, undef, undef, undef, undef, undef, undef, undef, undef, undef, undef, undef, undef, undef, undef, undef, undef, undef, undef], defers := [] } W) := by
         as_aux_lemma =>
          intro W v8 v17 b7 b16 hW
          rw [← hQ2]
          clear hQ2 k0 k1 k2 k3
          have HW := Lib.hid hW; clear hW
          go_wp2
          go_roundw
          case rel => exact ⟨i + 1, by omega, by go_num, by rw [HTk.out.1, HTk.out.2]; exact HW.out⟩
          case measure => simp [intOf]; omega
        refine Code.wp_mono OnlyN.imp (wp_region_held_drew (S := fun V => V.cell? ⟨w.heap.size, 0, none⟩ = some (.slice (some ⟨b1, o1, none⟩) N c) ∧ V.cell? ⟨P, 0, none⟩ = some (.slice (some ⟨b2, o2, none⟩) N c9) ∧ V.cell? ⟨b1, o1 + i, none⟩ = some (.slice P1 x d1) ∧ V.cell? ⟨b2, o2 + i, none⟩ = some (.slice P2 z d2)) (by kernel_rfl) ⟨k0, k1, k2, k3⟩ (fun hHeld => ?_))
        have tw : Tw Z wr.drew (.slice Af i cf) (.slice At i ct) fi ti := by have := HTw.out.drew; rwa [HFl.out.1, HFl.out.2] at this
        obtain ⟨W0, hW0⟩ : ∃ W0, wr.drew = W0 := ⟨_, rfl⟩
        rw [hW0] at hHeld tw ⊢
        clear hW0 k0 k1 k2 k3 hQ2
        (refine gheld_val (i := 0) rfl (by kernel_rfl) (by kernel_rfl) (by kernel_rfl) hHeld (by rfl) ?_; apply Exists.intro; refine ⟨fun wq hSw => ?_, ?_⟩; ((try dsimp only at hSw); obtain ⟨c1, c2, c3, c4⟩ := hSw; go_simp; try rfl); try simp only [Act.put, List.setIfInBounds_toArray, List.set_cons_zero, List.set_cons_succ])
        (refine gheld_val (i := 1) rfl (by kernel_rfl) (by kernel_rfl) (by kernel_rfl) hHeld (by rfl) ?_; apply Exists.intro; refine ⟨fun wq hSw => ?_, ?_⟩; ((try dsimp only at hSw); obtain ⟨c1, c2, c3, c4⟩ := hSw; go_simp; try rfl); try simp only [Act.put, List.setIfInBounds_toArray, List.set_cons_zero, List.set_cons_succ])
        (refine gheld_val (i := 2) rfl (by kernel_rfl) (by kernel_rfl) (by kernel_rfl) hHeld (by rfl) ?_; apply Exists.intro; refine ⟨fun wq hSw => ?_, ?_⟩; ((try dsimp only at hSw); obtain ⟨c1, c2, c3, c4⟩ := hSw; go_simp; try rfl); try simp only [Act.put, List.setIfInBounds_toArray, List.set_cons_zero, List.set_cons_succ])
        (refine gheld_val (i := 3) rfl (by kernel_rfl) (by kernel_rfl) (by kernel_rfl) hHeld (by rfl) ?_; apply Exists.intro; refine ⟨fun wq hSw => ?_, ?_⟩; ((try dsimp only at hSw); obtain ⟨c1, c2, c3, c4⟩ := hSw; go_simp; try rfl); try simp only [Act.put, List.setIfInBounds_toArray, List.set_cons_zero, List.set_cons_succ])
        (refine gheld_val (i := 4) rfl (by kernel_rfl) (by kernel_rfl) (by kernel_rfl) hHeld (by rfl) ?_; apply Exists.intro; refine ⟨fun wq hSw => ?_, ?_⟩; ((try dsimp only at hSw); obtain ⟨c1, c2, c3, c4⟩ := hSw; go_simp; try rfl); try simp only [Act.put, List.setIfInBounds_toArray, List.set_cons_zero, List.set_cons_succ])
        (refine gheld_val (i := 5) rfl (by kernel_rfl) (by kernel_rfl) (by kernel_rfl) hHeld (by rfl) ?_; apply Exists.intro; refine ⟨fun wq hSw => ?_, ?_⟩; ((try dsimp only at hSw); obtain ⟨c1, c2, c3, c4⟩ := hSw; go_simp; try rfl); try simp only [Act.put, List.setIfInBounds_toArray, List.set_cons_zero, List.set_cons_succ])
        (refine gheld_val (i := 6) rfl (by kernel_rfl) (by kernel_rfl) (by kernel_rfl) hHeld (by rfl) ?_; apply Exists.intro; refine ⟨fun wq hSw => ?_, ?_⟩; ((try dsimp only at hSw); obtain ⟨c1, c2, c3, c4⟩ := hSw; go_simp; try rfl); try simp only [Act.put, List.setIfInBounds_toArray, List.set_cons_zero, List.set_cons_succ])
        (refine gheld_val (i := 9) rfl (by kernel_rfl) (by kernel_rfl) (by kernel_rfl) hHeld (by rfl) ?_; apply Exists.intro; refine ⟨fun wq hSw => ?_, ?_⟩; ((try dsimp only at hSw); obtain ⟨c1, c2, c3, c4⟩ := hSw; go_simp; try rfl); try simp only [Act.put, List.setIfInBounds_toArray, List.set_cons_zero, List.set_cons_succ])
        (refine gheld_val (i := 10) rfl (by kernel_rfl) (by kernel_rfl) (by kernel_rfl) hHeld (by rfl) ?_; apply Exists.intro; refine ⟨fun wq hSw => ?_, ?_⟩; ((try dsimp only at hSw); obtain ⟨c1, c2, c3, c4⟩ := hSw; go_simp; try rfl); try simp only [Act.put, List.setIfInBounds_toArray, List.set_cons_zero, List.set_cons_succ])
        (refine gheld_val (i := 11) rfl (by kernel_rfl) (by kernel_rfl) (by kernel_rfl) hHeld (by rfl) ?_; apply Exists.intro; refine ⟨fun wq hSw => ?_, ?_⟩; ((try dsimp only at hSw); obtain ⟨c1, c2, c3, c4⟩ := hSw; go_simp; try rfl); try simp only [Act.put, List.setIfInBounds_toArray, List.set_cons_zero, List.set_cons_succ])
        (refine gheld_val (i := 12) rfl (by kernel_rfl) (by kernel_rfl) (by kernel_rfl) hHeld (by rfl) ?_; apply Exists.intro; refine ⟨fun wq hSw => ?_, ?_⟩; ((try dsimp only at hSw); obtain ⟨c1, c2, c3, c4⟩ := hSw; go_simp; try rfl); try simp only [Act.put, List.setIfInBounds_toArray, List.set_cons_zero, List.set_cons_succ])
        (refine gheld_val (i := 13) rfl (by kernel_rfl) (by kernel_rfl) (by kernel_rfl) hHeld (by rfl) ?_; apply Exists.intro; refine ⟨fun wq hSw => ?_, ?_⟩; ((try dsimp only at hSw); obtain ⟨c1, c2, c3, c4⟩ := hSw; go_simp; try rfl); try simp only [Act.put, List.setIfInBounds_toArray, List.set_cons_zero, List.set_cons_succ])
        (refine gheld_val (i := 14) rfl (by kernel_rfl) (by kernel_rfl) (by kernel_rfl) hHeld (by rfl) ?_; apply Exists.intro; refine ⟨fun wq hSw => ?_, ?_⟩; ((try dsimp only at hSw); obtain ⟨c1, c2, c3, c4⟩ := hSw; go_simp; try rfl); try simp only [Act.put, List.setIfInBounds_toArray, List.set_cons_zero, List.set_cons_succ])
        (refine gheld_val (i := 15) rfl (by kernel_rfl) (by kernel_rfl) (by kernel_rfl) hHeld (by rfl) ?_; apply Exists.intro; refine ⟨fun wq hSw => ?_, ?_⟩; ((try dsimp only at hSw); obtain ⟨c1, c2, c3, c4⟩ := hSw; go_simp; try rfl); try simp only [Act.put, List.setIfInBounds_toArray, List.set_cons_zero, List.set_cons_succ])
        refine wpAnyH_ready (rs := [7, 16]) (by kernel_rfl) (by simp) ?_
        refine AllReadyH.cons (gof_drop rfl) (fun K hK => ?_) (AllReadyH.cons (gof_drop rfl) (fun K hK => ?_) AllReadyH.nil)
        · go_simp
          obtain ⟨V1, hV⟩ : ∃ V, W0.alloc (.cells #[.int .i64 (x : Int)] 3) = V := ⟨_, rfl⟩
          have hb : Below W0.heap.size W0 V1 := hV ▸ one_below _ _
          have ltw := tw.lt
          have tw : Tw Z V1 (.slice Af i cf) (.slice At i ct) fi ti := hV ▸ tw.alloc _
          have a7 : V1.heap[W0.heap.size]? = some (.cells #[.int .i64 (x : Int)] 3 (0, 0)) := hV ▸ World.alloc_heap_new _ _
          clear ltw
          rw [hV]
          clear hV
          refine hK.out _ _ (HCl.out _ tw.low) (fun hHeld => ?_)
          clear hK K
          try simp only [Act.put, List.setIfInBounds_toArray, List.set_cons_zero, List.set_cons_succ]
          refine wpAnyH_ready (rs := [8, 16]) (by kernel_rfl) (by simp) ?_
          refine AllReadyH.cons (gof_drop rfl) (fun K hK => ?_) (AllReadyH.cons (gof_drop rfl) (fun K hK => ?_) AllReadyH.nil)
          · refine app_at (by rfl) (.tmp 82) (.tmp 89) (by rfl) Z.heap.size _ i (zc (ns fi)) (by rfl) (by have := tw.o1; rw [HFl.out.1] at this; exact this) ⟨W0.heap.size, 0, none⟩ (.int .i64 (x : Int)) (by rfl) ((cell_at a7 0).trans rfl) rfl (by omega) tw.low.size ?_
            intro v8 V2 own2 gr h4
            have tw := tw.app1 (x := x) (by rw [HFl.out.1]; exact own2) gr h4
            obtain ⟨Ax8, cx8, rfl⟩ := own_sliceT own2
            clear own2 gr h4
            refine hK.out _ _ (HCl.out _ tw.low) (fun hHeld => ?_)
            clear hK K
            try simp only [Act.put, List.setIfInBounds_toArray, List.set_cons_zero, List.set_cons_succ]
            refine wpAnyH_ready (rs := [16]) (by kernel_rfl) (by simp) ?_
            refine AllReadyH.cons (gof_drop rfl) (fun K hK => ?_) AllReadyH.nil
            · go_simp
              obtain ⟨V3, hV⟩ : ∃ V, V2.alloc (.cells #[.int .i64 (z : Int)] 3) = V := ⟨_, rfl⟩
              have hb : Below V2.heap.size V2 V3 := hV ▸ one_below _ _
              have ltw := tw.lt
              have tw : Tw Z V3 (.slice Ax8 (i + 1) cx8) (.slice At i ct) (fi ++ [x]) ti := hV ▸ tw.alloc _
              have a16 : V3.heap[V2.heap.size]? = some (.cells #[.int .i64 (z : Int)] 3 (0, 0)) := hV ▸ World.alloc_heap_new _ _
              have ne16 : ∀ r, Value.ownBlock (.slice Ax8 (i + 1) cx8) = some r → r ≠ V2.heap.size := fun r e => Nat.ne_of_lt (ltw.1 r e)
              clear ltw
              rw [hV]
              clear hV
              refine hK.out _ _ (HCl.out _ tw.low) (fun hHeld => ?_)
              clear hK K
              try simp only [Act.put, List.setIfInBounds_toArray, List.set_cons_zero, List.set_cons_succ]
              refine wpAnyH_ready (rs := [17]) (by kernel_rfl) (by simp) ?_
              refine AllReadyH.cons (gof_drop rfl) (fun K hK => ?_) AllReadyH.nil
              · refine app_at (by rfl) (.tmp 91) (.tmp 98) (by rfl) Z.heap.size _ i (zc (ns ti)) (by rfl) (by have := tw.o2; rw [HFl.out.2] at this; exact this) ⟨V2.heap.size, 0, none⟩ (.int .i64 (z : Int)) (by rfl) ((cell_at a16 0).trans rfl) rfl (by omega) tw.low.size ?_
                intro v17 V4 own2 gr h4
                have tw := (tw.swap.app1 (x := z) (by rw [HFl.out.2]; exact own2) gr h4).swap
                obtain ⟨Ax17, cx17, rfl⟩ := own_sliceT own2
                clear own2 gr h4
                refine hK.out _ _ (HCl.out _ tw.low) (fun hHeld => ?_)
                clear hK K
                try simp only [Act.put, List.setIfInBounds_toArray, List.set_cons_zero, List.set_cons_succ]
                (refine gheld_val (i := 18) rfl (by kernel_rfl) (by kernel_rfl) (by kernel_rfl) hHeld (by rfl) ?_; apply Exists.intro; refine ⟨fun wq hSw => ?_, ?_⟩; ((try dsimp only at hSw); obtain ⟨c1, c2, c3, c4⟩ := hSw; go_simp; try rfl); try simp only [Act.put, List.setIfInBounds_toArray, List.set_cons_zero, List.set_cons_succ])
                (refine gheld_val (i := 19) rfl (by kernel_rfl) (by kernel_rfl) (by kernel_rfl) hHeld (by rfl) ?_; apply Exists.intro; refine ⟨fun wq hSw => ?_, ?_⟩; ((try dsimp only at hSw); obtain ⟨c1, c2, c3, c4⟩ := hSw; go_simp; try rfl); try simp only [Act.put, List.setIfInBounds_toArray, List.set_cons_zero, List.set_cons_succ])
                refine wpAnyH_done (by kernel_rfl) ⟨rfl, ?_⟩ _
                exact HRest.out V4 _ _ _ _ tw
          · go_simp
            obtain ⟨V5, hV⟩ : ∃ V, V1.alloc (.cells #[.int .i64 (z : Int)] 3) = V := ⟨_, rfl⟩
            have hb : Below V1.heap.size V1 V5 := hV ▸ one_below _ _
            have ltw := tw.lt
            have tw : Tw Z V5 (.slice Af i cf) (.slice At i ct) fi ti := hV ▸ tw.alloc _
            have a7 := (hb.block _ (Array.getElem?_eq_some_iff.1 a7).1).trans a7
            have a16 : V5.heap[V1.heap.size]? = some (.cells #[.int .i64 (z : Int)] 3 (0, 0)) := hV ▸ World.alloc_heap_new _ _
            have ne16 : ∀ r, Value.ownBlock (.slice Af i cf) = some r → r ≠ V1.heap.size := fun r e => Nat.ne_of_lt (ltw.1 r e)
            clear ltw
            rw [hV]
            clear hV
            refine hK.out _ _ (HCl.out _ tw.low) (fun hHeld => ?_)
            clear hK K
            try simp only [Act.put, List.setIfInBounds_toArray, List.set_cons_zero, List.set_cons_succ]
            refine wpAnyH_ready (rs := [8]) (by kernel_rfl) (by simp) ?_
            refine AllReadyH.cons (gof_drop rfl) (fun K hK => ?_) AllReadyH.nil
            · refine app_at (by rfl) (.tmp 82) (.tmp 89) (by rfl) Z.heap.size _ i (zc (ns fi)) (by rfl) (by have := tw.o1; rw [HFl.out.1] at this; exact this) ⟨W0.heap.size, 0, none⟩ (.int .i64 (x : Int)) (by rfl) ((cell_at a7 0).trans rfl) rfl (by omega) tw.low.size ?_
              intro v8 V6 own2 gr h4
              have a16 := (gr.block _ (Array.getElem?_eq_some_iff.1 a16).1 (fun e => ne16 _ e.symm rfl)).trans a16
              have tw := tw.app1 (x := x) (by rw [HFl.out.1]; exact own2) gr h4
              obtain ⟨Ax8, cx8, rfl⟩ := own_sliceT own2
              clear own2 gr h4
              refine hK.out _ _ (HCl.out _ tw.low) (fun hHeld => ?_)
              clear hK K
              try simp only [Act.put, List.setIfInBounds_toArray, List.set_cons_zero, List.set_cons_succ]
              refine wpAnyH_ready (rs := [17]) (by kernel_rfl) (by simp) ?_
              refine AllReadyH.cons (gof_drop rfl) (fun K hK => ?_) AllReadyH.nil
              · refine app_at (by rfl) (.tmp 91) (.tmp 98) (by rfl) Z.heap.size _ i (zc (ns ti)) (by rfl) (by have := tw.o2; rw [HFl.out.2] at this; exact this) ⟨V1.heap.size, 0, none⟩ (.int .i64 (z : Int)) (by rfl) ((cell_at a16 0).trans rfl) rfl (by omega) tw.low.size ?_
                intro v17 V7 own2 gr h4
                have tw := (tw.swap.app1 (x := z) (by rw [HFl.out.2]; exact own2) gr h4).swap
                obtain ⟨Ax17, cx17, rfl⟩ := own_sliceT own2
                clear own2 gr h4
                refine hK.out _ _ (HCl.out _ tw.low) (fun hHeld => ?_)
                clear hK K
                try simp only [Act.put, List.setIfInBounds_toArray, List.set_cons_zero, List.set_cons_succ]
                (refine gheld_val (i := 18) rfl (by kernel_rfl) (by kernel_rfl) (by kernel_rfl) hHeld (by rfl) ?_; apply Exists.intro; refine ⟨fun wq hSw => ?_, ?_⟩; ((try dsimp only at hSw); obtain ⟨c1, c2, c3, c4⟩ := hSw; go_simp; try rfl); try simp only [Act.put, List.setIfInBounds_toArray, List.set_cons_zero, List.set_cons_succ])
                (refine gheld_val (i := 19) rfl (by kernel_rfl) (by kernel_rfl) (by kernel_rfl) hHeld (by rfl) ?_; apply Exists.intro; refine ⟨fun wq hSw => ?_, ?_⟩; ((try dsimp only at hSw); obtain ⟨c1, c2, c3, c4⟩ := hSw; go_simp; try rfl); try simp only [Act.put, List.setIfInBounds_toArray, List.set_cons_zero, List.set_cons_succ])
                refine wpAnyH_done (by kernel_rfl) ⟨rfl, ?_⟩ _
                exact HRest.out V7 _ _ _ _ tw
        · go_simp
          obtain ⟨V8, hV⟩ : ∃ V, W0.alloc (.cells #[.int .i64 (z : Int)] 3) = V := ⟨_, rfl⟩
          have hb : Below W0.heap.size W0 V8 := hV ▸ one_below _ _
          have ltw := tw.lt
          have tw : Tw Z V8 (.slice Af i cf) (.slice At i ct) fi ti := hV ▸ tw.alloc _
          have a16 : V8.heap[W0.heap.size]? = some (.cells #[.int .i64 (z : Int)] 3 (0, 0)) := hV ▸ World.alloc_heap_new _ _
          have ne16 : ∀ r, Value.ownBlock (.slice Af i cf) = some r → r ≠ W0.heap.size := fun r e => Nat.ne_of_lt (ltw.1 r e)
          clear ltw
          rw [hV]
          clear hV
          refine hK.out _ _ (HCl.out _ tw.low) (fun hHeld => ?_)
          clear hK K
          try simp only [Act.put, List.setIfInBounds_toArray, List.set_cons_zero, List.set_cons_succ]
          refine wpAnyH_ready (rs := [7]) (by kernel_rfl) (by simp) ?_
          refine AllReadyH.cons (gof_drop rfl) (fun K hK => ?_) AllReadyH.nil
          · go_simp
            obtain ⟨V9, hV⟩ : ∃ V, V8.alloc (.cells #[.int .i64 (x : Int)] 3) = V := ⟨_, rfl⟩
            have hb : Below V8.heap.size V8 V9 := hV ▸ one_below _ _
            have ltw := tw.lt
            have tw : Tw Z V9 (.slice Af i cf) (.slice At i ct) fi ti := hV ▸ tw.alloc _
            have a16 := (hb.block _ (Array.getElem?_eq_some_iff.1 a16).1).trans a16
            have a7 : V9.heap[V8.heap.size]? = some (.cells #[.int .i64 (x : Int)] 3 (0, 0)) := hV ▸ World.alloc_heap_new _ _
            clear ltw
            rw [hV]
            clear hV
            refine hK.out _ _ (HCl.out _ tw.low) (fun hHeld => ?_)
            clear hK K
            try simp only [Act.put, List.setIfInBounds_toArray, List.set_cons_zero, List.set_cons_succ]
            refine wpAnyH_ready (rs := [8]) (by kernel_rfl) (by simp) ?_
            refine AllReadyH.cons (gof_drop rfl) (fun K hK => ?_) AllReadyH.nil
            · refine app_at (by rfl) (.tmp 82) (.tmp 89) (by rfl) Z.heap.size _ i (zc (ns fi)) (by rfl) (by have := tw.o1; rw [HFl.out.1] at this; exact this) ⟨V8.heap.size, 0, none⟩ (.int .i64 (x : Int)) (by rfl) ((cell_at a7 0).trans rfl) rfl (by omega) tw.low.size ?_
              intro v8 V10 own2 gr h4
              have a16 := (gr.block _ (Array.getElem?_eq_some_iff.1 a16).1 (fun e => ne16 _ e.symm rfl)).trans a16
              have tw := tw.app1 (x := x) (by rw [HFl.out.1]; exact own2) gr h4
              obtain ⟨Ax8, cx8, rfl⟩ := own_sliceT own2
              clear own2 gr h4
              refine hK.out _ _ (HCl.out _ tw.low) (fun hHeld => ?_)
              clear hK K
              try simp only [Act.put, List.setIfInBounds_toArray, List.set_cons_zero, List.set_cons_succ]
              refine wpAnyH_ready (rs := [17]) (by kernel_rfl) (by simp) ?_
              refine AllReadyH.cons (gof_drop rfl) (fun K hK => ?_) AllReadyH.nil
              · refine app_at (by rfl) (.tmp 91) (.tmp 98) (by rfl) Z.heap.size _ i (zc (ns ti)) (by rfl) (by have := tw.o2; rw [HFl.out.2] at this; exact this) ⟨W0.heap.size, 0, none⟩ (.int .i64 (z : Int)) (by rfl) ((cell_at a16 0).trans rfl) rfl (by omega) tw.low.size ?_
                intro v17 V11 own2 gr h4
                have tw := (tw.swap.app1 (x := z) (by rw [HFl.out.2]; exact own2) gr h4).swap
                obtain ⟨Ax17, cx17, rfl⟩ := own_sliceT own2
                clear own2 gr h4
                refine hK.out _ _ (HCl.out _ tw.low) (fun hHeld => ?_)
                clear hK K
                try simp only [Act.put, List.setIfInBounds_toArray, List.set_cons_zero, List.set_cons_succ]
                (refine gheld_val (i := 18) rfl (by kernel_rfl) (by kernel_rfl) (by kernel_rfl) hHeld (by rfl) ?_; apply Exists.intro; refine ⟨fun wq hSw => ?_, ?_⟩; ((try dsimp only at hSw); obtain ⟨c1, c2, c3, c4⟩ := hSw; go_simp; try rfl); try simp only [Act.put, List.setIfInBounds_toArray, List.set_cons_zero, List.set_cons_succ])
                (refine gheld_val (i := 19) rfl (by kernel_rfl) (by kernel_rfl) (by kernel_rfl) hHeld (by rfl) ?_; apply Exists.intro; refine ⟨fun wq hSw => ?_, ?_⟩; ((try dsimp only at hSw); obtain ⟨c1, c2, c3, c4⟩ := hSw; go_simp; try rfl); try simp only [Act.put, List.setIfInBounds_toArray, List.set_cons_zero, List.set_cons_succ])
                refine wpAnyH_done (by kernel_rfl) ⟨rfl, ?_⟩ _
                exact HRest.out V11 _ _ _ _ tw
      · obtain rfl : N = i := by omega
        have hFt : F.take N = F := List.take_of_length_le (by rw [HFT.out.2.2.1]; exact Nat.le_refl _)
        have hTt : T.take N = T := List.take_of_length_le (by rw [HFT.out.2.2.2]; exact Nat.le_refl _)
        rw [hFt, hTt] at hT
        rw [hFt, hTt]
        rw [HFT.out.2.2.1, HFT.out.2.2.2]
        have hlow := HZ0.out.low.trans (hT.low.mono HZ0.out.low.size)
        have HBz := Lib.hid (HZ0.out.on hT.low)
        have HAz := Lib.hid ((own_rdvA HZ1.out).on hT.low)
        have H9z := Lib.hid (HZ2.out.here.on hT.low)
        have H10z := Lib.hid (HZ3.out.2.on hT.low)
        have HF1 := Lib.hid (own_rdvA hT.o1)
        have HF2 := Lib.hid (own_rdvA hT.o2)
        clear hFt hTt k0 k1 z1 z2
        have HBq : Hid (Below W7.heap.size W7 wr) := hlow
        replace HB : Hid (Below w.heap.size w wr) := HB.out.trans (HBq.out.mono HB.out.size)
        replace HR : Hid (RdG wr (wr).heap.size A R) := HR.out.on HBq.out
        replace HL : Hid (RdV wr (wr).heap.size B (rcs l)) := HL.out.on HBq.out
        replace K0 : Hid ((wr).cell? ⟨w.heap.size, 0, none⟩ = some (.slice A N c)) := (HBq.out.cell (World.block_lt_of_cell? _ _ K0.out)).trans K0.out
        replace Q1 : Hid (RdV wr (wr).heap.size A1 (acs (arcs 0 g))) := Q1.out.on HBq.out
        replace Q2 : Hid (RdG wr (wr).heap.size A2 R2) := Q2.out.on HBq.out
        replace K2 : Hid ((wr).cell? ⟨w2.heap.size, 0, none⟩ = some (.slice A2 G.length c2)) := (HBq.out.cell (World.block_lt_of_cell? _ _ K2.out)).trans K2.out
        replace Q3 : Hid (RdG wr (wr).heap.size A3 R3) := Q3.out.on HBq.out
        replace K3 : Hid ((wr).cell? ⟨w3.heap.size, 0, none⟩ = some (.slice A3 N c3)) := (HBq.out.cell (World.block_lt_of_cell? _ _ K3.out)).trans K3.out
        replace Q4 : Hid (RdG wr (wr).heap.size A4 R4) := Q4.out.on HBq.out
        replace K4 : Hid ((wr).cell? ⟨w4.heap.size, 0, none⟩ = some (.slice A4 Gb.length c4)) := (HBq.out.cell (World.block_lt_of_cell? _ _ K4.out)).trans K4.out
        replace Q5 : Hid (RdV wr (wr).heap.size A5 (zc (ns F))) := Q5.out.on HBq.out
        replace Q6 : Hid (RdV wr (wr).heap.size A6 (zc (ns T))) := Q6.out.on HBq.out
        replace Q7 : Hid (RdG wr (wr).heap.size A7 R7) := Q7.out.on HBq.out
        replace K7 : Hid ((wr).cell? ⟨w7.heap.size, 0, none⟩ = some (.slice A7 G.length c7)) := (HBq.out.cell (World.block_lt_of_cell? _ _ K7.out)).trans K7.out
        clear HBq
        clear hlow hT
        have K8 : Hid ((wr).cell? ⟨P, 0, none⟩ = some (.slice A9 N c9)) := HBz.out.cells.1.1
        have K9 : Hid ((wr).cell? ⟨P + 1, 0, none⟩ = some (.slice A10 Gb.length c10)) := HBz.out.cells.2.1
        have QA : Hid (RdV wr (wr).heap.size Ava (acs (arcs 0 g))) := HAz.out
        have Q9 : Hid (RdG wr (wr).heap.size A9 R9) := H9z.out
        have Q10 : Hid (RdG wr (wr).heap.size A10 R10) := H10z.out
        have QF : Hid (RdV wr (wr).heap.size Af (zc (ns F))) := HF1.out
        have QT : Hid (RdV wr (wr).heap.size At (zc (ns T))) := HF2.out
        clear HBz HAz H9z H10z HF1 HF2 HZc HZ0 HZ1 HZ2
        have t7 : decide ((N : Int) < (N : Int)) = false := by simp
        have k_K0 := K0.out
        have HC := Lib.hid (graphbegun_true wr)
        have k_K2 := K2.out
        go_wp2_with fail
        clear k_K2
        refine HC.out.mono ?_
        rintro e u1 ⟨rfl, bq⟩
        clear HC
        have HBc := Lib.hid bq; clear bq
        have HBq : Hid (Below wr.heap.size wr u1) := HBc.out
        replace HB : Hid (Below w.heap.size w u1) := HB.out.trans (HBq.out.mono HB.out.size)
        replace HR : Hid (RdG u1 (u1).heap.size A R) := HR.out.on HBq.out
        replace HL : Hid (RdV u1 (u1).heap.size B (rcs l)) := HL.out.on HBq.out
        replace K0 : Hid ((u1).cell? ⟨w.heap.size, 0, none⟩ = some (.slice A N c)) := (HBq.out.cell (World.block_lt_of_cell? _ _ K0.out)).trans K0.out
        replace Q1 : Hid (RdV u1 (u1).heap.size A1 (acs (arcs 0 g))) := Q1.out.on HBq.out
        replace Q2 : Hid (RdG u1 (u1).heap.size A2 R2) := Q2.out.on HBq.out
        replace K2 : Hid ((u1).cell? ⟨w2.heap.size, 0, none⟩ = some (.slice A2 G.length c2)) := (HBq.out.cell (World.block_lt_of_cell? _ _ K2.out)).trans K2.out
        replace Q3 : Hid (RdG u1 (u1).heap.size A3 R3) := Q3.out.on HBq.out
        replace K3 : Hid ((u1).cell? ⟨w3.heap.size, 0, none⟩ = some (.slice A3 N c3)) := (HBq.out.cell (World.block_lt_of_cell? _ _ K3.out)).trans K3.out
        replace Q4 : Hid (RdG u1 (u1).heap.size A4 R4) := Q4.out.on HBq.out
        replace K4 : Hid ((u1).cell? ⟨w4.heap.size, 0, none⟩ = some (.slice A4 Gb.length c4)) := (HBq.out.cell (World.block_lt_of_cell? _ _ K4.out)).trans K4.out
        replace Q5 : Hid (RdV u1 (u1).heap.size A5 (zc (ns F))) := Q5.out.on HBq.out
        replace Q6 : Hid (RdV u1 (u1).heap.size A6 (zc (ns T))) := Q6.out.on HBq.out
        replace Q7 : Hid (RdG u1 (u1).heap.size A7 R7) := Q7.out.on HBq.out
        replace K7 : Hid ((u1).cell? ⟨w7.heap.size, 0, none⟩ = some (.slice A7 G.length c7)) := (HBq.out.cell (World.block_lt_of_cell? _ _ K7.out)).trans K7.out
        replace K8 : Hid ((u1).cell? ⟨P, 0, none⟩ = some (.slice A9 N c9)) := (HBq.out.cell (World.block_lt_of_cell? _ _ K8.out)).trans K8.out
        replace K9 : Hid ((u1).cell? ⟨P + 1, 0, none⟩ = some (.slice A10 Gb.length c10)) := (HBq.out.cell (World.block_lt_of_cell? _ _ K9.out)).trans K9.out
        replace QA : Hid (RdV u1 (u1).heap.size Ava (acs (arcs 0 g))) := QA.out.on HBq.out
        replace Q9 : Hid (RdG u1 (u1).heap.size A9 R9) := Q9.out.on HBq.out
        replace Q10 : Hid (RdG u1 (u1).heap.size A10 R10) := Q10.out.on HBq.out
        replace QF : Hid (RdV u1 (u1).heap.size Af (zc (ns F))) := QF.out.on HBq.out
        replace QT : Hid (RdV u1 (u1).heap.size At (zc (ns T))) := QT.out.on HBq.out
        clear HBq
        clear HBc
        clear k_K0
        have HC := Lib.hid (HC.out A c _ HR.out)
        have k_K0 := K0.out
        have k_K2 := K2.out
        have k_K3 := K3.out
        have k_K4 := K4.out
        have k_K7 := K7.out
        have k_K8 := K8.out
        have k_K9 := K9.out
        go_wp2_with fail
        clear k_K0
        clear k_K2
        clear k_K3
        clear k_K4
        clear k_K7
        clear k_K8
        clear k_K9
        refine HC.out.mono ?_
        rintro e u2 ⟨rfl, bq⟩
        clear HC
        have HBc := Lib.hid bq; clear bq
        have HBq : Hid (Below u1.heap.size u1 u2) := HBc.out
        replace HB : Hid (Below w.heap.size w u2) := HB.out.trans (HBq.out.mono HB.out.size)
        replace HR : Hid (RdG u2 (u2).heap.size A R) := HR.out.on HBq.out
        replace HL : Hid (RdV u2 (u2).heap.size B (rcs l)) := HL.out.on HBq.out
        replace K0 : Hid ((u2).cell? ⟨w.heap.size, 0, none⟩ = some (.slice A N c)) := (HBq.out.cell (World.block_lt_of_cell? _ _ K0.out)).trans K0.out
        replace Q1 : Hid (RdV u2 (u2).heap.size A1 (acs (arcs 0 g))) := Q1.out.on HBq.out
        replace Q2 : Hid (RdG u2 (u2).heap.size A2 R2) := Q2.out.on HBq.out
        replace K2 : Hid ((u2).cell? ⟨w2.heap.size, 0, none⟩ = some (.slice A2 G.length c2)) := (HBq.out.cell (World.block_lt_of_cell? _ _ K2.out)).trans K2.out
        replace Q3 : Hid (RdG u2 (u2).heap.size A3 R3) := Q3.out.on HBq.out
        replace K3 : Hid ((u2).cell? ⟨w3.heap.size, 0, none⟩ = some (.slice A3 N c3)) := (HBq.out.cell (World.block_lt_of_cell? _ _ K3.out)).trans K3.out
        replace Q4 : Hid (RdG u2 (u2).heap.size A4 R4) := Q4.out.on HBq.out
        replace K4 : Hid ((u2).cell? ⟨w4.heap.size, 0, none⟩ = some (.slice A4 Gb.length c4)) := (HBq.out.cell (World.block_lt_of_cell? _ _ K4.out)).trans K4.out
        replace Q5 : Hid (RdV u2 (u2).heap.size A5 (zc (ns F))) := Q5.out.on HBq.out
        replace Q6 : Hid (RdV u2 (u2).heap.size A6 (zc (ns T))) := Q6.out.on HBq.out
        replace Q7 : Hid (RdG u2 (u2).heap.size A7 R7) := Q7.out.on HBq.out
        replace K7 : Hid ((u2).cell? ⟨w7.heap.size, 0, none⟩ = some (.slice A7 G.length c7)) := (HBq.out.cell (World.block_lt_of_cell? _ _ K7.out)).trans K7.out
        replace K8 : Hid ((u2).cell? ⟨P, 0, none⟩ = some (.slice A9 N c9)) := (HBq.out.cell (World.block_lt_of_cell? _ _ K8.out)).trans K8.out
        replace K9 : Hid ((u2).cell? ⟨P + 1, 0, none⟩ = some (.slice A10 Gb.length c10)) := (HBq.out.cell (World.block_lt_of_cell? _ _ K9.out)).trans K9.out
        replace QA : Hid (RdV u2 (u2).heap.size Ava (acs (arcs 0 g))) := QA.out.on HBq.out
        replace Q9 : Hid (RdG u2 (u2).heap.size A9 R9) := Q9.out.on HBq.out
        replace Q10 : Hid (RdG u2 (u2).heap.size A10 R10) := Q10.out.on HBq.out
        replace QF : Hid (RdV u2 (u2).heap.size Af (zc (ns F))) := QF.out.on HBq.out
        replace QT : Hid (RdV u2 (u2).heap.size At (zc (ns T))) := QT.out.on HBq.out
        clear HBq
        clear HBc
        have hSA : Calls Try.prog 27 #[.slice A1 (arcs 0 g).length c1, .slice Ava (arcs 0 g).length cva] u2 fun e w' => e = .returned (.bool true) ∧ Below u2.heap.size u2 w' := by
          have h6 := HOk.out.1.many
          have := sameR_any u2 A1 Ava c1 cva (rz (arcs 0 g)) (rz (arcs 0 g)) (by rw [rz_length]; omega) Q1.out QA.out
          rw [rz_length, decide_eq_true rfl] at this
          exact this
        have HC := Lib.hid (hSA)
        have k_K0 := K0.out
        have k_K2 := K2.out
        have k_K3 := K3.out
        have k_K4 := K4.out
        have k_K7 := K7.out
        have k_K8 := K8.out
        have k_K9 := K9.out
        go_wp2_with fail
        clear k_K0
        clear k_K2
        clear k_K3
        clear k_K4
        clear k_K7
        clear k_K8
        clear k_K9
        refine HC.out.mono ?_
        rintro e u3 ⟨rfl, bq⟩
        clear HC
        have HBc := Lib.hid bq; clear bq
        have HBq : Hid (Below u2.heap.size u2 u3) := HBc.out
        replace HB : Hid (Below w.heap.size w u3) := HB.out.trans (HBq.out.mono HB.out.size)
        replace HR : Hid (RdG u3 (u3).heap.size A R) := HR.out.on HBq.out
        replace HL : Hid (RdV u3 (u3).heap.size B (rcs l)) := HL.out.on HBq.out
        replace K0 : Hid ((u3).cell? ⟨w.heap.size, 0, none⟩ = some (.slice A N c)) := (HBq.out.cell (World.block_lt_of_cell? _ _ K0.out)).trans K0.out
        replace Q1 : Hid (RdV u3 (u3).heap.size A1 (acs (arcs 0 g))) := Q1.out.on HBq.out
        replace Q2 : Hid (RdG u3 (u3).heap.size A2 R2) := Q2.out.on HBq.out
        replace K2 : Hid ((u3).cell? ⟨w2.heap.size, 0, none⟩ = some (.slice A2 G.length c2)) := (HBq.out.cell (World.block_lt_of_cell? _ _ K2.out)).trans K2.out
        replace Q3 : Hid (RdG u3 (u3).heap.size A3 R3) := Q3.out.on HBq.out
        replace K3 : Hid ((u3).cell? ⟨w3.heap.size, 0, none⟩ = some (.slice A3 N c3)) := (HBq.out.cell (World.block_lt_of_cell? _ _ K3.out)).trans K3.out
        replace Q4 : Hid (RdG u3 (u3).heap.size A4 R4) := Q4.out.on HBq.out
        replace K4 : Hid ((u3).cell? ⟨w4.heap.size, 0, none⟩ = some (.slice A4 Gb.length c4)) := (HBq.out.cell (World.block_lt_of_cell? _ _ K4.out)).trans K4.out
        replace Q5 : Hid (RdV u3 (u3).heap.size A5 (zc (ns F))) := Q5.out.on HBq.out
        replace Q6 : Hid (RdV u3 (u3).heap.size A6 (zc (ns T))) := Q6.out.on HBq.out
        replace Q7 : Hid (RdG u3 (u3).heap.size A7 R7) := Q7.out.on HBq.out
        replace K7 : Hid ((u3).cell? ⟨w7.heap.size, 0, none⟩ = some (.slice A7 G.length c7)) := (HBq.out.cell (World.block_lt_of_cell? _ _ K7.out)).trans K7.out
        replace K8 : Hid ((u3).cell? ⟨P, 0, none⟩ = some (.slice A9 N c9)) := (HBq.out.cell (World.block_lt_of_cell? _ _ K8.out)).trans K8.out
        replace K9 : Hid ((u3).cell? ⟨P + 1, 0, none⟩ = some (.slice A10 Gb.length c10)) := (HBq.out.cell (World.block_lt_of_cell? _ _ K9.out)).trans K9.out
        replace QA : Hid (RdV u3 (u3).heap.size Ava (acs (arcs 0 g))) := QA.out.on HBq.out
        replace Q9 : Hid (RdG u3 (u3).heap.size A9 R9) := Q9.out.on HBq.out
        replace Q10 : Hid (RdG u3 (u3).heap.size A10 R10) := Q10.out.on HBq.out
        replace QF : Hid (RdV u3 (u3).heap.size Af (zc (ns F))) := QF.out.on HBq.out
        replace QT : Hid (RdV u3 (u3).heap.size At (zc (ns T))) := QT.out.on HBq.out
        clear HBq
        clear HBc
        clear hSA
        have HC := Lib.hid (HSg.out G R2 R7 A2 A7 c2 c7 u3 HG2.out HG7.out Q2.out Q7.out HGl.out)
        have k_K0 := K0.out
        have k_K2 := K2.out
        have k_K3 := K3.out
        have k_K4 := K4.out
        have k_K7 := K7.out
        have k_K8 := K8.out
        have k_K9 := K9.out
        go_wp2_with fail
        clear k_K0
        clear k_K2
        clear k_K3
        clear k_K4
        clear k_K7
        clear k_K8
        clear k_K9
        refine HC.out.mono ?_
        rintro e u4 ⟨rfl, bq⟩
        clear HC
        have HBc := Lib.hid bq; clear bq
        have HBq : Hid (Below u3.heap.size u3 u4) := HBc.out
        replace HB : Hid (Below w.heap.size w u4) := HB.out.trans (HBq.out.mono HB.out.size)
        replace HR : Hid (RdG u4 (u4).heap.size A R) := HR.out.on HBq.out
        replace HL : Hid (RdV u4 (u4).heap.size B (rcs l)) := HL.out.on HBq.out
        replace K0 : Hid ((u4).cell? ⟨w.heap.size, 0, none⟩ = some (.slice A N c)) := (HBq.out.cell (World.block_lt_of_cell? _ _ K0.out)).trans K0.out
        replace Q1 : Hid (RdV u4 (u4).heap.size A1 (acs (arcs 0 g))) := Q1.out.on HBq.out
        replace Q2 : Hid (RdG u4 (u4).heap.size A2 R2) := Q2.out.on HBq.out
        replace K2 : Hid ((u4).cell? ⟨w2.heap.size, 0, none⟩ = some (.slice A2 G.length c2)) := (HBq.out.cell (World.block_lt_of_cell? _ _ K2.out)).trans K2.out
        replace Q3 : Hid (RdG u4 (u4).heap.size A3 R3) := Q3.out.on HBq.out
        replace K3 : Hid ((u4).cell? ⟨w3.heap.size, 0, none⟩ = some (.slice A3 N c3)) := (HBq.out.cell (World.block_lt_of_cell? _ _ K3.out)).trans K3.out
        replace Q4 : Hid (RdG u4 (u4).heap.size A4 R4) := Q4.out.on HBq.out
        replace K4 : Hid ((u4).cell? ⟨w4.heap.size, 0, none⟩ = some (.slice A4 Gb.length c4)) := (HBq.out.cell (World.block_lt_of_cell? _ _ K4.out)).trans K4.out
        replace Q5 : Hid (RdV u4 (u4).heap.size A5 (zc (ns F))) := Q5.out.on HBq.out
        replace Q6 : Hid (RdV u4 (u4).heap.size A6 (zc (ns T))) := Q6.out.on HBq.out
        replace Q7 : Hid (RdG u4 (u4).heap.size A7 R7) := Q7.out.on HBq.out
        replace K7 : Hid ((u4).cell? ⟨w7.heap.size, 0, none⟩ = some (.slice A7 G.length c7)) := (HBq.out.cell (World.block_lt_of_cell? _ _ K7.out)).trans K7.out
        replace K8 : Hid ((u4).cell? ⟨P, 0, none⟩ = some (.slice A9 N c9)) := (HBq.out.cell (World.block_lt_of_cell? _ _ K8.out)).trans K8.out
        replace K9 : Hid ((u4).cell? ⟨P + 1, 0, none⟩ = some (.slice A10 Gb.length c10)) := (HBq.out.cell (World.block_lt_of_cell? _ _ K9.out)).trans K9.out
        replace QA : Hid (RdV u4 (u4).heap.size Ava (acs (arcs 0 g))) := QA.out.on HBq.out
        replace Q9 : Hid (RdG u4 (u4).heap.size A9 R9) := Q9.out.on HBq.out
        replace Q10 : Hid (RdG u4 (u4).heap.size A10 R10) := Q10.out.on HBq.out
        replace QF : Hid (RdV u4 (u4).heap.size Af (zc (ns F))) := QF.out.on HBq.out
        replace QT : Hid (RdV u4 (u4).heap.size At (zc (ns T))) := QT.out.on HBq.out
        clear HBq
        clear HBc
        have HC := Lib.hid (sg_true (gturn g) R3 R9 HG3.out HY2.out.1 N N ((gturn_length g).trans HOk.out.2.1) ((gturn_length g).trans HOk.out.2.1) hN1 A3 A9 c3 c9 _ Q3.out Q9.out)
        have k_K0 := K0.out
        have k_K2 := K2.out
        have k_K3 := K3.out
        have k_K4 := K4.out
        have k_K7 := K7.out
        have k_K8 := K8.out
        have k_K9 := K9.out
        go_wp2_with fail
        clear k_K0
        clear k_K2
        clear k_K3
        clear k_K4
        clear k_K7
        clear k_K8
        clear k_K9
        refine HC.out.mono ?_
        rintro e u5 ⟨rfl, bq⟩
        clear HC
        have HBc := Lib.hid bq; clear bq
        have HBq : Hid (Below u4.heap.size u4 u5) := HBc.out
        replace HB : Hid (Below w.heap.size w u5) := HB.out.trans (HBq.out.mono HB.out.size)
        replace HR : Hid (RdG u5 (u5).heap.size A R) := HR.out.on HBq.out
        replace HL : Hid (RdV u5 (u5).heap.size B (rcs l)) := HL.out.on HBq.out
        replace K0 : Hid ((u5).cell? ⟨w.heap.size, 0, none⟩ = some (.slice A N c)) := (HBq.out.cell (World.block_lt_of_cell? _ _ K0.out)).trans K0.out
        replace Q1 : Hid (RdV u5 (u5).heap.size A1 (acs (arcs 0 g))) := Q1.out.on HBq.out
        replace Q2 : Hid (RdG u5 (u5).heap.size A2 R2) := Q2.out.on HBq.out
        replace K2 : Hid ((u5).cell? ⟨w2.heap.size, 0, none⟩ = some (.slice A2 G.length c2)) := (HBq.out.cell (World.block_lt_of_cell? _ _ K2.out)).trans K2.out
        replace Q3 : Hid (RdG u5 (u5).heap.size A3 R3) := Q3.out.on HBq.out
        replace K3 : Hid ((u5).cell? ⟨w3.heap.size, 0, none⟩ = some (.slice A3 N c3)) := (HBq.out.cell (World.block_lt_of_cell? _ _ K3.out)).trans K3.out
        replace Q4 : Hid (RdG u5 (u5).heap.size A4 R4) := Q4.out.on HBq.out
        replace K4 : Hid ((u5).cell? ⟨w4.heap.size, 0, none⟩ = some (.slice A4 Gb.length c4)) := (HBq.out.cell (World.block_lt_of_cell? _ _ K4.out)).trans K4.out
        replace Q5 : Hid (RdV u5 (u5).heap.size A5 (zc (ns F))) := Q5.out.on HBq.out
        replace Q6 : Hid (RdV u5 (u5).heap.size A6 (zc (ns T))) := Q6.out.on HBq.out
        replace Q7 : Hid (RdG u5 (u5).heap.size A7 R7) := Q7.out.on HBq.out
        replace K7 : Hid ((u5).cell? ⟨w7.heap.size, 0, none⟩ = some (.slice A7 G.length c7)) := (HBq.out.cell (World.block_lt_of_cell? _ _ K7.out)).trans K7.out
        replace K8 : Hid ((u5).cell? ⟨P, 0, none⟩ = some (.slice A9 N c9)) := (HBq.out.cell (World.block_lt_of_cell? _ _ K8.out)).trans K8.out
        replace K9 : Hid ((u5).cell? ⟨P + 1, 0, none⟩ = some (.slice A10 Gb.length c10)) := (HBq.out.cell (World.block_lt_of_cell? _ _ K9.out)).trans K9.out
        replace QA : Hid (RdV u5 (u5).heap.size Ava (acs (arcs 0 g))) := QA.out.on HBq.out
        replace Q9 : Hid (RdG u5 (u5).heap.size A9 R9) := Q9.out.on HBq.out
        replace Q10 : Hid (RdG u5 (u5).heap.size A10 R10) := Q10.out.on HBq.out
        replace QF : Hid (RdV u5 (u5).heap.size Af (zc (ns F))) := QF.out.on HBq.out
        replace QT : Hid (RdV u5 (u5).heap.size At (zc (ns T))) := QT.out.on HBq.out
        clear HBq
        clear HBc
        have HC := Lib.hid (HSg.out Gb R4 R10 A4 A10 c4 c10 u5 HG4.out HZ3.out.1 Q4.out Q10.out HGb.out)
        have k_K0 := K0.out
        have k_K2 := K2.out
        have k_K3 := K3.out
        have k_K4 := K4.out
        have k_K7 := K7.out
        have k_K8 := K8.out
        have k_K9 := K9.out
        go_wp2_with fail
        clear k_K0
        clear k_K2
        clear k_K3
        clear k_K4
        clear k_K7
        clear k_K8
        clear k_K9
        refine HC.out.mono ?_
        rintro e u6 ⟨rfl, bq⟩
        clear HC
        have HBc := Lib.hid bq; clear bq
        have HBq : Hid (Below u5.heap.size u5 u6) := HBc.out
        replace HB : Hid (Below w.heap.size w u6) := HB.out.trans (HBq.out.mono HB.out.size)
        replace HR : Hid (RdG u6 (u6).heap.size A R) := HR.out.on HBq.out
        replace HL : Hid (RdV u6 (u6).heap.size B (rcs l)) := HL.out.on HBq.out
        replace K0 : Hid ((u6).cell? ⟨w.heap.size, 0, none⟩ = some (.slice A N c)) := (HBq.out.cell (World.block_lt_of_cell? _ _ K0.out)).trans K0.out
        replace Q1 : Hid (RdV u6 (u6).heap.size A1 (acs (arcs 0 g))) := Q1.out.on HBq.out
        replace Q2 : Hid (RdG u6 (u6).heap.size A2 R2) := Q2.out.on HBq.out
        replace K2 : Hid ((u6).cell? ⟨w2.heap.size, 0, none⟩ = some (.slice A2 G.length c2)) := (HBq.out.cell (World.block_lt_of_cell? _ _ K2.out)).trans K2.out
        replace Q3 : Hid (RdG u6 (u6).heap.size A3 R3) := Q3.out.on HBq.out
        replace K3 : Hid ((u6).cell? ⟨w3.heap.size, 0, none⟩ = some (.slice A3 N c3)) := (HBq.out.cell (World.block_lt_of_cell? _ _ K3.out)).trans K3.out
        replace Q4 : Hid (RdG u6 (u6).heap.size A4 R4) := Q4.out.on HBq.out
        replace K4 : Hid ((u6).cell? ⟨w4.heap.size, 0, none⟩ = some (.slice A4 Gb.length c4)) := (HBq.out.cell (World.block_lt_of_cell? _ _ K4.out)).trans K4.out
        replace Q5 : Hid (RdV u6 (u6).heap.size A5 (zc (ns F))) := Q5.out.on HBq.out
        replace Q6 : Hid (RdV u6 (u6).heap.size A6 (zc (ns T))) := Q6.out.on HBq.out
        replace Q7 : Hid (RdG u6 (u6).heap.size A7 R7) := Q7.out.on HBq.out
        replace K7 : Hid ((u6).cell? ⟨w7.heap.size, 0, none⟩ = some (.slice A7 G.length c7)) := (HBq.out.cell (World.block_lt_of_cell? _ _ K7.out)).trans K7.out
        replace K8 : Hid ((u6).cell? ⟨P, 0, none⟩ = some (.slice A9 N c9)) := (HBq.out.cell (World.block_lt_of_cell? _ _ K8.out)).trans K8.out
        replace K9 : Hid ((u6).cell? ⟨P + 1, 0, none⟩ = some (.slice A10 Gb.length c10)) := (HBq.out.cell (World.block_lt_of_cell? _ _ K9.out)).trans K9.out
        replace QA : Hid (RdV u6 (u6).heap.size Ava (acs (arcs 0 g))) := QA.out.on HBq.out
        replace Q9 : Hid (RdG u6 (u6).heap.size A9 R9) := Q9.out.on HBq.out
        replace Q10 : Hid (RdG u6 (u6).heap.size A10 R10) := Q10.out.on HBq.out
        replace QF : Hid (RdV u6 (u6).heap.size Af (zc (ns F))) := QF.out.on HBq.out
        replace QT : Hid (RdV u6 (u6).heap.size At (zc (ns T))) := QT.out.on HBq.out
        clear HBq
        clear HBc
        have HC := Lib.hid (si_true F N N HFT.out.2.2.1 HFT.out.2.2.1 (by omega) A5 Af c5 cf _ Q5.out QF.out)
        have k_K0 := K0.out
        have k_K2 := K2.out
        have k_K3 := K3.out
        have k_K4 := K4.out
        have k_K7 := K7.out
        have k_K8 := K8.out
        have k_K9 := K9.out
        go_wp2_with fail
        clear k_K0
        clear k_K2
        clear k_K3
        clear k_K4
        clear k_K7
        clear k_K8
        clear k_K9
        refine HC.out.mono ?_
        rintro e u7 ⟨rfl, bq⟩
        clear HC
        have HBc := Lib.hid bq; clear bq
        have HBq : Hid (Below u6.heap.size u6 u7) := HBc.out
        replace HB : Hid (Below w.heap.size w u7) := HB.out.trans (HBq.out.mono HB.out.size)
        replace HR : Hid (RdG u7 (u7).heap.size A R) := HR.out.on HBq.out
        replace HL : Hid (RdV u7 (u7).heap.size B (rcs l)) := HL.out.on HBq.out
        replace K0 : Hid ((u7).cell? ⟨w.heap.size, 0, none⟩ = some (.slice A N c)) := (HBq.out.cell (World.block_lt_of_cell? _ _ K0.out)).trans K0.out
        replace Q1 : Hid (RdV u7 (u7).heap.size A1 (acs (arcs 0 g))) := Q1.out.on HBq.out
        replace Q2 : Hid (RdG u7 (u7).heap.size A2 R2) := Q2.out.on HBq.out
        replace K2 : Hid ((u7).cell? ⟨w2.heap.size, 0, none⟩ = some (.slice A2 G.length c2)) := (HBq.out.cell (World.block_lt_of_cell? _ _ K2.out)).trans K2.out
        replace Q3 : Hid (RdG u7 (u7).heap.size A3 R3) := Q3.out.on HBq.out
        replace K3 : Hid ((u7).cell? ⟨w3.heap.size, 0, none⟩ = some (.slice A3 N c3)) := (HBq.out.cell (World.block_lt_of_cell? _ _ K3.out)).trans K3.out
        replace Q4 : Hid (RdG u7 (u7).heap.size A4 R4) := Q4.out.on HBq.out
        replace K4 : Hid ((u7).cell? ⟨w4.heap.size, 0, none⟩ = some (.slice A4 Gb.length c4)) := (HBq.out.cell (World.block_lt_of_cell? _ _ K4.out)).trans K4.out
        replace Q5 : Hid (RdV u7 (u7).heap.size A5 (zc (ns F))) := Q5.out.on HBq.out
        replace Q6 : Hid (RdV u7 (u7).heap.size A6 (zc (ns T))) := Q6.out.on HBq.out
        replace Q7 : Hid (RdG u7 (u7).heap.size A7 R7) := Q7.out.on HBq.out
        replace K7 : Hid ((u7).cell? ⟨w7.heap.size, 0, none⟩ = some (.slice A7 G.length c7)) := (HBq.out.cell (World.block_lt_of_cell? _ _ K7.out)).trans K7.out
        replace K8 : Hid ((u7).cell? ⟨P, 0, none⟩ = some (.slice A9 N c9)) := (HBq.out.cell (World.block_lt_of_cell? _ _ K8.out)).trans K8.out
        replace K9 : Hid ((u7).cell? ⟨P + 1, 0, none⟩ = some (.slice A10 Gb.length c10)) := (HBq.out.cell (World.block_lt_of_cell? _ _ K9.out)).trans K9.out
        replace QA : Hid (RdV u7 (u7).heap.size Ava (acs (arcs 0 g))) := QA.out.on HBq.out
        replace Q9 : Hid (RdG u7 (u7).heap.size A9 R9) := Q9.out.on HBq.out
        replace Q10 : Hid (RdG u7 (u7).heap.size A10 R10) := Q10.out.on HBq.out
        replace QF : Hid (RdV u7 (u7).heap.size Af (zc (ns F))) := QF.out.on HBq.out
        replace QT : Hid (RdV u7 (u7).heap.size At (zc (ns T))) := QT.out.on HBq.out
        clear HBq
        clear HBc
        have HC := Lib.hid (si_true T N N HFT.out.2.2.2 HFT.out.2.2.2 (by omega) A6 At c6 ct _ Q6.out QT.out)
        have k_K0 := K0.out
        have k_K2 := K2.out
        have k_K3 := K3.out
        have k_K4 := K4.out
        have k_K7 := K7.out
        have k_K8 := K8.out
        have k_K9 := K9.out
        go_wp2_with fail
        clear k_K0
        clear k_K2
        clear k_K3
        clear k_K4
        clear k_K7
        clear k_K8
        clear k_K9
        refine HC.out.mono ?_
        rintro e u8 ⟨rfl, bq⟩
        clear HC
        have HBc := Lib.hid bq; clear bq
        have HBq : Hid (Below u7.heap.size u7 u8) := HBc.out
        replace HB : Hid (Below w.heap.size w u8) := HB.out.trans (HBq.out.mono HB.out.size)
        replace HR : Hid (RdG u8 (u8).heap.size A R) := HR.out.on HBq.out
        replace HL : Hid (RdV u8 (u8).heap.size B (rcs l)) := HL.out.on HBq.out
        replace K0 : Hid ((u8).cell? ⟨w.heap.size, 0, none⟩ = some (.slice A N c)) := (HBq.out.cell (World.block_lt_of_cell? _ _ K0.out)).trans K0.out
        replace Q1 : Hid (RdV u8 (u8).heap.size A1 (acs (arcs 0 g))) := Q1.out.on HBq.out
        replace Q2 : Hid (RdG u8 (u8).heap.size A2 R2) := Q2.out.on HBq.out
        replace K2 : Hid ((u8).cell? ⟨w2.heap.size, 0, none⟩ = some (.slice A2 G.length c2)) := (HBq.out.cell (World.block_lt_of_cell? _ _ K2.out)).trans K2.out
        replace Q3 : Hid (RdG u8 (u8).heap.size A3 R3) := Q3.out.on HBq.out
        replace K3 : Hid ((u8).cell? ⟨w3.heap.size, 0, none⟩ = some (.slice A3 N c3)) := (HBq.out.cell (World.block_lt_of_cell? _ _ K3.out)).trans K3.out
        replace Q4 : Hid (RdG u8 (u8).heap.size A4 R4) := Q4.out.on HBq.out
        replace K4 : Hid ((u8).cell? ⟨w4.heap.size, 0, none⟩ = some (.slice A4 Gb.length c4)) := (HBq.out.cell (World.block_lt_of_cell? _ _ K4.out)).trans K4.out
        replace Q5 : Hid (RdV u8 (u8).heap.size A5 (zc (ns F))) := Q5.out.on HBq.out
        replace Q6 : Hid (RdV u8 (u8).heap.size A6 (zc (ns T))) := Q6.out.on HBq.out
        replace Q7 : Hid (RdG u8 (u8).heap.size A7 R7) := Q7.out.on HBq.out
        replace K7 : Hid ((u8).cell? ⟨w7.heap.size, 0, none⟩ = some (.slice A7 G.length c7)) := (HBq.out.cell (World.block_lt_of_cell? _ _ K7.out)).trans K7.out
        replace K8 : Hid ((u8).cell? ⟨P, 0, none⟩ = some (.slice A9 N c9)) := (HBq.out.cell (World.block_lt_of_cell? _ _ K8.out)).trans K8.out
        replace K9 : Hid ((u8).cell? ⟨P + 1, 0, none⟩ = some (.slice A10 Gb.length c10)) := (HBq.out.cell (World.block_lt_of_cell? _ _ K9.out)).trans K9.out
        replace QA : Hid (RdV u8 (u8).heap.size Ava (acs (arcs 0 g))) := QA.out.on HBq.out
        replace Q9 : Hid (RdG u8 (u8).heap.size A9 R9) := Q9.out.on HBq.out
        replace Q10 : Hid (RdG u8 (u8).heap.size A10 R10) := Q10.out.on HBq.out
        replace QF : Hid (RdV u8 (u8).heap.size Af (zc (ns F))) := QF.out.on HBq.out
        replace QT : Hid (RdV u8 (u8).heap.size At (zc (ns T))) := QT.out.on HBq.out
        clear HBq
        clear HBc
        go_wp2
        go_ret
        exact ⟨rfl, HB.out⟩)
end

section
set_option linter.unusedVariables false
open Go.RowKit Go.Shelf

theorem graphTells_law (A : Option Addr) (c : Nat) (R : List Rw) (n : Int) (B : Option Addr) (d : Nat) (l : List Ri) (w : World) (hA : RdG w w.heap.size A R) (hn : R.length ≤ 140737488355328) (hx : -9223372036854775808 ≤ n ∧ n ≤ 9223372036854775807)
    (hd : l.length ≤ d) (hnl : B = none → d = 0) (hby : ∀ p ∈ l, (-9223372036854775808 ≤ p.1 ∧ p.1 ≤ 9223372036854775807) ∧ -9223372036854775808 ≤ p.2 ∧ p.2 ≤ 9223372036854775807) (hB : RdV w w.heap.size B (rcs l)) (hsz : l.length ≤ 9223372036854775807) :
    Calls Try.prog 3 #[.agg #[.slice A R.length c], .int .i64 n, .slice B l.length d] w fun e w' => e = .returned (.bool true) ∧ Below w.heap.size w w' := by
  by_cases e0 : grE (gs R) = 0
  · exact graphTells_ok A c R n B d l w hA hB hd hn e0
  · exact graphTells_e A c R n B d l w hA hB hd hn e0
end

section
section
open Go.ChangeShapes Go.WideShapes Go.ChangeAt Go.RowKit Go.Joins

theorem cells3i : Try.prog.cellsOf 3 = 1 := by kernel_rfl

set_option maxRecDepth 100000 in
/-- Numbers that were handed in. -/
theorem open_zs {H : Type} {enc : TypeId × Value → H} {W : World} {base : Nat} {v : Value} {d : DataW H} {p : List MemPlace}
    (hv : Value.okWide Try.prog W .any base 32 v) (h : DataW.Trod enc Try.prog W 0 (fun _ => true) true 32 v d p) :
    ∃ (A : Option Addr) (c : Nat) (xs : List Int), v = .slice A xs.length c ∧ xs.length ≤ c ∧ (A = none → c = 0) ∧ RdV W W.heap.size A (zc xs) ∧ (∀ x ∈ xs, -9223372036854775808 ≤ x ∧ x ≤ 9223372036854775807) ∧ xs.length ≤ 9223372036854775807 := by
  obtain ⟨a0, len0, cap0, rfl⟩ := okWide_slice Try.underlying32 hv
  obtain ⟨fuel, hf⟩ := h
  rcases open_ints Try.underlying32 Try.underlying3 cells3i hf with ⟨hcs, _⟩ | ⟨x, l, c, zs, hcs, _, hl, hm, hz, _, hcell, hwz⟩
  · simp [Value.cells] at hcs
    obtain ⟨rfl, rfl, rfl⟩ := hcs
    exact ⟨none, 0, [], rfl, by simp, fun _ => rfl, .inl rfl, by simp, by simp⟩
  · simp [Value.cells] at hcs
    obtain ⟨rfl, rfl, rfl⟩ := hcs
    have hzc : zs.length = cap0 := by simpa using hz
    have hlen : (zs.take len0).length = len0 := by rw [List.length_take]; omega
    unfold maxLen at hm
    refine ⟨some x, cap0, zs.take len0, by rw [hlen], by rw [hlen]; exact hl, (fun h => by cases h), ?_, ?_, by rw [hlen]; omega⟩
    · rcases Nat.eq_zero_or_pos len0 with h0 | h0
      · left; rw [h0]; rfl
      · obtain ⟨b, off, rfl, hc⟩ := ints_at hcell (by omega)
        refine .inr ⟨b, off, rfl, lt_of_cell (hc 0 (by omega)), fun i v hi => ?_⟩
        have hil : i < len0 := by
          rcases Nat.lt_or_ge i len0 with h | h
          · exact h
          · rw [List.getElem?_eq_none (by rw [zc_length, hlen]; exact h)] at hi; cases hi
        rw [zc_get _ i (by rw [hlen]; exact hil)] at hi
        cases hi
        rw [hc i (by omega)]
        have hz0 : zs.getD i 0 = zs[i]'(by omega) := by rw [List.getD_eq_getElem?_getD, List.getElem?_eq_getElem (by omega)]; rfl
        have e1 : (zs.take len0)[i]?.getD 0 = zs[i]'(by omega) := by
          rw [List.getElem?_take_of_lt hil, List.getElem?_eq_getElem (by omega)]; rfl
        rw [e1, hz0]
    · intro n hn
      exact bounds_i64 (hwz n (List.mem_of_mem_take hn))
end

section
open Go.ChangeShapes Go.WideShapes Go.ChangeAt Go.RowKit Go.Joins Go.Deep

theorem cellsG : Try.prog.cellsOf 24 = 1 := by kernel_rfl
theorem cellsL1 : Try.prog.cellsOf 32 = 1 := by kernel_rfl
theorem cellsL2 : Try.prog.cellsOf 22 = 1 := by kernel_rfl
theorem bytesL1 : Try.prog.bytesOf 32 = 24 := by kernel_rfl
theorem bytesI1 : Try.prog.bytesOf 3 = 8 := by kernel_rfl
theorem weightsAll_mem {H : Type} {P : Program} {e : TypeId} {n : Nat} : ∀ {l : List (DataW H)} {d : DataW H}, d ∈ l → n ∈ d.weights P e → n ∈ DataW.weightsAll P e l
  | x :: t, d, hd, hn => by
    simp only [DataW.weightsAll, List.mem_append]
    rcases List.mem_cons.1 hd with rfl | h
    · exact .inl hn
    · exact .inr (weightsAll_mem h hn)
theorem add_plG (b off k : Nat) : (⟨b, off, none⟩ : Addr).add k = ⟨b, off + k, none⟩ := by unfold Addr.add; split <;> simp_all
theorem zc_mem {l : List Int} {i : Nat} {v : Value} (h : (zc l)[i]? = some v) : ∃ hi : i < l.length, v = .int .i64 l[i] := by
  unfold zc at h
  rw [List.getElem?_map] at h
  obtain ⟨x, hx, rfl⟩ := Option.map_eq_some_iff.1 h
  obtain ⟨hi, rfl⟩ := List.getElem?_eq_some_iff.1 hx
  exact ⟨hi, rfl⟩
set_option maxRecDepth 100000 in
/-- A graph that was handed in. -/
theorem open_graph {H : Type} {enc : TypeId × Value → H} {W : World} {base : Nat} {v : Value} {d : DataW H} {p : List MemPlace}
    (hv : Value.okWide Try.prog W .any base 24 v) (h : DataW.Trod enc Try.prog W 0 (fun _ => true) true 24 v d p)
    (hz : ∀ n ∈ d.weights Try.prog 24, n ≤ reachBytes) :
    ∃ (A : Option Addr) (c : Nat) (R : List Rw), v = .agg #[.slice A R.length c] ∧ RdG W W.heap.size A R ∧ R.length ≤ 140737488355328 := by
  obtain ⟨cs, rfl, hsz⟩ := okWide_struct Try.underlying24 hv
  obtain ⟨c0, rfl⟩ := Array.size_eq_one_iff.1 (hsz.trans cellsG)
  obtain ⟨fuel, hf⟩ := h
  obtain ⟨y0, n, hx, _, h0⟩ := trod_struct1 Try.underlying24 hf
  simp only [Prod.mk.injEq] at hx
  obtain ⟨rfl, rfl⟩ := hx
  simp [Value.cells, cellsL2] at h0
  have hz0 : ∀ n ∈ y0.1.weights Try.prog 22, n ≤ reachBytes := fun n hn => hz n (by
    unfold DataW.weights
    rw [Try.underlying24]
    simp only [List.map_cons, List.map_nil, DataW.weightsEach, List.append_nil]
    exact hn)
  have hrb := reachBytes_lt
  rcases open_int_rows Try.underlying22 Try.underlying32 Try.underlying3 cellsL1 cells3i h0 with ⟨hcs, _⟩ | ⟨a, len, cap, A, L, C, Z, hcs, _, hl, hm, hx, hrow⟩
  · simp at hcs
    subst hcs
    exact ⟨none, 0, [], rfl, ⟨.inl rfl, fun r hr => by simp at hr⟩, by simp⟩
  · simp at hcs
    subst hcs
    rw [hx] at hz0
    have hlen : (len + (cap - len)) * 24 ≤ reachBytes := hz0 _ (by
      simp only [DataW.weights, Try.underlying22, List.length_map, List.length_range, bytesL1]
      exact List.mem_cons_self)
    have hrl : ∀ r, r < len → L r ≤ 140737488355328 := fun r hr => by
      obtain ⟨_, q1, q2, q3, _, q5, _⟩ := hrow r (by omega)
      cases hA : A r with
      | none => rw [q5 hA] at q1; omega
      | some a' =>
        have := hz0 (((Z r).take (L r)).length * 8 + ((Z r).drop (L r)).length * 8) (by
          simp only [DataW.weights, Try.underlying22, List.length_map, List.length_range, bytesL1]
          refine List.mem_cons_of_mem _ (List.mem_append.2 (.inl (weightsAll_mem (List.mem_map.2 ⟨r, List.mem_range.2 hr, rfl⟩) ?_)))
          unfold intRow
          rw [hA]
          simp only [DataW.weights, Try.underlying32, bytesI1, lits, List.length_map]
          refine List.mem_cons.2 (.inl ?_)
          omega)
        rw [List.length_take] at this
        omega
    refine ⟨some a, cap, (List.range len).map fun r => (A r, C r, (Z r).take (L r)), by simp, ⟨?_, ?_⟩, by simp; omega⟩
    · rcases Nat.eq_zero_or_pos len with h0 | h0
      · left; rw [h0]; rfl
      · obtain ⟨b, off, spot⟩ := a
        have hspot : spot = none := by simpa [Addr.add] using World.cell?_spot (hrow 0 (by omega)).1
        subst hspot
        refine .inr ⟨b, off, rfl, ?_, fun i v hi => ?_⟩
        · have := (hrow 0 (by omega)).1
          exact lt_of_cell (p := ⟨b, off + 0, none⟩) (by rw [← add_plG]; exact this)
        · unfold rcl at hi
          rw [List.getElem?_map, List.getElem?_map] at hi
          obtain ⟨y, hy, rfl⟩ := Option.map_eq_some_iff.1 hi
          obtain ⟨j, hj, rfl⟩ := Option.map_eq_some_iff.1 hy
          obtain ⟨hil, rfl⟩ := List.getElem?_eq_some_iff.1 hj
          rw [List.length_range] at hil
          have := hrow i (by omega)
          rw [add_plG] at this
          simp only [List.getElem_range]
          unfold sl
          simp only [List.length_take]
          rw [this.1]
          have e : min (L i) (Z i).length = L i := by have q1 := this.2.1; have q2 := this.2.2.2.1; omega
          rw [e]
    · intro r hr
      obtain ⟨i, hi, rfl⟩ := List.mem_map.1 hr
      have hil := List.mem_range.1 hi
      obtain ⟨q0, q1, q2, q3, q4, q5, q6⟩ := hrow i (by omega)
      refine ⟨?_, by simp only [List.length_take]; have := hrl i hil; omega⟩
      simp only
      rcases Nat.eq_zero_or_pos (L i) with h0 | h0
      · left; rw [h0]; rfl
      · cases hA : A i with
        | none => rw [q5 hA] at q1; omega
        | some a' =>
          obtain ⟨_, q7⟩ := q6 a' hA
          obtain ⟨b, off, spot⟩ := a'
          have hspot : spot = none := by simpa [Addr.add] using World.cell?_spot (q7 0 (by omega))
          subst hspot
          refine .inr ⟨b, off, rfl, ?_, fun j v hj => ?_⟩
          · have := q7 0 (by omega)
            exact lt_of_cell (p := ⟨b, off + 0, none⟩) (by rw [← add_plG]; exact this)
          · obtain ⟨hjl, rfl⟩ := zc_mem hj
            have hjl2 : j < L i := by rw [List.length_take] at hjl; omega
            have := q7 j (by omega)
            rw [add_plG] at this
            rw [this]
            simp [List.getD_eq_getElem?_getD, List.getElem?_eq_getElem (show j < (Z i).length by omega)]
end
end

section
open Go.ChangeShapes Go.WideShapes Go.ChangeAt Go.RowKit Go.Joins Go.Deep

theorem cellsArc : Try.prog.cellsOf 65 = 2 := by kernel_rfl
theorem add_plO (b off k : Nat) : (⟨b, off, none⟩ : Addr).add k = ⟨b, off + k, none⟩ := by unfold Addr.add; split <;> simp_all

set_option maxRecDepth 100000 in
/-- Arcs that were handed in. -/
theorem open_arcs {H : Type} {enc : TypeId × Value → H} {W : World} {base : Nat} {v : Value} {d : DataW H} {p : List MemPlace}
    (hv : Value.okWide Try.prog W .any base 25 v) (h : DataW.Trod enc Try.prog W 0 (fun _ => true) true 25 v d p) :
    ∃ (A : Option Addr) (c : Nat) (rs : List Ri), v = .slice A rs.length c ∧ rs.length ≤ c ∧ (A = none → c = 0) ∧ RdV W W.heap.size A (rcs rs) ∧ (∀ x ∈ rs, (-9223372036854775808 ≤ x.1 ∧ x.1 ≤ 9223372036854775807) ∧ (-9223372036854775808 ≤ x.2 ∧ x.2 ≤ 9223372036854775807)) ∧ rs.length ≤ 9223372036854775807 := by
  obtain ⟨a0, len0, cap0, rfl⟩ := okWide_slice Try.underlying25 hv
  obtain ⟨fuel, hf⟩ := h
  rcases open_slice_pairs Try.underlying25 Try.underlying65 cellsArc rfl rfl cells3i cells3i hf with ⟨hcs, _⟩ | ⟨a, len, cap, m, n, V0, V1, D0, D1, P0, P1, hcs, _, hl, hm, hmm, _, hx⟩
  · simp [Value.cells] at hcs
    obtain ⟨rfl, rfl, rfl⟩ := hcs
    exact ⟨none, 0, [], rfl, by simp, fun _ => rfl, .inl rfl, by simp, by simp⟩
  · simp [Value.cells] at hcs
    obtain ⟨rfl, rfl, rfl⟩ := hcs
    have hlm : len0 ≤ m := by rw [hmm]; simp; exact hl
    have each : ∀ i, i < len0 → ∃ x : Ri, W.cell? (a.add (i * 2)) = some (.int .i64 x.1) ∧ W.cell? (a.add (i * 2 + 1)) = some (.int .i64 x.2) ∧ (-9223372036854775808 ≤ x.1 ∧ x.1 ≤ 9223372036854775807) ∧ (-9223372036854775808 ≤ x.2 ∧ x.2 ≤ 9223372036854775807) := by
      intro i hi
      obtain ⟨k0, k1, t0, t1⟩ := hx i (by omega)
      obtain ⟨z, e0, _, w0⟩ := DataW.trod_int Try.underlying3 t0
      obtain ⟨y, e1, _, w1⟩ := DataW.trod_int Try.underlying3 t1
      simp at e0 e1
      rw [e0] at k0
      rw [e1] at k1
      exact ⟨(z, y), k0, k1, bounds_i64 w0, bounds_i64 w1⟩
    obtain ⟨q, hq⟩ := choose_lt each
    have hrl : ((List.range len0).map q).length = len0 := by simp
    have hqi : ∀ i, i < len0 → ((List.range len0).map q)[i]?.getD (0, 0) = q i := fun i hi => by rw [List.getElem?_map, List.getElem?_range hi]; rfl
    refine ⟨some a, cap0, (List.range len0).map q, by rw [hrl], by rw [hrl]; exact hl, (fun h => by cases h), ?_, ?_, by rw [hrl]; unfold maxLen at hm; omega⟩
    · rcases Nat.eq_zero_or_pos len0 with h0 | h0
      · left; rw [h0]; rfl
      · obtain ⟨b, off, spot⟩ := a
        have hspot : spot = none := by simpa [Addr.add] using World.cell?_spot (hq 0 h0).1
        subst hspot
        refine .inr ⟨b, off, rfl, ?_, fun i v hi => ?_⟩
        · have := (hq 0 h0).1
          exact lt_of_cell (p := ⟨b, off + 0 * 2, none⟩) (by rw [← add_plO]; exact this)
        · have hil : i < len0 * 2 := by have := (List.getElem?_eq_some_iff.1 hi).1; rwa [rcs_length, hrl] at this
          obtain ⟨g0, g1, _⟩ := hq (i / 2) (by omega)
          obtain ⟨r0, r1⟩ := rcs_at ((List.range len0).map q) (i / 2) (by rw [hrl]; omega)
          rw [hqi _ (by omega)] at r0 r1
          rw [add_plO] at g0 g1
          rcases (show i = i / 2 * 2 ∨ i = i / 2 * 2 + 1 by omega) with e | e
          · rw [← e] at r0 g0
            rw [r0] at hi; cases hi
            exact g0
          · rw [← e] at r1 g1
            rw [r1] at hi; cases hi
            exact g1
    · intro x hx'
      obtain ⟨i, hi, rfl⟩ := List.mem_map.1 hx'
      exact (hq i (List.mem_range.1 hi)).2.2

set_option maxRecDepth 100000 in
/-- An arc that was handed in. -/
theorem open_arc {H : Type} {enc : TypeId × Value → H} {W : World} {base : Nat} {v : Value} {d : DataW H} {p : List MemPlace}
    (hv : Value.okWide Try.prog W .any base 65 v) (h : DataW.Trod enc Try.prog W 0 (fun _ => true) true 65 v d p) :
    ∃ (x y : Int), v = .agg #[.int .i64 x, .int .i64 y] ∧ (-9223372036854775808 ≤ x ∧ x ≤ 9223372036854775807) ∧ (-9223372036854775808 ≤ y ∧ y ≤ 9223372036854775807) := by
  obtain ⟨c0, c1, y0, y1, m, rfl, rfl, rfl, hy0, hy1⟩ := open_agg2 Try.underlying65 (by kernel_rfl) cellsArc hv h
  obtain ⟨a, e0, _, wa⟩ := DataW.trod_int Try.underlying3 hy0
  obtain ⟨b, e1, _, wb⟩ := DataW.trod_int Try.underlying3 hy1
  simp at e0 e1
  subst e0; subst e1
  exact ⟨a, b, rfl, bounds_i64 wa, bounds_i64 wb⟩
end

section
open Go.ChangeShapes Go.WideShapes Go.ChangeAt Go.RowKit
open Go.ChangeMaps (open_string shut_string)

set_option linter.unusedVariables false
set_option maxRecDepth 100000 in
theorem graphTells_lifted (os : Os) (started : os.Started) (H : Type) (enc : TypeId × Value → H) :
    ReturnsInHanded {} Try.checked os 3 .any (Rows.graphTellsSpec.pre6 enc Try.prog Try.f3 Rows.graphTellsRow.domain false) (Rows.graphTellsSpec.post enc Try.prog Try.f3 false true false false) := by
  refine returnsInHanded_of_change_sized (C := Try.checked) own started (by kernel_rfl) Try.func3
    (ChangeSpec.witness6 (enc := enc) (C := Try.checked) false ⟨#[], #[.agg #[.slice none 0 0], .int .i64 0, .slice none 0 0], []⟩ 8 (by kernel_rfl) (by kernel_rfl) (by kernel_rfl) (by kernel_rfl)) ?_
  intro W base args ds gs before hval0 hW hcnd hzz _
  have hval : ∀ (j : Nat) t v, Try.f3.params[j]? = some t → args[j]? = some v → Value.okWide Try.prog W .any base t v := hval0
  have hW' := hW
  obtain ⟨p, q, hA0, hV, rfl, hfz, hnd⟩ := hW
  have hA : DataW.TrodAll enc Try.prog W 0 (fun _ => true) true Try.f3.params.toList args.toList ds p := hA0
  rw [Try.params3] at hA hval hzz
  obtain ⟨v0, vs0, d0, ds0, p0, q0, hargs, rfl, rfl, h0, r0⟩ := trodAll_cons hA
  obtain ⟨v1, vs1, d1, ds1, p1, q1, rfl, rfl, rfl, h1, r1⟩ := trodAll_cons r0
  obtain ⟨v2, vs2, d2, ds2, p2, q2, rfl, rfl, rfl, h2, r2⟩ := trodAll_cons r1
  obtain ⟨rfl, rfl, rfl⟩ := trodAll_nil r2
  obtain rfl : args = #[v0, v1, v2] := by cases args; simp_all
  obtain ⟨rfl, rfl⟩ := trodVars_none hV
  have k0 := h0
  have lt0 : ∀ x ∈ p0, x.block < W.heap.size := by obtain ⟨m, hm⟩ := k0; exact DataW.trod_lt m _ _ _ hm
  obtain ⟨A0, c0, R0, rfl, rd0, nn0⟩ := open_graph (hval 0 24 v0 rfl rfl) h0 (fun n hn => of_decide_eq_true (List.all_eq_true.1 hzz n (DataW.weights_mem_each (j := 0) (t := 24) (d := d0) rfl rfl n hn)))
  obtain ⟨x1, rfl, rfl, rfl, wx1⟩ := open_int Try.underlying3 (hval 1 3 v1 rfl rfl) h1
  have bd1 := bounds_i64 wx1
  have k2 := h2
  have lt2 : ∀ x ∈ p2, x.block < W.heap.size := by obtain ⟨m, hm⟩ := k2; exact DataW.trod_lt m _ _ _ hm
  obtain ⟨A2, c2, rs2, rfl, cp2, nl2, rd2, by2, sz2⟩ := open_arcs (hval 2 25 v2 rfl rfl) h2
  clear hA0 hval0
  refine (graphTells_law A0 c0 R0 x1 A2 c2 rs2 W rd0 nn0 bd1 cp2 nl2 by2 rd2 sz2).mono fun e W' ⟨he, bel⟩ => ?_
  subst he
  exact ⟨_, rfl, _, _, _, [], _, [], hW', trodAll_mk1 (shut_bool Try.underlying4 _), (trodAll_cons_mk (Below.trod laidOut (by kernel_rfl) (of_decide_eq_true (by kernel_rfl)) k0 bel lt0) (trodAll_cons_mk (shut_int Try.underlying3 wx1) (trodAll_cons_mk (Below.trod laidOut (by kernel_rfl) (of_decide_eq_true (by kernel_rfl)) k2 bel lt2) trodAll_mk0))), rfl, bel.frame _, fun h => by cases h⟩

theorem GraphTells_holds : Rows.GraphTellsSaid :=
  OpenClaim.holds_of_wide 3 Try.f3 rfl rfl rfl rfl rfl rfl rfl ⟨rfl, rfl, rfl, rfl, rfl⟩ rfl rfl rfl rfl rfl (by kernel_rfl) Try.func3 (by kernel_rfl)
    (of_decide_eq_true (by kernel_rfl)) (by unfold Func.isWrapper; first | (rw [if_pos (by decide +kernel)]; kernel_rfl) | (rw [if_neg (by decide +kernel)]; exact ⟨rfl, rfl⟩))
    (fun os started H enc _ => graphTells_lifted os started H enc)
#print axioms GraphTells_holds
end
end Go.Proofs.Ytffgmjfanpgbbaa
