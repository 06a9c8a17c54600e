/- The document's reference for what is right of a graph (GraphCheck), for whatever graph. -/
import Derived.Test.YtffgmjfanpgbbaaWEnd
import Derived.Test.YtffgmjfanpgbbaaDJB
import Derived.Test.YtffgmjfanpgbbaaSgJ
import Derived.Deep.RegionLaw
import Derived.Test.YtffgmjfanpgbbaaOpen
import Derived.Test.YtffgmjfanpgbbaaNMem
import Derived.Test.YtffgmjfanpgbbaaWChk
import Derived.Deep.Matrix
import Derived.Deep.SlicePairs
import Derived.SizedLaws
namespace Go.Proofs.Ytffgmjfanpgbbaa

section
set_option maxRecDepth 100000
set_option linter.unusedVariables false
open Go.RowKit Go.Shelf

theorem gs_cons (x : Rw) (t : List Rw) : gs (x :: t) = x.2.2 :: gs t := rfl
set_option maxHeartbeats 8000000 in
theorem refgchk_any (R : List Rw) (N : Nat) (hN : R.length = N) (hN2 : N ≤ 140737488355328) (A : Option Addr) (c : Nat) (w : World) (h : RdG w w.heap.size A R) :
    Calls Try.prog 20 #[.agg #[.slice A N c]] w fun e w' => e = .returned (.int .i64 (grE (gs R))) ∧ Below w.heap.size w w' := by
  obtain ⟨w1, hw1⟩ : ∃ w1, w.alloc (.cells #[.slice A N c] 24) = w1 := ⟨_, rfl⟩
  have hs0 : w1.heap.size = w.heap.size + 1 := by rw [← hw1]; exact World.size_alloc _ _
  have hs1 : w1.heap.size ≤ w.heap.size + 1 ∧ w.heap.size + 1 ≤ w1.heap.size := by omega
  clear hs0
  have hb1 : Below w.heap.size w w1 := hw1 ▸ one_below w _
  have kg1 : w1.cell? ⟨w.heap.size, 0, none⟩ = some (.slice A N c) := by rw [← hw1]; exact (cell_at (World.alloc_heap_new w _) 0).trans rfl
  have HH := Lib.hid (⟨hN, h.on hb1, kg1, hb1⟩ : R.length = N ∧ RdG w1 w1.heap.size A R ∧ w1.cell? ⟨w.heap.size, 0, none⟩ = some (.slice A N c) ∧ Below w.heap.size w w1)
  have HW := Lib.hid hw1
  have hbd := sumL_bd R (fun r hr => (h.2 r hr).2)
  rw [hN] at hbd
  obtain ⟨E, hE⟩ : ∃ E, grE (gs R) = E := ⟨_, rfl⟩
  have hgl : (gs R).length = N := by rw [gs_length]; exact hN
  rw [hE]
  unfold grE at hE
  rw [hgl] at hE
  clear hgl hN h hw1
  by_cases h100 : 100 < N
  · rw [if_pos h100] at hE
    subst hE
    have t1 : decide ((100 : Int) < (N : Int)) = true := by simp; omega
    have HB := Lib.hid hb1
    go_enter Try.func20, Try.ntmps20
    go_wp2
    rw [HW.out]
    go_ret
    exact ⟨rfl, HB.out⟩
  · rw [if_neg h100] at hE
    have HE := Lib.hid hE
    have t1 : decide ((100 : Int) < (N : Int)) = false := by simp; omega
    clear hE hb1 kg1
    go_enter Try.func20, Try.ntmps20
    go_wp2
    rw [HW.out]
    go_loopw [4, 5] (fun q p wr => ∃ i m : Nat, i ≤ N ∧ p = .int .i64 (i : Int) ∧ q = .int .i64 (m : Int) ∧ firstE (rsE (N : Int)) (gs R) = firstE (rsE (N : Int)) (gs (R.drop i)) ∧ m + sumL (gs (R.drop i)) = sumL (gs R) ∧ Below w1.heap.size w1 wr) (fun _ p _ => N - (intOf p).toNat)
    case atStart => exact ⟨0, 0, Nat.zero_le _, rfl, rfl, rfl, by simp, Below.refl _ _⟩
    case round =>
      obtain ⟨i, m, hi, rfl, rfl, hfe, hsm, hbel⟩ := hrel
      by_cases hlt : i < N
      · have hil : i < R.length := by rw [HH.out.1]; exact hlt
        rw [drop_rw R i hil, gs_cons] at hfe hsm
        rw [sumL_cons] at hsm
        rw [firstE_cons] at hfe
        obtain ⟨b, off, hA, hb0, k0'⟩ := HH.out.2.1.1.at_ (rcl_get R i hil)
        have hrd := HH.out.2.1.2 _ (rw_mem R i hil)
        generalize R[i]?.getD (none, 0, []) = x at *
        obtain ⟨A1, c1, xs⟩ := x
        unfold sl at k0'
        simp only at k0' hrd hfe hsm
        subst hA
        obtain ⟨n, hn⟩ : ∃ n, xs.length = n := ⟨_, rfl⟩
        rw [hn] at k0' hsm
        have HFs := Lib.hid (⟨hfe, hsm, hn⟩ : _ ∧ _ ∧ _)
        have hm1 : m + n ≤ 14073748835532800 := by omega
        have HBl := Lib.hid hbel
        have HRd := Lib.hid hrd
        have HK0 := Lib.hid (⟨hb0, k0'⟩ : _ ∧ _)
        have kg := (hbel.cell (p := ⟨w.heap.size, 0, none⟩) (by show w.heap.size < _; omega)).trans HH.out.2.2.1
        have t2 : (0 : Int) ≤ (i : Int) := by omega
        have t3 : (i : Int) < (N : Int) := by omega
        clear hfe hsm hn hbel hrd hb0 k0'
        go_wp2
        go_loopw [4, 6] (fun q p wq => ∃ (j : Nat) (v : Int), j ≤ n ∧ p = .int .i64 (j : Int) ∧ q = .int .i64 ((m + j : Nat) : Int) ∧ rsE (N : Int) xs = eachS (ckO (okG (N : Int))) id v (xs.drop j) ∧ ((j = 0 ∧ v = -1) ∨ (0 < j ∧ xs[j - 1]? = some v)) ∧ Below w1.heap.size w1 wq) (fun _ p _ => n - (intOf p).toNat)
        case atStart => exact ⟨0, -1, Nat.zero_le _, rfl, rfl, rfl, .inl ⟨rfl, rfl⟩, HBl.out⟩
        case round =>
          obtain ⟨j, v, hj, rfl, rfl, hrs, hv, hbel⟩ := hrel
          have kg2 := (hbel.cell (p := ⟨w.heap.size, 0, none⟩) (by show w.heap.size < _; omega)).trans HH.out.2.2.1
          have k2 := (hbel.cell (p := ⟨b, off + i, none⟩) HK0.out.1).trans HK0.out.2
          by_cases hjn : j < n
          · have hjl : j < xs.length := by rw [HFs.out.2.2]; exact hjn
            rw [drop_at xs j hjl, eachS_cons] at hrs
            obtain ⟨b2, o2, hA1, hb2, k3'⟩ := HRd.out.1.at_ (zc_get xs j hjl)
            have k3 := (hbel.cell (p := ⟨b2, o2 + j, none⟩) hb2).trans k3'
            obtain ⟨y, hy⟩ : ∃ y, xs[j]?.getD 0 = y := ⟨_, rfl⟩
            have hye : xs[j]? = some y := by rw [← hy, List.getElem?_eq_getElem hjl]; rfl
            rw [hy] at hrs k3
            have hprev : 0 < j → wr.cell? ⟨b2, o2 + (j - 1), none⟩ = some (.int .i64 v) := fun h0 => by
              have hvv : xs[j - 1]? = some v := by rcases hv with ⟨z, _⟩ | ⟨_, z⟩; omega; exact z
              have h1 : j - 1 < xs.length := by omega
              obtain ⟨b3, o3, hA3, hb3, k4⟩ := HRd.out.1.at_ (zc_get xs (j - 1) h1)
              rw [hA1] at hA3
              cases hA3
              rw [hvv] at k4
              exact (hbel.cell (p := ⟨b2, o2 + (j - 1), none⟩) hb3).trans k4
            subst hA1
            have t4 : (0 : Int) ≤ (j : Int) := by omega
            have t5 : (j : Int) < (n : Int) := by omega
            have a1 : IntKind.i64.wrap ((N : Int) - 1) = (N : Int) - 1 := IntWalk.i64_in _ (by omega)
            by_cases hok : okG (N : Int) y = true
            · have hyo : (0 : Int) ≤ y ∧ y ≤ (N : Int) - 1 := by unfold okG at hok; simp at hok; omega
              have HYs := Lib.hid (fun W => between_yes y 0 ((N : Int) - 1) hyo W)
              by_cases hyv : y ≤ v
              · have hj0 : 0 < j := by rcases hv with ⟨_, z⟩ | ⟨z, _⟩; omega; exact z
                have hE4 : E = 4 := by
                  have e1 : ckO (okG (N : Int)) v y = 4 := by unfold ckO; rw [if_neg (by simp [hok]), if_pos hyv]
                  rw [e1, if_neg (by decide)] at hrs
                  have := HE.out
                  rw [HFs.out.1, hrs, if_neg (by decide : ¬ ((4 : Int) = 0)), if_neg (by simp)] at this
                  exact this.symm
                have HE4 := Lib.hid hE4
                have k5 := hprev hj0
                have s1 : decide ((0 : Int) < (j : Int)) = true := by simp; omega
                have s2 : decide (y ≤ v) = true := by simpa using hyv
                have s3 : IntKind.i64.wrap ((j : Int) - 1) = ((j - 1 : Nat) : Int) := by rw [IntWalk.i64_in _ (by omega)]; omega
                have s4 : (0 : Int) ≤ ((j - 1 : Nat) : Int) := by omega
                have s5 : ((j - 1 : Nat) : Int) < (n : Int) := by omega
                have HBq := Lib.hid hbel
                generalize hjj : j - 1 = jj at *
                clear hE4 hok hrs hv hprev hbel hy hye hyo hjj
                go_wp2_with fail
                refine (HYs.out _).mono ?_
                rintro e wz ⟨rfl, rfl⟩
                go_wp2
                go_quiet (fail)
                go_wp2
                go_ret
                exact ⟨by rw [HE4.out]; rfl, HH.out.2.2.2.trans ((below_drewN HBq.out _).mono HH.out.2.2.2.size)⟩
              · have e1 : ckO (okG (N : Int)) v y = 0 := by unfold ckO; rw [if_neg (by simp [hok]), if_neg hyv]
                rw [if_pos e1] at hrs
                have HSt := Lib.hid (⟨hrs, by simpa using hye⟩ : rsE (N : Int) xs = eachS (ckO (okG (N : Int))) id y (xs.drop (j + 1)) ∧ xs[j + 1 - 1]? = some y)
                have HCt : Hid ((m : Int) + (j : Int) + 1 = ((m + (j + 1) : Nat) : Int)) := by show _ = _; omega
                have a2 : IntKind.i64.wrap (((m + j : Nat) : Int) + 1) = ((m + (j + 1) : Nat) : Int) := by rw [IntWalk.i64_in _ (by omega)]; omega
                have a3 : IntKind.i64.wrap ((m : Int) + (j : Int) + 1) = ((m + (j + 1) : Nat) : Int) := by rw [IntWalk.i64_in _ (by omega)]; omega
                have HBq := Lib.hid hbel
                have s2 : decide (y ≤ v) = false := by simpa using hyv
                by_cases hj0 : 0 < j
                · have k5 := hprev hj0
                  have s1 : decide ((0 : Int) < (j : Int)) = true := by simp; omega
                  have s3 : IntKind.i64.wrap ((j : Int) - 1) = ((j - 1 : Nat) : Int) := by rw [IntWalk.i64_in _ (by omega)]; omega
                  have s4 : (0 : Int) ≤ ((j - 1 : Nat) : Int) := by omega
                  have s5 : ((j - 1 : Nat) : Int) < (n : Int) := by omega
                  generalize hjj : j - 1 = jj at *
                  clear hok hrs hv hprev hbel hy hye hyo e1 hyv hjj
                  go_wp2_with fail
                  refine (HYs.out _).mono ?_
                  rintro e wz ⟨rfl, rfl⟩
                  go_wp2
                  go_quiet (fail)
                  go_wp2
                  go_roundw
                  case rel => exact ⟨j + 1, y, by omega, by go_num, by go_num, HSt.out.1, .inr ⟨by omega, HSt.out.2⟩, below_drewN HBq.out _⟩
                  case measure => simp [intOf]; omega
                · have s1 : decide ((0 : Int) < (j : Int)) = false := by simp; omega
                  clear hok hrs hv hprev hbel hy hye hyo e1 hyv
                  go_wp2_with fail
                  refine (HYs.out _).mono ?_
                  rintro e wz ⟨rfl, rfl⟩
                  go_wp2
                  go_quiet (fail)
                  go_wp2
                  go_roundw
                  case rel => exact ⟨j + 1, y, by omega, by go_num, by go_num, HSt.out.1, .inr ⟨by omega, HSt.out.2⟩, below_drewN HBq.out _⟩
                  case measure => simp [intOf]; omega
            · have hE3 : E = 3 := by
                have e1 : ckO (okG (N : Int)) v y = 3 := by unfold ckO; rw [if_pos (by simpa using hok)]
                rw [e1, if_neg (by decide)] at hrs
                have := HE.out
                rw [HFs.out.1, hrs, if_neg (by decide : ¬ ((3 : Int) = 0)), if_neg (by simp)] at this
                exact this.symm
              have HE3 := Lib.hid hE3
              have hno : ¬ ((0 : Int) ≤ y ∧ y ≤ (N : Int) - 1) := by intro q; apply hok; unfold okG; simp; omega
              have HNo := Lib.hid (fun W => between_no y 0 ((N : Int) - 1) hno W)
              have HBq := Lib.hid hbel
              clear hE3 hno hok hrs hv hprev hbel hy hye
              go_wp2_with fail
              refine (HNo.out _).mono ?_
              rintro e wz ⟨rfl, rfl⟩
              go_wp2
              go_ret
              exact ⟨by rw [HE3.out]; rfl, HH.out.2.2.2.trans (HBq.out.mono HH.out.2.2.2.size)⟩
          · obtain rfl : j = n := by omega
            have hz : rsE (N : Int) xs = 0 := by rw [hrs, List.drop_of_length_le (by rw [HFs.out.2.2]; omega)]; rfl
            have hf2 := HFs.out.1
            rw [if_pos hz] at hf2
            have HFn := Lib.hid (⟨hf2, HFs.out.2.1, hbel⟩ : _ ∧ _ ∧ _)
            clear hrs hv hbel hz hf2
            go_wp2
            go_roundw
            case rel => exact ⟨i + 1, m + j, by omega, by go_num, by go_num, HFn.out.1, by have := HFn.out.2.1; omega, HFn.out.2.2⟩
            case measure => simp [intOf]; omega
      · obtain rfl : i = N := by omega
        rw [List.drop_of_length_le (by rw [HH.out.1]; omega)] at hfe hsm
        have hf0 : firstE (rsE (i : Int)) (gs R) = 0 := hfe
        have hsm2 : m = sumL (gs R) := by have : sumL (gs []) = 0 := rfl; omega
        have hEE := HE.out
        rw [hf0, ← hsm2] at hEE
        have HBl := Lib.hid hbel
        by_cases h6 : 600 < m
        · rw [if_pos ⟨rfl, h6⟩] at hEE
          have s1 : decide ((600 : Int) < (m : Int)) = true := by simp; omega
          subst hEE
          clear hbel hfe hsm hf0 hsm2
          go_wp2
          go_ret
          exact ⟨rfl, HH.out.2.2.2.trans (HBl.out.mono HH.out.2.2.2.size)⟩
        · rw [if_neg (fun z => h6 z.2)] at hEE
          have s1 : decide ((600 : Int) < (m : Int)) = false := by simp; omega
          subst hEE
          clear hbel hfe hsm hf0 hsm2
          go_wp2
          go_ret
          exact ⟨rfl, HH.out.2.2.2.trans (HBl.out.mono HH.out.2.2.2.size)⟩
end

section
set_option linter.unusedVariables false

/-- How far each is, so far: T turns are done, and in this one the nodes ahead of i and the first j arcs of i. -/
structure Bm (g : List (List Nat)) (s T i j : Nat) (f : List Int) : Prop where
  len : f.length = g.length
  snd : ∀ x, x < g.length → fv f x = -1 ∨ ∃ d : Nat, fv f x = (d : Int) ∧ Rc g s d x
  cmp : ∀ d x, d ≤ T → Rc g s d x → 0 ≤ fv f x ∧ fv f x ≤ (d : Int)
  now : ∀ d y x, d ≤ T → Rc g s d y → (y < i ∧ x ∈ row g y ∨ y = i ∧ x ∈ (row g i).take j) → 0 ≤ fv f x ∧ fv f x ≤ (d : Int) + 1
theorem bm_start {g : List (List Nat)} {s N : Nat} (hN : g.length = N) (hs : s < N) : Bm g s 0 0 0 ((List.replicate N (-1)).set s 0) := by
  have hv : ∀ x, x < N → fv ((List.replicate N (-1)).set s 0) x = if x = s then 0 else -1 := fun x hx => by
    rw [fv_set _ _ _ _ (by simpa using hs)]
    by_cases e : x = s
    · rw [if_pos e, if_pos e]
    · rw [if_neg e, if_neg e]; unfold fv; rw [List.getElem?_replicate_of_lt hx]; rfl
  refine ⟨by simp [hN], fun x hx => ?_, fun d x hd hr => ?_, fun d y x hd hr hq => ?_⟩
  · rw [hN] at hx
    rw [hv x hx]
    by_cases e : x = s
    · rw [if_pos e]; exact .inr ⟨0, rfl, e⟩
    · rw [if_neg e]; exact .inl rfl
  · obtain rfl : d = 0 := by omega
    cases hr
    rw [hv s hs, if_pos rfl]; omega
  · rcases hq with ⟨q, _⟩ | ⟨_, q⟩
    · omega
    · simp at q
/-- Nothing is to be made less. -/
theorem Bm.keep {g : List (List Nat)} {s T i j : Nat} {f : List Int} (h : Bm g s T i j f) (hj : j < (row g i).length) (h1 : 0 ≤ fv f (qa (row g i) j)) (h2 : fv f (qa (row g i) j) ≤ fv f i + 1) (hi : 0 ≤ fv f i) : Bm g s T i (j + 1) f := by
  refine ⟨h.len, h.snd, h.cmp, fun d y x hd hr hq => ?_⟩
  rcases hq with q | ⟨rfl, q⟩
  · exact h.now d y x hd hr (.inl q)
  · rw [List.take_succ_eq_append_getElem hj, List.mem_append] at q
    rcases q with q | q
    · exact h.now d y x hd hr (.inr ⟨rfl, q⟩)
    · simp only [List.mem_singleton] at q
      rw [qa_get hj] at q
      subst q
      have := h.cmp d y hd hr
      omega
/-- One is made less. -/
theorem Bm.less {g : List (List Nat)} {s T i j : Nat} {f : List Int} (h : Bm g s T i j f) (hb : Bdd g) (hj : j < (row g i).length) (hi : 0 ≤ fv f i) (hq : fv f (qa (row g i) j) < 0 ∨ fv f i + 1 < fv f (qa (row g i) j)) : Bm g s T i (j + 1) (f.set (qa (row g i) j) (fv f i + 1)) := by
  have hm := qa_mem hj
  have hil := row_lt hm
  obtain ⟨to, hto⟩ : ∃ to, qa (row g i) j = to := ⟨_, rfl⟩
  rw [hto] at hm hq ⊢
  have htl : to < f.length := by rw [h.len]; exact hb i to hm
  have hv : ∀ x, fv (f.set to (fv f i + 1)) x = if x = to then fv f i + 1 else fv f x := fun x => fv_set _ _ _ _ htl
  have hle : ∀ x (d : Int), 0 ≤ fv f x ∧ fv f x ≤ d → 0 ≤ fv (f.set to (fv f i + 1)) x ∧ fv (f.set to (fv f i + 1)) x ≤ d := fun x d hx => by
    rw [hv]
    by_cases e : x = to
    · rw [if_pos e]; rw [e] at hx; omega
    · rw [if_neg e]; exact hx
  refine ⟨by rw [List.length_set]; exact h.len, fun x hx => ?_, fun d x hd hr => hle x _ (h.cmp d x hd hr), fun d y x hd hr hq2 => ?_⟩
  · rw [hv]
    by_cases e : x = to
    · rw [if_pos e]
      rcases h.snd i hil with q | ⟨d, q1, q2⟩
      · omega
      · exact .inr ⟨d + 1, by omega, i, q2, by rw [e]; exact hm⟩
    · rw [if_neg e]; exact h.snd x hx
  · rcases hq2 with q | ⟨rfl, q⟩
    · exact hle x _ (h.now d y x hd hr (.inl q))
    · rw [List.take_succ_eq_append_getElem hj, List.mem_append] at q
      rcases q with q | q
      · exact hle x _ (h.now d y x hd hr (.inr ⟨rfl, q⟩))
      · simp only [List.mem_singleton] at q
        rw [qa_get hj, hto] at q
        subst q
        have := h.cmp d y hd hr
        rw [hv, if_pos rfl]; omega
theorem Bm.next {g : List (List Nat)} {s T i j : Nat} {f : List Int} (h : Bm g s T i j f) (hj : fv f i < 0 ∨ j = (row g i).length) : Bm g s T (i + 1) 0 f := by
  refine ⟨h.len, h.snd, h.cmp, fun d y x hd hr hq => ?_⟩
  rcases hq with ⟨q1, q2⟩ | ⟨_, q⟩
  · by_cases e : y = i
    · subst e
      rcases hj with hj | hj
      · have := h.cmp d y hd hr; omega
      · exact h.now d y x hd hr (.inr ⟨rfl, by rw [hj, List.take_length]; exact q2⟩)
    · exact h.now d y x hd hr (.inl ⟨by omega, q2⟩)
  · simp at q
theorem Bm.turn {g : List (List Nat)} {s T : Nat} {f : List Int} (h : Bm g s T g.length 0 f) : Bm g s (T + 1) 0 0 f := by
  refine ⟨h.len, h.snd, fun d x hd hr => ?_, fun d y x hd hr hq => ?_⟩
  · by_cases e : d ≤ T
    · exact h.cmp d x e hr
    · obtain rfl : d = T + 1 := by omega
      obtain ⟨y, h1, h2⟩ := hr
      have := h.now T y x (Nat.le_refl _) h1 (.inl ⟨row_lt h2, h2⟩)
      omega
  · rcases hq with ⟨q, _⟩ | ⟨_, q⟩
    · omega
    · simp at q
theorem Bm.fin {g : List (List Nat)} {s : Nat} {f F : List Int} (h : Bm g s g.length 0 0 f) (hb : Bdd g) (hs : s < g.length) (hF : Fa g s F) : f = F := by
  refine Fa.uniq ⟨h.len, fun x hx => ?_⟩ hF
  have hlt := hF.lt hb hs x hx
  rcases hF.val x hx with ⟨q1, q2⟩ | ⟨d, q1, q2, q3⟩
  · rcases h.snd x hx with r | ⟨e, r1, r2⟩
    · exact .inl ⟨r, q2⟩
    · exact absurd r2 (q2 e)
  · have hc := h.cmp d x (by omega) q2
    rcases h.snd x hx with r | ⟨e, r1, r2⟩
    · omega
    · have := q3 e r2
      exact .inr ⟨d, by omega, q2, q3⟩

/-- The least of each part, so far. -/
structure Pm (g : List (List Nat)) (T i j : Nat) (p : List Nat) : Prop where
  len : p.length = g.length
  snd : ∀ x, x < g.length → Re (und g) (qa p x) x ∧ qa p x < g.length
  cmp : ∀ d y x, d ≤ T → x < g.length → y < g.length → Rc (und g) y d x → qa p x ≤ y
  now : ∀ d y u v, d ≤ T → y < g.length → (u < i ∧ v ∈ row g u ∨ u = i ∧ v ∈ (row g i).take j) → (Rc (und g) y d u → qa p v ≤ y) ∧ (Rc (und g) y d v → qa p u ≤ y)
theorem qa_range {N x : Nat} (h : x < N) : qa (List.range N) x = x := by unfold qa; rw [List.getElem?_range h]; rfl
theorem pm_start {g : List (List Nat)} {N : Nat} (hN : g.length = N) : Pm g 0 0 0 (List.range N) := by
  refine ⟨by simp [hN], fun x hx => ?_, fun d y x hd hx hy hr => ?_, fun d y u v hd hy hq => ?_⟩
  · rw [hN] at hx; rw [qa_range hx]; exact ⟨Re.refl _ x, by omega⟩
  · obtain rfl : d = 0 := by omega
    cases hr
    rw [hN] at hx; rw [qa_range hx]; exact Nat.le_refl _
  · rcases hq with ⟨q, _⟩ | ⟨_, q⟩
    · omega
    · simp at q
/-- At an arc both ends are told the lesser one. -/
theorem Pm.step {g : List (List Nat)} (hok : GOk g) {T i j : Nat} {p p' : List Nat} (h : Pm g T i j p) (hj : j < (row g i).length) (hl : p'.length = p.length)
    (hv : ∀ x, qa p' x = if x = i ∨ x = qa (row g i) j then min (qa p i) (qa p (qa (row g i) j)) else qa p x) : Pm g T i (j + 1) p' := by
  have hm := qa_mem hj
  have hil := row_lt hm
  obtain ⟨to, hto⟩ : ∃ to, qa (row g i) j = to := ⟨_, rfl⟩
  rw [hto] at hm hv
  have htl := hok.bdd i to hm
  have a1 : Re (und g) i to := ⟨1, rc_one ((und_mem hok i to).2 (.inl hm))⟩
  have hle : ∀ x, qa p' x ≤ qa p x := fun x => by
    rw [hv]
    split
    · rename_i e
      rcases e with e | e
      · rw [e]; exact Nat.min_le_left _ _
      · rw [e]; exact Nat.min_le_right _ _
    · exact Nat.le_refl _
  refine ⟨hl.trans h.len, fun x hx => ?_, fun d y x hd hx hy hr => Nat.le_trans (hle x) (h.cmp d y x hd hx hy hr), fun d y u v hd hy hq => ?_⟩
  · rw [hv]
    obtain ⟨i1, i2⟩ := h.snd i hil
    obtain ⟨t1, t2⟩ := h.snd to htl
    have hmin : min (qa p i) (qa p to) = qa p i ∨ min (qa p i) (qa p to) = qa p to := by omega
    split
    · rename_i e
      have both : ∀ z, Re (und g) z i ∧ z < g.length → Re (und g) z to ∧ z < g.length := fun z hz => ⟨re_trans hz.1 a1, hz.2⟩
      have both2 : ∀ z, Re (und g) z to ∧ z < g.length → Re (und g) z i ∧ z < g.length := fun z hz => ⟨re_trans hz.1 (re_sym hok a1), hz.2⟩
      rcases hmin with q | q <;> rw [q] <;> rcases e with e | e <;> rw [e]
      · exact ⟨i1, i2⟩
      · exact both _ ⟨i1, i2⟩
      · exact both2 _ ⟨t1, t2⟩
      · exact ⟨t1, t2⟩
    · exact h.snd x hx
  · have old : ∀ u v, (u < i ∧ v ∈ row g u ∨ u = i ∧ v ∈ (row g i).take j) → (Rc (und g) y d u → qa p' v ≤ y) ∧ (Rc (und g) y d v → qa p' u ≤ y) := fun u v q => by
      obtain ⟨r1, r2⟩ := h.now d y u v hd hy q
      exact ⟨fun r => Nat.le_trans (hle v) (r1 r), fun r => Nat.le_trans (hle u) (r2 r)⟩
    rcases hq with q | ⟨rfl, q⟩
    · exact old u v (.inl q)
    · rw [List.take_succ_eq_append_getElem hj, List.mem_append] at q
      rcases q with q | q
      · exact old u v (.inr ⟨rfl, q⟩)
      · simp only [List.mem_singleton] at q
        rw [qa_get hj, hto] at q
        subst q
        refine ⟨fun r => ?_, fun r => ?_⟩
        · rw [hv, if_pos (.inr rfl)]
          exact Nat.le_trans (Nat.min_le_left _ _) (h.cmp d y u hd hil hy r)
        · rw [hv, if_pos (.inl rfl)]
          exact Nat.le_trans (Nat.min_le_right _ _) (h.cmp d y v hd htl hy r)
theorem Pm.next {g : List (List Nat)} {T i : Nat} {p : List Nat} (h : Pm g T i (row g i).length p) : Pm g T (i + 1) 0 p := by
  refine ⟨h.len, h.snd, h.cmp, fun d y u v hd hy hq => ?_⟩
  rcases hq with ⟨q1, q2⟩ | ⟨_, q⟩
  · by_cases e : u = i
    · subst e
      exact h.now d y u v hd hy (.inr ⟨rfl, by rw [List.take_length]; exact q2⟩)
    · exact h.now d y u v hd hy (.inl ⟨by omega, q2⟩)
  · simp at q
theorem Pm.turn {g : List (List Nat)} (hok : GOk g) {T : Nat} {p : List Nat} (h : Pm g T g.length 0 p) : Pm g (T + 1) 0 0 p := by
  refine ⟨h.len, h.snd, fun d y x hd hx hy hr => ?_, fun d y u v hd hy hq => ?_⟩
  · by_cases e : d ≤ T
    · exact h.cmp d y x e hx hy hr
    · obtain rfl : d = T + 1 := by omega
      obtain ⟨z, h1, h2⟩ := hr
      rcases (und_mem hok z x).1 h2 with q | q
      · exact (h.now T y z x (Nat.le_refl _) hy (.inl ⟨row_lt q, q⟩)).1 h1
      · exact (h.now T y x z (Nat.le_refl _) hy (.inl ⟨row_lt q, q⟩)).2 h1
  · rcases hq with ⟨q, _⟩ | ⟨_, q⟩
    · omega
    · simp at q
theorem Pm.fin {g : List (List Nat)} (hok : GOk g) {p : List Nat} (h : Pm g g.length 0 0 p) : Pa g p := by
  refine ⟨h.len, fun x hx => ⟨(h.snd x hx).1, fun y hy hr => ?_⟩⟩
  obtain ⟨F, hF⟩ := fa_ex (und g) y
  have h0 := (hF.reach x (by rw [und_length]; exact hx)).2 hr
  obtain ⟨d, q1, q2⟩ := hF.way (by rw [und_length]; exact hx) h0
  have hlt := hF.lt (und_bdd hok) (by rw [und_length]; exact hy) x (by rw [und_length]; exact hx)
  rw [und_length] at hlt
  exact h.cmp d y x (by omega) hx hy q2
end

section
set_option maxRecDepth 100000
set_option linter.unusedVariables false
open Go.RowKit Go.Shelf

/-- A row of numbers of the call's own, which may have room behind it. -/
structure Or (w1 W : World) (gb N cap : Nat) (f : List Int) : Prop where
  low : Below w1.heap.size w1 W
  ge : w1.heap.size ≤ gb
  own : W.ownsRow w1.heap.size 3 1 (.slice (some ⟨gb, 0, none⟩) N cap) N (zc f)
theorem Or.set {w1 W : World} {gb N cap : Nat} {f : List Int} (h : Or w1 W gb N cap f) (i : Nat) (x : Int) : Or w1 (W.setCell ⟨gb, i, none⟩ (.int .i64 x)) gb N cap (f.set i x) := by
  refine ⟨h.low.setCell (p := ⟨gb, i, none⟩) h.ge _, h.ge, ?_⟩
  have := own_set h.own (i := i) (.int .i64 x)
  unfold zc at this ⊢
  rw [List.map_set]; exact this
theorem Or.cell {w1 W : World} {gb N cap : Nat} {f : List Int} (h : Or w1 W gb N cap f) (i : Nat) (hi : i < f.length) : W.cell? ⟨gb, i, none⟩ = some (.int .i64 (fv f i)) ∧ W.frozen? ⟨gb, i, none⟩ = false := own_cell h.own (fv_get f i hi)
theorem Or.drewN {w1 W : World} {gb N cap : Nat} {f : List Int} (h : Or w1 W gb N cap f) (n : Nat) : Or w1 (W.drewN n) gb N cap f := ⟨below_drewN h.low n, h.ge, h.own⟩
set_option maxHeartbeats 8000000 in
theorem reffar_own (R : List Rw) (g : List (List Nat)) (hg : gs R = g.map ns) (hok : GOk g) (N : Nat) (hN : R.length = N) (s : Nat) (hs : s < N) (F : List Int) (hF : Fa g s F) (A : Option Addr) (c : Nat) (w : World) (h : RdG w w.heap.size A R) :
    Calls Try.prog 35 #[.agg #[.slice A N c], .int .i64 (s : Int)] w fun e w' => ∃ b cap, e = .returned (.slice (some ⟨b, 0, none⟩) N cap) ∧ w'.ownsRow w.heap.size 3 1 (.slice (some ⟨b, 0, none⟩) N cap) N (zc F) ∧ Below w.heap.size w w' := by
  obtain ⟨i0, hi, hz0, hz1, hz2⟩ := info_parts info_intD
  have hgl : g.length = N := by have := congrArg List.length hg; rw [gs_length, List.length_map] at this; omega
  have hN1 : N ≤ 100 := by have := hok.nodes; omega
  obtain ⟨w1, hw1⟩ : ∃ w1, w.alloc (.cells #[.slice A N c] 24) = w1 := ⟨_, rfl⟩
  have hb1 : Below w.heap.size w w1 := hw1 ▸ one_below w _
  have hs1 : w.heap.size < w1.heap.size := by rw [← hw1, World.size_alloc]; omega
  have kg1 : w1.cell? ⟨w.heap.size, 0, none⟩ = some (.slice A N c) := by rw [← hw1]; exact (cell_at (World.alloc_heap_new w _) 0).trans rfl
  have HH := Lib.hid (⟨hg, hN, hgl, h.on hb1, hok, hb1, hF, kg1⟩ : gs R = g.map ns ∧ R.length = N ∧ g.length = N ∧ RdG w1 w1.heap.size A R ∧ GOk g ∧ Below w.heap.size w w1 ∧ Fa g s F ∧ w1.cell? ⟨w.heap.size, 0, none⟩ = some (.slice A N c))
  have HKg : Hid (∀ V, Below w1.heap.size w1 V → V.cell? ⟨w.heap.size, 0, none⟩ = some (.slice A N c)) := fun V hV => (hV.cell (p := ⟨w.heap.size, 0, none⟩) hs1).trans kg1
  have HW := Lib.hid hw1
  clear hg hok hN hgl h hb1 hF kg1 hw1 hs1
  go_enter Try.func35, Try.ntmps35
  go_wp2
  rw [HW.out]
  go_loopw [5, 6] (fun v p wr => ∃ i : Nat, i ≤ N ∧ p = .int .i64 (i : Int) ∧ wr.ownsRow w1.heap.size 3 1 v i (zc (List.replicate i (-1))) ∧ Below w1.heap.size w1 wr) (fun _ p _ => N - (intOf p).toNat)
  case atStart => exact ⟨0, Nat.zero_le _, rfl, ⟨rfl, .inl ⟨rfl, rfl⟩⟩, Below.refl _ _⟩
  case round =>
   as_aux_lemma =>
    obtain ⟨i, hi2, rfl, hrow, hbel⟩ := hrel
    obtain ⟨Av, cv, rfl⟩ := own_sliceT hrow
    have kg := HKg.out _ hbel
    have HBl := Lib.hid hbel
    by_cases hlt : i < N
    · clear hbel
      go_wp2_with (at_builtin; refine wpList_append_own _ rfl _ _ 32 rfl w1.heap.size 3 i0 (.int .i64 0) 1 8 Try.underlying32 hi hz0 hz1 hz2 rfl (by decide) _ _ _ rfl (hrow.alloc _) ⟨wr.heap.size, 0, none⟩ 1 1 [.int .i64 (-1)] rfl rfl (news_row wr [.int .i64 (-1)] _) (by simp [Value.oneCell']) (by unfold maxLen; omega) (by omega) (by have := HBl.out.size; simp; omega) ?_; intro v' w3 hown' hgrow _)
      refine ⟨⟨i + 1, by omega, by go_num, ?_, ?_⟩, by simp [intOf]; omega⟩
      · have e : zc (List.replicate (i + 1) (-1)) = zc (List.replicate i (-1)) ++ [.int .i64 (-1)] := by unfold zc; rw [List.replicate_succ', List.map_append]; rfl
        rw [e]; exact hown'
      · exact HBl.out.trans (((Below.refl w1.heap.size wr).alloc HBl.out.size _).trans (grown_low hgrow (hrow.alloc _) (by have := HBl.out.size; simp; omega)))
    · obtain rfl : i = N := by omega
      obtain ⟨gb, cap, e0, hgb, hgb2⟩ := hrow.form (by omega)
      simp only [Value.slice.injEq] at e0
      obtain ⟨rfl, -, rfl⟩ := e0
      have hO : Or w1 wr gb i cv (List.replicate i (-1)) := ⟨hbel, hgb, hrow⟩
      obtain ⟨k1, k2⟩ := hO.cell s (by simpa using hs)
      have HO0 := Lib.hid (hO.set s 0)
      have HB0 : Hid (Bm g s 0 0 0 ((List.replicate i (-1)).set s 0)) := bm_start HH.out.2.2.1 hs
      have t1 : (0 : Int) ≤ (s : Int) := by omega
      have t2 : (s : Int) < (i : Int) := by omega
      clear hO hrow hbel hlt
      go_wp2
      clear k1 k2 kg
      generalize wr.setCell ⟨gb, s, none⟩ (.int .i64 0) = W0 at *
      go_loopw [7] (fun p wr => ∃ (T : Nat) (f : List Int), T ≤ i ∧ p = .int .i64 (T : Int) ∧ Or w1 wr gb i cv f ∧ Bm g s T 0 0 f ∧ ∀ x, fv f x ≤ (T : Int) * 200000) (fun p _ => i - (intOf p).toNat)
      case atStart =>
        refine ⟨0, _, Nat.zero_le _, rfl, HO0.out, HB0.out, fun x => ?_⟩
        by_cases hx : x < g.length
        · rcases HB0.out.snd x hx with q | ⟨d, q1, q2⟩
          · omega
          · rw [fv_set _ _ _ _ (by simpa using hs)]
            split
            · omega
            · unfold fv; rw [List.getElem?_replicate]; split <;> simp
        · unfold fv; rw [List.getElem?_eq_none (by rw [HB0.out.len]; omega)]; simp
      case round =>
       as_aux_lemma =>
        clear HO0 HB0
        obtain ⟨T, f, hT, rfl, hO, hB, hbnd⟩ := hrel
        by_cases hlt : T < i
        · have HS := Lib.hid (⟨hO, hB, hbnd⟩ : _ ∧ _ ∧ _)
          clear hO hB hbnd
          go_wp2
          go_loopw [8] (fun p wr => ∃ (u : Nat) (f : List Int), u ≤ i ∧ p = .int .i64 (u : Int) ∧ Or w1 wr gb i cv f ∧ Bm g s T u 0 f ∧ ∀ x, fv f x ≤ (T : Int) * 200000 + (u : Int) * 1000) (fun p _ => i - (intOf p).toNat)
          case atStart => exact ⟨0, f, Nat.zero_le _, rfl, HS.out.1, HS.out.2.1, fun x => by have := HS.out.2.2 x; omega⟩
          case round =>
           as_aux_lemma =>
            clear HS
            obtain ⟨u, f, hu, rfl, hO, hB, hbnd⟩ := hrel
            by_cases hul : u < i
            · have hil : u < R.length := by rw [HH.out.2.1]; exact hul
              obtain ⟨b1, o1, rfl, hb1, kr'⟩ := HH.out.2.2.2.1.1.at_ (rcl_get R u hil)
              have hr1 := HH.out.2.2.2.1.2 _ (rw_mem R u hil)
              have hro := row_ofD R g HH.out.1 u (by rw [HH.out.2.2.1]; exact hul)
              generalize R[u]?.getD (none, 0, []) = y at *
              obtain ⟨P1, d1, xs⟩ := y
              unfold sl at kr'
              simp only at kr' hr1 hro
              subst hro
              obtain ⟨m, hm⟩ : ∃ m, (row g u).length = m := ⟨_, rfl⟩
              rw [ns_length, hm] at kr' hr1
              have hm47 := hr1.2
              have HRw := Lib.hid (⟨hr1.1, hm, kr'⟩ : _ ∧ _ ∧ _)
              have HS := Lib.hid (⟨hO, hB, hbnd⟩ : _ ∧ _ ∧ _)
              have hm600 : m ≤ 600 := by rw [← HRw.out.2.1]; exact row_len HH.out.2.2.2.2.1 u
              have t3 : (0 : Int) ≤ (u : Int) := by omega
              have t4 : (u : Int) < (i : Int) := by omega
              clear hO hB hr1 hm kr' hb1 hil hbnd
              go_wp2
              go_loopw [9] (fun p wr => ∃ (j : Nat) (f : List Int), j ≤ m ∧ p = .int .i64 (j : Int) ∧ Or w1 wr gb i cv f ∧ Bm g s T u j f ∧ ∀ x, fv f x ≤ (T : Int) * 200000 + (u : Int) * 1000 + (j : Int)) (fun p _ => m - (intOf p).toNat)
              case atStart => exact ⟨0, f, Nat.zero_le _, rfl, HS.out.1, HS.out.2.1, fun x => by have := HS.out.2.2 x; omega⟩
              case round =>
               as_aux_lemma =>
                clear HS
                obtain ⟨j, f, hj, rfl, hO, hB, hbnd⟩ := hrel
                have kg := HKg.out _ hO.low
                have kr : wr.cell? ⟨b1, o1 + u, none⟩ = some (.slice P1 m d1) := (hO.low.cell (World.block_lt_of_cell? _ _ HRw.out.2.2)).trans HRw.out.2.2
                have hfl : f.length = i := hB.len.trans HH.out.2.2.1
                obtain ⟨ku, -⟩ := hO.cell u (by rw [hfl]; exact hul)
                by_cases hjm : j < m
                · have t5 : decide ((j : Int) < (m : Int)) = true := by simp; omega
                  by_cases hfu : 0 ≤ fv f u
                  · have hjl : j < (row g u).length := by rw [HRw.out.2.1]; exact hjm
                    obtain ⟨b4, o4, rfl, hb4, k3⟩ := (HRw.out.1.on hO.low).at_ (zc_getN (row g u) j (qa (row g u) j) (qa_eq hjl))
                    have hto := HH.out.2.2.2.2.1.bdd u _ (qa_mem hjl)
                    rw [HH.out.2.2.1] at hto
                    have hkeep := hB.keep hjl
                    have hless := hB.less HH.out.2.2.2.2.1.bdd hjl hfu
                    have hub := hbnd u
                    obtain ⟨to, hto2⟩ : ∃ to, qa (row g u) j = to := ⟨_, rfl⟩
                    rw [hto2] at k3 hto hkeep hless
                    obtain ⟨kt, kz⟩ := hO.cell to (by rw [hfl]; exact hto)
                    have t6 : decide ((0 : Int) ≤ fv f u) = true := decide_eq_true hfu
                    have a1 : IntKind.i64.wrap (fv f u + 1) = fv f u + 1 := by rw [IntKind.wrap_i64]; omega
                    have t7 : (0 : Int) ≤ (j : Int) := by omega
                    have t8 : (j : Int) < (m : Int) := by omega
                    have t9 : (0 : Int) ≤ (to : Int) := by omega
                    have t10 : (to : Int) < (i : Int) := by omega
                    have HO := Lib.hid hO
                    have HL : Hid (∀ x, fv (f.set to (fv f u + 1)) x ≤ (T : Int) * 200000 + (u : Int) * 1000 + ((j + 1 : Nat) : Int)) := fun x => by
                      rw [fv_set _ _ _ _ (by rw [hfl]; exact hto)]
                      have := hbnd x
                      split <;> omega
                    have HKp : Hid (∀ x, fv f x ≤ (T : Int) * 200000 + (u : Int) * 1000 + ((j + 1 : Nat) : Int)) := fun x => by have := hbnd x; omega
                    by_cases hc : fv f to < 0
                    · have hl2 := hless (.inl hc)
                      have HS2 := Lib.hid hl2
                      have HO2 : Hid (∀ n, Or w1 ((wr.drewN n).setCell ⟨gb, to, none⟩ (.int .i64 (fv f u + 1))) gb i cv (f.set to (fv f u + 1))) := fun n => (hO.drewN n).set to (fv f u + 1)
                      have c1 : decide (fv f to < 0) = true := decide_eq_true hc
                      generalize fv f to = z2 at *
                      generalize fv f u = z1 at *
                      clear hO hB hbnd hkeep hless hl2 hc hub hto2 hfl
                      go_wp2
                      go_quiet (fail)
                      have HO3 := Lib.hid (HO2.out nq)
                      have ku2 : (wr.drewN nq).cell? ⟨gb, u, none⟩ = some (.int .i64 z1) := ku
                      have kt2 : (wr.drewN nq).cell? ⟨gb, to, none⟩ = some (.int .i64 z2) := kt
                      have kz2 : (wr.drewN nq).frozen? ⟨gb, to, none⟩ = false := kz
                      generalize wr.drewN nq = V at *
                      clear HO2 ku kt kz k3 kr kg
                      go_wp2
                      go_roundw
                      case rel => exact ⟨j + 1, _, by omega, by go_num, HO3.out, HS2.out, HL.out⟩
                      case measure => simp [intOf]; omega
                    · have c1 : decide (fv f to < 0) = false := decide_eq_false hc
                      by_cases hd : fv f u + 1 < fv f to
                      · have hl2 := hless (.inr hd)
                        have HS2 := Lib.hid hl2
                        have HO2 : Hid (∀ n, Or w1 ((wr.drewN n).setCell ⟨gb, to, none⟩ (.int .i64 (fv f u + 1))) gb i cv (f.set to (fv f u + 1))) := fun n => (hO.drewN n).set to (fv f u + 1)
                        have c2 : decide (fv f u + 1 < fv f to) = true := decide_eq_true hd
                        generalize fv f to = z2 at *
                        generalize fv f u = z1 at *
                        clear hO hB hbnd hkeep hless hl2 hc hd hub hto2 hfl
                        go_wp2
                        go_quiet (fail)
                        have HO3 := Lib.hid (HO2.out nq)
                        have ku2 : (wr.drewN nq).cell? ⟨gb, u, none⟩ = some (.int .i64 z1) := ku
                        have kt2 : (wr.drewN nq).cell? ⟨gb, to, none⟩ = some (.int .i64 z2) := kt
                        have kz2 : (wr.drewN nq).frozen? ⟨gb, to, none⟩ = false := kz
                        generalize wr.drewN nq = V at *
                        clear HO2 ku kt kz k3 kr kg
                        go_wp2
                        go_roundw
                        case rel => exact ⟨j + 1, _, by omega, by go_num, HO3.out, HS2.out, HL.out⟩
                        case measure => simp [intOf]; omega
                      · have c2 : decide (fv f u + 1 < fv f to) = false := decide_eq_false hd
                        have HS2 := Lib.hid (hkeep (by omega) (by omega) hfu)
                        generalize fv f to = z2 at *
                        generalize fv f u = z1 at *
                        clear hO hB hbnd hkeep hless hc hd hub hto2 hfl
                        go_wp2
                        go_quiet (fail)
                        go_wp2
                        go_roundw
                        case rel => exact ⟨j + 1, f, by omega, by go_num, HO.out.drewN nq, HS2.out, HKp.out⟩
                        case measure => simp [intOf]; omega
                  · have t6 : decide ((0 : Int) ≤ fv f u) = false := decide_eq_false hfu
                    have HE : Hid (Or w1 wr gb i cv f ∧ Bm g s T (u + 1) 0 f ∧ ∀ x, fv f x ≤ (T : Int) * 200000 + ((u + 1 : Nat) : Int) * 1000) := ⟨hO, hB.next (.inl (by omega)), fun x => by have := hbnd x; omega⟩
                    generalize fv f u = z at *
                    clear hO hB hfu hbnd
                    go_wp2
                    go_roundw
                    case rel => exact ⟨u + 1, f, by omega, by go_num, HE.out.1, HE.out.2.1, HE.out.2.2⟩
                    case measure => simp [intOf]; omega
                · obtain rfl : j = m := by omega
                  have t5 : decide ((j : Int) < (j : Int)) = false := by simp
                  have HE : Hid (Or w1 wr gb i cv f ∧ Bm g s T (u + 1) 0 f ∧ ∀ x, fv f x ≤ (T : Int) * 200000 + ((u + 1 : Nat) : Int) * 1000) := ⟨hO, hB.next (.inr HRw.out.2.1.symm), fun x => by have := hbnd x; omega⟩
                  clear hO hB hjm hbnd
                  go_wp2
                  go_roundw
                  case rel => exact ⟨u + 1, f, by omega, by go_num, HE.out.1, HE.out.2.1, HE.out.2.2⟩
                  case measure => simp [intOf]; omega
            · obtain rfl : u = i := by omega
              have HE : Hid (Or w1 wr gb u cv f ∧ Bm g s (T + 1) 0 0 f ∧ ∀ x, fv f x ≤ ((T + 1 : Nat) : Int) * 200000) := ⟨hO, by have h1 := hB; rw [← HH.out.2.2.1] at h1; exact h1.turn, fun x => by have := hbnd x; omega⟩
              clear hO hB hul hbnd
              go_wp2
              go_roundw
              case rel => exact ⟨T + 1, f, by omega, by go_num, HE.out.1, HE.out.2.1, HE.out.2.2⟩
              case measure => simp [intOf]; omega
        · obtain rfl : T = i := by omega
          have HE : Hid (wr.ownsRow w.heap.size 3 1 (.slice (some ⟨gb, 0, none⟩) T cv) T (zc F) ∧ Below w.heap.size w wr) := by
            have hf : f = F := by
              have h1 := hB
              have h2 := HH.out.2.2.1
              rw [← h2] at h1
              exact h1.fin HH.out.2.2.2.2.1.bdd (by rw [h2]; exact hs) HH.out.2.2.2.2.2.2.1
            rw [← hf]
            exact ⟨own_base hO.own HH.out.2.2.2.2.2.1.size, HH.out.2.2.2.2.2.1.trans (hO.low.mono HH.out.2.2.2.2.2.1.size)⟩
          clear hO hB hlt hbnd
          go_wp2
          go_ret
          exact ⟨gb, cv, rfl, HE.out.1, HE.out.2⟩
theorem reffar_ok (R : List Rw) (g : List (List Nat)) (hg : gs R = g.map ns) (hok : GOk g) (N : Nat) (hN : R.length = N) (s : Nat) (hs : s < N) (F : List Int) (hF : Fa g s F) (A : Option Addr) (c : Nat) (w : World) (h : RdG w w.heap.size A R) :
    Calls Try.prog 35 #[.agg #[.slice A N c], .int .i64 (s : Int)] w fun e w' => ∃ b cap, e = .returned (.slice (some ⟨b, 0, none⟩) N cap) ∧ RdV w' w'.heap.size (some ⟨b, 0, none⟩) (zc F) ∧ Below w.heap.size w w' :=
  (reffar_own R g hg hok N hN s hs F hF A c w h).mono fun e w' ⟨b, cap, q1, q2, q3⟩ => ⟨b, cap, q1, own_rdvA q2, q3⟩
end

section
set_option maxRecDepth 100000
set_option linter.unusedVariables false
open Go.RowKit Go.Shelf

theorem sp_ex (g : List (List Nat)) : ∃ p, Sp g p := by
  have h : ∀ x, ∃ y, Mu g y x ∧ ∀ z, Mu g z x → y ≤ z := fun x => by
    obtain ⟨y, h1, h2⟩ := least_ex (P := fun y => Mu g y x) x (Mu.refl g x)
    exact ⟨y, h1, h2⟩
  refine ⟨(List.range g.length).map fun x => Classical.choose (h x), by simp, fun x hx => ?_⟩
  have e : qa ((List.range g.length).map fun x => Classical.choose (h x)) x = Classical.choose (h x) := by
    unfold qa; rw [List.getElem?_map, List.getElem?_range hx]; rfl
  rw [e]
  obtain ⟨h1, h2⟩ := Classical.choose_spec (h x)
  exact ⟨h1, fun y _ hy => h2 y hy⟩
/-- A row stays as it is while another one, of another kind, grows. -/
theorem own_grownT {X Y : World} {base base2 k k2 n m : Nat} {T T2 : TypeId} {v u : Value} {xs ys : List Value} (h : X.ownsRow base T k v n xs) (h2 : X.ownsRow base2 T2 k2 u m ys) (hT : T ≠ T2) (hg : X.grownBy Y u.ownBlock) : Y.ownsRow base T k v n xs := by
  refine ⟨h.1, ?_⟩
  rcases h.2 with h0 | ⟨g, cap, cur, e, h1, hh, h3⟩
  · exact .inl h0
  · refine .inr ⟨g, cap, cur, e, h1, (hg.block g (Array.getElem?_eq_some_iff.1 hh).1 (fun q => ?_)).trans hh, h3⟩
    rcases h2.2 with ⟨u0, _⟩ | ⟨g2, cap2, cur2, e2, _, hh2, _⟩
    · rw [u0] at q; cases q
    · rw [e2] at q
      have : g = g2 := Option.some.inj q
      subst this
      rw [hh] at hh2
      simp only [Option.some.injEq, Obj.cells.injEq] at hh2
      exact hT hh2.2.1
theorem own_on {w X : World} {base k n : Nat} {T : TypeId} {v : Value} {xs : List Value} (h : w.ownsRow base T k v n xs) (hb : Below w.heap.size w X) : X.ownsRow base T k v n xs := by
  refine ⟨h.1, ?_⟩
  rcases h.2 with h0 | ⟨g, cap, cur, e, h1, h2, h3⟩
  · exact .inl h0
  · exact .inr ⟨g, cap, cur, e, h1, (hb.block g (Array.getElem?_eq_some_iff.1 h2).1).trans h2, h3⟩
/-- How far each is from each of the first k nodes: a row of rows of the call's own. -/
structure Fl (g : List (List Nat)) (N : Nat) (w1 W : World) (v : Value) (k : Nat) (bl cp : Nat → Nat) (Fs : Nat → List Int) : Prop where
  low : Below w1.heap.size w1 W
  own : W.ownsRow w1.heap.size 32 1 v k ((List.range k).map fun i => .slice (some ⟨bl i, 0, none⟩) N (cp i))
  rows : ∀ i, i < k → W.ownsRow w1.heap.size 3 1 (.slice (some ⟨bl i, 0, none⟩) N (cp i)) N (zc (Fs i)) ∧ Fa g i (Fs i)
theorem Fl.on {g : List (List Nat)} {N : Nat} {w1 W X : World} {v : Value} {k : Nat} {bl cp : Nat → Nat} {Fs : Nat → List Int} (h : Fl g N w1 W v k bl cp Fs) (hb : Below W.heap.size W X) : Fl g N w1 X v k bl cp Fs :=
  ⟨h.low.trans (hb.mono h.low.size), own_on h.own hb, fun i hi => ⟨own_on (h.rows i hi).1 hb, (h.rows i hi).2⟩⟩
theorem Fl.app {g : List (List Nat)} {N : Nat} {w1 W X : World} {v v' : Value} {k b cap : Nat} {bl cp : Nat → Nat} {Fs : Nat → List Int} {F : List Int} (h : Fl g N w1 W v k bl cp Fs) (hr : W.ownsRow w1.heap.size 3 1 (.slice (some ⟨b, 0, none⟩) N cap) N (zc F)) (hF : Fa g k F)
    (h1 : X.ownsRow w1.heap.size 32 1 v' (k + 1) (((List.range k).map fun i => .slice (some ⟨bl i, 0, none⟩) N (cp i)) ++ [.slice (some ⟨b, 0, none⟩) N cap])) (h2 : W.grownBy X v.ownBlock) :
    Fl g N w1 X v' (k + 1) (fun j => if j = k then b else bl j) (fun j => if j = k then cap else cp j) (fun j => if j = k then F else Fs j) := by
  refine ⟨h.low.trans (grown_low h2 h.own h.low.size), ?_, fun i hi => ?_⟩
  · rw [List.range_succ, List.map_append, List.map_cons, List.map_nil]
    simp only [if_pos]
    have e : ((List.range k).map fun i => Value.slice (some ⟨if i = k then b else bl i, 0, none⟩) N (if i = k then cap else cp i)) = (List.range k).map fun i => .slice (some ⟨bl i, 0, none⟩) N (cp i) := by
      refine List.map_congr_left fun i hi => ?_
      have : i ≠ k := by have := List.mem_range.1 hi; omega
      simp only [if_neg this]
    rw [e]; exact h1
  · by_cases e : i = k
    · subst e
      simp only [if_pos]
      exact ⟨own_grownT hr h.own (by decide) h2, hF⟩
    · simp only [if_neg e]
      obtain ⟨q1, q2⟩ := h.rows i (by omega)
      exact ⟨own_grownT q1 h.own (by decide) h2, q2⟩
theorem own_keepP {w X : World} {base k n : Nat} {T : TypeId} {v : Value} {xs : List Value} (h : w.ownsRow base T k v n xs) (hk : ∀ j, base ≤ j → j < w.heap.size → X.heap[j]? = w.heap[j]?) : X.ownsRow base T k v n xs := by
  refine ⟨h.1, ?_⟩
  rcases h.2 with h0 | ⟨g, cap, cur, e, h1, h2, h3⟩
  · exact .inl h0
  · exact .inr ⟨g, cap, cur, e, h1, (hk g h1 (Array.getElem?_eq_some_iff.1 h2).1).trans h2, h3⟩
set_option maxHeartbeats 8000000 in
theorem refsp_keep (R : List Rw) (g : List (List Nat)) (hg : gs R = g.map ns) (hok : GOk g) (N : Nat) (hN : R.length = N) (A : Option Addr) (c : Nat) (w : World) (h : RdG w w.heap.size A R) :
    Calls Try.prog 43 #[.agg #[.slice A N c]] w fun e w' => ∃ A2 c2 p, e = .returned (.slice A2 N c2) ∧ Sp g p ∧ (∀ X : World, (∀ k, w.heap.size ≤ k → k < w'.heap.size → X.heap[k]? = w'.heap[k]?) → w'.heap.size ≤ X.heap.size → RdV X X.heap.size A2 (zc (ns p))) ∧ Below w.heap.size w w' := by
  obtain ⟨i0, hi, hz0, hz1, hz2⟩ := info_parts info_intD
  obtain ⟨j0, hj, hy0, hy1, hy2⟩ := info_parts info_ints
  obtain ⟨p, hp⟩ := sp_ex g
  have hgl : g.length = N := by have := congrArg List.length hg; rw [gs_length, List.length_map] at this; omega
  have hN1 : N ≤ 100 := by have := hok.nodes; omega
  obtain ⟨w1, hw1⟩ : ∃ w1, w.alloc (.cells #[.slice A N c] 24) = w1 := ⟨_, rfl⟩
  have hb1 : Below w.heap.size w w1 := hw1 ▸ one_below w _
  have hs1 : w.heap.size < w1.heap.size := by rw [← hw1, World.size_alloc]; omega
  have kg1 : w1.cell? ⟨w.heap.size, 0, none⟩ = some (.slice A N c) := by rw [← hw1]; exact (cell_at (World.alloc_heap_new w _) 0).trans rfl
  have HKg : Hid (∀ V, Below w1.heap.size w1 V → V.cell? ⟨w.heap.size, 0, none⟩ = some (.slice A N c)) := fun V hV => (hV.cell (p := ⟨w.heap.size, 0, none⟩) hs1).trans kg1
  have HF : Hid (∀ (s : Nat) F, s < N → Fa g s F → ∀ V, Below w1.heap.size w1 V → Calls Try.prog 35 #[.agg #[.slice A N c], .int .i64 (s : Int)] V fun e w' => ∃ b cap, e = .returned (.slice (some ⟨b, 0, none⟩) N cap) ∧ w'.ownsRow V.heap.size 3 1 (.slice (some ⟨b, 0, none⟩) N cap) N (zc F) ∧ Below V.heap.size V w') := fun s F hs hF V hV => reffar_own R g hg hok N hN s hs F hF A c V (h.on (hb1.trans (hV.mono hb1.size)))
  have HH := Lib.hid (⟨hgl, hb1, hp, hok⟩ : g.length = N ∧ Below w.heap.size w w1 ∧ Sp g p ∧ GOk g)
  have HW := Lib.hid hw1
  rw [← hw1] at kg1
  clear hg hok hN hgl h hb1 hw1 hs1 hp
  go_enter Try.func43, Try.ntmps43
  go_wp2
  rw [HW.out]
  clear kg1
  go_loopw [4, 5] (fun v p wr => ∃ (i : Nat) (bl cp : Nat → Nat) (Fs : Nat → List Int), i ≤ N ∧ p = .int .i64 (i : Int) ∧ Fl g N w1 wr v i bl cp Fs) (fun _ p _ => N - (intOf p).toNat)
  case atStart => exact ⟨0, fun _ => 0, fun _ => 0, fun _ => [], Nat.zero_le _, rfl, Below.refl _ _, ⟨rfl, .inl ⟨rfl, rfl⟩⟩, fun i hi => absurd hi (Nat.not_lt_zero _)⟩
  case round =>
   as_aux_lemma =>
    obtain ⟨i, bl, cp, Fs, hi2, rfl, hL⟩ := hrel
    obtain ⟨Av, cv, rfl⟩ := own_sliceT hL.own
    by_cases hlt : i < N
    · have kg := HKg.out _ hL.low
      obtain ⟨F, hF⟩ := fa_ex g i
      have HC := Lib.hid (HF.out i F hlt hF wr hL.low)
      have HLl := Lib.hid (⟨hL, hF⟩ : _ ∧ _)
      clear hL hF
      go_wp2_with fail
      refine HC.out.mono ?_
      rintro e w4 ⟨b, cap, rfl, hr, hb⟩
      have HL4 : Hid (Fl g N w1 w4 (.slice Av i cv) i bl cp Fs ∧ w4.ownsRow w1.heap.size 3 1 (.slice (some ⟨b, 0, none⟩) N cap) N (zc F)) := ⟨HLl.out.1.on hb, own_base hr HLl.out.1.low.size⟩
      clear hr hb HC kg
      have HNw : Hid (∀ (k : Nat) (u : Value), [Value.slice (some ⟨b, 0, none⟩) N cap][k]? = some u → (w4.alloc (.cells #[.slice (some ⟨b, 0, none⟩) N cap] 32)).cell? ((⟨w4.heap.size, 0, none⟩ : Addr).add k) = some u) := news_row w4 [.slice (some ⟨b, 0, none⟩) N cap] 32
      have HOw : Hid (w4.ownsRow w1.heap.size 32 1 (.slice Av i cv) i ((List.range i).map fun i => .slice (some ⟨bl i, 0, none⟩) N (cp i))) := HL4.out.1.own
      have HSz : Hid (w1.heap.size ≤ w4.heap.size) := HL4.out.1.low.size
      go_wp2_with (at_builtin; go_loud (refine wpList_append_own _ rfl _ _ 22 rfl w1.heap.size 32 j0 (.slice none 0 0) 1 24 Try.underlying22 hj hy0 hy1 hy2 rfl (by decide) _ _ _ rfl (HOw.out.alloc _) ⟨w4.heap.size, 0, none⟩ 1 1 [.slice (some ⟨b, 0, none⟩) N cap] rfl rfl HNw.out (by simp [Value.oneCell']) (by unfold maxLen; omega) (by omega) (by have := HSz.out; simp; omega) ?_); intro v' w5 hown' hgrow _)
      have HFn : Hid (∃ bl cp Fs, Fl g N w1 w5 v' (i + 1) bl cp Fs) := ⟨_, _, _, (HL4.out.1.on (one_below w4 _)).app (HL4.out.2.alloc _) HLl.out.2 hown' hgrow⟩
      clear hown' hgrow
      go_roundw
      case rel => exact (by obtain ⟨bl2, cp2, Fs2, q⟩ := HFn.out; exact ⟨i + 1, bl2, cp2, Fs2, by omega, by go_num, q⟩)
      case measure => simp [intOf]; omega
    · obtain rfl : i = N := by omega
      have HL := Lib.hid hL; clear hL
      generalize wr = W1 at *
      go_wp2
      go_loopw [6, 7] (fun v q wq => ∃ y : Nat, y ≤ i ∧ q = .int .i64 (y : Int) ∧ wq.ownsRow W1.heap.size 3 1 v y (zc (ns (p.take y))) ∧ Below W1.heap.size W1 wq) (fun _ q _ => i - (intOf q).toNat)
      case atStart => exact ⟨0, Nat.zero_le _, rfl, ⟨rfl, .inl ⟨rfl, rfl⟩⟩, Below.refl _ _⟩
      case round =>
       as_aux_lemma =>
        obtain ⟨y, hy, rfl, hrow, hbel⟩ := hrel
        obtain ⟨Ao, co, rfl⟩ := own_sliceT hrow
        by_cases hlt2 : y < i
        · obtain ⟨gf, capf, e0, hgf, hgf2⟩ := HL.out.own.form (by omega)
          simp only [Value.slice.injEq] at e0
          obtain ⟨rfl, -, rfl⟩ := e0
          have HRow := Lib.hid (⟨hrow, hbel⟩ : _ ∧ _)
          have hcell : ∀ a, a < i → W1.cell? ⟨gf, a, none⟩ = some (.slice (some ⟨bl a, 0, none⟩) i (cp a)) := fun a ha => (own_cell HL.out.own (i := a) (by rw [List.getElem?_map, List.getElem?_range ha]; rfl)).1
          have hcel2 : ∀ a b, a < i → b < i → W1.cell? ⟨bl a, b, none⟩ = some (.int .i64 (fv (Fs a) b)) := fun a b ha hb => (own_cell (HL.out.rows a ha).1 (i := b) (fv_get _ _ (by rw [(HL.out.rows a ha).2.len, HH.out.1]; exact hb))).1
          have HCe : Hid (∀ V, Below W1.heap.size W1 V → (∀ a, a < i → V.cell? ⟨gf, a, none⟩ = some (.slice (some ⟨bl a, 0, none⟩) i (cp a))) ∧ ∀ a b, a < i → b < i → V.cell? ⟨bl a, b, none⟩ = some (.int .i64 (fv (Fs a) b))) := fun V hV => ⟨fun a ha => (hV.cell (World.block_lt_of_cell? _ _ (hcell a ha))).trans (hcell a ha), fun a b ha hb => (hV.cell (World.block_lt_of_cell? _ _ (hcel2 a b ha hb))).trans (hcel2 a b ha hb)⟩
          have HMu : Hid (∀ k, k < i → ((0 ≤ fv (Fs y) k ∧ 0 ≤ fv (Fs k) y) ↔ Mu g k y)) := fun k hk => by
            rw [(HL.out.rows y hlt2).2.reach k (by rw [HH.out.1]; exact hk), (HL.out.rows k hk).2.reach y (by rw [HH.out.1]; exact hlt2)]
            exact And.comm
          have HPy : Hid (qa p y ≤ y ∧ Mu g (qa p y) y ∧ ∀ k, k < i → Mu g k y → qa p y ≤ k) := ⟨HH.out.2.2.1.le y (by rw [HH.out.1]; exact hlt2), (HH.out.2.2.1.val y (by rw [HH.out.1]; exact hlt2)).1, fun k hk hm => (HH.out.2.2.1.val y (by rw [HH.out.1]; exact hlt2)).2 k (by rw [HH.out.1]; exact hk) hm⟩
          have HTk : Hid (p.take (y + 1) = p.take y ++ [qa p y]) := take_succ_qa (by rw [HH.out.2.2.1.len, HH.out.1]; exact hlt2)
          have t1 : (y : Int) < (i : Int) := by omega
          have t1b : (0 : Int) ≤ (y : Int) := by omega
          clear hrow hbel hcell hcel2
          generalize wr = V0 at *
          go_wp2
          go_loopw [8] (fun u wq => ∃ k : Nat, k ≤ qa p y ∧ u = .int .i64 (k : Int) ∧ wq = V0) (fun u _ => i - (intOf u).toNat)
          case atStart => exact ⟨0, Nat.zero_le _, rfl, rfl⟩
          case round =>
           as_aux_lemma =>
            obtain ⟨k, hk, rfl, hw⟩ := hrel
            subst hw
            obtain ⟨h1, h2, h3⟩ := HPy.out
            have hki : k < i := by omega
            have hmu := HMu.out k hki
            obtain ⟨f1, f2⟩ := HCe.out wr HRow.out.2
            have c1 := f1 y hlt2
            have c2 := f2 y k hlt2 hki
            have c3 := f1 k hki
            have c4 := f2 k y hki hlt2
            have t2 : (0 : Int) ≤ (k : Int) := by omega
            have t3 : (k : Int) < (i : Int) := by omega
            have hstep : ¬ Mu g k y → k + 1 ≤ qa p y := fun q => by
              rcases Nat.lt_or_ge k (qa p y) with r | r
              · exact r
              · have : k = qa p y := by omega
                exact absurd (this ▸ h2) q
            have hend : Mu g k y → k = qa p y := fun q => by have := h3 k hki q; omega
            clear f1 f2 h1 h2 h3
            generalize fv (Fs y) k = a at *
            generalize fv (Fs k) y = b at *
            by_cases ha : a < 0
            · have s1 : decide (a < 0) = true := decide_eq_true ha
              have HSt : Hid (k + 1 ≤ qa p y) := hstep (fun q => by have := (hmu.2 q).1; omega)
              clear hstep hend hmu ha c3 c4
              go_wp2
              go_roundw
              case rel => exact ⟨k + 1, HSt.out, by go_num, by first | rfl | trivial⟩
              case measure => simp [intOf]; omega
            · have s1 : decide (a < 0) = false := decide_eq_false ha
              by_cases hb : b < 0
              · have s2 : decide (b < 0) = true := decide_eq_true hb
                have HSt : Hid (k + 1 ≤ qa p y) := hstep (fun q => by have := (hmu.2 q).2; omega)
                clear hstep hend hmu ha hb
                go_wp2
                go_roundw
                case rel => exact ⟨k + 1, HSt.out, by go_num, by first | rfl | trivial⟩
                case measure => simp [intOf]; omega
              · have s2 : decide (b < 0) = false := decide_eq_false hb
                have HEn : Hid (k = qa p y) := hend (hmu.1 ⟨by omega, by omega⟩)
                clear hstep hend hmu ha hb
                have HNw : Hid (∀ (j : Nat) (u : Value), [Value.int .i64 (k : Int)][j]? = some u → (wr.alloc (.cells #[.int .i64 (k : Int)] 3)).cell? ((⟨wr.heap.size, 0, none⟩ : Addr).add j) = some u) := news_row wr [.int .i64 (k : Int)] 3
                go_wp2_with (at_builtin; go_loud (refine wpList_append_own _ rfl _ _ 32 rfl W1.heap.size 3 i0 (.int .i64 0) 1 8 Try.underlying32 hi hz0 hz1 hz2 rfl (by decide) _ _ _ rfl (HRow.out.1.alloc _) ⟨wr.heap.size, 0, none⟩ 1 1 [.int .i64 (k : Int)] rfl rfl HNw.out (by simp [Value.oneCell']) (by unfold maxLen; omega) (by omega) (by have := HRow.out.2.size; simp; omega) ?_); intro v' w5 hown' hgrow _)
                have HFn : Hid (w5.ownsRow W1.heap.size 3 1 v' (y + 1) (zc (ns (p.take (y + 1)))) ∧ Below W1.heap.size W1 w5) := by
                  refine ⟨?_, HRow.out.2.trans (((Below.refl W1.heap.size wr).alloc HRow.out.2.size _).trans (grown_low hgrow (HRow.out.1.alloc _) (by have := HRow.out.2.size; simp; omega)))⟩
                  rw [HTk.out, ← HEn.out]
                  have e : zc (ns (p.take y ++ [k])) = zc (ns (p.take y)) ++ [.int .i64 (k : Int)] := by unfold zc ns; simp
                  rw [e]; exact hown'
                clear hown' hgrow
                go_roundw
                case rel => exact ⟨y + 1, by omega, by go_num, HFn.out.1, HFn.out.2⟩
                case measure => simp [intOf]; omega
        · obtain rfl : y = i := by omega
          have hpt : p.take y = p := List.take_of_length_le (by rw [HH.out.2.2.1.len, HH.out.1]; exact Nat.le_refl _)
          rw [hpt] at hrow
          have HE : Hid ((∀ X : World, (∀ k, w.heap.size ≤ k → k < wr.heap.size → X.heap[k]? = wr.heap[k]?) → wr.heap.size ≤ X.heap.size → RdV X X.heap.size Ao (zc (ns p))) ∧ Below w.heap.size w wr) := ⟨fun X hk hs => own_rdvA (own_keepP hrow (fun j h1 h2 => hk j (by have q1 := HH.out.2.1.size; have q2 := HL.out.low.size; omega) h2)), HH.out.2.1.trans ((HL.out.low.trans (hbel.mono HL.out.low.size)).mono HH.out.2.1.size)⟩
          clear hrow hbel hpt
          go_wp2
          go_ret
          exact ⟨Ao, co, p, rfl, HH.out.2.2.1, HE.out.1, HE.out.2⟩
theorem refsp_ok (R : List Rw) (g : List (List Nat)) (hg : gs R = g.map ns) (hok : GOk g) (N : Nat) (hN : R.length = N) (A : Option Addr) (c : Nat) (w : World) (h : RdG w w.heap.size A R) :
    Calls Try.prog 43 #[.agg #[.slice A N c]] w fun e w' => ∃ A2 c2 p, e = .returned (.slice A2 N c2) ∧ Sp g p ∧ RdV w' w'.heap.size A2 (zc (ns p)) ∧ Below w.heap.size w w' :=
  (refsp_keep R g hg hok N hN A c w h).mono fun e w' ⟨A2, c2, p, q1, q2, q3, q4⟩ => ⟨A2, c2, p, q1, q2, q3 w' (fun _ _ _ => rfl) (Nat.le_refl _), q4⟩
end

section
set_option maxRecDepth 100000
set_option linter.unusedVariables false
open Go.RowKit Go.Shelf

theorem mem_nsR (l : List Nat) (x : Nat) : ((x : Int) ∈ ns l) ↔ x ∈ l := by
  unfold ns
  rw [List.mem_map]
  exact ⟨fun ⟨y, h1, h2⟩ => (show y = x by omega) ▸ h1, fun h => ⟨x, h, rfl⟩⟩
/-- The least one from i on that may stand next, or -1. -/
def LeF (g : List (List Nat)) (o : List Nat) (i : Nat) (a : Int) : Prop := (a = -1 ∧ ∀ x, i ≤ x → ¬ Fre g o x) ∨ ∃ x : Nat, a = (x : Int) ∧ i ≤ x ∧ Fre g o x ∧ ∀ z, i ≤ z → Fre g o z → x ≤ z
theorem LeF.yes {g : List (List Nat)} {o : List Nat} {i : Nat} (h : Fre g o i) : LeF g o i (i : Int) := .inr ⟨i, rfl, Nat.le_refl _, h, fun z hz _ => hz⟩
theorem LeF.no {g : List (List Nat)} {o : List Nat} {i : Nat} {a : Int} (h : LeF g o (i + 1) a) (hn : ¬ Fre g o i) : LeF g o i a := by
  rcases h with ⟨h1, h2⟩ | ⟨x, h1, h2, h3, h4⟩
  · refine .inl ⟨h1, fun x hx => ?_⟩
    by_cases e : x = i
    · subst e; exact hn
    · exact h2 x (by omega)
  · refine .inr ⟨x, h1, by omega, h3, fun z hz hf => ?_⟩
    by_cases e : z = i
    · subst e; exact absurd hf hn
    · exact h4 z (by omega) hf
theorem LeF.fin {g : List (List Nat)} {o : List Nat} {a : Int} (h : LeF g o 0 a) : (a = -1 ∧ ∀ x, ¬ Fre g o x) ∨ ∃ x : Nat, a = (x : Int) ∧ Nxt g o x := by
  rcases h with ⟨h1, h2⟩ | ⟨x, h1, _, h3, h4⟩
  · exact .inl ⟨h1, fun x => h2 x (Nat.zero_le _)⟩
  · exact .inr ⟨x, h1, h3, fun z hz => h4 z (Nat.zero_le _) hz⟩
/-- So far as the first k nodes say. -/
def FrK (g : List (List Nat)) (o : List Nat) (i k : Nat) (b : Bool) : Prop := (b = true → i ∉ o ∧ ∀ y, y < k → i ∈ row g y → y ∈ o) ∧ (b = false → ¬ Fre g o i)
theorem FrK.start {g : List (List Nat)} {o : List Nat} {i : Nat} {b : Bool} (h : b = decide (i ∉ o)) : FrK g o i 0 b := by
  subst h
  exact ⟨fun q => ⟨by simpa using q, fun y hy => absurd hy (Nat.not_lt_zero _)⟩, fun q h => by have := h.2.1; simp at q; exact this q⟩
theorem FrK.next {g : List (List Nat)} {o : List Nat} {i k : Nat} {b : Bool} (h : FrK g o i k true) (hb : b = (decide (k ∈ o) || !decide (i ∈ row g k))) : FrK g o i (k + 1) b := by
  obtain ⟨h1, h2⟩ := h.1 rfl
  subst hb
  refine ⟨fun q => ⟨h1, fun y hy hm => ?_⟩, fun q hf => ?_⟩
  · by_cases e : y = k
    · subst e
      simp only [Bool.or_eq_true, decide_eq_true_eq, Bool.not_eq_true', decide_eq_false_iff_not] at q
      exact q.elim id (fun r => absurd hm r)
    · exact h2 y (by omega) hm
  · simp only [Bool.or_eq_false_iff, decide_eq_false_iff_not, Bool.not_eq_false', decide_eq_true_eq] at q
    exact q.1 (hf.2.2 k q.2)
theorem FrK.fin {g : List (List Nat)} {o : List Nat} {i N : Nat} (h : FrK g o i N true) (hN : g.length = N) (hi : i < N) : Fre g o i := by
  obtain ⟨h1, h2⟩ := h.1 rfl
  exact ⟨by omega, h1, fun y hy => h2 y (by rw [← hN]; exact row_lt hy) hy⟩
/-- A list and whether it is an order come back. -/
def SoP (w : World) (g : List (List Nat)) (e : Ending) (w' : World) : Prop := ∃ A2 n2 c2 o b, e = .returned (.tuple #[.slice A2 n2 c2, .bool b]) ∧ o.length = n2 ∧ OrP g o (if b then 0 else 4) ∧ RdV w' w'.heap.size A2 (zc (ns o)) ∧ Below w.heap.size w w'
set_option maxHeartbeats 8000000 in
theorem refso_ok (R : List Rw) (g : List (List Nat)) (hg : gs R = g.map ns) (hok : GOk g) (N : Nat) (hN : R.length = N) (A : Option Addr) (c : Nat) (w : World) (h : RdG w w.heap.size A R) :
    Calls Try.prog 45 #[.agg #[.slice A N c]] w (SoP w g) := by
  obtain ⟨i0, hi, hz0, hz1, hz2⟩ := info_parts info_intD
  have hgl : g.length = N := by have := congrArg List.length hg; rw [gs_length, List.length_map] at this; omega
  have hN1 : N ≤ 100 := by have := hok.nodes; omega
  obtain ⟨w1, hw1⟩ : ∃ w1, w.alloc (.cells #[.slice A N c] 24) = w1 := ⟨_, rfl⟩
  have hb1 : Below w.heap.size w w1 := hw1 ▸ one_below w _
  have hs1 : w.heap.size < w1.heap.size := by rw [← hw1, World.size_alloc]; omega
  have kg1 : w1.cell? ⟨w.heap.size, 0, none⟩ = some (.slice A N c) := by rw [← hw1]; exact (cell_at (World.alloc_heap_new w _) 0).trans rfl
  have HKg : Hid (∀ V, Below w1.heap.size w1 V → V.cell? ⟨w.heap.size, 0, none⟩ = some (.slice A N c)) := fun V hV => (hV.cell (p := ⟨w.heap.size, 0, none⟩) hs1).trans kg1
  have HLd : Hid (∀ k i, k < N → i < N → ∀ V, Below w1.heap.size w1 V → Calls Try.prog 38 #[.agg #[.slice A N c], .int .i64 (k : Int), .int .i64 (i : Int)] V fun e w' => e = .returned (.bool (decide (i ∈ row g k))) ∧ Below V.heap.size V w') := fun k i hk hi V hV => by
    have := leads_any R N hN A c k hk (i : Int) V (h.on (hb1.trans (hV.mono hb1.size)))
    rw [row_ofD R g hg k (by rw [hgl]; exact hk)] at this
    rwa [show decide ((i : Int) ∈ ns (row g k)) = decide (i ∈ row g k) from decide_eq_decide.2 (mem_nsR _ _)] at this
  have HH := Lib.hid (⟨hgl, hb1, hok⟩ : g.length = N ∧ Below w.heap.size w w1 ∧ GOk g)
  have HW := Lib.hid hw1
  rw [← hw1] at kg1
  clear hg hok hN hgl h hb1 hw1 hs1
  go_enter Try.func45, Try.ntmps45
  go_wp2
  rw [HW.out]
  clear kg1
  go_loopw [5] (fun v wr => ∃ o : List Nat, wr.ownsRow w1.heap.size 3 1 v o.length (zc (ns o)) ∧ Run g o ∧ Below w1.heap.size w1 wr) (fun v _ => N - slN v)
  case atStart => exact ⟨[], ⟨rfl, .inl ⟨rfl, rfl⟩⟩, run_nil g, Below.refl _ _⟩
  case round =>
   as_aux_lemma =>
    obtain ⟨o, hrow, hR, hbel⟩ := hrel
    obtain ⟨Ao, co, rfl⟩ := own_sliceT hrow
    have hle := hR.le
    rw [HH.out.1] at hle
    by_cases hlt : o.length < N
    · have HO := Lib.hid (⟨hrow, hR, hbel⟩ : _ ∧ _ ∧ _)
      obtain ⟨ol, hol⟩ : ∃ ol, o.length = ol := ⟨_, rfl⟩
      have HOl := Lib.hid hol
      rw [hol] at hlt HO ⊢
      have HHas : Hid (∀ (z : Nat) (V : World), Below wr.heap.size wr V → Calls Try.prog 39 #[.slice Ao ol co, .int .i64 (z : Int)] V fun e w' => e = .returned (.bool (decide (z ∈ o))) ∧ w' = V) := fun z V hV =>
        hasInt_any (ns o) ol ((ns_length o).trans hol) (by omega) (z : Int) (decide (z ∈ o)) (by
          by_cases q : z ∈ o
          · exact .inl ⟨decide_eq_true q, (mem_nsR o z).2 q⟩
          · exact .inr ⟨decide_eq_false q, fun r => q ((mem_nsR o z).1 r)⟩) Ao co V (by
          have := own_rdvA HO.out.1
          exact this.on hV)
      have a1 : IntKind.i64.wrap ((N : Int) - 1) = (N : Int) - 1 := by rw [IntKind.wrap_i64]; omega
      clear hrow hR hbel hol hle
      generalize wr = V0 at *
      go_wp2
      go_loopw [6, 7] (fun a p wq => ∃ (k : Nat) (u z : Int), k ≤ N ∧ z + 1 = (k : Int) ∧ p = .int .i64 z ∧ a = .int .i64 u ∧ LeF g o k u ∧ Below V0.heap.size V0 wq) (fun _ p _ => (intOf p + 1).toNat)
      case atStart => exact ⟨N, -1, (N : Int) - 1, Nat.le_refl _, by omega, rfl, rfl, .inl ⟨rfl, fun x hx hf => by have := hf.1; have := HH.out.1; omega⟩, Below.refl _ _⟩
      case round =>
       as_aux_lemma =>
        obtain ⟨k, u, z, hk, hzk, rfl, rfl, hL, hb⟩ := hrel
        by_cases h0 : k = 0
        · obtain rfl : z = -1 := by omega
          subst h0
          have HB1 : Hid (Below w1.heap.size w1 wr) := HO.out.2.2.trans (hb.mono HO.out.2.2.size)
          have HOr : Hid (wr.ownsRow w1.heap.size 3 1 (.slice Ao ol co) ol (zc (ns o))) := by
            have h1 := HO.out.1
            refine ⟨h1.1, ?_⟩
            rcases h1.2 with q | ⟨g1, cap, cur, e, q1, q2, q3⟩
            · exact .inl q
            · exact .inr ⟨g1, cap, cur, e, q1, (hb.block g1 (Array.getElem?_eq_some_iff.1 q2).1).trans q2, q3⟩
          have HLf := Lib.hid hL.fin
          clear hL hb
          rcases HLf.out with ⟨rfl, hst⟩ | ⟨x, rfl, hx⟩
          · have HF : Hid (OrP g [] 4 ∧ Below w.heap.size w wr) := ⟨.inr ⟨rfl, rfl, Run.stuck HH.out.2.2.bdd (by rw [HH.out.1, HOl.out]; exact hlt) hst⟩, HH.out.2.1.trans (HB1.out.mono HH.out.2.1.size)⟩
            clear hst
            go_wp2
            go_ret2
            exact ⟨none, 0, 0, [], false, rfl, rfl, HF.out.1, .inl rfl, HF.out.2⟩
          · have HRn : Hid (Run g (o ++ [x])) := HO.out.2.1.snoc hx
            have t1 : decide ((x : Int) < 0) = false := by simp
            have HNw : Hid (∀ (j : Nat) (u : Value), [Value.int .i64 (x : Int)][j]? = some u → (wr.alloc (.cells #[.int .i64 (x : Int)] 3)).cell? ((⟨wr.heap.size, 0, none⟩ : Addr).add j) = some u) := news_row wr [.int .i64 (x : Int)] 3
            clear hx
            go_wp2_with (at_builtin; go_loud (refine wpList_append_own _ rfl _ _ 32 rfl w1.heap.size 3 i0 (.int .i64 0) 1 8 Try.underlying32 hi hz0 hz1 hz2 rfl (by decide) _ _ _ rfl (HOr.out.alloc _) ⟨wr.heap.size, 0, none⟩ 1 1 [.int .i64 (x : Int)] rfl rfl HNw.out (by simp [Value.oneCell']) (by unfold maxLen; omega) (by omega) (by have := HB1.out.size; simp; omega) ?_); intro v' w5 hown' hgrow _)
            obtain ⟨Av2, cv2, rfl⟩ := own_sliceT hown'
            have HFn : Hid (w5.ownsRow w1.heap.size 3 1 (.slice Av2 (ol + 1) cv2) (o ++ [x]).length (zc (ns (o ++ [x]))) ∧ Below w1.heap.size w1 w5) := by
              refine ⟨?_, HB1.out.trans (((Below.refl w1.heap.size wr).alloc HB1.out.size _).trans (grown_low hgrow (HOr.out.alloc _) (by have := HB1.out.size; simp; omega)))⟩
              rw [List.length_append, List.length_singleton, HOl.out]
              have e : zc (ns (o ++ [x])) = zc (ns o) ++ [.int .i64 (x : Int)] := by unfold zc ns; simp
              rw [e]; exact hown'
            clear hown' hgrow
            go_roundw
            case rel => exact ⟨o ++ [x], HFn.out.1, HRn.out, HFn.out.2⟩
            case measure => simp [slN]; omega
        · obtain ⟨i, rfl⟩ : ∃ i : Nat, k = i + 1 := ⟨k - 1, by omega⟩
          obtain rfl : z = (i : Int) := by omega
          have hiN : i < N := by omega
          have HC := Lib.hid (HHas.out i wr hb)
          have HLu := Lib.hid (⟨hL, hb⟩ : _ ∧ _)
          have HFs : Hid (FrK g o i 0 (!decide (i ∈ o))) := FrK.start (by simp)
          have t1 : decide ((0 : Int) ≤ (i : Int)) = true := by simp
          have a2 : IntKind.i64.wrap ((i : Int) - 1) = (i : Int) - 1 := by rw [IntKind.wrap_i64]; omega
          clear hL hb h0 hzk
          generalize decide (i ∈ o) = b0 at *
          go_wp2_with fail
          refine HC.out.mono ?_
          rintro e w4 ⟨rfl, rfl⟩
          clear HC
          generalize w4 = V1 at *
          go_wp2
          go_loopw [8, 9] (fun a p wq => ∃ (j : Nat) (b : Bool), j ≤ N ∧ p = .int .i64 (j : Int) ∧ a = .bool b ∧ FrK g o i j b ∧ Below V0.heap.size V0 wq) (fun _ p _ => N - (intOf p).toNat)
          case atStart => exact ⟨0, _, Nat.zero_le _, rfl, rfl, HFs.out, HLu.out.2⟩
          case round =>
           as_aux_lemma =>
            obtain ⟨j, b, hj, rfl, rfl, hF, hb⟩ := hrel
            cases b with
            | false =>
              have HLn : Hid (LeF g o i u) := HLu.out.1.no (hF.2 rfl)
              have HBw := Lib.hid hb
              clear hF hb
              by_cases hjN : j < N
              · have t2 : (j : Int) < (N : Int) := by omega
                go_wp2
                go_roundw
                case rel => exact ⟨i, u, (i : Int) - 1, by omega, by omega, rfl, rfl, HLn.out, HBw.out⟩
                case measure => simp [intOf]
              · have t2 : decide ((j : Int) < (N : Int)) = false := by simp; omega
                go_wp2
                go_roundw
                case rel => exact ⟨i, u, (i : Int) - 1, by omega, by omega, rfl, rfl, HLn.out, HBw.out⟩
                case measure => simp [intOf]
            | true =>
              by_cases hjN : j < N
              · have t2 : (j : Int) < (N : Int) := by omega
                have HC := Lib.hid (HHas.out j wr hb)
                have HLd2 := Lib.hid (HLd.out j i hjN hiN wr (HO.out.2.2.trans (hb.mono HO.out.2.2.size)))
                have HNx : Hid (∀ b, b = (decide (j ∈ o) || !decide (i ∈ row g j)) → FrK g o i (j + 1) b) := fun b hb => hF.next hb
                have kg := HKg.out wr (HO.out.2.2.trans (hb.mono HO.out.2.2.size))
                have HBw := Lib.hid hb
                clear hF hb
                generalize decide (j ∈ o) = b1 at *
                generalize decide (i ∈ row g j) = b2 at *
                cases b1 with
                | true =>
                  have HN2 := Lib.hid (HNx.out true rfl)
                  go_wp2_with fail
                  refine HC.out.mono ?_
                  rintro e w5 ⟨rfl, rfl⟩
                  go_wp2
                  go_roundw
                  case rel => exact ⟨j + 1, true, by omega, by go_num, rfl, HN2.out, HBw.out⟩
                  case measure => simp [intOf]; omega
                | false =>
                  have HN2 := Lib.hid (HNx.out (!b2) (by simp))
                  go_wp2_with fail
                  refine HC.out.mono ?_
                  rintro e w5 ⟨rfl, rfl⟩
                  clear HC
                  go_wp2_with fail
                  refine HLd2.out.mono ?_
                  rintro e w6 ⟨rfl, b6⟩
                  have HB6 : Hid (Below V0.heap.size V0 w6) := HBw.out.trans (b6.mono HBw.out.size)
                  clear b6
                  go_wp2
                  go_roundw
                  case rel => exact ⟨j + 1, _, by omega, by go_num, rfl, HN2.out, HB6.out⟩
                  case measure => simp [intOf]; omega
              · obtain rfl : j = N := by omega
                have HLn : Hid (LeF g o i (i : Int)) := LeF.yes (hF.fin HH.out.1 hiN)
                have HBw := Lib.hid hb
                have t2 : decide ((j : Int) < (j : Int)) = false := by simp
                clear hF hb
                go_wp2
                go_roundw
                case rel => exact ⟨i, (i : Int), (i : Int) - 1, by omega, by omega, rfl, rfl, HLn.out, HBw.out⟩
                case measure => simp [intOf]
    · have hl : o.length = N := by omega
      have HF : Hid (OrP g o 0 ∧ RdV wr wr.heap.size Ao (zc (ns o)) ∧ Below w.heap.size w wr) := ⟨.inl ⟨rfl, hR, by rw [hl, HH.out.1]⟩, own_rdvA hrow, HH.out.2.1.trans (hbel.mono HH.out.2.1.size)⟩
      have t1 : decide ((o.length : Int) < (N : Int)) = false := by simp; omega
      clear hrow hR hbel
      go_wp2
      go_ret2
      exact ⟨Ao, _, co, o, true, rfl, rfl, HF.out.1, HF.out.2.1, HF.out.2.2⟩
end

section
set_option maxRecDepth 100000
set_option linter.unusedVariables false
open Go.RowKit Go.Shelf

/-- Does an arc lead from part a to part b, from one of the first i nodes? -/
def ldB (g : List (List Nat)) (p : List Nat) (a b i : Nat) : Bool := (List.range i).any fun y => decide (ofP p y = a) && (row g y).any fun x => decide (ofP p x = b)
theorem ldB_succ (g : List (List Nat)) (p : List Nat) (a b i : Nat) : ldB g p a b (i + 1) = (ldB g p a b i || (decide (ofP p i = a) && (row g i).any fun x => decide (ofP p x = b))) := by
  unfold ldB; rw [List.range_succ, List.any_append]; simp
theorem ldB_iff {g : List (List Nat)} {p : List Nat} {a b N : Nat} (hN : g.length = N) : ldB g p a b N = true ↔ ∃ i x, x ∈ row g i ∧ ofP p i = a ∧ ofP p x = b := by
  unfold ldB
  simp only [List.any_eq_true, List.mem_range, Bool.and_eq_true, decide_eq_true_eq]
  constructor
  · rintro ⟨i, _, h1, x, h2, h3⟩; exact ⟨i, x, h2, h1, h3⟩
  · rintro ⟨i, x, h1, h2, h3⟩; exact ⟨i, by rw [← hN]; exact row_lt h1, h2, x, h1, h3⟩
/-- The lists of what is shrunk, up to part a and number b. -/
def shr (g : List (List Nat)) (p : List Nat) (a b r : Nat) : List Nat := if r < a then row (gsh g p) r else if r = a then (List.range b).filter (fun x => decide (x ∈ row (gsh g p) a)) else []
theorem shr_next (g : List (List Nat)) (p : List Nat) (a b r : Nat) : shr g p a (b + 1) r = if r = a ∧ b ∈ row (gsh g p) a then shr g p a b a ++ [b] else shr g p a b r := by
  unfold shr
  by_cases h1 : r < a
  · rw [if_pos h1, if_neg (by omega), if_pos h1]
  · rw [if_neg h1]
    by_cases h2 : r = a
    · subst h2
      rw [if_pos rfl, List.range_succ, List.filter_append]
      by_cases h3 : b ∈ row (gsh g p) r
      · rw [if_pos ⟨rfl, h3⟩, if_neg (by omega), if_pos rfl]; simp [h3]
      · rw [if_neg (fun q => h3 q.2), if_neg (by omega), if_pos rfl]; simp [h3]
    · rw [if_neg h2, if_neg (fun q => h2 q.1), if_neg h1, if_neg h2]
theorem shr_row {g : List (List Nat)} {p : List Nat} (hok : GOk g) (hp : Sp g p) {M : Nat} (hM : (gsh g p).length = M) (a r : Nat) : shr g p a M r = shr g p (a + 1) 0 r := by
  unfold shr
  by_cases h1 : r < a
  · rw [if_pos h1, if_pos (by omega)]
  · rw [if_neg h1]
    by_cases h2 : r = a
    · subst h2
      rw [if_pos rfl, if_pos (by omega)]
      refine ris_ext ((List.pairwise_lt_range).filter _) (row_ris (hp.gsh_ok hok) r) (fun x => ?_)
      simp only [List.mem_filter, List.mem_range, decide_eq_true_eq]
      exact ⟨fun q => q.2, fun q => ⟨by rw [← hM]; exact (hp.gsh_ok hok).bdd r x q, q⟩⟩
    · rw [if_neg h2, if_neg (by omega)]
      by_cases h3 : r = a + 1
      · rw [if_pos h3]; simp
      · rw [if_neg h3]
theorem shr_start (g : List (List Nat)) (p : List Nat) (r : Nat) : shr g p 0 0 r = [] := by
  unfold shr
  rw [if_neg (Nat.not_lt_zero _)]
  split <;> simp
theorem shr_end (g : List (List Nat)) (p : List Nat) {M r : Nat} (h : r < M) : shr g p M 0 r = row (gsh g p) r := by unfold shr; rw [if_pos h]
theorem shr_len (g : List (List Nat)) (p : List Nat) (a b r : Nat) (hb : b ≤ 100) (hl : ∀ r, (row (gsh g p) r).length ≤ 600) : (shr g p a b r).length ≤ 600 := by
  unfold shr
  split
  · exact hl r
  · split
    · have := List.length_filter_le (fun x => decide (x ∈ row (gsh g p) a)) (List.range b)
      rw [List.length_range] at this; omega
    · simp
/-- The first round: each node's number so far, and as many empty lists as there are parts. -/
structure L1 (w1 W : World) (B1 : Nat) (q : List Nat) (v : Value) (m : Nat) : Prop where
  low : Below w1.heap.size w1 W
  ge : w1.heap.size ≤ B1
  hq : W.heap[B1]? = some (.cells (zc (ns q)).toArray 3 (0, 0))
  hb : W.heap[B1 + 1]? = some (.cells #[v] 24 (0, 0))
  sz : B1 + 2 ≤ W.heap.size
  own : W.ownsRow (B1 + 2) 32 1 v m (List.replicate m (.slice none 0 0))
theorem L1.cells {w1 W : World} {B1 m : Nat} {q : List Nat} {v : Value} (h : L1 w1 W B1 q v m) : W.cell? ⟨B1 + 1, 0, none⟩ = some v ∧ W.frozen? ⟨B1 + 1, 0, none⟩ = false := ⟨(cell_at h.hb 0).trans rfl, frz_at h.hb 0⟩
theorem L1.at_ {w1 W : World} {B1 m : Nat} {q : List Nat} {v : Value} (h : L1 w1 W B1 q v m) (i : Nat) (hi : i < q.length) : W.cell? ⟨B1, i, none⟩ = some (.int .i64 (qa q i : Int)) ∧ W.frozen? ⟨B1, i, none⟩ = false := by
  refine ⟨(cell_at h.hq i).trans ?_, frz_at h.hq i⟩
  rw [List.getElem?_toArray]
  have := fv_get (ns q) i (by rw [ns_length]; exact hi)
  rwa [fv_ns q i hi] at this
theorem L1.set {w1 W : World} {B1 m : Nat} {q : List Nat} {v : Value} (h : L1 w1 W B1 q v m) (i x : Nat) : L1 w1 (W.setCell ⟨B1, i, none⟩ (.int .i64 (x : Int))) B1 (q.set i x) v m := by
  have hk : ∀ b, b ≠ B1 → (W.setCell ⟨B1, i, none⟩ (.int .i64 (x : Int))).heap[b]? = W.heap[b]? := fun b e => Below.heap_setCell _ _ _ _ e
  refine ⟨h.low.setCell (p := ⟨B1, i, none⟩) h.ge _, h.ge, ?_, (hk _ (by omega)).trans h.hb, by have := h.sz; simpa [World.setCell] using this, own_elsewhere h.own (fun j hj => hk j (by omega))⟩
  rw [heap_set_same _ _ _ _ _ _ h.hq, List.setIfInBounds_toArray]
  unfold zc ns
  rw [List.map_set, List.map_set]
theorem L1.alloc {w1 W : World} {B1 m : Nat} {q : List Nat} {v : Value} (h : L1 w1 W B1 q v m) (o : Obj) : L1 w1 (W.alloc o) B1 q v m := by
  have hb := one_below W o
  exact ⟨h.low.trans (hb.mono h.low.size), h.ge, (hb.block _ (by have := h.sz; omega)).trans h.hq, (hb.block _ (by have := h.sz; omega)).trans h.hb, by rw [World.size_alloc]; have := h.sz; omega, h.own.alloc _⟩
/-- One list more. -/
theorem L1.app {w1 W X : World} {B1 m : Nat} {q : List Nat} {v v' : Value} (h : L1 w1 W B1 q v m) (h1 : X.ownsRow (B1 + 2) 32 1 v' (m + 1) (List.replicate m (.slice none 0 0) ++ [.slice none 0 0])) (h2 : W.grownBy X v.ownBlock) :
    (X.cell? ⟨B1 + 1, 0, none⟩ = some v ∧ X.frozen? ⟨B1 + 1, 0, none⟩ = false) ∧ L1 w1 (X.setCell ⟨B1 + 1, 0, none⟩ v') B1 q v' (m + 1) := by
  have hb := grown_low h2 h.own h.sz
  have e1 := (hb.block _ (by omega : B1 < B1 + 2)).trans h.hq
  have e2 := (hb.block _ (by omega : B1 + 1 < B1 + 2)).trans h.hb
  have hk : ∀ b, b ≠ B1 + 1 → (X.setCell ⟨B1 + 1, 0, none⟩ v').heap[b]? = X.heap[b]? := fun b e => Below.heap_setCell _ _ _ _ e
  refine ⟨⟨(cell_at e2 0).trans rfl, frz_at e2 0⟩, (h.low.trans (hb.mono (by have := h.ge; omega))).setCell (p := ⟨B1 + 1, 0, none⟩) (by show w1.heap.size ≤ B1 + 1; have := h.ge; omega) _, h.ge, (hk _ (by omega)).trans e1, by rw [heap_set_same _ _ _ _ _ _ e2]; simp, by have := h.sz; have := h2.size; simp [World.setCell]; omega, own_elsewhere ?_ (fun j hj => hk j (by omega))⟩
  rw [List.replicate_succ']; exact h1
/-- The rounds behind: the lists, each in a row of its own. -/
structure L2 (w1 W : World) (B1 : Nat) (q : List Nat) (O M cO : Nat) (v : Nat → Value) (rows : Nat → List Nat) : Prop where
  low : Below w1.heap.size w1 W
  ge : w1.heap.size ≤ B1
  hq : W.heap[B1]? = some (.cells (zc (ns q)).toArray 3 (0, 0))
  hb : W.heap[B1 + 1]? = some (.cells #[.slice (some ⟨O, 0, none⟩) M cO] 24 (0, 0))
  geO : B1 + 2 ≤ O
  cur : ∃ cs : Array Value, W.heap[O]? = some (.cells cs 32 (0, 0)) ∧ ∀ j, j < M → cs[j]? = some (v j)
  own : ∀ j, j < M → W.ownsRow (B1 + 2) 3 1 (v j) (rows j).length (zc (ns (rows j)))
  dif : ∀ j k, j < M → k < M → j ≠ k → ∀ g, (v j).ownBlock = some g → (v k).ownBlock ≠ some g
theorem L2.congr {w1 W : World} {B1 O M cO : Nat} {q : List Nat} {v : Nat → Value} {rows rows' : Nat → List Nat} (h : L2 w1 W B1 q O M cO v rows) (e : ∀ j, j < M → rows j = rows' j) : L2 w1 W B1 q O M cO v rows' :=
  ⟨h.low, h.ge, h.hq, h.hb, h.geO, h.cur, fun j hj => e j hj ▸ h.own j hj, h.dif⟩
theorem L2.lt {w1 W : World} {B1 O M cO : Nat} {q : List Nat} {v : Nat → Value} {rows : Nat → List Nat} (h : L2 w1 W B1 q O M cO v rows) : O < W.heap.size := by obtain ⟨cs, h1, _⟩ := h.cur; exact (Array.getElem?_eq_some_iff.1 h1).1
theorem L2.cell {w1 W : World} {B1 O M cO : Nat} {q : List Nat} {v : Nat → Value} {rows : Nat → List Nat} (h : L2 w1 W B1 q O M cO v rows) {j : Nat} (hj : j < M) : W.cell? ⟨O, j, none⟩ = some (v j) ∧ W.frozen? ⟨O, j, none⟩ = false := by
  obtain ⟨cs, h1, h2⟩ := h.cur
  exact ⟨(cell_at h1 j).trans (h2 j hj), frz_at h1 j⟩
theorem L2.box {w1 W : World} {B1 O M cO : Nat} {q : List Nat} {v : Nat → Value} {rows : Nat → List Nat} (h : L2 w1 W B1 q O M cO v rows) : W.cell? ⟨B1 + 1, 0, none⟩ = some (.slice (some ⟨O, 0, none⟩) M cO) := (cell_at h.hb 0).trans rfl
theorem L2.at_ {w1 W : World} {B1 O M cO : Nat} {q : List Nat} {v : Nat → Value} {rows : Nat → List Nat} (h : L2 w1 W B1 q O M cO v rows) (i : Nat) (hi : i < q.length) : W.cell? ⟨B1, i, none⟩ = some (.int .i64 (qa q i : Int)) := by
  refine (cell_at h.hq i).trans ?_
  rw [List.getElem?_toArray]
  have := fv_get (ns q) i (by rw [ns_length]; exact hi)
  rwa [fv_ns q i hi] at this
theorem L2.drew {w1 W : World} {B1 O M cO : Nat} {q : List Nat} {v : Nat → Value} {rows : Nat → List Nat} (h : L2 w1 W B1 q O M cO v rows) : L2 w1 W.drew B1 q O M cO v rows := ⟨h.low.drew, h.ge, h.hq, h.hb, h.geO, h.cur, h.own, h.dif⟩
/-- One number behind a list: the append, and the store of the list. -/
theorem L2.app {w1 W X : World} {B1 O M cO a x k : Nat} {q : List Nat} {v : Nat → Value} {rows : Nat → List Nat} {v' : Value} {o : Obj} (h : L2 w1 W B1 q O M cO v rows) (ha : a < M) (hk : (rows a).length = k)
    (hg : (W.alloc o).grownBy X (v a).ownBlock) (h1 : X.ownsRow (B1 + 2) 3 1 v' (k + 1) (zc (ns (rows a)) ++ [.int .i64 (x : Int)])) (h3 : v'.ownBlock = (v a).ownBlock ∨ v'.ownBlock = some (W.alloc o).heap.size) :
    (X.cell? ⟨B1 + 1, 0, none⟩ = some (.slice (some ⟨O, 0, none⟩) M cO) ∧ X.cell? ⟨O, a, none⟩ = some (v a)) ∧ X.frozen? ⟨O, a, none⟩ = false ∧ L2 w1 (X.setCell ⟨O, a, none⟩ v') B1 q O M cO (fun j => if j = a then v' else v j) (fun j => if j = a then rows a ++ [x] else rows j) := by
  have hlt := h.lt
  have hsz : (W.alloc o).heap.size = W.heap.size + 1 := World.size_alloc _ _
  have hal := one_below W o
  have hob : ∀ j, j < M → ∀ g, (v j).ownBlock = some g → B1 + 2 ≤ g ∧ g < W.heap.size ∧ g ≠ O := fun j hj g e => by
    obtain ⟨q1, cs, q2⟩ := own_int_block (h.own j hj) e
    refine ⟨q1, (Array.getElem?_eq_some_iff.1 q2).1, fun e2 => ?_⟩
    obtain ⟨cs2, q3, _⟩ := h.cur
    rw [e2, q3] at q2
    simp only [Option.some.injEq, Obj.cells.injEq] at q2
    exact absurd q2.2.1 (by decide)
  have hkp : ∀ b, b < W.heap.size → (v a).ownBlock ≠ some b → X.heap[b]? = W.heap[b]? := fun b hb hne => (hg.block b (by omega) (fun e => hne e.symm)).trans (hal.block b hb)
  have hno : ∀ b, b < B1 + 2 → (v a).ownBlock ≠ some b := fun b hb e => by have := (hob a ha b e).1; omega
  have hnO : (v a).ownBlock ≠ some O := fun e => (hob a ha O e).2.2 rfl
  have hB : B1 + 2 ≤ W.heap.size := by have := h.geO; omega
  have e1 := (hkp B1 (by omega) (hno _ (by omega))).trans h.hq
  have e2 := (hkp (B1 + 1) (by omega) (hno _ (by omega))).trans h.hb
  obtain ⟨cs, c1, c2⟩ := h.cur
  have e3 := (hkp O hlt hnO).trans c1
  have hse : ∀ b, b ≠ O → (X.setCell ⟨O, a, none⟩ v').heap[b]? = X.heap[b]? := fun b e => Below.heap_setCell _ _ _ _ e
  have hlow : Below w1.heap.size w1 X := by
    refine (h.low.trans (hal.mono h.low.size)).trans ?_
    exact (Below.refl _ _).grown hg (by have := h.low.size; omega) (fun b e => by have := (hob a ha b e).1; have := h.ge; omega)
  have hv'O : v'.ownBlock ≠ some O := fun e => by
    rcases h3 with q | q
    · exact hnO (q.symm.trans e)
    · have := Option.some.inj (q.symm.trans e); omega
  have hcs : a < cs.size := by have := c2 a ha; exact (Array.getElem?_eq_some_iff.1 this).1
  refine ⟨⟨(cell_at e2 0).trans rfl, (cell_at e3 a).trans (c2 a ha)⟩, frz_at e3 a, hlow.setCell (p := ⟨O, a, none⟩) (by show w1.heap.size ≤ O; have := h.ge; have := h.geO; omega) _, h.ge, (hse _ (by have := h.geO; omega)).trans e1, (hse _ (by have := h.geO; omega)).trans e2, h.geO, ⟨cs.set a v' hcs, ?_, fun j hj => ?_⟩, fun j hj => ?_, fun j l hj hl hjl g hg2 => ?_⟩
  · rw [heap_set_same _ _ _ _ _ _ e3, Array.setIfInBounds, dif_pos hcs]
  · rw [Array.getElem?_set]
    by_cases e : a = j
    · subst e; simp
    · rw [if_neg e, if_neg (fun q => e q.symm)]; exact c2 j hj
  · by_cases e : j = a
    · subst e
      simp only [if_pos]
      rw [List.length_append, List.length_singleton, hk]
      have e4 : zc (ns (rows j ++ [x])) = zc (ns (rows j)) ++ [.int .i64 (x : Int)] := by unfold zc ns; simp
      rw [e4]
      refine ⟨h1.1, ?_⟩
      rcases h1.2 with r0 | ⟨g, cap, cur, r1, r2, r3, r4⟩
      · exact .inl r0
      · exact .inr ⟨g, cap, cur, r1, r2, (hse g (fun q => hv'O (by rw [r1, ← q]; rfl))).trans r3, r4⟩
    · simp only [if_neg e]
      have ho := h.own j hj
      refine ⟨ho.1, ?_⟩
      rcases ho.2 with r0 | ⟨g, cap, cur, r1, r2, r3, r4⟩
      · exact .inl r0
      · have hgb : (v j).ownBlock = some g := by rw [r1]; rfl
        have hgo := hob j hj g hgb
        exact .inr ⟨g, cap, cur, r1, r2, (hse g hgo.2.2).trans ((hkp g hgo.2.1 (fun q => h.dif j a hj ha e g hgb q)).trans r3), r4⟩
  · by_cases e : j = a
    · subst e
      simp only [if_pos] at hg2
      rw [if_neg (fun q => hjl q.symm)]
      rcases h3 with r | r
      · exact h.dif j l hj hl hjl g (r.symm.trans hg2)
      · intro q
        have := (hob l hl g q).2.1
        have := Option.some.inj (r.symm.trans hg2)
        omega
    · simp only [if_neg e] at hg2
      by_cases e2 : l = a
      · simp only [if_pos e2]
        intro q
        rcases h3 with r | r
        · exact h.dif j a hj ha e g hg2 (r.symm.trans q)
        · have := (hob j hj g hg2).2.1
          have := Option.some.inj (r.symm.trans q)
          omega
      · simp only [if_neg e2]
        exact h.dif j l hj hl hjl g hg2
theorem L2.start {w1 W : World} {B1 O M cO : Nat} {q : List Nat} (h : L1 w1 W B1 q (.slice (some ⟨O, 0, none⟩) M cO) M) (hM : 0 < M) : L2 w1 W B1 q O M cO (fun _ => .slice none 0 0) (fun _ => []) := by
  rcases h.own.2 with ⟨e, _⟩ | ⟨g, cap, cur, e, h1, h2, h3, h4, h5, h6⟩
  · cases e
  · simp only [Value.slice.injEq, Option.some.injEq, Addr.mk.injEq, and_true] at e
    obtain ⟨rfl, -, rfl⟩ := e
    refine ⟨h.low, h.ge, h.hq, h.hb, h1, ⟨cur, h2, fun j hj => ?_⟩, fun j hj => ⟨rfl, .inl ⟨rfl, rfl⟩⟩, fun j l hj hl hne g e => by cases e⟩
    rw [Nat.mul_one] at h6
    have : (cur.toList.take M)[j]? = some (.slice none 0 0) := by rw [h6, List.getElem?_replicate_of_lt hj]
    rw [List.getElem?_take_of_lt hj] at this
    rw [← Array.getElem?_toList]; exact this
theorem L2.read {w1 W X : World} {B1 O M cO : Nat} {q : List Nat} {v : Nat → Value} {rows : Nat → List Nat} (h : L2 w1 W B1 q O M cO v rows) (hk : ∀ k, B1 ≤ k → k < W.heap.size → X.heap[k]? = W.heap[k]?) (hs : W.heap.size ≤ X.heap.size) (hb : ∀ i, i < M → (rows i).length ≤ 140737488355328) : RdG X X.heap.size (some ⟨O, 0, none⟩) (rwl M v rows) ∧ RdV X X.heap.size (some ⟨B1, 0, none⟩) (zc (ns q)) := by
  have hlt := h.lt
  have hge := h.geO
  have hsl : ∀ i, i < M → v i = .slice (slA (v i)) (rows i).length (slC (v i)) := fun i hi => by
    obtain ⟨A, c, e⟩ := own_sliceT (h.own i hi); rw [e]; rfl
  obtain ⟨cs, c1, c2⟩ := h.cur
  refine ⟨⟨.inr ⟨O, 0, rfl, by omega, fun i u hi => ?_⟩, fun r hr => ?_⟩, .inr ⟨B1, 0, rfl, by omega, fun i u hi => ?_⟩⟩
  · rw [Nat.zero_add]
    have hin : i < M := by
      have := (List.getElem?_eq_some_iff.1 hi).1
      rw [rcl_length] at this; simpa [rwl] using this
    rw [cell_at ((hk O (by omega) hlt).trans c1), c2 i hin, ← hi]
    unfold rcl rwl
    rw [List.map_map, List.getElem?_map, List.getElem?_range hin]
    show some (v i) = some (sl _)
    unfold sl
    simp only [ns_length]
    rw [← hsl i hin]
  · unfold rwl at hr
    obtain ⟨i, hi, rfl⟩ := List.mem_map.1 hr
    have hin : i < M := List.mem_range.1 hi
    have ho : X.ownsRow (B1 + 2) 3 1 (v i) (rows i).length (zc (ns (rows i))) := by
      have h1 := h.own i hin
      refine ⟨h1.1, ?_⟩
      rcases h1.2 with q | ⟨g, cap, cur, e, q1, q2, q3⟩
      · exact .inl q
      · exact .inr ⟨g, cap, cur, e, q1, (hk g (by omega) (Array.getElem?_eq_some_iff.1 q2).1).trans q2, q3⟩
    rw [hsl i hin] at ho
    exact ⟨own_rdvA ho, by show (ns (rows i)).length ≤ _; rw [ns_length]; exact hb i hin⟩
  · rw [cell_at ((hk B1 (Nat.le_refl _) (by omega)).trans h.hq), Nat.zero_add, List.getElem?_toArray]; exact hi
theorem l1_start (w1 : World) (N : Nat) : L1 w1 ((w1.alloc (.cells (madeCells #[Value.int .i64 0] N) 3)).alloc (.cells #[.slice none 0 0] 24)) w1.heap.size (List.replicate N 0) (.slice none 0 0) 0 := by
  have b1 := one_below w1 (.cells (madeCells #[Value.int .i64 0] N) 3)
  have n1 := World.alloc_heap_new w1 (.cells (madeCells #[Value.int .i64 0] N) 3)
  have s1 : (w1.alloc (.cells (madeCells #[Value.int .i64 0] N) 3)).heap.size = w1.heap.size + 1 := World.size_alloc _ _
  generalize w1.alloc (.cells (madeCells #[Value.int .i64 0] N) 3) = V at *
  have b2 := one_below V (.cells #[.slice none 0 0] 24)
  have n2 := World.alloc_heap_new V (.cells #[.slice none 0 0] 24)
  rw [s1] at n2
  refine ⟨b1.trans (b2.mono b1.size), Nat.le_refl _, ?_, n2, by rw [World.size_alloc, s1]; omega, rfl, .inl ⟨rfl, rfl⟩⟩
  rw [(b2.block _ (by omega)).trans n1]
  have e : (madeCells #[Value.int .i64 0] N).toList = zc (ns (List.replicate N 0)) := by rw [toList_madeCells_one]; simp [zc, ns]
  rw [← e]
set_option maxHeartbeats 16000000 in
theorem refss_ok (R : List Rw) (g : List (List Nat)) (hg : gs R = g.map ns) (hok : GOk g) (N : Nat) (hN : R.length = N) (A : Option Addr) (c : Nat) (w : World) (h : RdG w w.heap.size A R) :
    Calls Try.prog 44 #[.agg #[.slice A N c]] w fun e w' => ∃ A4 R4 c4 A2 c2 p M, e = .returned (.tuple #[.agg #[.slice A4 M c4], .slice A2 N c2]) ∧ (gsh g p).length = M ∧ Sp g p ∧ gs R4 = (gsh g p).map ns ∧ (∀ X : World, (∀ k, w.heap.size ≤ k → k < w'.heap.size → X.heap[k]? = w'.heap[k]?) → w'.heap.size ≤ X.heap.size → RdG X X.heap.size A4 R4 ∧ RdV X X.heap.size A2 (zc (ns (ofL p N)))) ∧ Below w.heap.size w w' := by
  obtain ⟨i0, hi, hz0, hz1, hz2⟩ := info_parts info_intD
  obtain ⟨j0, hj, hy0, hy1, hy2⟩ := info_parts info_ints
  have hgl : g.length = N := by have := congrArg List.length hg; rw [gs_length, List.length_map] at this; omega
  have hN1 : N ≤ 100 := by have := hok.nodes; omega
  have HP : Hid (∀ V, Below w.heap.size w V → Calls Try.prog 43 #[.agg #[.slice A N c]] V fun e w' => ∃ A2 c2 p, e = .returned (.slice A2 N c2) ∧ Sp g p ∧ RdV w' w'.heap.size A2 (zc (ns p)) ∧ Below V.heap.size V w') := fun V hV => refsp_ok R g hg hok N hN A c V (h.on hV)
  have HG := Lib.hid (G2At.start w A N c)
  have HH := Lib.hid (⟨hgl, hg, hok, h, hN⟩ : g.length = N ∧ gs R = g.map ns ∧ GOk g ∧ RdG w w.heap.size A R ∧ R.length = N)
  have hmk := run_make_row' (P := Try.prog) 32 3 (.int .i64 0) 8 Try.underlying32 info_intW rfl .i64 .i64 N (by omega) (by omega)
  clear hg hok hN hgl h
  go_enter Try.func44, Try.ntmps44
  go_wp2_with fail
  refine (HP.out (G2 w A N c) HG.out.low).mono ?_
  rintro e w1 ⟨Ap, cp, p, rfl, hp, rp, b1⟩
  have HG1 := Lib.hid (HG.out.on b1)
  have HPp := Lib.hid (⟨hp, rp⟩ : Sp g p ∧ RdV w1 w1.heap.size Ap (zc (ns p)))
  clear hp rp b1 HP
  obtain ⟨q1, q2, q3⟩ := HG1.out.cells
  go_wp2
  clear q1 q2 q3 hmk
  have HL0 := Lib.hid (l1_start w1 N)
  obtain ⟨B1, hB1⟩ : ∃ B1, w1.heap.size = B1 := ⟨_, rfl⟩
  have HB1 := Lib.hid hB1
  rw [hB1] at HL0 ⊢
  clear hB1
  have HS1 : Hid (∀ V, Below w1.heap.size w1 V → G2At w V A N c ∧ RdV V V.heap.size Ap (zc (ns p)) ∧ RdG V V.heap.size A R) := fun V hV => ⟨HG1.out.on hV, HPp.out.2.on hV, HH.out.2.2.2.1.on (HG1.out.on hV).low⟩
  go_loopw [8] (fun u wr => ∃ (i : Nat) (q : List Nat) (v : Value), i ≤ N ∧ u = .int .i64 (i : Int) ∧ L1 w1 wr B1 q v (nrp p i) ∧ q.length = N ∧ ∀ x, x < i → qa q x = ofP p x) (fun u _ => N - (intOf u).toNat)
  case atStart => exact ⟨0, _, _, Nat.zero_le _, rfl, HL0.out, by simp, fun x hx => absurd hx (Nat.not_lt_zero _)⟩
  case round =>
   as_aux_lemma =>
    clear HL0
    obtain ⟨i, q, v, hi2, rfl, hL, hl, hq⟩ := hrel
    obtain ⟨Av, cv, rfl⟩ := own_sliceT hL.own
    by_cases hlt : i < N
    · obtain ⟨hg2, hrp, -⟩ := HS1.out wr hL.low
      obtain ⟨bp, op, rfl, hbp, k0⟩ := hrp.at_ (zc_getN p i (qa p i) (qa_eq (by rw [HPp.out.1.len, HH.out.1]; exact hlt)))
      have hpi := HPp.out.1.le i (by rw [HH.out.1]; exact hlt)
      have hii := HPp.out.1.idem (x := i) (by rw [HH.out.1]; exact hlt)
      have hn1 := nrp_le p i
      have hsu := nrp_succ p i
      obtain ⟨y, hy⟩ : ∃ y, qa p i = y := ⟨_, rfl⟩
      rw [hy] at k0 hpi hii hsu
      have t1 : (0 : Int) ≤ (i : Int) := by omega
      have t2 : (i : Int) < (N : Int) := by omega
      have t3 : (0 : Int) ≤ (y : Int) := by omega
      have t4 : (y : Int) < (N : Int) := by omega
      obtain ⟨kb1, kb2⟩ := hL.cells
      obtain ⟨kc, kf⟩ := hL.at_ i (by rw [hl]; exact hlt)
      by_cases e : y = i
      · have hs1 : nrp p (i + 1) = nrp p i + 1 := by rw [hsu, if_pos e]
        have hof : ofP p i = nrp p i := by unfold ofP; rw [hy, e]
        have HS2 := Lib.hid hs1
        have HQ : Hid ((q.set i (nrp p i)).length = N ∧ ∀ x, x < i + 1 → qa (q.set i (nrp p i)) x = ofP p x) := ⟨by rw [List.length_set]; exact hl, fun x hx => by
          rw [qa_set _ _ _ _ (by omega)]
          by_cases r : x = i
          · subst r; rw [if_pos rfl, hof]
          · rw [if_neg r]; exact hq x (by omega)⟩
        subst e
        generalize nrp p y = m at *
        have hL2 := hL.set y m
        obtain ⟨kb3, kb4⟩ := hL2.cells
        have HL2 := Lib.hid hL2
        have HNw : Hid (∀ (k : Nat) (u : Value), [Value.slice none 0 0][k]? = some u → ((wr.setCell ⟨B1, y, none⟩ (.int .i64 (m : Int))).alloc (.cells #[.slice none 0 0] 32)).cell? ((⟨(wr.setCell ⟨B1, y, none⟩ (.int .i64 (m : Int))).heap.size, 0, none⟩ : Addr).add k) = some u) := news_row _ [.slice none 0 0] 32
        have hsz : (wr.setCell ⟨B1, y, none⟩ (.int .i64 (m : Int))).heap.size = wr.heap.size := by simp [World.setCell]
        rw [hsz] at HNw
        have HSz : Hid (B1 + 2 ≤ wr.heap.size) := hL.sz
        clear hL hL2 hl hq hy hii hsu hof hs1 hg2 hrp hbp hsz
        go_wp2_with (at_builtin; go_loud (refine wpList_append_own _ rfl _ _ 22 rfl (B1 + 2) 32 j0 (.slice none 0 0) 1 24 Try.underlying22 hj hy0 hy1 hy2 rfl (by decide) _ _ _ rfl (HL2.out.own.alloc _) ⟨wr.heap.size, 0, none⟩ 1 1 [.slice none 0 0] rfl rfl HNw.out (by simp [Value.oneCell']) (by unfold maxLen; omega) (by omega) (by have := HSz.out; simp; omega) ?_); intro v' w5 hown' hgrow _; obtain ⟨Av2, cv2, rfl⟩ := own_sliceT hown'; have HA := Lib.hid ((HL2.out.alloc _).app hown' hgrow); obtain ⟨⟨k5, k6⟩, -⟩ := HA.out; clear hown' hgrow)
        go_roundw
        case rel => exact ⟨y + 1, _, _, by omega, by go_num, by rw [HS2.out]; exact HA.out.2, HQ.out.1, HQ.out.2⟩
        case measure => simp [intOf]; omega
      · have hs1 : nrp p (i + 1) = nrp p i := by rw [hsu, if_neg e]; rfl
        have hyi : y < i := by omega
        have hof : ofP p i = ofP p y := by unfold ofP; rw [hy, hii]
        obtain ⟨kc2, kf2⟩ := hL.at_ y (by rw [hl]; omega)
        rw [hq y hyi] at kc2
        have HN : Hid (L1 w1 (wr.setCell ⟨B1, i, none⟩ (.int .i64 (ofP p y : Int))) B1 (q.set i (ofP p y)) (.slice Av (nrp p i) cv) (nrp p (i + 1)) ∧ (q.set i (ofP p y)).length = N ∧ ∀ x, x < i + 1 → qa (q.set i (ofP p y)) x = ofP p x) :=
          ⟨by rw [hs1]; exact hL.set i _, by rw [List.length_set]; exact hl, fun x hx => by
            rw [qa_set _ _ _ _ (by omega)]
            by_cases r : x = i
            · subst r; rw [if_pos rfl, hof]
            · rw [if_neg r]; exact hq x (by omega)⟩
        have t5 : ((y : Int) == (i : Int)) = false := by simp; omega
        clear hL hl hq hy hii hsu hof hs1 hg2 hrp hbp kb1 kb2
        generalize ofP p y = u at *
        go_wp2
        go_roundw
        case rel => exact ⟨i + 1, _, _, by omega, by go_num, HN.out.1, HN.out.2.1, HN.out.2.2⟩
        case measure => simp [intOf]; omega
    · obtain rfl : N = i := by omega
      have hqe : q = ofL p N := ofL_eq hl hq
      subst hqe
      have HML : Hid ((gsh g p).length = nrp p N ∧ nrp p N ≤ 100) := ⟨by rw [gsh_length, HH.out.1], by have := nrp_le p N; omega⟩
      obtain ⟨M, hM⟩ : ∃ M, nrp p N = M := ⟨_, rfl⟩
      rw [hM] at hL HML
      have hM100 : M ≤ 100 := HML.out.2
      clear hM hq hl
      by_cases hM0 : M = 0
      · subst hM0
        have hvz : Av = Av := rfl
        obtain ⟨kb1, kb2⟩ := hL.cells
        have HG2 := Lib.hid (HG1.out.on hL.low)
        obtain ⟨r1, r2, r3⟩ := HG2.out.cells
        have HSt := Lib.hid (HG2.out.set (.slice Av 0 cv))
        have kr2 := HSt.out.1
        have HFX : Hid (∀ X : World, (∀ k, w.heap.size ≤ k → k < (wr.setCell ⟨w.heap.size + 1, 0, none⟩ (.slice Av 0 cv)).heap.size → X.heap[k]? = (wr.setCell ⟨w.heap.size + 1, 0, none⟩ (.slice Av 0 cv)).heap[k]?) → (wr.setCell ⟨w.heap.size + 1, 0, none⟩ (.slice Av 0 cv)).heap.size ≤ X.heap.size → RdG X X.heap.size Av [] ∧ RdV X X.heap.size (some ⟨B1, 0, none⟩) (zc (ns (ofL p N)))) := fun X hk hs => by
          have hz : (wr.setCell ⟨w.heap.size + 1, 0, none⟩ (.slice Av 0 cv)).heap.size = wr.heap.size := by simp [World.setCell]
          rw [hz] at hk hs
          have h1 := hL.sz
          have h2 := HG1.out.sz
          have h3 := hL.ge
          have h4 : X.heap[B1]? = _ := (hk B1 (by omega) (by omega)).trans ((Below.heap_setCell _ _ _ _ (by show B1 ≠ w.heap.size + 1; omega)).trans hL.hq)
          refine ⟨⟨.inl rfl, fun r hr => by simp at hr⟩, .inr ⟨B1, 0, rfl, by omega, fun i u hi => ?_⟩⟩
          rw [cell_at h4, Nat.zero_add, List.getElem?_toArray]; exact hi
        have HGz : Hid (gs ([] : List Rw) = (gsh g p).map ns) := by have h1 := HML.out.1; show _ = _; rw [List.eq_nil_of_length_eq_zero h1]; rfl
        clear hL hvz
        generalize wr = V0 at *
        go_wp2
        go_loopw [9] (fun u wq => u = .int .i64 0 ∧ wq = V0) (fun u _ => 0)
        case atStart => exact ⟨rfl, rfl⟩
        case round =>
          obtain ⟨rfl, hw⟩ := hrel
          subst hw
          go_wp2
          refine bodyPost_ret (v := .tuple #[.agg #[.slice Av 0 cv], .slice (some ⟨B1, 0, none⟩) N N]) (by simp [results, Try.results44, go_sem, kr2]) rfl ?_
          exact ⟨Av, [], cv, some ⟨B1, 0, none⟩, N, p, 0, rfl, HML.out.1, HPp.out.1, HGz.out, HFX.out, HSt.out.2.2⟩
      · obtain ⟨O, capO, e0, hgO, hgO2⟩ := hL.own.form (by omega)
        simp only [Value.slice.injEq] at e0
        obtain ⟨rfl, -, rfl⟩ := e0
        have HL2 := Lib.hid (L2.start hL (by omega))
        clear hL hgO2
        go_wp2
        go_loopw [9] (fun u wq => ∃ (a : Nat) (vf : Nat → Value), a ≤ M ∧ u = .int .i64 (a : Int) ∧ L2 w1 wq B1 (ofL p N) O M cv vf (shr g p a 0)) (fun u _ => M - (intOf u).toNat)
        case atStart => exact ⟨0, _, Nat.zero_le _, rfl, HL2.out.congr (fun j _ => (shr_start g p j).symm)⟩
        case round =>
         as_aux_lemma =>
          obtain ⟨a, vf, ha, rfl, hL⟩ := hrel
          have kb := hL.box
          by_cases hlta : a < M
          · have t1 : (a : Int) < (M : Int) := by omega
            have HLa := Lib.hid hL
            clear hL
            go_wp2
            go_loopw [10] (fun u wq => ∃ (b : Nat) (vf : Nat → Value), b ≤ M ∧ u = .int .i64 (b : Int) ∧ L2 w1 wq B1 (ofL p N) O M cv vf (shr g p a b)) (fun u _ => M - (intOf u).toNat)
            case atStart => exact ⟨0, vf, Nat.zero_le _, rfl, HLa.out⟩
            case round =>
             as_aux_lemma =>
              clear HLa kb
              obtain ⟨b, vf, hb, rfl, hL⟩ := hrel
              have kb := hL.box
              by_cases hltb : b < M
              · have t2 : (b : Int) < (M : Int) := by omega
                have HLb := Lib.hid hL
                obtain ⟨hg2, -, hgr⟩ := HS1.out wr hL.low
                have kg := hg2.cells.1
                have HGr := Lib.hid hgr
                have HOf : Hid (∀ x, x < N → wr.cell? ⟨B1, x, none⟩ = some (.int .i64 (ofP p x : Int))) := fun x hx => by
                  have := hL.at_ x (by rw [ofL_length]; exact hx)
                  rwa [ofL_qa p N x hx] at this
                clear hL hg2 hgr
                generalize wr = V0 at *
                go_wp2
                go_loopw [11, 12] (fun u z wq => ∃ i : Nat, i ≤ N ∧ z = .int .i64 (i : Int) ∧ u = .bool (ldB g p a b i) ∧ wq = V0) (fun _ z _ => N - (intOf z).toNat)
                case atStart => exact ⟨0, Nat.zero_le _, rfl, rfl, rfl⟩
                case round =>
                 as_aux_lemma =>
                  obtain ⟨i, hi3, rfl, rfl, hw⟩ := hrel
                  subst hw
                  by_cases hlti : i < N
                  · have HSu := Lib.hid (ldB_succ g p a b i)
                    have hiR : i < R.length := by rw [HH.out.2.2.2.2]; exact hlti
                    obtain ⟨b2, o2, rfl, hb2, k2⟩ := HGr.out.1.at_ (rcl_get R i hiR)
                    have hrd := HGr.out.2 _ (rw_mem R i hiR)
                    have hro := row_ofD R g HH.out.2.1 i (by rw [HH.out.1]; exact hlti)
                    generalize R[i]?.getD (none, 0, []) = x at *
                    obtain ⟨A3, c3, xs3⟩ := x
                    unfold sl at k2
                    simp only at k2 hrd hro
                    subst hro
                    obtain ⟨hrd, hm47⟩ := hrd
                    rw [ns_length] at k2 hm47
                    have HRd := Lib.hid hrd
                    obtain ⟨m, hm⟩ : ∃ m, (row g i).length = m := ⟨_, rfl⟩
                    have HMl := Lib.hid hm
                    rw [hm] at k2 hm47
                    have ko := HOf.out i hlti
                    have t3 : (i : Int) < (N : Int) := by omega
                    have t3b : (0 : Int) ≤ (i : Int) := by omega
                    have HWr := Lib.hid (⟨HGr.out, HLb.out⟩ : _ ∧ _)
                    clear hiR hb2 hrd hm
                    generalize wr = V1 at *
                    go_wp2
                    go_loopw [11, 13] (fun u z wq => ∃ k : Nat, k ≤ m ∧ z = .int .i64 (k : Int) ∧ u = .bool (ldB g p a b i || ((row g i).take k).any fun x => decide (ofP p x = b)) ∧ (k = 0 ∨ ofP p i = a) ∧ wq = V1) (fun _ z _ => m - (intOf z).toNat)
                    case atStart => exact ⟨0, Nat.zero_le _, rfl, by simp, .inl rfl, rfl⟩
                    case round =>
                     as_aux_lemma =>
                      obtain ⟨k, hk, rfl, rfl, hka, hw⟩ := hrel
                      subst hw
                      by_cases hkm : k < m
                      · have t4 : decide ((k : Int) < (m : Int)) = true := by simp; omega
                        by_cases hoa : ofP p i = a
                        · have hkl : k < (row g i).length := by rw [HMl.out]; exact hkm
                          obtain ⟨b3, o3, rfl, hb3, k3⟩ := HRd.out.at_ (zc_getN (row g i) k (qa (row g i) k) (qa_eq hkl))
                          have hxm : qa (row g i) k ∈ row g i := qa_mem hkl
                          have hxN : qa (row g i) k < N := by have := HH.out.2.2.1.bdd i _ hxm; rwa [HH.out.1] at this
                          have k4 := HOf.out _ hxN
                          have HTk : Hid (((row g i).take (k + 1)).any (fun x => decide (ofP p x = b)) = (((row g i).take k).any (fun x => decide (ofP p x = b)) || decide (ofP p (qa (row g i) k) = b))) := by
                            show _ = _
                            rw [take_succ_qa hkl, List.any_append]; simp
                          generalize qa (row g i) k = x at *
                          rw [hoa] at ko
                          have t5 : ((a : Int) == (a : Int)) = true := by simp
                          have t6 : (0 : Int) ≤ (k : Int) := by omega
                          have t7 : (k : Int) < (m : Int) := by omega
                          have t8 : (0 : Int) ≤ (x : Int) := by omega
                          have t9 : (x : Int) < (N : Int) := by omega
                          have HOa := Lib.hid hoa
                          clear hka hkl hxm hb3 hoa
                          generalize ((row g i).take k).any (fun x => decide (ofP p x = b)) = y at *
                          generalize hld : ldB g p a b i = l at *
                          have HLd := Lib.hid hld
                          clear hld
                          cases hly : (l || y) with
                          | true =>
                            have HNy : Hid ((l || ((row g i).take (k + 1)).any (fun x => decide (ofP p x = b))) = true) := by show _ = _; rw [HTk.out, ← Bool.or_assoc, hly]; rfl
                            clear hly
                            go_wp2
                            go_roundw
                            case rel => exact ⟨k + 1, by omega, by go_num, by rw [HNy.out], .inr HOa.out, by first | rfl | trivial⟩
                            case measure => simp [intOf]; omega
                          | false =>
                            have HNy : Hid ((l || ((row g i).take (k + 1)).any (fun x => decide (ofP p x = b))) = decide (ofP p x = b)) := by show _ = _; rw [HTk.out, ← Bool.or_assoc, hly]; rfl
                            have t10 : ((ofP p x : Int) == (b : Int)) = decide (ofP p x = b) := by
                              by_cases q : ofP p x = b
                              · rw [q]; simp
                              · rw [decide_eq_false q]; simp; omega
                            clear hly
                            generalize ofP p x = ox at *
                            generalize decide (ox = b) = z at *
                            go_wp2
                            go_roundw
                            case rel => exact ⟨k + 1, by omega, by go_num, by rw [HNy.out], .inr HOa.out, by first | rfl | trivial⟩
                            case measure => simp [intOf]; omega
                        · have hk0 : k = 0 := hka.elim id (fun q => absurd q hoa)
                          subst hk0
                          have HNx : Hid (ldB g p a b (i + 1) = ldB g p a b i) := by show _ = _; rw [HSu.out, decide_eq_false hoa]; simp
                          have t5 : ((ofP p i : Int) == (a : Int)) = false := by simp; omega
                          have e0 : (ldB g p a b i || ((row g i).take 0).any fun x => decide (ofP p x = b)) = ldB g p a b i := by simp
                          rw [e0]
                          clear hka hoa e0
                          generalize ofP p i = oi at *
                          go_wp2
                          go_roundw
                          case rel => exact ⟨i + 1, by omega, by go_num, by rw [HNx.out], by first | rfl | trivial⟩
                          case measure => simp [intOf]; omega
                      · obtain rfl : k = m := by omega
                        have t4 : decide ((k : Int) < (k : Int)) = false := by simp
                        have htl : (row g i).take k = row g i := List.take_of_length_le (by rw [HMl.out]; exact Nat.le_refl _)
                        have HNx : Hid (ldB g p a b (i + 1) = (ldB g p a b i || ((row g i).take k).any fun x => decide (ofP p x = b))) := by
                          show _ = _
                          rw [HSu.out, htl]
                          rcases hka with q | q
                          · have : row g i = [] := List.eq_nil_of_length_eq_zero (by rw [HMl.out]; exact q)
                            rw [this]; simp
                          · rw [decide_eq_true q]; simp
                        clear hka htl hkm
                        generalize (ldB g p a b i || ((row g i).take k).any fun x => decide (ofP p x = b)) = l at *
                        go_wp2
                        go_roundw
                        case rel => exact ⟨i + 1, by omega, by go_num, by rw [HNx.out], by first | rfl | trivial⟩
                        case measure => simp [intOf]; omega
                  · obtain rfl : N = i := by omega
                    have hmem : b ∈ row (gsh g p) a ↔ a ≠ b ∧ ldB g p a b N = true := by rw [HPp.out.1.gsh_mem HH.out.2.2.1, ldB_iff HH.out.1]
                    have hnx := fun r => shr_next g p a b r
                    by_cases hbm : b ∈ row (gsh g p) a
                    · obtain ⟨hne, hld⟩ := hmem.1 hbm
                      rw [hld]
                      have t4 : ((a : Int) != (b : Int)) = true := by simp; omega
                      have hTd := HLb.out.drew
                      have hln := shr_len g p a b a (by have := HML.out.2; omega) (fun r => row_len (HPp.out.1.gsh_ok HH.out.2.2.1) r)
                      obtain ⟨k, hk⟩ : ∃ k, (shr g p a b a).length = k := ⟨_, rfl⟩
                      have hown := hTd.own a hlta
                      rw [hk] at hown hln
                      obtain ⟨As, Cs, hvs⟩ := own_sliceT hown
                      have HO := Lib.hid hown
                      have HAp : Hid (∀ v' w4, (wr.drew.alloc (.cells #[.int .i64 (b : Int)] 3)).grownBy w4 (vf a).ownBlock → w4.ownsRow (B1 + 2) 3 1 v' (k + 1) (zc (ns (shr g p a b a)) ++ [.int .i64 (b : Int)]) → (v'.ownBlock = (vf a).ownBlock ∨ v'.ownBlock = some (wr.drew.alloc (.cells #[.int .i64 (b : Int)] 3)).heap.size) →
                          (w4.cell? ⟨B1 + 1, 0, none⟩ = some (.slice (some ⟨O, 0, none⟩) M cv) ∧ w4.cell? ⟨O, a, none⟩ = some (vf a)) ∧ w4.frozen? ⟨O, a, none⟩ = false ∧ (w4.setCell ⟨O, a, none⟩ v').cell? ⟨B1 + 1, 0, none⟩ = some (.slice (some ⟨O, 0, none⟩) M cv) ∧
                          ∃ v2, L2 w1 (w4.setCell ⟨O, a, none⟩ v') B1 (ofL p N) O M cv v2 (shr g p a (b + 1))) := fun v' w4 q1 q2 q3 => by
                        obtain ⟨r1, r2, r3⟩ := hTd.app (x := b) hlta hk q1 q2 q3
                        refine ⟨r1, r2, r3.box, _, r3.congr (fun y _ => ?_)⟩
                        rw [hnx y]
                        by_cases e : y = a
                        · rw [if_pos e, if_pos ⟨e, hbm⟩]
                        · rw [if_neg e, if_neg (fun q => e q.1)]
                      have hS0 : wr.drew.cell? ⟨B1 + 1, 0, none⟩ = some (.slice (some ⟨O, 0, none⟩) M cv) ∧ wr.drew.cell? ⟨O, a, none⟩ = some (.slice As k Cs) := by
                        refine ⟨hTd.box, ?_⟩
                        have := (hTd.cell hlta).1
                        rwa [hvs] at this
                      have HS0 := Lib.hid hS0
                      have HS1' : Hid ((wr.drew.alloc (.cells #[.int .i64 (b : Int)] 3)).cell? ⟨B1 + 1, 0, none⟩ = some (.slice (some ⟨O, 0, none⟩) M cv) ∧ (wr.drew.alloc (.cells #[.int .i64 (b : Int)] 3)).cell? ⟨O, a, none⟩ = some (.slice As k Cs)) := ⟨((one_below wr.drew _).cell (World.block_lt_of_cell? _ _ hS0.1)).trans hS0.1, ((one_below wr.drew _).cell (World.block_lt_of_cell? _ _ hS0.2)).trans hS0.2⟩
                      have HZ : Hid (B1 + 2 ≤ wr.heap.size) := by have h1 := HLb.out.lt; have h2 := HLb.out.geO; show _ ≤ _; omega
                      have HV := Lib.hid hvs
                      have t7 : (0 : Int) ≤ (a : Int) := by omega
                      have t8 : (a : Int) < (M : Int) := by omega
                      rw [hvs] at HAp HO
                      have kq0 := hS0.2
                      have kq1 := HS1'.out.2
                      have kb0 := HS0.out.1
                      have kb1 := HS1'.out.1
                      have kq2 : (wr.alloc (.cells #[.int .i64 (b : Int)] 3)).cell? ⟨O, a, none⟩ = some (.slice As k Cs) := kq1
                      have kb2 : (wr.alloc (.cells #[.int .i64 (b : Int)] 3)).cell? ⟨B1 + 1, 0, none⟩ = some (.slice (some ⟨O, 0, none⟩) M cv) := HS1'.out.1
                      have kq3 : wr.cell? ⟨O, a, none⟩ = some (.slice As k Cs) := kq0
                      clear hTd hown hS0 hnx hvs hk hmem hbm hne hld kg
                      go_wp2
                      go_region_law
                        ((refine app_at (by rfl) (.tmp 118) (.tmp 120) (by rfl) (B1 + 2) (.slice As k Cs) k (zc (ns (shr g p a b a))) (by rfl) (HO.out.alloc _) ⟨wr.drew.heap.size, 0, none⟩ (.int .i64 (b : Int)) (by rfl) (box_cell (World.alloc_heap_new wr.drew _)) rfl (by omega) (by have := HZ.out; show _ ≤ (wr.alloc _).heap.size; simp; omega) ?_; intro v' w4 hown' hgrow hloc; have HG := Lib.hid (HAp.out v' w4 hgrow hown' hloc); obtain ⟨g', cap', rfl⟩ := ownsRow_succ hown'; obtain ⟨⟨e3, e4⟩, e5, -⟩ := HG.out; clear hgrow hown' hloc))
                      all_goals (
                        clear kq0 kq1 kq2 kq3 kb0 kb1 kb2 e3 e4 e5
                        go_wp2
                        go_roundw
                        case rel => exact (by obtain ⟨v2, q2⟩ := HG.out.2.2.2; exact ⟨b + 1, v2, by omega, by go_num, q2⟩)
                        case measure => simp [intOf]; omega)
                    · have HLn : Hid (L2 w1 wr B1 (ofL p N) O M cv vf (shr g p a (b + 1))) := HLb.out.congr (fun j _ => by rw [hnx j, if_neg (fun q => hbm q.2)])
                      have hor : ldB g p a b N = false ∨ a = b := by
                        cases e : ldB g p a b N with
                        | false => exact .inl rfl
                        | true => exact .inr (Classical.byContradiction fun q => hbm (hmem.2 ⟨q, e⟩))
                      clear hnx hmem hbm
                      rcases hor with e | e
                      · rw [e]
                        clear e
                        go_wp2
                        go_roundw
                        case rel => exact ⟨b + 1, vf, by omega, by go_num, HLn.out⟩
                        case measure => simp [intOf]; omega
                      · have t4 : ((a : Int) != (b : Int)) = false := by simp; omega
                        generalize ldB g p a b N = l at *
                        cases l with
                        | false =>
                          go_wp2
                          go_roundw
                          case rel => exact ⟨b + 1, vf, by omega, by go_num, HLn.out⟩
                          case measure => simp [intOf]; omega
                        | true =>
                          go_wp2
                          go_roundw
                          case rel => exact ⟨b + 1, vf, by omega, by go_num, HLn.out⟩
                          case measure => simp [intOf]; omega
              · obtain rfl : M = b := by omega
                have HLn : Hid (L2 w1 wr B1 (ofL p N) O M cv vf (shr g p (a + 1) 0)) := hL.congr (fun j _ => shr_row HH.out.2.2.1 HPp.out.1 HML.out.1 a j)
                clear hL
                go_wp2
                go_roundw
                case rel => exact ⟨a + 1, vf, by omega, by go_num, HLn.out⟩
                case measure => simp [intOf]; omega
          · obtain rfl : M = a := by omega
            have HG2 := Lib.hid (HG1.out.on hL.low)
            obtain ⟨r1, r2, r3⟩ := HG2.out.cells
            have HSt := Lib.hid (HG2.out.set (.slice (some ⟨O, 0, none⟩) M cv))
            have kr2 := HSt.out.1
            have HFX : Hid (∀ X : World, (∀ k, w.heap.size ≤ k → k < (wr.setCell ⟨w.heap.size + 1, 0, none⟩ (.slice (some ⟨O, 0, none⟩) M cv)).heap.size → X.heap[k]? = (wr.setCell ⟨w.heap.size + 1, 0, none⟩ (.slice (some ⟨O, 0, none⟩) M cv)).heap[k]?) → (wr.setCell ⟨w.heap.size + 1, 0, none⟩ (.slice (some ⟨O, 0, none⟩) M cv)).heap.size ≤ X.heap.size → RdG X X.heap.size (some ⟨O, 0, none⟩) (rwl M vf (shr g p M 0)) ∧ RdV X X.heap.size (some ⟨B1, 0, none⟩) (zc (ns (ofL p N)))) := fun X hk hs => by
              have hz : (wr.setCell ⟨w.heap.size + 1, 0, none⟩ (.slice (some ⟨O, 0, none⟩) M cv)).heap.size = wr.heap.size := by simp [World.setCell]
              rw [hz] at hk hs
              have h2 := HG1.out.sz
              have h3 := hL.ge
              refine hL.read (fun k h5 h6 => (hk k (by omega) h6).trans (Below.heap_setCell _ _ _ _ (by show k ≠ w.heap.size + 1; omega))) hs (fun j _ => ?_)
              have := shr_len g p M 0 j (by omega) (fun r => row_len (HPp.out.1.gsh_ok HH.out.2.2.1) r)
              omega
            have HGz : Hid (gs (rwl M vf (shr g p M 0)) = (gsh g p).map ns) := by
              show _ = _
              rw [rwl_gs]
              congr 1
              apply List.ext_getElem (by rw [List.length_map, List.length_range, HML.out.1])
              intro j h1 h2
              have hj : j < M := by simpa using h1
              simp only [List.getElem_map, List.getElem_range]
              rw [shr_end g p hj]
              unfold row
              rw [List.getElem?_eq_getElem h2]; rfl
            clear hL
            go_wp2
            refine bodyPost_ret (v := .tuple #[.agg #[.slice (some ⟨O, 0, none⟩) M cv], .slice (some ⟨B1, 0, none⟩) N N]) (by simp [results, Try.results44, go_sem, kr2]) rfl ?_
            exact ⟨some ⟨O, 0, none⟩, _, cv, some ⟨B1, 0, none⟩, N, p, M, rfl, HML.out.1, HPp.out.1, HGz.out, HFX.out, HSt.out.2.2⟩
end

section
set_option maxRecDepth 100000
set_option linter.unusedVariables false
open Go.RowKit Go.Shelf

set_option maxHeartbeats 8000000 in
theorem strongTells_law (A : Option Addr) (c : Nat) (R : List Rw) (w : World) (hA : RdG w w.heap.size A R) (hn : R.length ≤ 140737488355328) :
    Calls Try.prog 7 #[.agg #[.slice A R.length c]] w fun e w' => e = .returned (.bool true) ∧ Below w.heap.size w w' := by
  obtain ⟨N, hN⟩ : ∃ N, R.length = N := ⟨_, rfl⟩
  rw [hN] at hn ⊢
  by_cases e0 : grE (gs R) = 0
  · obtain ⟨g, hg, hok⟩ := grE_zero _ e0
    have hgl : g.length = N := by have := congrArg List.length hg; rw [gs_length, List.length_map] at this; omega
    have hN1 : N ≤ 100 := by have := hok.nodes; omega
    have HOk : Hid (GOk g ∧ g.length = N) := ⟨hok, hgl⟩
    have HG0 := Lib.hid hg
    have HP := Lib.hid (lw_parts R g hg hok N hgl)
    have HO := Lib.hid (lw_order R g hg hok N hgl)
    have HSh := Lib.hid (lw_shrink R g hg hok N hgl)
    have HRC : Hid (∀ V, RdG V V.heap.size A R → Calls Try.prog 20 #[.agg #[.slice A N c]] V fun e w' => e = .returned (.int .i64 0) ∧ Below V.heap.size V w') := fun V h => by have := refgchk_any R N hN hn A c V h; rwa [e0] at this
    have HRp := Lib.hid (refsp_keep R g hg hok N hN A c)
    have HRs := Lib.hid (refss_ok R g hg hok N hN A c)
    have HRo := Lib.hid (refso_ok R g hg hok N hN A c)
    clear e0 hN hn hg hok hgl
    have HB : Hid (Below w.heap.size w w) := Below.refl _ w
    have HR := Lib.hid hA; clear hA
    go_enter Try.func7, Try.ntmps7
    have HBq : Hid (Below w.heap.size w (w.alloc (.cells #[.slice A N c] 24))) := one_below _ _
    replace HB : Hid (Below w.heap.size w (w.alloc (.cells #[.slice A N c] 24))) := HB.out.trans (HBq.out.mono HB.out.size)
    replace HR : Hid (RdG (w.alloc (.cells #[.slice A N c] 24)) ((w.alloc (.cells #[.slice A N c] 24))).heap.size A R) := HR.out.on HBq.out
    clear HBq
    have K0 : Hid (((w.alloc (.cells #[.slice A N c] 24))).cell? ⟨w.heap.size, 0, none⟩ = some (.slice A N c)) := (cell_at (World.alloc_heap_new w _) 0).trans rfl
    have HC := Lib.hid (HP.out A c _ HR.out)
    have k_K0 := K0.out
    go_wp2_with fail
    clear k_K0
    refine HC.out.mono ?_
    rintro e w1 ⟨b1, p, rfl, hp, q1, bq⟩
    clear HC
    have HBc := Lib.hid bq; clear bq
    have HBq : Hid (Below (w.alloc (.cells #[.slice A N c] 24)).heap.size (w.alloc (.cells #[.slice A N c] 24)) w1) := HBc.out
    replace HB : Hid (Below w.heap.size w w1) := HB.out.trans (HBq.out.mono HB.out.size)
    replace HR : Hid (RdG w1 (w1).heap.size A R) := HR.out.on HBq.out
    replace K0 : Hid ((w1).cell? ⟨w.heap.size, 0, none⟩ = some (.slice A N c)) := (HBq.out.cell (World.block_lt_of_cell? _ _ K0.out)).trans K0.out
    clear HBq
    clear HBc
    have Q1 : Hid (RdV w1 (w1).heap.size (some ⟨b1, 0, none⟩) (zc (ns p))) := q1
    clear q1
    have HPp := Lib.hid hp; clear hp
    have HPl : Hid (p.length = N) := HPp.out.len.trans HOk.out.2
    have HC := Lib.hid (HO.out A c _ HR.out)
    have k_K0 := K0.out
    go_wp2_with fail
    clear k_K0
    refine HC.out.mono ?_
    rintro e w2 ⟨A2, n2, c2, o, e2, rfl, hl2, ho2, q2, bq⟩
    clear HC
    have HBc := Lib.hid bq; clear bq
    have HBq : Hid (Below w1.heap.size w1 w2) := HBc.out
    replace HB : Hid (Below w.heap.size w w2) := HB.out.trans (HBq.out.mono HB.out.size)
    replace HR : Hid (RdG w2 (w2).heap.size A R) := HR.out.on HBq.out
    replace K0 : Hid ((w2).cell? ⟨w.heap.size, 0, none⟩ = some (.slice A N c)) := (HBq.out.cell (World.block_lt_of_cell? _ _ K0.out)).trans K0.out
    replace Q1 : Hid (RdV w2 (w2).heap.size (some ⟨b1, 0, none⟩) (zc (ns p))) := Q1.out.on HBq.out
    clear HBq
    clear HBc
    have Q2 : Hid (RdV w2 (w2).heap.size A2 (zc (ns o))) := q2
    clear q2
    have HO2 := Lib.hid (⟨hl2, ho2⟩ : _ ∧ _); clear hl2 ho2
    have HC := Lib.hid (HSh.out A c _ HR.out)
    have k_K0 := K0.out
    go_wp2_with fail
    clear k_K0
    refine HC.out.mono ?_
    rintro e w3 ⟨p3, M, A3, R3, c3, A4, c4, rfl, hM, hp3, g3, q3, q4, bq⟩
    clear HC
    have HBc := Lib.hid bq; clear bq
    have HBq : Hid (Below w2.heap.size w2 w3) := HBc.out
    replace HB : Hid (Below w.heap.size w w3) := HB.out.trans (HBq.out.mono HB.out.size)
    replace HR : Hid (RdG w3 (w3).heap.size A R) := HR.out.on HBq.out
    replace K0 : Hid ((w3).cell? ⟨w.heap.size, 0, none⟩ = some (.slice A N c)) := (HBq.out.cell (World.block_lt_of_cell? _ _ K0.out)).trans K0.out
    replace Q1 : Hid (RdV w3 (w3).heap.size (some ⟨b1, 0, none⟩) (zc (ns p))) := Q1.out.on HBq.out
    replace Q2 : Hid (RdV w3 (w3).heap.size A2 (zc (ns o))) := Q2.out.on HBq.out
    clear HBq
    clear HBc
    obtain rfl : p = p3 := HPp.out.uniq hp3
    have Q3 : Hid (RdG w3 (w3).heap.size A3 R3) := q3
    clear q3
    have Q4 : Hid (RdV w3 (w3).heap.size A4 (zc (ns (ofL p N)))) := q4
    clear q4
    have HM1 : M ≤ 100 := by rw [← hM, gsh_length, HOk.out.2]; have := nrp_le p N; omega
    have HM := Lib.hid (⟨hM, g3⟩ : _ ∧ _); clear hM g3 hp3
    have HBq : Hid (Below w3.heap.size w3 (w3.alloc (.cells #[.slice A3 M c3] 24))) := one_below _ _
    replace HB : Hid (Below w.heap.size w (w3.alloc (.cells #[.slice A3 M c3] 24))) := HB.out.trans (HBq.out.mono HB.out.size)
    replace HR : Hid (RdG (w3.alloc (.cells #[.slice A3 M c3] 24)) ((w3.alloc (.cells #[.slice A3 M c3] 24))).heap.size A R) := HR.out.on HBq.out
    replace K0 : Hid (((w3.alloc (.cells #[.slice A3 M c3] 24))).cell? ⟨w.heap.size, 0, none⟩ = some (.slice A N c)) := (HBq.out.cell (World.block_lt_of_cell? _ _ K0.out)).trans K0.out
    replace Q1 : Hid (RdV (w3.alloc (.cells #[.slice A3 M c3] 24)) ((w3.alloc (.cells #[.slice A3 M c3] 24))).heap.size (some ⟨b1, 0, none⟩) (zc (ns p))) := Q1.out.on HBq.out
    replace Q2 : Hid (RdV (w3.alloc (.cells #[.slice A3 M c3] 24)) ((w3.alloc (.cells #[.slice A3 M c3] 24))).heap.size A2 (zc (ns o))) := Q2.out.on HBq.out
    replace Q3 : Hid (RdG (w3.alloc (.cells #[.slice A3 M c3] 24)) ((w3.alloc (.cells #[.slice A3 M c3] 24))).heap.size A3 R3) := Q3.out.on HBq.out
    replace Q4 : Hid (RdV (w3.alloc (.cells #[.slice A3 M c3] 24)) ((w3.alloc (.cells #[.slice A3 M c3] 24))).heap.size A4 (zc (ns (ofL p N)))) := Q4.out.on HBq.out
    clear HBq
    have K7 : Hid (((w3.alloc (.cells #[.slice A3 M c3] 24))).cell? ⟨w3.heap.size, 0, none⟩ = some (.slice A3 M c3)) := (cell_at (World.alloc_heap_new w3 _) 0).trans rfl
    have HC := Lib.hid (HRC.out _ HR.out)
    have k_K0 := K0.out
    go_wp2_with fail
    clear k_K0
    refine HC.out.mono ?_
    rintro e w9 ⟨rfl, bq⟩
    clear HC
    have HBc := Lib.hid bq; clear bq
    have HBq : Hid (Below (w3.alloc (.cells #[.slice A3 M c3] 24)).heap.size (w3.alloc (.cells #[.slice A3 M c3] 24)) w9) := HBc.out
    replace HB : Hid (Below w.heap.size w w9) := HB.out.trans (HBq.out.mono HB.out.size)
    replace HR : Hid (RdG w9 (w9).heap.size A R) := HR.out.on HBq.out
    replace K0 : Hid ((w9).cell? ⟨w.heap.size, 0, none⟩ = some (.slice A N c)) := (HBq.out.cell (World.block_lt_of_cell? _ _ K0.out)).trans K0.out
    replace Q1 : Hid (RdV w9 (w9).heap.size (some ⟨b1, 0, none⟩) (zc (ns p))) := Q1.out.on HBq.out
    replace Q2 : Hid (RdV w9 (w9).heap.size A2 (zc (ns o))) := Q2.out.on HBq.out
    replace Q3 : Hid (RdG w9 (w9).heap.size A3 R3) := Q3.out.on HBq.out
    replace Q4 : Hid (RdV w9 (w9).heap.size A4 (zc (ns (ofL p N)))) := Q4.out.on HBq.out
    replace K7 : Hid ((w9).cell? ⟨w3.heap.size, 0, none⟩ = some (.slice A3 M c3)) := (HBq.out.cell (World.block_lt_of_cell? _ _ K7.out)).trans K7.out
    clear HBq
    clear HBc
    clear HRC HP HO HSh
    have HZ1 : Hid (Below w9.heap.size w9 (w9.alloc (.cells #[.slice none 0 0] 24))) := one_below _ _
    have HC := Lib.hid (HRp.out (w9.alloc (.cells #[.slice none 0 0] 24)) (HR.out.on HZ1.out))
    have k_K0 := (HZ1.out.cell (World.block_lt_of_cell? _ _ K0.out)).trans K0.out
    go_wp2_with fail
    clear k_K0
    refine HC.out.mono ?_
    rintro e w10 ⟨A12, c12, p9, rfl, hp9, hk9, b10⟩
    obtain rfl : p = p9 := HPp.out.uniq hp9
    have HBx : Hid (Below w9.heap.size w9 w10) := HZ1.out.trans (b10.mono HZ1.out.size)
    have HPb : Hid (w10.heap[w9.heap.size]? = some (.cells #[.slice none 0 0] 24 (0, 0))) := (b10.block _ (by rw [World.size_alloc]; omega)).trans (World.alloc_heap_new _ _)
    rw [World.size_alloc] at hk9
    have HK9 := Lib.hid hk9
    clear hk9 hp9 b10 HC HZ1 HRp
    have HC := Lib.hid (HRs.out w10 (HR.out.on HBx.out))
    have k_K0 := (HBx.out.cell (World.block_lt_of_cell? _ _ K0.out)).trans K0.out
    go_wp2_with fail
    clear k_K0
    refine HC.out.mono ?_
    rintro e w11 ⟨A14, R14, c14, A15, c15, p10, M14, rfl, hl14, hp10, g14, hX14, b11⟩
    obtain rfl : p = p10 := HPp.out.uniq hp10
    obtain rfl : M = M14 := HM.out.1.symm.trans hl14
    have k8 := (b11.block _ (Array.getElem?_eq_some_iff.1 HPb.out).1).trans HPb.out
    have hP : w9.heap.size < w10.heap.size := (Array.getElem?_eq_some_iff.1 HPb.out).1
    have hz : (w11.setCell ⟨w9.heap.size, 0, none⟩ (.slice A14 M c14)).heap.size = w11.heap.size := by simp [World.setCell]
    have HSt : Hid (Below w9.heap.size w9 (w11.setCell ⟨w9.heap.size, 0, none⟩ (.slice A14 M c14))) := (HBx.out.trans (b11.mono HBx.out.size)).setCell (p := ⟨w9.heap.size, 0, none⟩) (Nat.le_refl _) _
    have q12 : RdV (w11.setCell ⟨w9.heap.size, 0, none⟩ (.slice A14 M c14)) (w11.setCell ⟨w9.heap.size, 0, none⟩ (.slice A14 M c14)).heap.size A12 (zc (ns p)) := HK9.out _ (fun k h1 h2 => (Below.heap_setCell _ _ _ _ (by show k ≠ w9.heap.size; omega)).trans (b11.block k h2)) (by rw [hz]; exact b11.size)
    obtain ⟨q14, q15⟩ := hX14 (w11.setCell ⟨w9.heap.size, 0, none⟩ (.slice A14 M c14)) (fun k h1 h2 => Below.heap_setCell _ _ _ _ (by show k ≠ w9.heap.size; omega)) (by rw [hz]; exact Nat.le_refl _)
    have k15 : (w11.setCell ⟨w9.heap.size, 0, none⟩ (.slice A14 M c14)).cell? ⟨w9.heap.size, 0, none⟩ = some (.slice A14 M c14) := by have := heap_set_same _ _ 0 (.slice A14 M c14) _ _ k8; exact (cell_at this 0).trans rfl
    have k8c : w11.cell? ⟨w9.heap.size, 0, none⟩ = some (.slice none 0 0) := (cell_at k8 0).trans rfl
    have k8f : w11.frozen? ⟨w9.heap.size, 0, none⟩ = false := frz_at k8 0
    clear hl14 hp10 hX14 b11 k8 hz hP HC HK9 HRs HPb
    have HBq : Hid (Below w9.heap.size w9 ((w11.setCell ⟨w9.heap.size, 0, none⟩ (.slice A14 M c14)))) := HSt.out
    replace HB : Hid (Below w.heap.size w ((w11.setCell ⟨w9.heap.size, 0, none⟩ (.slice A14 M c14)))) := HB.out.trans (HBq.out.mono HB.out.size)
    replace HR : Hid (RdG ((w11.setCell ⟨w9.heap.size, 0, none⟩ (.slice A14 M c14))) (((w11.setCell ⟨w9.heap.size, 0, none⟩ (.slice A14 M c14)))).heap.size A R) := HR.out.on HBq.out
    replace K0 : Hid ((((w11.setCell ⟨w9.heap.size, 0, none⟩ (.slice A14 M c14)))).cell? ⟨w.heap.size, 0, none⟩ = some (.slice A N c)) := (HBq.out.cell (World.block_lt_of_cell? _ _ K0.out)).trans K0.out
    replace Q1 : Hid (RdV ((w11.setCell ⟨w9.heap.size, 0, none⟩ (.slice A14 M c14))) (((w11.setCell ⟨w9.heap.size, 0, none⟩ (.slice A14 M c14)))).heap.size (some ⟨b1, 0, none⟩) (zc (ns p))) := Q1.out.on HBq.out
    replace Q2 : Hid (RdV ((w11.setCell ⟨w9.heap.size, 0, none⟩ (.slice A14 M c14))) (((w11.setCell ⟨w9.heap.size, 0, none⟩ (.slice A14 M c14)))).heap.size A2 (zc (ns o))) := Q2.out.on HBq.out
    replace Q3 : Hid (RdG ((w11.setCell ⟨w9.heap.size, 0, none⟩ (.slice A14 M c14))) (((w11.setCell ⟨w9.heap.size, 0, none⟩ (.slice A14 M c14)))).heap.size A3 R3) := Q3.out.on HBq.out
    replace Q4 : Hid (RdV ((w11.setCell ⟨w9.heap.size, 0, none⟩ (.slice A14 M c14))) (((w11.setCell ⟨w9.heap.size, 0, none⟩ (.slice A14 M c14)))).heap.size A4 (zc (ns (ofL p N)))) := Q4.out.on HBq.out
    replace K7 : Hid ((((w11.setCell ⟨w9.heap.size, 0, none⟩ (.slice A14 M c14)))).cell? ⟨w3.heap.size, 0, none⟩ = some (.slice A3 M c3)) := (HBq.out.cell (World.block_lt_of_cell? _ _ K7.out)).trans K7.out
    clear HBq
    clear HSt HBx
    have Q12 : Hid (RdV ((w11.setCell ⟨w9.heap.size, 0, none⟩ (.slice A14 M c14))) (((w11.setCell ⟨w9.heap.size, 0, none⟩ (.slice A14 M c14)))).heap.size A12 (zc (ns p))) := q12
    have Q14 : Hid (RdG ((w11.setCell ⟨w9.heap.size, 0, none⟩ (.slice A14 M c14))) (((w11.setCell ⟨w9.heap.size, 0, none⟩ (.slice A14 M c14)))).heap.size A14 R14) := q14
    have Q15 : Hid (RdV ((w11.setCell ⟨w9.heap.size, 0, none⟩ (.slice A14 M c14))) (((w11.setCell ⟨w9.heap.size, 0, none⟩ (.slice A14 M c14)))).heap.size A15 (zc (ns (ofL p N)))) := q15
    have K15 : Hid ((((w11.setCell ⟨w9.heap.size, 0, none⟩ (.slice A14 M c14)))).cell? ⟨w9.heap.size, 0, none⟩ = some (.slice A14 M c14)) := k15
    have HG14 := Lib.hid g14
    clear q12 q14 q15 k15 g14
    have HC := Lib.hid (HRo.out _ HR.out)
    have k_K0 := K0.out
    go_wp2_with fail
    clear k_K0
    refine HC.out.mono ?_
    rintro e w12 ⟨A13, n13, c13, o13, b13, rfl, hl13, ho13, q13, bq⟩
    clear HC
    have HBc := Lib.hid bq; clear bq
    have HBq : Hid (Below ((w11.setCell ⟨w9.heap.size, 0, none⟩ (.slice A14 M c14))).heap.size ((w11.setCell ⟨w9.heap.size, 0, none⟩ (.slice A14 M c14))) w12) := HBc.out
    replace HB : Hid (Below w.heap.size w w12) := HB.out.trans (HBq.out.mono HB.out.size)
    replace HR : Hid (RdG w12 (w12).heap.size A R) := HR.out.on HBq.out
    replace K0 : Hid ((w12).cell? ⟨w.heap.size, 0, none⟩ = some (.slice A N c)) := (HBq.out.cell (World.block_lt_of_cell? _ _ K0.out)).trans K0.out
    replace Q1 : Hid (RdV w12 (w12).heap.size (some ⟨b1, 0, none⟩) (zc (ns p))) := Q1.out.on HBq.out
    replace Q2 : Hid (RdV w12 (w12).heap.size A2 (zc (ns o))) := Q2.out.on HBq.out
    replace Q3 : Hid (RdG w12 (w12).heap.size A3 R3) := Q3.out.on HBq.out
    replace Q4 : Hid (RdV w12 (w12).heap.size A4 (zc (ns (ofL p N)))) := Q4.out.on HBq.out
    replace K7 : Hid ((w12).cell? ⟨w3.heap.size, 0, none⟩ = some (.slice A3 M c3)) := (HBq.out.cell (World.block_lt_of_cell? _ _ K7.out)).trans K7.out
    replace Q12 : Hid (RdV w12 (w12).heap.size A12 (zc (ns p))) := Q12.out.on HBq.out
    replace Q14 : Hid (RdG w12 (w12).heap.size A14 R14) := Q14.out.on HBq.out
    replace Q15 : Hid (RdV w12 (w12).heap.size A15 (zc (ns (ofL p N)))) := Q15.out.on HBq.out
    replace K15 : Hid ((w12).cell? ⟨w9.heap.size, 0, none⟩ = some (.slice A14 M c14)) := (HBq.out.cell (World.block_lt_of_cell? _ _ K15.out)).trans K15.out
    clear HBq
    clear HBc
    clear k8c k8f HRo
    obtain ⟨ho, hv⟩ := OrP.uniq HOk.out.1.bdd HO2.out.2 ho13
    obtain rfl : o = o13 := ho
    obtain rfl : n2 = n13 := HO2.out.1.symm.trans hl13
    have Q13 : Hid (RdV w12 (w12).heap.size A13 (zc (ns o))) := q13
    clear q13 hl13 ho13
    have HN2 : n2 ≤ 1000 := by
      rw [← HO2.out.1]
      rcases HO2.out.2 with ⟨_, _, q⟩ | ⟨_, q, _⟩
      · rw [q]; have := HOk.out.1.nodes; omega
      · rw [q]; simp
    have t3 : (e2 == e2) = true := by simp
    cases b13 with
    | true =>
      simp at hv; subst hv
      have HC := Lib.hid (strongbegun_true w12)
      go_wp2_with fail
      refine HC.out.mono ?_
      rintro e u1 ⟨rfl, bq⟩
      clear HC
      have HBc := Lib.hid bq; clear bq
      have HBq : Hid (Below w12.heap.size w12 u1) := HBc.out
      replace HB : Hid (Below w.heap.size w u1) := HB.out.trans (HBq.out.mono HB.out.size)
      replace HR : Hid (RdG u1 (u1).heap.size A R) := HR.out.on HBq.out
      replace K0 : Hid ((u1).cell? ⟨w.heap.size, 0, none⟩ = some (.slice A N c)) := (HBq.out.cell (World.block_lt_of_cell? _ _ K0.out)).trans K0.out
      replace Q1 : Hid (RdV u1 (u1).heap.size (some ⟨b1, 0, none⟩) (zc (ns p))) := Q1.out.on HBq.out
      replace Q2 : Hid (RdV u1 (u1).heap.size A2 (zc (ns o))) := Q2.out.on HBq.out
      replace Q3 : Hid (RdG u1 (u1).heap.size A3 R3) := Q3.out.on HBq.out
      replace Q4 : Hid (RdV u1 (u1).heap.size A4 (zc (ns (ofL p N)))) := Q4.out.on HBq.out
      replace K7 : Hid ((u1).cell? ⟨w3.heap.size, 0, none⟩ = some (.slice A3 M c3)) := (HBq.out.cell (World.block_lt_of_cell? _ _ K7.out)).trans K7.out
      replace Q12 : Hid (RdV u1 (u1).heap.size A12 (zc (ns p))) := Q12.out.on HBq.out
      replace Q14 : Hid (RdG u1 (u1).heap.size A14 R14) := Q14.out.on HBq.out
      replace Q15 : Hid (RdV u1 (u1).heap.size A15 (zc (ns (ofL p N)))) := Q15.out.on HBq.out
      replace K15 : Hid ((u1).cell? ⟨w9.heap.size, 0, none⟩ = some (.slice A14 M c14)) := (HBq.out.cell (World.block_lt_of_cell? _ _ K15.out)).trans K15.out
      replace Q13 : Hid (RdV u1 (u1).heap.size A13 (zc (ns o))) := Q13.out.on HBq.out
      clear HBq
      clear HBc
      have HC := Lib.hid (si_true p N N HPl.out HPl.out (by omega) (some ⟨b1, 0, none⟩) A12 N c12 _ Q1.out Q12.out)
      go_wp2_with fail
      refine HC.out.mono ?_
      rintro e u2 ⟨rfl, bq⟩
      clear HC
      have HBc := Lib.hid bq; clear bq
      have HBq : Hid (Below u1.heap.size u1 u2) := HBc.out
      replace HB : Hid (Below w.heap.size w u2) := HB.out.trans (HBq.out.mono HB.out.size)
      replace HR : Hid (RdG u2 (u2).heap.size A R) := HR.out.on HBq.out
      replace K0 : Hid ((u2).cell? ⟨w.heap.size, 0, none⟩ = some (.slice A N c)) := (HBq.out.cell (World.block_lt_of_cell? _ _ K0.out)).trans K0.out
      replace Q1 : Hid (RdV u2 (u2).heap.size (some ⟨b1, 0, none⟩) (zc (ns p))) := Q1.out.on HBq.out
      replace Q2 : Hid (RdV u2 (u2).heap.size A2 (zc (ns o))) := Q2.out.on HBq.out
      replace Q3 : Hid (RdG u2 (u2).heap.size A3 R3) := Q3.out.on HBq.out
      replace Q4 : Hid (RdV u2 (u2).heap.size A4 (zc (ns (ofL p N)))) := Q4.out.on HBq.out
      replace K7 : Hid ((u2).cell? ⟨w3.heap.size, 0, none⟩ = some (.slice A3 M c3)) := (HBq.out.cell (World.block_lt_of_cell? _ _ K7.out)).trans K7.out
      replace Q12 : Hid (RdV u2 (u2).heap.size A12 (zc (ns p))) := Q12.out.on HBq.out
      replace Q14 : Hid (RdG u2 (u2).heap.size A14 R14) := Q14.out.on HBq.out
      replace Q15 : Hid (RdV u2 (u2).heap.size A15 (zc (ns (ofL p N)))) := Q15.out.on HBq.out
      replace K15 : Hid ((u2).cell? ⟨w9.heap.size, 0, none⟩ = some (.slice A14 M c14)) := (HBq.out.cell (World.block_lt_of_cell? _ _ K15.out)).trans K15.out
      replace Q13 : Hid (RdV u2 (u2).heap.size A13 (zc (ns o))) := Q13.out.on HBq.out
      clear HBq
      clear HBc
      have HC := Lib.hid (si_true o n2 n2 HO2.out.1 HO2.out.1 (by omega) A2 A13 c2 c13 _ Q2.out Q13.out)
      go_wp2_with fail
      refine HC.out.mono ?_
      rintro e u3 ⟨rfl, bq⟩
      clear HC
      have HBc := Lib.hid bq; clear bq
      have HBq : Hid (Below u2.heap.size u2 u3) := HBc.out
      replace HB : Hid (Below w.heap.size w u3) := HB.out.trans (HBq.out.mono HB.out.size)
      replace HR : Hid (RdG u3 (u3).heap.size A R) := HR.out.on HBq.out
      replace K0 : Hid ((u3).cell? ⟨w.heap.size, 0, none⟩ = some (.slice A N c)) := (HBq.out.cell (World.block_lt_of_cell? _ _ K0.out)).trans K0.out
      replace Q1 : Hid (RdV u3 (u3).heap.size (some ⟨b1, 0, none⟩) (zc (ns p))) := Q1.out.on HBq.out
      replace Q2 : Hid (RdV u3 (u3).heap.size A2 (zc (ns o))) := Q2.out.on HBq.out
      replace Q3 : Hid (RdG u3 (u3).heap.size A3 R3) := Q3.out.on HBq.out
      replace Q4 : Hid (RdV u3 (u3).heap.size A4 (zc (ns (ofL p N)))) := Q4.out.on HBq.out
      replace K7 : Hid ((u3).cell? ⟨w3.heap.size, 0, none⟩ = some (.slice A3 M c3)) := (HBq.out.cell (World.block_lt_of_cell? _ _ K7.out)).trans K7.out
      replace Q12 : Hid (RdV u3 (u3).heap.size A12 (zc (ns p))) := Q12.out.on HBq.out
      replace Q14 : Hid (RdG u3 (u3).heap.size A14 R14) := Q14.out.on HBq.out
      replace Q15 : Hid (RdV u3 (u3).heap.size A15 (zc (ns (ofL p N)))) := Q15.out.on HBq.out
      replace K15 : Hid ((u3).cell? ⟨w9.heap.size, 0, none⟩ = some (.slice A14 M c14)) := (HBq.out.cell (World.block_lt_of_cell? _ _ K15.out)).trans K15.out
      replace Q13 : Hid (RdV u3 (u3).heap.size A13 (zc (ns o))) := Q13.out.on HBq.out
      clear HBq
      clear HBc
      have HC := Lib.hid (sg_true (gsh g p) R3 R14 HM.out.2 HG14.out M M HM.out.1 HM.out.1 HM1 A3 A14 c3 c14 _ Q3.out Q14.out)
      have k_K7 := K7.out
      have k_K15 := K15.out
      go_wp2_with fail
      clear k_K7
      clear k_K15
      refine HC.out.mono ?_
      rintro e u4 ⟨rfl, bq⟩
      clear HC
      have HBc := Lib.hid bq; clear bq
      have HBq : Hid (Below u3.heap.size u3 u4) := HBc.out
      replace HB : Hid (Below w.heap.size w u4) := HB.out.trans (HBq.out.mono HB.out.size)
      replace HR : Hid (RdG u4 (u4).heap.size A R) := HR.out.on HBq.out
      replace K0 : Hid ((u4).cell? ⟨w.heap.size, 0, none⟩ = some (.slice A N c)) := (HBq.out.cell (World.block_lt_of_cell? _ _ K0.out)).trans K0.out
      replace Q1 : Hid (RdV u4 (u4).heap.size (some ⟨b1, 0, none⟩) (zc (ns p))) := Q1.out.on HBq.out
      replace Q2 : Hid (RdV u4 (u4).heap.size A2 (zc (ns o))) := Q2.out.on HBq.out
      replace Q3 : Hid (RdG u4 (u4).heap.size A3 R3) := Q3.out.on HBq.out
      replace Q4 : Hid (RdV u4 (u4).heap.size A4 (zc (ns (ofL p N)))) := Q4.out.on HBq.out
      replace K7 : Hid ((u4).cell? ⟨w3.heap.size, 0, none⟩ = some (.slice A3 M c3)) := (HBq.out.cell (World.block_lt_of_cell? _ _ K7.out)).trans K7.out
      replace Q12 : Hid (RdV u4 (u4).heap.size A12 (zc (ns p))) := Q12.out.on HBq.out
      replace Q14 : Hid (RdG u4 (u4).heap.size A14 R14) := Q14.out.on HBq.out
      replace Q15 : Hid (RdV u4 (u4).heap.size A15 (zc (ns (ofL p N)))) := Q15.out.on HBq.out
      replace K15 : Hid ((u4).cell? ⟨w9.heap.size, 0, none⟩ = some (.slice A14 M c14)) := (HBq.out.cell (World.block_lt_of_cell? _ _ K15.out)).trans K15.out
      replace Q13 : Hid (RdV u4 (u4).heap.size A13 (zc (ns o))) := Q13.out.on HBq.out
      clear HBq
      clear HBc
      have HC := Lib.hid (si_true (ofL p N) N N (ofL_length p N) (ofL_length p N) (by omega) A4 A15 c4 c15 _ Q4.out Q15.out)
      go_wp2_with fail
      refine HC.out.mono ?_
      rintro e u5 ⟨rfl, bq⟩
      clear HC
      have HBc := Lib.hid bq; clear bq
      have HBq : Hid (Below u4.heap.size u4 u5) := HBc.out
      replace HB : Hid (Below w.heap.size w u5) := HB.out.trans (HBq.out.mono HB.out.size)
      replace HR : Hid (RdG u5 (u5).heap.size A R) := HR.out.on HBq.out
      replace K0 : Hid ((u5).cell? ⟨w.heap.size, 0, none⟩ = some (.slice A N c)) := (HBq.out.cell (World.block_lt_of_cell? _ _ K0.out)).trans K0.out
      replace Q1 : Hid (RdV u5 (u5).heap.size (some ⟨b1, 0, none⟩) (zc (ns p))) := Q1.out.on HBq.out
      replace Q2 : Hid (RdV u5 (u5).heap.size A2 (zc (ns o))) := Q2.out.on HBq.out
      replace Q3 : Hid (RdG u5 (u5).heap.size A3 R3) := Q3.out.on HBq.out
      replace Q4 : Hid (RdV u5 (u5).heap.size A4 (zc (ns (ofL p N)))) := Q4.out.on HBq.out
      replace K7 : Hid ((u5).cell? ⟨w3.heap.size, 0, none⟩ = some (.slice A3 M c3)) := (HBq.out.cell (World.block_lt_of_cell? _ _ K7.out)).trans K7.out
      replace Q12 : Hid (RdV u5 (u5).heap.size A12 (zc (ns p))) := Q12.out.on HBq.out
      replace Q14 : Hid (RdG u5 (u5).heap.size A14 R14) := Q14.out.on HBq.out
      replace Q15 : Hid (RdV u5 (u5).heap.size A15 (zc (ns (ofL p N)))) := Q15.out.on HBq.out
      replace K15 : Hid ((u5).cell? ⟨w9.heap.size, 0, none⟩ = some (.slice A14 M c14)) := (HBq.out.cell (World.block_lt_of_cell? _ _ K15.out)).trans K15.out
      replace Q13 : Hid (RdV u5 (u5).heap.size A13 (zc (ns o))) := Q13.out.on HBq.out
      clear HBq
      clear HBc
      go_wp2
      go_ret
      exact ⟨rfl, HB.out⟩
    | false =>
      simp at hv; subst hv
      have HC := Lib.hid (strongbegun_true w12)
      go_wp2_with fail
      refine HC.out.mono ?_
      rintro e u1 ⟨rfl, bq⟩
      clear HC
      have HBc := Lib.hid bq; clear bq
      have HBq : Hid (Below w12.heap.size w12 u1) := HBc.out
      replace HB : Hid (Below w.heap.size w u1) := HB.out.trans (HBq.out.mono HB.out.size)
      replace HR : Hid (RdG u1 (u1).heap.size A R) := HR.out.on HBq.out
      replace K0 : Hid ((u1).cell? ⟨w.heap.size, 0, none⟩ = some (.slice A N c)) := (HBq.out.cell (World.block_lt_of_cell? _ _ K0.out)).trans K0.out
      replace Q1 : Hid (RdV u1 (u1).heap.size (some ⟨b1, 0, none⟩) (zc (ns p))) := Q1.out.on HBq.out
      replace Q2 : Hid (RdV u1 (u1).heap.size A2 (zc (ns o))) := Q2.out.on HBq.out
      replace Q3 : Hid (RdG u1 (u1).heap.size A3 R3) := Q3.out.on HBq.out
      replace Q4 : Hid (RdV u1 (u1).heap.size A4 (zc (ns (ofL p N)))) := Q4.out.on HBq.out
      replace K7 : Hid ((u1).cell? ⟨w3.heap.size, 0, none⟩ = some (.slice A3 M c3)) := (HBq.out.cell (World.block_lt_of_cell? _ _ K7.out)).trans K7.out
      replace Q12 : Hid (RdV u1 (u1).heap.size A12 (zc (ns p))) := Q12.out.on HBq.out
      replace Q14 : Hid (RdG u1 (u1).heap.size A14 R14) := Q14.out.on HBq.out
      replace Q15 : Hid (RdV u1 (u1).heap.size A15 (zc (ns (ofL p N)))) := Q15.out.on HBq.out
      replace K15 : Hid ((u1).cell? ⟨w9.heap.size, 0, none⟩ = some (.slice A14 M c14)) := (HBq.out.cell (World.block_lt_of_cell? _ _ K15.out)).trans K15.out
      replace Q13 : Hid (RdV u1 (u1).heap.size A13 (zc (ns o))) := Q13.out.on HBq.out
      clear HBq
      clear HBc
      have HC := Lib.hid (si_true p N N HPl.out HPl.out (by omega) (some ⟨b1, 0, none⟩) A12 N c12 _ Q1.out Q12.out)
      go_wp2_with fail
      refine HC.out.mono ?_
      rintro e u2 ⟨rfl, bq⟩
      clear HC
      have HBc := Lib.hid bq; clear bq
      have HBq : Hid (Below u1.heap.size u1 u2) := HBc.out
      replace HB : Hid (Below w.heap.size w u2) := HB.out.trans (HBq.out.mono HB.out.size)
      replace HR : Hid (RdG u2 (u2).heap.size A R) := HR.out.on HBq.out
      replace K0 : Hid ((u2).cell? ⟨w.heap.size, 0, none⟩ = some (.slice A N c)) := (HBq.out.cell (World.block_lt_of_cell? _ _ K0.out)).trans K0.out
      replace Q1 : Hid (RdV u2 (u2).heap.size (some ⟨b1, 0, none⟩) (zc (ns p))) := Q1.out.on HBq.out
      replace Q2 : Hid (RdV u2 (u2).heap.size A2 (zc (ns o))) := Q2.out.on HBq.out
      replace Q3 : Hid (RdG u2 (u2).heap.size A3 R3) := Q3.out.on HBq.out
      replace Q4 : Hid (RdV u2 (u2).heap.size A4 (zc (ns (ofL p N)))) := Q4.out.on HBq.out
      replace K7 : Hid ((u2).cell? ⟨w3.heap.size, 0, none⟩ = some (.slice A3 M c3)) := (HBq.out.cell (World.block_lt_of_cell? _ _ K7.out)).trans K7.out
      replace Q12 : Hid (RdV u2 (u2).heap.size A12 (zc (ns p))) := Q12.out.on HBq.out
      replace Q14 : Hid (RdG u2 (u2).heap.size A14 R14) := Q14.out.on HBq.out
      replace Q15 : Hid (RdV u2 (u2).heap.size A15 (zc (ns (ofL p N)))) := Q15.out.on HBq.out
      replace K15 : Hid ((u2).cell? ⟨w9.heap.size, 0, none⟩ = some (.slice A14 M c14)) := (HBq.out.cell (World.block_lt_of_cell? _ _ K15.out)).trans K15.out
      replace Q13 : Hid (RdV u2 (u2).heap.size A13 (zc (ns o))) := Q13.out.on HBq.out
      clear HBq
      clear HBc
      have HC := Lib.hid (si_true o n2 n2 HO2.out.1 HO2.out.1 (by omega) A2 A13 c2 c13 _ Q2.out Q13.out)
      go_wp2_with fail
      refine HC.out.mono ?_
      rintro e u3 ⟨rfl, bq⟩
      clear HC
      have HBc := Lib.hid bq; clear bq
      have HBq : Hid (Below u2.heap.size u2 u3) := HBc.out
      replace HB : Hid (Below w.heap.size w u3) := HB.out.trans (HBq.out.mono HB.out.size)
      replace HR : Hid (RdG u3 (u3).heap.size A R) := HR.out.on HBq.out
      replace K0 : Hid ((u3).cell? ⟨w.heap.size, 0, none⟩ = some (.slice A N c)) := (HBq.out.cell (World.block_lt_of_cell? _ _ K0.out)).trans K0.out
      replace Q1 : Hid (RdV u3 (u3).heap.size (some ⟨b1, 0, none⟩) (zc (ns p))) := Q1.out.on HBq.out
      replace Q2 : Hid (RdV u3 (u3).heap.size A2 (zc (ns o))) := Q2.out.on HBq.out
      replace Q3 : Hid (RdG u3 (u3).heap.size A3 R3) := Q3.out.on HBq.out
      replace Q4 : Hid (RdV u3 (u3).heap.size A4 (zc (ns (ofL p N)))) := Q4.out.on HBq.out
      replace K7 : Hid ((u3).cell? ⟨w3.heap.size, 0, none⟩ = some (.slice A3 M c3)) := (HBq.out.cell (World.block_lt_of_cell? _ _ K7.out)).trans K7.out
      replace Q12 : Hid (RdV u3 (u3).heap.size A12 (zc (ns p))) := Q12.out.on HBq.out
      replace Q14 : Hid (RdG u3 (u3).heap.size A14 R14) := Q14.out.on HBq.out
      replace Q15 : Hid (RdV u3 (u3).heap.size A15 (zc (ns (ofL p N)))) := Q15.out.on HBq.out
      replace K15 : Hid ((u3).cell? ⟨w9.heap.size, 0, none⟩ = some (.slice A14 M c14)) := (HBq.out.cell (World.block_lt_of_cell? _ _ K15.out)).trans K15.out
      replace Q13 : Hid (RdV u3 (u3).heap.size A13 (zc (ns o))) := Q13.out.on HBq.out
      clear HBq
      clear HBc
      have HC := Lib.hid (sg_true (gsh g p) R3 R14 HM.out.2 HG14.out M M HM.out.1 HM.out.1 HM1 A3 A14 c3 c14 _ Q3.out Q14.out)
      have k_K7 := K7.out
      have k_K15 := K15.out
      go_wp2_with fail
      clear k_K7
      clear k_K15
      refine HC.out.mono ?_
      rintro e u4 ⟨rfl, bq⟩
      clear HC
      have HBc := Lib.hid bq; clear bq
      have HBq : Hid (Below u3.heap.size u3 u4) := HBc.out
      replace HB : Hid (Below w.heap.size w u4) := HB.out.trans (HBq.out.mono HB.out.size)
      replace HR : Hid (RdG u4 (u4).heap.size A R) := HR.out.on HBq.out
      replace K0 : Hid ((u4).cell? ⟨w.heap.size, 0, none⟩ = some (.slice A N c)) := (HBq.out.cell (World.block_lt_of_cell? _ _ K0.out)).trans K0.out
      replace Q1 : Hid (RdV u4 (u4).heap.size (some ⟨b1, 0, none⟩) (zc (ns p))) := Q1.out.on HBq.out
      replace Q2 : Hid (RdV u4 (u4).heap.size A2 (zc (ns o))) := Q2.out.on HBq.out
      replace Q3 : Hid (RdG u4 (u4).heap.size A3 R3) := Q3.out.on HBq.out
      replace Q4 : Hid (RdV u4 (u4).heap.size A4 (zc (ns (ofL p N)))) := Q4.out.on HBq.out
      replace K7 : Hid ((u4).cell? ⟨w3.heap.size, 0, none⟩ = some (.slice A3 M c3)) := (HBq.out.cell (World.block_lt_of_cell? _ _ K7.out)).trans K7.out
      replace Q12 : Hid (RdV u4 (u4).heap.size A12 (zc (ns p))) := Q12.out.on HBq.out
      replace Q14 : Hid (RdG u4 (u4).heap.size A14 R14) := Q14.out.on HBq.out
      replace Q15 : Hid (RdV u4 (u4).heap.size A15 (zc (ns (ofL p N)))) := Q15.out.on HBq.out
      replace K15 : Hid ((u4).cell? ⟨w9.heap.size, 0, none⟩ = some (.slice A14 M c14)) := (HBq.out.cell (World.block_lt_of_cell? _ _ K15.out)).trans K15.out
      replace Q13 : Hid (RdV u4 (u4).heap.size A13 (zc (ns o))) := Q13.out.on HBq.out
      clear HBq
      clear HBc
      have HC := Lib.hid (si_true (ofL p N) N N (ofL_length p N) (ofL_length p N) (by omega) A4 A15 c4 c15 _ Q4.out Q15.out)
      go_wp2_with fail
      refine HC.out.mono ?_
      rintro e u5 ⟨rfl, bq⟩
      clear HC
      have HBc := Lib.hid bq; clear bq
      have HBq : Hid (Below u4.heap.size u4 u5) := HBc.out
      replace HB : Hid (Below w.heap.size w u5) := HB.out.trans (HBq.out.mono HB.out.size)
      replace HR : Hid (RdG u5 (u5).heap.size A R) := HR.out.on HBq.out
      replace K0 : Hid ((u5).cell? ⟨w.heap.size, 0, none⟩ = some (.slice A N c)) := (HBq.out.cell (World.block_lt_of_cell? _ _ K0.out)).trans K0.out
      replace Q1 : Hid (RdV u5 (u5).heap.size (some ⟨b1, 0, none⟩) (zc (ns p))) := Q1.out.on HBq.out
      replace Q2 : Hid (RdV u5 (u5).heap.size A2 (zc (ns o))) := Q2.out.on HBq.out
      replace Q3 : Hid (RdG u5 (u5).heap.size A3 R3) := Q3.out.on HBq.out
      replace Q4 : Hid (RdV u5 (u5).heap.size A4 (zc (ns (ofL p N)))) := Q4.out.on HBq.out
      replace K7 : Hid ((u5).cell? ⟨w3.heap.size, 0, none⟩ = some (.slice A3 M c3)) := (HBq.out.cell (World.block_lt_of_cell? _ _ K7.out)).trans K7.out
      replace Q12 : Hid (RdV u5 (u5).heap.size A12 (zc (ns p))) := Q12.out.on HBq.out
      replace Q14 : Hid (RdG u5 (u5).heap.size A14 R14) := Q14.out.on HBq.out
      replace Q15 : Hid (RdV u5 (u5).heap.size A15 (zc (ns (ofL p N)))) := Q15.out.on HBq.out
      replace K15 : Hid ((u5).cell? ⟨w9.heap.size, 0, none⟩ = some (.slice A14 M c14)) := (HBq.out.cell (World.block_lt_of_cell? _ _ K15.out)).trans K15.out
      replace Q13 : Hid (RdV u5 (u5).heap.size A13 (zc (ns o))) := Q13.out.on HBq.out
      clear HBq
      clear HBc
      go_wp2
      go_ret
      exact ⟨rfl, HB.out⟩
  · have HP := Lib.hid (lw_parts_e R N hN hn _ rfl e0)
    have HO := Lib.hid (lw_order_e R N hN hn _ rfl e0)
    have HSh := Lib.hid (lw_shrink_e R N hN hn _ rfl e0)
    have HRC : Hid (∀ V, RdG V V.heap.size A R → Calls Try.prog 20 #[.agg #[.slice A N c]] V fun e w' => e = .returned (.int .i64 (grE (gs R))) ∧ Below V.heap.size V w') := fun V h => refgchk_any R N hN hn A c V h
    have t1 : (grE (gs R) == 0) = false := by simpa using e0
    have u1 : (grE (gs R) != 0) = true := by simpa using e0
    have u2 : (grE (gs R) == grE (gs R)) = true := by simp
    clear e0 hN hn
    generalize grE (gs R) = e1 at *
    have HB : Hid (Below w.heap.size w w) := Below.refl _ w
    have HR := Lib.hid hA; clear hA
    go_enter Try.func7, Try.ntmps7
    have HBq : Hid (Below w.heap.size w (w.alloc (.cells #[.slice A N c] 24))) := one_below _ _
    replace HB : Hid (Below w.heap.size w (w.alloc (.cells #[.slice A N c] 24))) := HB.out.trans (HBq.out.mono HB.out.size)
    replace HR : Hid (RdG (w.alloc (.cells #[.slice A N c] 24)) ((w.alloc (.cells #[.slice A N c] 24))).heap.size A R) := HR.out.on HBq.out
    clear HBq
    have K0 : Hid (((w.alloc (.cells #[.slice A N c] 24))).cell? ⟨w.heap.size, 0, none⟩ = some (.slice A N c)) := (cell_at (World.alloc_heap_new w _) 0).trans rfl
    have HC := Lib.hid (HP.out A c _ HR.out)
    have k_K0 := K0.out
    go_wp2_with fail
    clear k_K0
    refine HC.out.mono ?_
    rintro e w1 ⟨rfl, bq⟩
    clear HC
    have HBc := Lib.hid bq; clear bq
    have HBq : Hid (Below (w.alloc (.cells #[.slice A N c] 24)).heap.size (w.alloc (.cells #[.slice A N c] 24)) w1) := HBc.out
    replace HB : Hid (Below w.heap.size w w1) := HB.out.trans (HBq.out.mono HB.out.size)
    replace HR : Hid (RdG w1 (w1).heap.size A R) := HR.out.on HBq.out
    replace K0 : Hid ((w1).cell? ⟨w.heap.size, 0, none⟩ = some (.slice A N c)) := (HBq.out.cell (World.block_lt_of_cell? _ _ K0.out)).trans K0.out
    clear HBq
    clear HBc
    have HC := Lib.hid (HO.out A c _ HR.out)
    have k_K0 := K0.out
    go_wp2_with fail
    clear k_K0
    refine HC.out.mono ?_
    rintro e w2 ⟨A2, c2, rfl, q2, bq⟩
    clear HC
    have HBc := Lib.hid bq; clear bq
    have HBq : Hid (Below w1.heap.size w1 w2) := HBc.out
    replace HB : Hid (Below w.heap.size w w2) := HB.out.trans (HBq.out.mono HB.out.size)
    replace HR : Hid (RdG w2 (w2).heap.size A R) := HR.out.on HBq.out
    replace K0 : Hid ((w2).cell? ⟨w.heap.size, 0, none⟩ = some (.slice A N c)) := (HBq.out.cell (World.block_lt_of_cell? _ _ K0.out)).trans K0.out
    clear HBq
    clear HBc
    have Q2 : Hid (RdV w2 (w2).heap.size A2 (zc (ns []))) := q2
    clear q2
    have HC := Lib.hid (HSh.out A c _ HR.out)
    have k_K0 := K0.out
    go_wp2_with fail
    clear k_K0
    refine HC.out.mono ?_
    rintro e w3 ⟨A3, R3, c3, A4, c4, rfl, g3, q3, q4, bq⟩
    clear HC
    have HBc := Lib.hid bq; clear bq
    have HBq : Hid (Below w2.heap.size w2 w3) := HBc.out
    replace HB : Hid (Below w.heap.size w w3) := HB.out.trans (HBq.out.mono HB.out.size)
    replace HR : Hid (RdG w3 (w3).heap.size A R) := HR.out.on HBq.out
    replace K0 : Hid ((w3).cell? ⟨w.heap.size, 0, none⟩ = some (.slice A N c)) := (HBq.out.cell (World.block_lt_of_cell? _ _ K0.out)).trans K0.out
    replace Q2 : Hid (RdV w3 (w3).heap.size A2 (zc (ns []))) := Q2.out.on HBq.out
    clear HBq
    clear HBc
    have Q3 : Hid (RdG w3 (w3).heap.size A3 R3) := q3
    clear q3
    have Q4 : Hid (RdV w3 (w3).heap.size A4 (zc (ns []))) := q4
    clear q4
    have HG3 : Hid (gs R3 = ([] : List (List Nat)).map ns) := g3; clear g3
    have HBq : Hid (Below w3.heap.size w3 (w3.alloc (.cells #[.slice A3 0 c3] 24))) := one_below _ _
    replace HB : Hid (Below w.heap.size w (w3.alloc (.cells #[.slice A3 0 c3] 24))) := HB.out.trans (HBq.out.mono HB.out.size)
    replace HR : Hid (RdG (w3.alloc (.cells #[.slice A3 0 c3] 24)) ((w3.alloc (.cells #[.slice A3 0 c3] 24))).heap.size A R) := HR.out.on HBq.out
    replace K0 : Hid (((w3.alloc (.cells #[.slice A3 0 c3] 24))).cell? ⟨w.heap.size, 0, none⟩ = some (.slice A N c)) := (HBq.out.cell (World.block_lt_of_cell? _ _ K0.out)).trans K0.out
    replace Q2 : Hid (RdV (w3.alloc (.cells #[.slice A3 0 c3] 24)) ((w3.alloc (.cells #[.slice A3 0 c3] 24))).heap.size A2 (zc (ns []))) := Q2.out.on HBq.out
    replace Q3 : Hid (RdG (w3.alloc (.cells #[.slice A3 0 c3] 24)) ((w3.alloc (.cells #[.slice A3 0 c3] 24))).heap.size A3 R3) := Q3.out.on HBq.out
    replace Q4 : Hid (RdV (w3.alloc (.cells #[.slice A3 0 c3] 24)) ((w3.alloc (.cells #[.slice A3 0 c3] 24))).heap.size A4 (zc (ns []))) := Q4.out.on HBq.out
    clear HBq
    have K7 : Hid (((w3.alloc (.cells #[.slice A3 0 c3] 24))).cell? ⟨w3.heap.size, 0, none⟩ = some (.slice A3 0 c3)) := (cell_at (World.alloc_heap_new w3 _) 0).trans rfl
    have HC := Lib.hid (HRC.out _ HR.out)
    have k_K0 := K0.out
    go_wp2_with fail
    clear k_K0
    refine HC.out.mono ?_
    rintro e w9 ⟨rfl, bq⟩
    clear HC
    have HBc := Lib.hid bq; clear bq
    have HBq : Hid (Below (w3.alloc (.cells #[.slice A3 0 c3] 24)).heap.size (w3.alloc (.cells #[.slice A3 0 c3] 24)) w9) := HBc.out
    replace HB : Hid (Below w.heap.size w w9) := HB.out.trans (HBq.out.mono HB.out.size)
    replace HR : Hid (RdG w9 (w9).heap.size A R) := HR.out.on HBq.out
    replace K0 : Hid ((w9).cell? ⟨w.heap.size, 0, none⟩ = some (.slice A N c)) := (HBq.out.cell (World.block_lt_of_cell? _ _ K0.out)).trans K0.out
    replace Q2 : Hid (RdV w9 (w9).heap.size A2 (zc (ns []))) := Q2.out.on HBq.out
    replace Q3 : Hid (RdG w9 (w9).heap.size A3 R3) := Q3.out.on HBq.out
    replace Q4 : Hid (RdV w9 (w9).heap.size A4 (zc (ns []))) := Q4.out.on HBq.out
    replace K7 : Hid ((w9).cell? ⟨w3.heap.size, 0, none⟩ = some (.slice A3 0 c3)) := (HBq.out.cell (World.block_lt_of_cell? _ _ K7.out)).trans K7.out
    clear HBq
    clear HBc
    have HBq : Hid (Below w9.heap.size w9 (w9.alloc (.cells #[.slice none 0 0] 24))) := one_below _ _
    replace HB : Hid (Below w.heap.size w (w9.alloc (.cells #[.slice none 0 0] 24))) := HB.out.trans (HBq.out.mono HB.out.size)
    replace HR : Hid (RdG (w9.alloc (.cells #[.slice none 0 0] 24)) ((w9.alloc (.cells #[.slice none 0 0] 24))).heap.size A R) := HR.out.on HBq.out
    replace K0 : Hid (((w9.alloc (.cells #[.slice none 0 0] 24))).cell? ⟨w.heap.size, 0, none⟩ = some (.slice A N c)) := (HBq.out.cell (World.block_lt_of_cell? _ _ K0.out)).trans K0.out
    replace Q2 : Hid (RdV (w9.alloc (.cells #[.slice none 0 0] 24)) ((w9.alloc (.cells #[.slice none 0 0] 24))).heap.size A2 (zc (ns []))) := Q2.out.on HBq.out
    replace Q3 : Hid (RdG (w9.alloc (.cells #[.slice none 0 0] 24)) ((w9.alloc (.cells #[.slice none 0 0] 24))).heap.size A3 R3) := Q3.out.on HBq.out
    replace Q4 : Hid (RdV (w9.alloc (.cells #[.slice none 0 0] 24)) ((w9.alloc (.cells #[.slice none 0 0] 24))).heap.size A4 (zc (ns []))) := Q4.out.on HBq.out
    replace K7 : Hid (((w9.alloc (.cells #[.slice none 0 0] 24))).cell? ⟨w3.heap.size, 0, none⟩ = some (.slice A3 0 c3)) := (HBq.out.cell (World.block_lt_of_cell? _ _ K7.out)).trans K7.out
    clear HBq
    have K15 : Hid (((w9.alloc (.cells #[.slice none 0 0] 24))).cell? ⟨w9.heap.size, 0, none⟩ = some (.slice none 0 0)) := (cell_at (World.alloc_heap_new w9 _) 0).trans rfl
    have HC := Lib.hid (strongbegun_true (w9.alloc (.cells #[.slice none 0 0] 24)))
    go_wp2_with fail
    refine HC.out.mono ?_
    rintro e v1 ⟨rfl, bq⟩
    clear HC
    have HBc := Lib.hid bq; clear bq
    have HBq : Hid (Below (w9.alloc (.cells #[.slice none 0 0] 24)).heap.size (w9.alloc (.cells #[.slice none 0 0] 24)) v1) := HBc.out
    replace HB : Hid (Below w.heap.size w v1) := HB.out.trans (HBq.out.mono HB.out.size)
    replace HR : Hid (RdG v1 (v1).heap.size A R) := HR.out.on HBq.out
    replace K0 : Hid ((v1).cell? ⟨w.heap.size, 0, none⟩ = some (.slice A N c)) := (HBq.out.cell (World.block_lt_of_cell? _ _ K0.out)).trans K0.out
    replace Q2 : Hid (RdV v1 (v1).heap.size A2 (zc (ns []))) := Q2.out.on HBq.out
    replace Q3 : Hid (RdG v1 (v1).heap.size A3 R3) := Q3.out.on HBq.out
    replace Q4 : Hid (RdV v1 (v1).heap.size A4 (zc (ns []))) := Q4.out.on HBq.out
    replace K7 : Hid ((v1).cell? ⟨w3.heap.size, 0, none⟩ = some (.slice A3 0 c3)) := (HBq.out.cell (World.block_lt_of_cell? _ _ K7.out)).trans K7.out
    replace K15 : Hid ((v1).cell? ⟨w9.heap.size, 0, none⟩ = some (.slice none 0 0)) := (HBq.out.cell (World.block_lt_of_cell? _ _ K15.out)).trans K15.out
    clear HBq
    clear HBc
    have HC := Lib.hid (si_true [] 0 0 rfl rfl (by omega) none none 0 0 v1 (.inl rfl) (.inl rfl))
    go_wp2_with fail
    refine HC.out.mono ?_
    rintro e v2 ⟨rfl, bq⟩
    clear HC
    have HBc := Lib.hid bq; clear bq
    have HBq : Hid (Below v1.heap.size v1 v2) := HBc.out
    replace HB : Hid (Below w.heap.size w v2) := HB.out.trans (HBq.out.mono HB.out.size)
    replace HR : Hid (RdG v2 (v2).heap.size A R) := HR.out.on HBq.out
    replace K0 : Hid ((v2).cell? ⟨w.heap.size, 0, none⟩ = some (.slice A N c)) := (HBq.out.cell (World.block_lt_of_cell? _ _ K0.out)).trans K0.out
    replace Q2 : Hid (RdV v2 (v2).heap.size A2 (zc (ns []))) := Q2.out.on HBq.out
    replace Q3 : Hid (RdG v2 (v2).heap.size A3 R3) := Q3.out.on HBq.out
    replace Q4 : Hid (RdV v2 (v2).heap.size A4 (zc (ns []))) := Q4.out.on HBq.out
    replace K7 : Hid ((v2).cell? ⟨w3.heap.size, 0, none⟩ = some (.slice A3 0 c3)) := (HBq.out.cell (World.block_lt_of_cell? _ _ K7.out)).trans K7.out
    replace K15 : Hid ((v2).cell? ⟨w9.heap.size, 0, none⟩ = some (.slice none 0 0)) := (HBq.out.cell (World.block_lt_of_cell? _ _ K15.out)).trans K15.out
    clear HBq
    clear HBc
    have HC := Lib.hid (si_true [] 0 0 rfl rfl (by omega) A2 none c2 0 v2 Q2.out (.inl rfl))
    go_wp2_with fail
    refine HC.out.mono ?_
    rintro e v3 ⟨rfl, bq⟩
    clear HC
    have HBc := Lib.hid bq; clear bq
    have HBq : Hid (Below v2.heap.size v2 v3) := HBc.out
    replace HB : Hid (Below w.heap.size w v3) := HB.out.trans (HBq.out.mono HB.out.size)
    replace HR : Hid (RdG v3 (v3).heap.size A R) := HR.out.on HBq.out
    replace K0 : Hid ((v3).cell? ⟨w.heap.size, 0, none⟩ = some (.slice A N c)) := (HBq.out.cell (World.block_lt_of_cell? _ _ K0.out)).trans K0.out
    replace Q2 : Hid (RdV v3 (v3).heap.size A2 (zc (ns []))) := Q2.out.on HBq.out
    replace Q3 : Hid (RdG v3 (v3).heap.size A3 R3) := Q3.out.on HBq.out
    replace Q4 : Hid (RdV v3 (v3).heap.size A4 (zc (ns []))) := Q4.out.on HBq.out
    replace K7 : Hid ((v3).cell? ⟨w3.heap.size, 0, none⟩ = some (.slice A3 0 c3)) := (HBq.out.cell (World.block_lt_of_cell? _ _ K7.out)).trans K7.out
    replace K15 : Hid ((v3).cell? ⟨w9.heap.size, 0, none⟩ = some (.slice none 0 0)) := (HBq.out.cell (World.block_lt_of_cell? _ _ K15.out)).trans K15.out
    clear HBq
    clear HBc
    have HC := Lib.hid (sg_true [] R3 [] HG3.out rfl 0 0 rfl rfl (by omega) A3 none c3 0 v3 Q3.out (rdg_nil _))
    have k_K7 := K7.out
    have k_K15 := K15.out
    go_wp2_with fail
    clear k_K7
    clear k_K15
    refine HC.out.mono ?_
    rintro e v4 ⟨rfl, bq⟩
    clear HC
    have HBc := Lib.hid bq; clear bq
    have HBq : Hid (Below v3.heap.size v3 v4) := HBc.out
    replace HB : Hid (Below w.heap.size w v4) := HB.out.trans (HBq.out.mono HB.out.size)
    replace HR : Hid (RdG v4 (v4).heap.size A R) := HR.out.on HBq.out
    replace K0 : Hid ((v4).cell? ⟨w.heap.size, 0, none⟩ = some (.slice A N c)) := (HBq.out.cell (World.block_lt_of_cell? _ _ K0.out)).trans K0.out
    replace Q2 : Hid (RdV v4 (v4).heap.size A2 (zc (ns []))) := Q2.out.on HBq.out
    replace Q3 : Hid (RdG v4 (v4).heap.size A3 R3) := Q3.out.on HBq.out
    replace Q4 : Hid (RdV v4 (v4).heap.size A4 (zc (ns []))) := Q4.out.on HBq.out
    replace K7 : Hid ((v4).cell? ⟨w3.heap.size, 0, none⟩ = some (.slice A3 0 c3)) := (HBq.out.cell (World.block_lt_of_cell? _ _ K7.out)).trans K7.out
    replace K15 : Hid ((v4).cell? ⟨w9.heap.size, 0, none⟩ = some (.slice none 0 0)) := (HBq.out.cell (World.block_lt_of_cell? _ _ K15.out)).trans K15.out
    clear HBq
    clear HBc
    have HC := Lib.hid (si_true [] 0 0 rfl rfl (by omega) A4 none c4 0 v4 Q4.out (.inl rfl))
    go_wp2_with fail
    refine HC.out.mono ?_
    rintro e v5 ⟨rfl, bq⟩
    clear HC
    have HBc := Lib.hid bq; clear bq
    have HBq : Hid (Below v4.heap.size v4 v5) := HBc.out
    replace HB : Hid (Below w.heap.size w v5) := HB.out.trans (HBq.out.mono HB.out.size)
    replace HR : Hid (RdG v5 (v5).heap.size A R) := HR.out.on HBq.out
    replace K0 : Hid ((v5).cell? ⟨w.heap.size, 0, none⟩ = some (.slice A N c)) := (HBq.out.cell (World.block_lt_of_cell? _ _ K0.out)).trans K0.out
    replace Q2 : Hid (RdV v5 (v5).heap.size A2 (zc (ns []))) := Q2.out.on HBq.out
    replace Q3 : Hid (RdG v5 (v5).heap.size A3 R3) := Q3.out.on HBq.out
    replace Q4 : Hid (RdV v5 (v5).heap.size A4 (zc (ns []))) := Q4.out.on HBq.out
    replace K7 : Hid ((v5).cell? ⟨w3.heap.size, 0, none⟩ = some (.slice A3 0 c3)) := (HBq.out.cell (World.block_lt_of_cell? _ _ K7.out)).trans K7.out
    replace K15 : Hid ((v5).cell? ⟨w9.heap.size, 0, none⟩ = some (.slice none 0 0)) := (HBq.out.cell (World.block_lt_of_cell? _ _ K15.out)).trans K15.out
    clear HBq
    clear HBc
    go_wp2
    go_ret
    exact ⟨rfl, HB.out⟩
end

section
section
open Go.ChangeShapes Go.WideShapes Go.ChangeAt Go.RowKit Go.Joins

theorem cells3i : Try.prog.cellsOf 3 = 1 := by kernel_rfl

set_option maxRecDepth 100000 in
/-- Numbers that were handed in. -/
theorem open_zs {H : Type} {enc : TypeId × Value → H} {W : World} {base : Nat} {v : Value} {d : DataW H} {p : List MemPlace}
    (hv : Value.okWide Try.prog W .any base 32 v) (h : DataW.Trod enc Try.prog W 0 (fun _ => true) true 32 v d p) :
    ∃ (A : Option Addr) (c : Nat) (xs : List Int), v = .slice A xs.length c ∧ xs.length ≤ c ∧ (A = none → c = 0) ∧ RdV W W.heap.size A (zc xs) ∧ (∀ x ∈ xs, -9223372036854775808 ≤ x ∧ x ≤ 9223372036854775807) ∧ xs.length ≤ 9223372036854775807 := by
  obtain ⟨a0, len0, cap0, rfl⟩ := okWide_slice Try.underlying32 hv
  obtain ⟨fuel, hf⟩ := h
  rcases open_ints Try.underlying32 Try.underlying3 cells3i hf with ⟨hcs, _⟩ | ⟨x, l, c, zs, hcs, _, hl, hm, hz, _, hcell, hwz⟩
  · simp [Value.cells] at hcs
    obtain ⟨rfl, rfl, rfl⟩ := hcs
    exact ⟨none, 0, [], rfl, by simp, fun _ => rfl, .inl rfl, by simp, by simp⟩
  · simp [Value.cells] at hcs
    obtain ⟨rfl, rfl, rfl⟩ := hcs
    have hzc : zs.length = cap0 := by simpa using hz
    have hlen : (zs.take len0).length = len0 := by rw [List.length_take]; omega
    unfold maxLen at hm
    refine ⟨some x, cap0, zs.take len0, by rw [hlen], by rw [hlen]; exact hl, (fun h => by cases h), ?_, ?_, by rw [hlen]; omega⟩
    · rcases Nat.eq_zero_or_pos len0 with h0 | h0
      · left; rw [h0]; rfl
      · obtain ⟨b, off, rfl, hc⟩ := ints_at hcell (by omega)
        refine .inr ⟨b, off, rfl, lt_of_cell (hc 0 (by omega)), fun i v hi => ?_⟩
        have hil : i < len0 := by
          rcases Nat.lt_or_ge i len0 with h | h
          · exact h
          · rw [List.getElem?_eq_none (by rw [zc_length, hlen]; exact h)] at hi; cases hi
        rw [zc_get _ i (by rw [hlen]; exact hil)] at hi
        cases hi
        rw [hc i (by omega)]
        have hz0 : zs.getD i 0 = zs[i]'(by omega) := by rw [List.getD_eq_getElem?_getD, List.getElem?_eq_getElem (by omega)]; rfl
        have e1 : (zs.take len0)[i]?.getD 0 = zs[i]'(by omega) := by
          rw [List.getElem?_take_of_lt hil, List.getElem?_eq_getElem (by omega)]; rfl
        rw [e1, hz0]
    · intro n hn
      exact bounds_i64 (hwz n (List.mem_of_mem_take hn))
end

section
open Go.ChangeShapes Go.WideShapes Go.ChangeAt Go.RowKit Go.Joins Go.Deep

theorem cellsG : Try.prog.cellsOf 24 = 1 := by kernel_rfl
theorem cellsL1 : Try.prog.cellsOf 32 = 1 := by kernel_rfl
theorem cellsL2 : Try.prog.cellsOf 22 = 1 := by kernel_rfl
theorem bytesL1 : Try.prog.bytesOf 32 = 24 := by kernel_rfl
theorem bytesI1 : Try.prog.bytesOf 3 = 8 := by kernel_rfl
theorem weightsAll_mem {H : Type} {P : Program} {e : TypeId} {n : Nat} : ∀ {l : List (DataW H)} {d : DataW H}, d ∈ l → n ∈ d.weights P e → n ∈ DataW.weightsAll P e l
  | x :: t, d, hd, hn => by
    simp only [DataW.weightsAll, List.mem_append]
    rcases List.mem_cons.1 hd with rfl | h
    · exact .inl hn
    · exact .inr (weightsAll_mem h hn)
theorem add_plG (b off k : Nat) : (⟨b, off, none⟩ : Addr).add k = ⟨b, off + k, none⟩ := by unfold Addr.add; split <;> simp_all
theorem zc_mem {l : List Int} {i : Nat} {v : Value} (h : (zc l)[i]? = some v) : ∃ hi : i < l.length, v = .int .i64 l[i] := by
  unfold zc at h
  rw [List.getElem?_map] at h
  obtain ⟨x, hx, rfl⟩ := Option.map_eq_some_iff.1 h
  obtain ⟨hi, rfl⟩ := List.getElem?_eq_some_iff.1 hx
  exact ⟨hi, rfl⟩
set_option maxRecDepth 100000 in
/-- A graph that was handed in. -/
theorem open_graph {H : Type} {enc : TypeId × Value → H} {W : World} {base : Nat} {v : Value} {d : DataW H} {p : List MemPlace}
    (hv : Value.okWide Try.prog W .any base 24 v) (h : DataW.Trod enc Try.prog W 0 (fun _ => true) true 24 v d p)
    (hz : ∀ n ∈ d.weights Try.prog 24, n ≤ reachBytes) :
    ∃ (A : Option Addr) (c : Nat) (R : List Rw), v = .agg #[.slice A R.length c] ∧ RdG W W.heap.size A R ∧ R.length ≤ 140737488355328 := by
  obtain ⟨cs, rfl, hsz⟩ := okWide_struct Try.underlying24 hv
  obtain ⟨c0, rfl⟩ := Array.size_eq_one_iff.1 (hsz.trans cellsG)
  obtain ⟨fuel, hf⟩ := h
  obtain ⟨y0, n, hx, _, h0⟩ := trod_struct1 Try.underlying24 hf
  simp only [Prod.mk.injEq] at hx
  obtain ⟨rfl, rfl⟩ := hx
  simp [Value.cells, cellsL2] at h0
  have hz0 : ∀ n ∈ y0.1.weights Try.prog 22, n ≤ reachBytes := fun n hn => hz n (by
    unfold DataW.weights
    rw [Try.underlying24]
    simp only [List.map_cons, List.map_nil, DataW.weightsEach, List.append_nil]
    exact hn)
  have hrb := reachBytes_lt
  rcases open_int_rows Try.underlying22 Try.underlying32 Try.underlying3 cellsL1 cells3i h0 with ⟨hcs, _⟩ | ⟨a, len, cap, A, L, C, Z, hcs, _, hl, hm, hx, hrow⟩
  · simp at hcs
    subst hcs
    exact ⟨none, 0, [], rfl, ⟨.inl rfl, fun r hr => by simp at hr⟩, by simp⟩
  · simp at hcs
    subst hcs
    rw [hx] at hz0
    have hlen : (len + (cap - len)) * 24 ≤ reachBytes := hz0 _ (by
      simp only [DataW.weights, Try.underlying22, List.length_map, List.length_range, bytesL1]
      exact List.mem_cons_self)
    have hrl : ∀ r, r < len → L r ≤ 140737488355328 := fun r hr => by
      obtain ⟨_, q1, q2, q3, _, q5, _⟩ := hrow r (by omega)
      cases hA : A r with
      | none => rw [q5 hA] at q1; omega
      | some a' =>
        have := hz0 (((Z r).take (L r)).length * 8 + ((Z r).drop (L r)).length * 8) (by
          simp only [DataW.weights, Try.underlying22, List.length_map, List.length_range, bytesL1]
          refine List.mem_cons_of_mem _ (List.mem_append.2 (.inl (weightsAll_mem (List.mem_map.2 ⟨r, List.mem_range.2 hr, rfl⟩) ?_)))
          unfold intRow
          rw [hA]
          simp only [DataW.weights, Try.underlying32, bytesI1, lits, List.length_map]
          refine List.mem_cons.2 (.inl ?_)
          omega)
        rw [List.length_take] at this
        omega
    refine ⟨some a, cap, (List.range len).map fun r => (A r, C r, (Z r).take (L r)), by simp, ⟨?_, ?_⟩, by simp; omega⟩
    · rcases Nat.eq_zero_or_pos len with h0 | h0
      · left; rw [h0]; rfl
      · obtain ⟨b, off, spot⟩ := a
        have hspot : spot = none := by simpa [Addr.add] using World.cell?_spot (hrow 0 (by omega)).1
        subst hspot
        refine .inr ⟨b, off, rfl, ?_, fun i v hi => ?_⟩
        · have := (hrow 0 (by omega)).1
          exact lt_of_cell (p := ⟨b, off + 0, none⟩) (by rw [← add_plG]; exact this)
        · unfold rcl at hi
          rw [List.getElem?_map, List.getElem?_map] at hi
          obtain ⟨y, hy, rfl⟩ := Option.map_eq_some_iff.1 hi
          obtain ⟨j, hj, rfl⟩ := Option.map_eq_some_iff.1 hy
          obtain ⟨hil, rfl⟩ := List.getElem?_eq_some_iff.1 hj
          rw [List.length_range] at hil
          have := hrow i (by omega)
          rw [add_plG] at this
          simp only [List.getElem_range]
          unfold sl
          simp only [List.length_take]
          rw [this.1]
          have e : min (L i) (Z i).length = L i := by have q1 := this.2.1; have q2 := this.2.2.2.1; omega
          rw [e]
    · intro r hr
      obtain ⟨i, hi, rfl⟩ := List.mem_map.1 hr
      have hil := List.mem_range.1 hi
      obtain ⟨q0, q1, q2, q3, q4, q5, q6⟩ := hrow i (by omega)
      refine ⟨?_, by simp only [List.length_take]; have := hrl i hil; omega⟩
      simp only
      rcases Nat.eq_zero_or_pos (L i) with h0 | h0
      · left; rw [h0]; rfl
      · cases hA : A i with
        | none => rw [q5 hA] at q1; omega
        | some a' =>
          obtain ⟨_, q7⟩ := q6 a' hA
          obtain ⟨b, off, spot⟩ := a'
          have hspot : spot = none := by simpa [Addr.add] using World.cell?_spot (q7 0 (by omega))
          subst hspot
          refine .inr ⟨b, off, rfl, ?_, fun j v hj => ?_⟩
          · have := q7 0 (by omega)
            exact lt_of_cell (p := ⟨b, off + 0, none⟩) (by rw [← add_plG]; exact this)
          · obtain ⟨hjl, rfl⟩ := zc_mem hj
            have hjl2 : j < L i := by rw [List.length_take] at hjl; omega
            have := q7 j (by omega)
            rw [add_plG] at this
            rw [this]
            simp [List.getD_eq_getElem?_getD, List.getElem?_eq_getElem (show j < (Z i).length by omega)]
end
end

section
open Go.ChangeShapes Go.WideShapes Go.ChangeAt Go.RowKit
open Go.ChangeMaps (open_string shut_string)

set_option linter.unusedVariables false
set_option maxRecDepth 100000 in
theorem strongTells_lifted (os : Os) (started : os.Started) (H : Type) (enc : TypeId × Value → H) :
    ReturnsInHanded {} Try.checked os 7 .any (Rows.strongTellsSpec.pre6 enc Try.prog Try.f7 Rows.strongTellsRow.domain false) (Rows.strongTellsSpec.post enc Try.prog Try.f7 false true false false) := by
  refine returnsInHanded_of_change_sized (C := Try.checked) own started (by kernel_rfl) Try.func7
    (ChangeSpec.witness6 (enc := enc) (C := Try.checked) false ⟨#[], #[.agg #[.slice none 0 0]], []⟩ 8 (by kernel_rfl) (by kernel_rfl) (by kernel_rfl) (by kernel_rfl)) ?_
  intro W base args ds gs before hval0 hW hcnd hzz _
  have hval : ∀ (j : Nat) t v, Try.f7.params[j]? = some t → args[j]? = some v → Value.okWide Try.prog W .any base t v := hval0
  have hW' := hW
  obtain ⟨p, q, hA0, hV, rfl, hfz, hnd⟩ := hW
  have hA : DataW.TrodAll enc Try.prog W 0 (fun _ => true) true Try.f7.params.toList args.toList ds p := hA0
  rw [Try.params7] at hA hval hzz
  obtain ⟨v0, vs0, d0, ds0, p0, q0, hargs, rfl, rfl, h0, r0⟩ := trodAll_cons hA
  obtain ⟨rfl, rfl, rfl⟩ := trodAll_nil r0
  obtain rfl : args = #[v0] := by cases args; simp_all
  obtain ⟨rfl, rfl⟩ := trodVars_none hV
  have k0 := h0
  have lt0 : ∀ x ∈ p0, x.block < W.heap.size := by obtain ⟨m, hm⟩ := k0; exact DataW.trod_lt m _ _ _ hm
  obtain ⟨A0, c0, R0, rfl, rd0, nn0⟩ := open_graph (hval 0 24 v0 rfl rfl) h0 (fun n hn => of_decide_eq_true (List.all_eq_true.1 hzz n (DataW.weights_mem_each (j := 0) (t := 24) (d := d0) rfl rfl n hn)))
  clear hA0 hval0
  refine (strongTells_law A0 c0 R0 W rd0 nn0).mono fun e W' ⟨he, bel⟩ => ?_
  subst he
  exact ⟨_, rfl, _, _, _, [], _, [], hW', trodAll_mk1 (shut_bool Try.underlying4 _), (trodAll_cons_mk (Below.trod laidOut (by kernel_rfl) (of_decide_eq_true (by kernel_rfl)) k0 bel lt0) trodAll_mk0), rfl, bel.frame _, fun h => by cases h⟩

theorem StrongTells_holds : Rows.StrongTellsSaid :=
  OpenClaim.holds_of_wide 7 Try.f7 rfl rfl rfl rfl rfl rfl rfl ⟨rfl, rfl, rfl, rfl, rfl⟩ rfl rfl rfl rfl rfl (by kernel_rfl) Try.func7 (by kernel_rfl)
    (of_decide_eq_true (by kernel_rfl)) (by unfold Func.isWrapper; first | (rw [if_pos (by decide +kernel)]; kernel_rfl) | (rw [if_neg (by decide +kernel)]; exact ⟨rfl, rfl⟩))
    (fun os started H enc _ => strongTells_lifted os started H enc)
#print axioms StrongTells_holds
end
end Go.Proofs.Ytffgmjfanpgbbaa
