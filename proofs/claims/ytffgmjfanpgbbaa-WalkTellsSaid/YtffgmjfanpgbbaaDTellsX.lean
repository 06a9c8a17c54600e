/- The document's reference for what is right of a graph (GraphCheck), for whatever graph. -/
import Derived.Test.YtffgmjfanpgbbaaWEnd
import Derived.Test.YtffgmjfanpgbbaaDJB
import Derived.Test.YtffgmjfanpgbbaaWOp
namespace Go.Proofs.Ytffgmjfanpgbbaa

section
set_option maxRecDepth 100000
set_option linter.unusedVariables false
open Go.RowKit Go.Shelf

theorem gs_cons (x : Rw) (t : List Rw) : gs (x :: t) = x.2.2 :: gs t := rfl
set_option maxHeartbeats 8000000 in
theorem refgchk_any (R : List Rw) (N : Nat) (hN : R.length = N) (hN2 : N ≤ 140737488355328) (A : Option Addr) (c : Nat) (w : World) (h : RdG w w.heap.size A R) :
    Calls Try.prog 20 #[.agg #[.slice A N c]] w fun e w' => e = .returned (.int .i64 (grE (gs R))) ∧ Below w.heap.size w w' := by
  obtain ⟨w1, hw1⟩ : ∃ w1, w.alloc (.cells #[.slice A N c] 24) = w1 := ⟨_, rfl⟩
  have hs0 : w1.heap.size = w.heap.size + 1 := by rw [← hw1]; exact World.size_alloc _ _
  have hs1 : w1.heap.size ≤ w.heap.size + 1 ∧ w.heap.size + 1 ≤ w1.heap.size := by omega
  clear hs0
  have hb1 : Below w.heap.size w w1 := hw1 ▸ one_below w _
  have kg1 : w1.cell? ⟨w.heap.size, 0, none⟩ = some (.slice A N c) := by rw [← hw1]; exact (cell_at (World.alloc_heap_new w _) 0).trans rfl
  have HH := Lib.hid (⟨hN, h.on hb1, kg1, hb1⟩ : R.length = N ∧ RdG w1 w1.heap.size A R ∧ w1.cell? ⟨w.heap.size, 0, none⟩ = some (.slice A N c) ∧ Below w.heap.size w w1)
  have HW := Lib.hid hw1
  have hbd := sumL_bd R (fun r hr => (h.2 r hr).2)
  rw [hN] at hbd
  obtain ⟨E, hE⟩ : ∃ E, grE (gs R) = E := ⟨_, rfl⟩
  have hgl : (gs R).length = N := by rw [gs_length]; exact hN
  rw [hE]
  unfold grE at hE
  rw [hgl] at hE
  clear hgl hN h hw1
  by_cases h100 : 100 < N
  · rw [if_pos h100] at hE
    subst hE
    have t1 : decide ((100 : Int) < (N : Int)) = true := by simp; omega
    have HB := Lib.hid hb1
    go_enter Try.func20, Try.ntmps20
    go_wp2
    rw [HW.out]
    go_ret
    exact ⟨rfl, HB.out⟩
  · rw [if_neg h100] at hE
    have HE := Lib.hid hE
    have t1 : decide ((100 : Int) < (N : Int)) = false := by simp; omega
    clear hE hb1 kg1
    go_enter Try.func20, Try.ntmps20
    go_wp2
    rw [HW.out]
    go_loopw [4, 5] (fun q p wr => ∃ i m : Nat, i ≤ N ∧ p = .int .i64 (i : Int) ∧ q = .int .i64 (m : Int) ∧ firstE (rsE (N : Int)) (gs R) = firstE (rsE (N : Int)) (gs (R.drop i)) ∧ m + sumL (gs (R.drop i)) = sumL (gs R) ∧ Below w1.heap.size w1 wr) (fun _ p _ => N - (intOf p).toNat)
    case atStart => exact ⟨0, 0, Nat.zero_le _, rfl, rfl, rfl, by simp, Below.refl _ _⟩
    case round =>
      obtain ⟨i, m, hi, rfl, rfl, hfe, hsm, hbel⟩ := hrel
      by_cases hlt : i < N
      · have hil : i < R.length := by rw [HH.out.1]; exact hlt
        rw [drop_rw R i hil, gs_cons] at hfe hsm
        rw [sumL_cons] at hsm
        rw [firstE_cons] at hfe
        obtain ⟨b, off, hA, hb0, k0'⟩ := HH.out.2.1.1.at_ (rcl_get R i hil)
        have hrd := HH.out.2.1.2 _ (rw_mem R i hil)
        generalize R[i]?.getD (none, 0, []) = x at *
        obtain ⟨A1, c1, xs⟩ := x
        unfold sl at k0'
        simp only at k0' hrd hfe hsm
        subst hA
        obtain ⟨n, hn⟩ : ∃ n, xs.length = n := ⟨_, rfl⟩
        rw [hn] at k0' hsm
        have HFs := Lib.hid (⟨hfe, hsm, hn⟩ : _ ∧ _ ∧ _)
        have hm1 : m + n ≤ 14073748835532800 := by omega
        have HBl := Lib.hid hbel
        have HRd := Lib.hid hrd
        have HK0 := Lib.hid (⟨hb0, k0'⟩ : _ ∧ _)
        have kg := (hbel.cell (p := ⟨w.heap.size, 0, none⟩) (by show w.heap.size < _; omega)).trans HH.out.2.2.1
        have t2 : (0 : Int) ≤ (i : Int) := by omega
        have t3 : (i : Int) < (N : Int) := by omega
        clear hfe hsm hn hbel hrd hb0 k0'
        go_wp2
        go_loopw [4, 6] (fun q p wq => ∃ (j : Nat) (v : Int), j ≤ n ∧ p = .int .i64 (j : Int) ∧ q = .int .i64 ((m + j : Nat) : Int) ∧ rsE (N : Int) xs = eachS (ckO (okG (N : Int))) id v (xs.drop j) ∧ ((j = 0 ∧ v = -1) ∨ (0 < j ∧ xs[j - 1]? = some v)) ∧ Below w1.heap.size w1 wq) (fun _ p _ => n - (intOf p).toNat)
        case atStart => exact ⟨0, -1, Nat.zero_le _, rfl, rfl, rfl, .inl ⟨rfl, rfl⟩, HBl.out⟩
        case round =>
          obtain ⟨j, v, hj, rfl, rfl, hrs, hv, hbel⟩ := hrel
          have kg2 := (hbel.cell (p := ⟨w.heap.size, 0, none⟩) (by show w.heap.size < _; omega)).trans HH.out.2.2.1
          have k2 := (hbel.cell (p := ⟨b, off + i, none⟩) HK0.out.1).trans HK0.out.2
          by_cases hjn : j < n
          · have hjl : j < xs.length := by rw [HFs.out.2.2]; exact hjn
            rw [drop_at xs j hjl, eachS_cons] at hrs
            obtain ⟨b2, o2, hA1, hb2, k3'⟩ := HRd.out.1.at_ (zc_get xs j hjl)
            have k3 := (hbel.cell (p := ⟨b2, o2 + j, none⟩) hb2).trans k3'
            obtain ⟨y, hy⟩ : ∃ y, xs[j]?.getD 0 = y := ⟨_, rfl⟩
            have hye : xs[j]? = some y := by rw [← hy, List.getElem?_eq_getElem hjl]; rfl
            rw [hy] at hrs k3
            have hprev : 0 < j → wr.cell? ⟨b2, o2 + (j - 1), none⟩ = some (.int .i64 v) := fun h0 => by
              have hvv : xs[j - 1]? = some v := by rcases hv with ⟨z, _⟩ | ⟨_, z⟩; omega; exact z
              have h1 : j - 1 < xs.length := by omega
              obtain ⟨b3, o3, hA3, hb3, k4⟩ := HRd.out.1.at_ (zc_get xs (j - 1) h1)
              rw [hA1] at hA3
              cases hA3
              rw [hvv] at k4
              exact (hbel.cell (p := ⟨b2, o2 + (j - 1), none⟩) hb3).trans k4
            subst hA1
            have t4 : (0 : Int) ≤ (j : Int) := by omega
            have t5 : (j : Int) < (n : Int) := by omega
            have a1 : IntKind.i64.wrap ((N : Int) - 1) = (N : Int) - 1 := IntWalk.i64_in _ (by omega)
            by_cases hok : okG (N : Int) y = true
            · have hyo : (0 : Int) ≤ y ∧ y ≤ (N : Int) - 1 := by unfold okG at hok; simp at hok; omega
              have HYs := Lib.hid (fun W => between_yes y 0 ((N : Int) - 1) hyo W)
              by_cases hyv : y ≤ v
              · have hj0 : 0 < j := by rcases hv with ⟨_, z⟩ | ⟨z, _⟩; omega; exact z
                have hE4 : E = 4 := by
                  have e1 : ckO (okG (N : Int)) v y = 4 := by unfold ckO; rw [if_neg (by simp [hok]), if_pos hyv]
                  rw [e1, if_neg (by decide)] at hrs
                  have := HE.out
                  rw [HFs.out.1, hrs, if_neg (by decide : ¬ ((4 : Int) = 0)), if_neg (by simp)] at this
                  exact this.symm
                have HE4 := Lib.hid hE4
                have k5 := hprev hj0
                have s1 : decide ((0 : Int) < (j : Int)) = true := by simp; omega
                have s2 : decide (y ≤ v) = true := by simpa using hyv
                have s3 : IntKind.i64.wrap ((j : Int) - 1) = ((j - 1 : Nat) : Int) := by rw [IntWalk.i64_in _ (by omega)]; omega
                have s4 : (0 : Int) ≤ ((j - 1 : Nat) : Int) := by omega
                have s5 : ((j - 1 : Nat) : Int) < (n : Int) := by omega
                have HBq := Lib.hid hbel
                generalize hjj : j - 1 = jj at *
                clear hE4 hok hrs hv hprev hbel hy hye hyo hjj
                go_wp2_with fail
                refine (HYs.out _).mono ?_
                rintro e wz ⟨rfl, rfl⟩
                go_wp2
                go_quiet (fail)
                go_wp2
                go_ret
                exact ⟨by rw [HE4.out]; rfl, HH.out.2.2.2.trans ((below_drewN HBq.out _).mono HH.out.2.2.2.size)⟩
              · have e1 : ckO (okG (N : Int)) v y = 0 := by unfold ckO; rw [if_neg (by simp [hok]), if_neg hyv]
                rw [if_pos e1] at hrs
                have HSt := Lib.hid (⟨hrs, by simpa using hye⟩ : rsE (N : Int) xs = eachS (ckO (okG (N : Int))) id y (xs.drop (j + 1)) ∧ xs[j + 1 - 1]? = some y)
                have HCt : Hid ((m : Int) + (j : Int) + 1 = ((m + (j + 1) : Nat) : Int)) := by show _ = _; omega
                have a2 : IntKind.i64.wrap (((m + j : Nat) : Int) + 1) = ((m + (j + 1) : Nat) : Int) := by rw [IntWalk.i64_in _ (by omega)]; omega
                have a3 : IntKind.i64.wrap ((m : Int) + (j : Int) + 1) = ((m + (j + 1) : Nat) : Int) := by rw [IntWalk.i64_in _ (by omega)]; omega
                have HBq := Lib.hid hbel
                have s2 : decide (y ≤ v) = false := by simpa using hyv
                by_cases hj0 : 0 < j
                · have k5 := hprev hj0
                  have s1 : decide ((0 : Int) < (j : Int)) = true := by simp; omega
                  have s3 : IntKind.i64.wrap ((j : Int) - 1) = ((j - 1 : Nat) : Int) := by rw [IntWalk.i64_in _ (by omega)]; omega
                  have s4 : (0 : Int) ≤ ((j - 1 : Nat) : Int) := by omega
                  have s5 : ((j - 1 : Nat) : Int) < (n : Int) := by omega
                  generalize hjj : j - 1 = jj at *
                  clear hok hrs hv hprev hbel hy hye hyo e1 hyv hjj
                  go_wp2_with fail
                  refine (HYs.out _).mono ?_
                  rintro e wz ⟨rfl, rfl⟩
                  go_wp2
                  go_quiet (fail)
                  go_wp2
                  go_roundw
                  case rel => exact ⟨j + 1, y, by omega, by go_num, by go_num, HSt.out.1, .inr ⟨by omega, HSt.out.2⟩, below_drewN HBq.out _⟩
                  case measure => simp [intOf]; omega
                · have s1 : decide ((0 : Int) < (j : Int)) = false := by simp; omega
                  clear hok hrs hv hprev hbel hy hye hyo e1 hyv
                  go_wp2_with fail
                  refine (HYs.out _).mono ?_
                  rintro e wz ⟨rfl, rfl⟩
                  go_wp2
                  go_quiet (fail)
                  go_wp2
                  go_roundw
                  case rel => exact ⟨j + 1, y, by omega, by go_num, by go_num, HSt.out.1, .inr ⟨by omega, HSt.out.2⟩, below_drewN HBq.out _⟩
                  case measure => simp [intOf]; omega
            · have hE3 : E = 3 := by
                have e1 : ckO (okG (N : Int)) v y = 3 := by unfold ckO; rw [if_pos (by simpa using hok)]
                rw [e1, if_neg (by decide)] at hrs
                have := HE.out
                rw [HFs.out.1, hrs, if_neg (by decide : ¬ ((3 : Int) = 0)), if_neg (by simp)] at this
                exact this.symm
              have HE3 := Lib.hid hE3
              have hno : ¬ ((0 : Int) ≤ y ∧ y ≤ (N : Int) - 1) := by intro q; apply hok; unfold okG; simp; omega
              have HNo := Lib.hid (fun W => between_no y 0 ((N : Int) - 1) hno W)
              have HBq := Lib.hid hbel
              clear hE3 hno hok hrs hv hprev hbel hy hye
              go_wp2_with fail
              refine (HNo.out _).mono ?_
              rintro e wz ⟨rfl, rfl⟩
              go_wp2
              go_ret
              exact ⟨by rw [HE3.out]; rfl, HH.out.2.2.2.trans (HBq.out.mono HH.out.2.2.2.size)⟩
          · obtain rfl : j = n := by omega
            have hz : rsE (N : Int) xs = 0 := by rw [hrs, List.drop_of_length_le (by rw [HFs.out.2.2]; omega)]; rfl
            have hf2 := HFs.out.1
            rw [if_pos hz] at hf2
            have HFn := Lib.hid (⟨hf2, HFs.out.2.1, hbel⟩ : _ ∧ _ ∧ _)
            clear hrs hv hbel hz hf2
            go_wp2
            go_roundw
            case rel => exact ⟨i + 1, m + j, by omega, by go_num, by go_num, HFn.out.1, by have := HFn.out.2.1; omega, HFn.out.2.2⟩
            case measure => simp [intOf]; omega
      · obtain rfl : i = N := by omega
        rw [List.drop_of_length_le (by rw [HH.out.1]; omega)] at hfe hsm
        have hf0 : firstE (rsE (i : Int)) (gs R) = 0 := hfe
        have hsm2 : m = sumL (gs R) := by have : sumL (gs []) = 0 := rfl; omega
        have hEE := HE.out
        rw [hf0, ← hsm2] at hEE
        have HBl := Lib.hid hbel
        by_cases h6 : 600 < m
        · rw [if_pos ⟨rfl, h6⟩] at hEE
          have s1 : decide ((600 : Int) < (m : Int)) = true := by simp; omega
          subst hEE
          clear hbel hfe hsm hf0 hsm2
          go_wp2
          go_ret
          exact ⟨rfl, HH.out.2.2.2.trans (HBl.out.mono HH.out.2.2.2.size)⟩
        · rw [if_neg (fun z => h6 z.2)] at hEE
          have s1 : decide ((600 : Int) < (m : Int)) = false := by simp; omega
          subst hEE
          clear hbel hfe hsm hf0 hsm2
          go_wp2
          go_ret
          exact ⟨rfl, HH.out.2.2.2.trans (HBl.out.mono HH.out.2.2.2.size)⟩
end

section
set_option linter.unusedVariables false

/-- How far each is, so far: T turns are done, and in this one the nodes ahead of i and the first j arcs of i. -/
structure Bm (g : List (List Nat)) (s T i j : Nat) (f : List Int) : Prop where
  len : f.length = g.length
  snd : ∀ x, x < g.length → fv f x = -1 ∨ ∃ d : Nat, fv f x = (d : Int) ∧ Rc g s d x
  cmp : ∀ d x, d ≤ T → Rc g s d x → 0 ≤ fv f x ∧ fv f x ≤ (d : Int)
  now : ∀ d y x, d ≤ T → Rc g s d y → (y < i ∧ x ∈ row g y ∨ y = i ∧ x ∈ (row g i).take j) → 0 ≤ fv f x ∧ fv f x ≤ (d : Int) + 1
theorem bm_start {g : List (List Nat)} {s N : Nat} (hN : g.length = N) (hs : s < N) : Bm g s 0 0 0 ((List.replicate N (-1)).set s 0) := by
  have hv : ∀ x, x < N → fv ((List.replicate N (-1)).set s 0) x = if x = s then 0 else -1 := fun x hx => by
    rw [fv_set _ _ _ _ (by simpa using hs)]
    by_cases e : x = s
    · rw [if_pos e, if_pos e]
    · rw [if_neg e, if_neg e]; unfold fv; rw [List.getElem?_replicate_of_lt hx]; rfl
  refine ⟨by simp [hN], fun x hx => ?_, fun d x hd hr => ?_, fun d y x hd hr hq => ?_⟩
  · rw [hN] at hx
    rw [hv x hx]
    by_cases e : x = s
    · rw [if_pos e]; exact .inr ⟨0, rfl, e⟩
    · rw [if_neg e]; exact .inl rfl
  · obtain rfl : d = 0 := by omega
    cases hr
    rw [hv s hs, if_pos rfl]; omega
  · rcases hq with ⟨q, _⟩ | ⟨_, q⟩
    · omega
    · simp at q
/-- Nothing is to be made less. -/
theorem Bm.keep {g : List (List Nat)} {s T i j : Nat} {f : List Int} (h : Bm g s T i j f) (hj : j < (row g i).length) (h1 : 0 ≤ fv f (qa (row g i) j)) (h2 : fv f (qa (row g i) j) ≤ fv f i + 1) (hi : 0 ≤ fv f i) : Bm g s T i (j + 1) f := by
  refine ⟨h.len, h.snd, h.cmp, fun d y x hd hr hq => ?_⟩
  rcases hq with q | ⟨rfl, q⟩
  · exact h.now d y x hd hr (.inl q)
  · rw [List.take_succ_eq_append_getElem hj, List.mem_append] at q
    rcases q with q | q
    · exact h.now d y x hd hr (.inr ⟨rfl, q⟩)
    · simp only [List.mem_singleton] at q
      rw [qa_get hj] at q
      subst q
      have := h.cmp d y hd hr
      omega
/-- One is made less. -/
theorem Bm.less {g : List (List Nat)} {s T i j : Nat} {f : List Int} (h : Bm g s T i j f) (hb : Bdd g) (hj : j < (row g i).length) (hi : 0 ≤ fv f i) (hq : fv f (qa (row g i) j) < 0 ∨ fv f i + 1 < fv f (qa (row g i) j)) : Bm g s T i (j + 1) (f.set (qa (row g i) j) (fv f i + 1)) := by
  have hm := qa_mem hj
  have hil := row_lt hm
  obtain ⟨to, hto⟩ : ∃ to, qa (row g i) j = to := ⟨_, rfl⟩
  rw [hto] at hm hq ⊢
  have htl : to < f.length := by rw [h.len]; exact hb i to hm
  have hv : ∀ x, fv (f.set to (fv f i + 1)) x = if x = to then fv f i + 1 else fv f x := fun x => fv_set _ _ _ _ htl
  have hle : ∀ x (d : Int), 0 ≤ fv f x ∧ fv f x ≤ d → 0 ≤ fv (f.set to (fv f i + 1)) x ∧ fv (f.set to (fv f i + 1)) x ≤ d := fun x d hx => by
    rw [hv]
    by_cases e : x = to
    · rw [if_pos e]; rw [e] at hx; omega
    · rw [if_neg e]; exact hx
  refine ⟨by rw [List.length_set]; exact h.len, fun x hx => ?_, fun d x hd hr => hle x _ (h.cmp d x hd hr), fun d y x hd hr hq2 => ?_⟩
  · rw [hv]
    by_cases e : x = to
    · rw [if_pos e]
      rcases h.snd i hil with q | ⟨d, q1, q2⟩
      · omega
      · exact .inr ⟨d + 1, by omega, i, q2, by rw [e]; exact hm⟩
    · rw [if_neg e]; exact h.snd x hx
  · rcases hq2 with q | ⟨rfl, q⟩
    · exact hle x _ (h.now d y x hd hr (.inl q))
    · rw [List.take_succ_eq_append_getElem hj, List.mem_append] at q
      rcases q with q | q
      · exact hle x _ (h.now d y x hd hr (.inr ⟨rfl, q⟩))
      · simp only [List.mem_singleton] at q
        rw [qa_get hj, hto] at q
        subst q
        have := h.cmp d y hd hr
        rw [hv, if_pos rfl]; omega
theorem Bm.next {g : List (List Nat)} {s T i j : Nat} {f : List Int} (h : Bm g s T i j f) (hj : fv f i < 0 ∨ j = (row g i).length) : Bm g s T (i + 1) 0 f := by
  refine ⟨h.len, h.snd, h.cmp, fun d y x hd hr hq => ?_⟩
  rcases hq with ⟨q1, q2⟩ | ⟨_, q⟩
  · by_cases e : y = i
    · subst e
      rcases hj with hj | hj
      · have := h.cmp d y hd hr; omega
      · exact h.now d y x hd hr (.inr ⟨rfl, by rw [hj, List.take_length]; exact q2⟩)
    · exact h.now d y x hd hr (.inl ⟨by omega, q2⟩)
  · simp at q
theorem Bm.turn {g : List (List Nat)} {s T : Nat} {f : List Int} (h : Bm g s T g.length 0 f) : Bm g s (T + 1) 0 0 f := by
  refine ⟨h.len, h.snd, fun d x hd hr => ?_, fun d y x hd hr hq => ?_⟩
  · by_cases e : d ≤ T
    · exact h.cmp d x e hr
    · obtain rfl : d = T + 1 := by omega
      obtain ⟨y, h1, h2⟩ := hr
      have := h.now T y x (Nat.le_refl _) h1 (.inl ⟨row_lt h2, h2⟩)
      omega
  · rcases hq with ⟨q, _⟩ | ⟨_, q⟩
    · omega
    · simp at q
theorem Bm.fin {g : List (List Nat)} {s : Nat} {f F : List Int} (h : Bm g s g.length 0 0 f) (hb : Bdd g) (hs : s < g.length) (hF : Fa g s F) : f = F := by
  refine Fa.uniq ⟨h.len, fun x hx => ?_⟩ hF
  have hlt := hF.lt hb hs x hx
  rcases hF.val x hx with ⟨q1, q2⟩ | ⟨d, q1, q2, q3⟩
  · rcases h.snd x hx with r | ⟨e, r1, r2⟩
    · exact .inl ⟨r, q2⟩
    · exact absurd r2 (q2 e)
  · have hc := h.cmp d x (by omega) q2
    rcases h.snd x hx with r | ⟨e, r1, r2⟩
    · omega
    · have := q3 e r2
      exact .inr ⟨d, by omega, q2, q3⟩

/-- The least of each part, so far. -/
structure Pm (g : List (List Nat)) (T i j : Nat) (p : List Nat) : Prop where
  len : p.length = g.length
  snd : ∀ x, x < g.length → Re (und g) (qa p x) x ∧ qa p x < g.length
  cmp : ∀ d y x, d ≤ T → x < g.length → y < g.length → Rc (und g) y d x → qa p x ≤ y
  now : ∀ d y u v, d ≤ T → y < g.length → (u < i ∧ v ∈ row g u ∨ u = i ∧ v ∈ (row g i).take j) → (Rc (und g) y d u → qa p v ≤ y) ∧ (Rc (und g) y d v → qa p u ≤ y)
theorem qa_range {N x : Nat} (h : x < N) : qa (List.range N) x = x := by unfold qa; rw [List.getElem?_range h]; rfl
theorem pm_start {g : List (List Nat)} {N : Nat} (hN : g.length = N) : Pm g 0 0 0 (List.range N) := by
  refine ⟨by simp [hN], fun x hx => ?_, fun d y x hd hx hy hr => ?_, fun d y u v hd hy hq => ?_⟩
  · rw [hN] at hx; rw [qa_range hx]; exact ⟨Re.refl _ x, by omega⟩
  · obtain rfl : d = 0 := by omega
    cases hr
    rw [hN] at hx; rw [qa_range hx]; exact Nat.le_refl _
  · rcases hq with ⟨q, _⟩ | ⟨_, q⟩
    · omega
    · simp at q
theorem qa_set (p : List Nat) (y x v : Nat) (hy : y < p.length) : qa (p.set y v) x = if x = y then v else qa p x := by
  unfold qa
  rw [List.getElem?_set]
  by_cases e : x = y
  · subst e; rw [if_pos rfl, if_pos hy, if_pos rfl]; rfl
  · rw [if_neg (fun q => e q.symm), if_neg e]
/-- At an arc both ends are told the lesser one. -/
theorem Pm.step {g : List (List Nat)} (hok : GOk g) {T i j : Nat} {p p' : List Nat} (h : Pm g T i j p) (hj : j < (row g i).length) (hl : p'.length = p.length)
    (hv : ∀ x, qa p' x = if x = i ∨ x = qa (row g i) j then min (qa p i) (qa p (qa (row g i) j)) else qa p x) : Pm g T i (j + 1) p' := by
  have hm := qa_mem hj
  have hil := row_lt hm
  obtain ⟨to, hto⟩ : ∃ to, qa (row g i) j = to := ⟨_, rfl⟩
  rw [hto] at hm hv
  have htl := hok.bdd i to hm
  have a1 : Re (und g) i to := ⟨1, rc_one ((und_mem hok i to).2 (.inl hm))⟩
  have hle : ∀ x, qa p' x ≤ qa p x := fun x => by
    rw [hv]
    split
    · rename_i e
      rcases e with e | e
      · rw [e]; exact Nat.min_le_left _ _
      · rw [e]; exact Nat.min_le_right _ _
    · exact Nat.le_refl _
  refine ⟨hl.trans h.len, fun x hx => ?_, fun d y x hd hx hy hr => Nat.le_trans (hle x) (h.cmp d y x hd hx hy hr), fun d y u v hd hy hq => ?_⟩
  · rw [hv]
    obtain ⟨i1, i2⟩ := h.snd i hil
    obtain ⟨t1, t2⟩ := h.snd to htl
    have hmin : min (qa p i) (qa p to) = qa p i ∨ min (qa p i) (qa p to) = qa p to := by omega
    split
    · rename_i e
      have both : ∀ z, Re (und g) z i ∧ z < g.length → Re (und g) z to ∧ z < g.length := fun z hz => ⟨re_trans hz.1 a1, hz.2⟩
      have both2 : ∀ z, Re (und g) z to ∧ z < g.length → Re (und g) z i ∧ z < g.length := fun z hz => ⟨re_trans hz.1 (re_sym hok a1), hz.2⟩
      rcases hmin with q | q <;> rw [q] <;> rcases e with e | e <;> rw [e]
      · exact ⟨i1, i2⟩
      · exact both _ ⟨i1, i2⟩
      · exact both2 _ ⟨t1, t2⟩
      · exact ⟨t1, t2⟩
    · exact h.snd x hx
  · have old : ∀ u v, (u < i ∧ v ∈ row g u ∨ u = i ∧ v ∈ (row g i).take j) → (Rc (und g) y d u → qa p' v ≤ y) ∧ (Rc (und g) y d v → qa p' u ≤ y) := fun u v q => by
      obtain ⟨r1, r2⟩ := h.now d y u v hd hy q
      exact ⟨fun r => Nat.le_trans (hle v) (r1 r), fun r => Nat.le_trans (hle u) (r2 r)⟩
    rcases hq with q | ⟨rfl, q⟩
    · exact old u v (.inl q)
    · rw [List.take_succ_eq_append_getElem hj, List.mem_append] at q
      rcases q with q | q
      · exact old u v (.inr ⟨rfl, q⟩)
      · simp only [List.mem_singleton] at q
        rw [qa_get hj, hto] at q
        subst q
        refine ⟨fun r => ?_, fun r => ?_⟩
        · rw [hv, if_pos (.inr rfl)]
          exact Nat.le_trans (Nat.min_le_left _ _) (h.cmp d y u hd hil hy r)
        · rw [hv, if_pos (.inl rfl)]
          exact Nat.le_trans (Nat.min_le_right _ _) (h.cmp d y v hd htl hy r)
theorem Pm.next {g : List (List Nat)} {T i : Nat} {p : List Nat} (h : Pm g T i (row g i).length p) : Pm g T (i + 1) 0 p := by
  refine ⟨h.len, h.snd, h.cmp, fun d y u v hd hy hq => ?_⟩
  rcases hq with ⟨q1, q2⟩ | ⟨_, q⟩
  · by_cases e : u = i
    · subst e
      exact h.now d y u v hd hy (.inr ⟨rfl, by rw [List.take_length]; exact q2⟩)
    · exact h.now d y u v hd hy (.inl ⟨by omega, q2⟩)
  · simp at q
theorem Pm.turn {g : List (List Nat)} (hok : GOk g) {T : Nat} {p : List Nat} (h : Pm g T g.length 0 p) : Pm g (T + 1) 0 0 p := by
  refine ⟨h.len, h.snd, fun d y x hd hx hy hr => ?_, fun d y u v hd hy hq => ?_⟩
  · by_cases e : d ≤ T
    · exact h.cmp d y x e hx hy hr
    · obtain rfl : d = T + 1 := by omega
      obtain ⟨z, h1, h2⟩ := hr
      rcases (und_mem hok z x).1 h2 with q | q
      · exact (h.now T y z x (Nat.le_refl _) hy (.inl ⟨row_lt q, q⟩)).1 h1
      · exact (h.now T y x z (Nat.le_refl _) hy (.inl ⟨row_lt q, q⟩)).2 h1
  · rcases hq with ⟨q, _⟩ | ⟨_, q⟩
    · omega
    · simp at q
theorem Pm.fin {g : List (List Nat)} (hok : GOk g) {p : List Nat} (h : Pm g g.length 0 0 p) : Pa g p := by
  refine ⟨h.len, fun x hx => ⟨(h.snd x hx).1, fun y hy hr => ?_⟩⟩
  obtain ⟨F, hF⟩ := fa_ex (und g) y
  have h0 := (hF.reach x (by rw [und_length]; exact hx)).2 hr
  obtain ⟨d, q1, q2⟩ := hF.way (by rw [und_length]; exact hx) h0
  have hlt := hF.lt (und_bdd hok) (by rw [und_length]; exact hy) x (by rw [und_length]; exact hx)
  rw [und_length] at hlt
  exact h.cmp d y x (by omega) hx hy q2
end

section
set_option maxRecDepth 100000
set_option linter.unusedVariables false
open Go.RowKit Go.Shelf

/-- A row of numbers of the call's own, which may have room behind it. -/
structure Or (w1 W : World) (gb N cap : Nat) (f : List Int) : Prop where
  low : Below w1.heap.size w1 W
  ge : w1.heap.size ≤ gb
  own : W.ownsRow w1.heap.size 3 1 (.slice (some ⟨gb, 0, none⟩) N cap) N (zc f)
theorem Or.set {w1 W : World} {gb N cap : Nat} {f : List Int} (h : Or w1 W gb N cap f) (i : Nat) (x : Int) : Or w1 (W.setCell ⟨gb, i, none⟩ (.int .i64 x)) gb N cap (f.set i x) := by
  refine ⟨h.low.setCell (p := ⟨gb, i, none⟩) h.ge _, h.ge, ?_⟩
  have := own_set h.own (i := i) (.int .i64 x)
  unfold zc at this ⊢
  rw [List.map_set]; exact this
theorem Or.cell {w1 W : World} {gb N cap : Nat} {f : List Int} (h : Or w1 W gb N cap f) (i : Nat) (hi : i < f.length) : W.cell? ⟨gb, i, none⟩ = some (.int .i64 (fv f i)) ∧ W.frozen? ⟨gb, i, none⟩ = false := own_cell h.own (fv_get f i hi)
theorem Or.drewN {w1 W : World} {gb N cap : Nat} {f : List Int} (h : Or w1 W gb N cap f) (n : Nat) : Or w1 (W.drewN n) gb N cap f := ⟨below_drewN h.low n, h.ge, h.own⟩
set_option maxHeartbeats 8000000 in
theorem reffar_ok (R : List Rw) (g : List (List Nat)) (hg : gs R = g.map ns) (hok : GOk g) (N : Nat) (hN : R.length = N) (s : Nat) (hs : s < N) (F : List Int) (hF : Fa g s F) (A : Option Addr) (c : Nat) (w : World) (h : RdG w w.heap.size A R) :
    Calls Try.prog 35 #[.agg #[.slice A N c], .int .i64 (s : Int)] w fun e w' => ∃ b cap, e = .returned (.slice (some ⟨b, 0, none⟩) N cap) ∧ RdV w' w'.heap.size (some ⟨b, 0, none⟩) (zc F) ∧ Below w.heap.size w w' := by
  obtain ⟨i0, hi, hz0, hz1, hz2⟩ := info_parts info_intD
  have hgl : g.length = N := by have := congrArg List.length hg; rw [gs_length, List.length_map] at this; omega
  have hN1 : N ≤ 100 := by have := hok.nodes; omega
  obtain ⟨w1, hw1⟩ : ∃ w1, w.alloc (.cells #[.slice A N c] 24) = w1 := ⟨_, rfl⟩
  have hb1 : Below w.heap.size w w1 := hw1 ▸ one_below w _
  have hs1 : w.heap.size < w1.heap.size := by rw [← hw1, World.size_alloc]; omega
  have kg1 : w1.cell? ⟨w.heap.size, 0, none⟩ = some (.slice A N c) := by rw [← hw1]; exact (cell_at (World.alloc_heap_new w _) 0).trans rfl
  have HH := Lib.hid (⟨hg, hN, hgl, h.on hb1, hok, hb1, hF, kg1⟩ : gs R = g.map ns ∧ R.length = N ∧ g.length = N ∧ RdG w1 w1.heap.size A R ∧ GOk g ∧ Below w.heap.size w w1 ∧ Fa g s F ∧ w1.cell? ⟨w.heap.size, 0, none⟩ = some (.slice A N c))
  have HKg : Hid (∀ V, Below w1.heap.size w1 V → V.cell? ⟨w.heap.size, 0, none⟩ = some (.slice A N c)) := fun V hV => (hV.cell (p := ⟨w.heap.size, 0, none⟩) hs1).trans kg1
  have HW := Lib.hid hw1
  clear hg hok hN hgl h hb1 hF kg1 hw1 hs1
  go_enter Try.func35, Try.ntmps35
  go_wp2
  rw [HW.out]
  go_loopw [5, 6] (fun v p wr => ∃ i : Nat, i ≤ N ∧ p = .int .i64 (i : Int) ∧ wr.ownsRow w1.heap.size 3 1 v i (zc (List.replicate i (-1))) ∧ Below w1.heap.size w1 wr) (fun _ p _ => N - (intOf p).toNat)
  case atStart => exact ⟨0, Nat.zero_le _, rfl, ⟨rfl, .inl ⟨rfl, rfl⟩⟩, Below.refl _ _⟩
  case round =>
   as_aux_lemma =>
    obtain ⟨i, hi2, rfl, hrow, hbel⟩ := hrel
    obtain ⟨Av, cv, rfl⟩ := own_sliceT hrow
    have kg := HKg.out _ hbel
    have HBl := Lib.hid hbel
    by_cases hlt : i < N
    · clear hbel
      go_wp2_with (at_builtin; refine wpList_append_own _ rfl _ _ 32 rfl w1.heap.size 3 i0 (.int .i64 0) 1 8 Try.underlying32 hi hz0 hz1 hz2 rfl (by decide) _ _ _ rfl (hrow.alloc _) ⟨wr.heap.size, 0, none⟩ 1 1 [.int .i64 (-1)] rfl rfl (news_row wr [.int .i64 (-1)] _) (by simp [Value.oneCell']) (by unfold maxLen; omega) (by omega) (by have := HBl.out.size; simp; omega) ?_; intro v' w3 hown' hgrow _)
      refine ⟨⟨i + 1, by omega, by go_num, ?_, ?_⟩, by simp [intOf]; omega⟩
      · have e : zc (List.replicate (i + 1) (-1)) = zc (List.replicate i (-1)) ++ [.int .i64 (-1)] := by unfold zc; rw [List.replicate_succ', List.map_append]; rfl
        rw [e]; exact hown'
      · exact HBl.out.trans (((Below.refl w1.heap.size wr).alloc HBl.out.size _).trans (grown_low hgrow (hrow.alloc _) (by have := HBl.out.size; simp; omega)))
    · obtain rfl : i = N := by omega
      obtain ⟨gb, cap, e0, hgb, hgb2⟩ := hrow.form (by omega)
      simp only [Value.slice.injEq] at e0
      obtain ⟨rfl, -, rfl⟩ := e0
      have hO : Or w1 wr gb i cv (List.replicate i (-1)) := ⟨hbel, hgb, hrow⟩
      obtain ⟨k1, k2⟩ := hO.cell s (by simpa using hs)
      have HO0 := Lib.hid (hO.set s 0)
      have HB0 : Hid (Bm g s 0 0 0 ((List.replicate i (-1)).set s 0)) := bm_start HH.out.2.2.1 hs
      have t1 : (0 : Int) ≤ (s : Int) := by omega
      have t2 : (s : Int) < (i : Int) := by omega
      clear hO hrow hbel hlt
      go_wp2
      clear k1 k2 kg
      generalize wr.setCell ⟨gb, s, none⟩ (.int .i64 0) = W0 at *
      go_loopw [7] (fun p wr => ∃ (T : Nat) (f : List Int), T ≤ i ∧ p = .int .i64 (T : Int) ∧ Or w1 wr gb i cv f ∧ Bm g s T 0 0 f ∧ ∀ x, fv f x ≤ (T : Int) * 200000) (fun p _ => i - (intOf p).toNat)
      case atStart =>
        refine ⟨0, _, Nat.zero_le _, rfl, HO0.out, HB0.out, fun x => ?_⟩
        by_cases hx : x < g.length
        · rcases HB0.out.snd x hx with q | ⟨d, q1, q2⟩
          · omega
          · rw [fv_set _ _ _ _ (by simpa using hs)]
            split
            · omega
            · unfold fv; rw [List.getElem?_replicate]; split <;> simp
        · unfold fv; rw [List.getElem?_eq_none (by rw [HB0.out.len]; omega)]; simp
      case round =>
       as_aux_lemma =>
        clear HO0 HB0
        obtain ⟨T, f, hT, rfl, hO, hB, hbnd⟩ := hrel
        by_cases hlt : T < i
        · have HS := Lib.hid (⟨hO, hB, hbnd⟩ : _ ∧ _ ∧ _)
          clear hO hB hbnd
          go_wp2
          go_loopw [8] (fun p wr => ∃ (u : Nat) (f : List Int), u ≤ i ∧ p = .int .i64 (u : Int) ∧ Or w1 wr gb i cv f ∧ Bm g s T u 0 f ∧ ∀ x, fv f x ≤ (T : Int) * 200000 + (u : Int) * 1000) (fun p _ => i - (intOf p).toNat)
          case atStart => exact ⟨0, f, Nat.zero_le _, rfl, HS.out.1, HS.out.2.1, fun x => by have := HS.out.2.2 x; omega⟩
          case round =>
           as_aux_lemma =>
            clear HS
            obtain ⟨u, f, hu, rfl, hO, hB, hbnd⟩ := hrel
            by_cases hul : u < i
            · have hil : u < R.length := by rw [HH.out.2.1]; exact hul
              obtain ⟨b1, o1, rfl, hb1, kr'⟩ := HH.out.2.2.2.1.1.at_ (rcl_get R u hil)
              have hr1 := HH.out.2.2.2.1.2 _ (rw_mem R u hil)
              have hro := row_ofD R g HH.out.1 u (by rw [HH.out.2.2.1]; exact hul)
              generalize R[u]?.getD (none, 0, []) = y at *
              obtain ⟨P1, d1, xs⟩ := y
              unfold sl at kr'
              simp only at kr' hr1 hro
              subst hro
              obtain ⟨m, hm⟩ : ∃ m, (row g u).length = m := ⟨_, rfl⟩
              rw [ns_length, hm] at kr' hr1
              have hm47 := hr1.2
              have HRw := Lib.hid (⟨hr1.1, hm, kr'⟩ : _ ∧ _ ∧ _)
              have HS := Lib.hid (⟨hO, hB, hbnd⟩ : _ ∧ _ ∧ _)
              have hm600 : m ≤ 600 := by rw [← HRw.out.2.1]; exact row_len HH.out.2.2.2.2.1 u
              have t3 : (0 : Int) ≤ (u : Int) := by omega
              have t4 : (u : Int) < (i : Int) := by omega
              clear hO hB hr1 hm kr' hb1 hil hbnd
              go_wp2
              go_loopw [9] (fun p wr => ∃ (j : Nat) (f : List Int), j ≤ m ∧ p = .int .i64 (j : Int) ∧ Or w1 wr gb i cv f ∧ Bm g s T u j f ∧ ∀ x, fv f x ≤ (T : Int) * 200000 + (u : Int) * 1000 + (j : Int)) (fun p _ => m - (intOf p).toNat)
              case atStart => exact ⟨0, f, Nat.zero_le _, rfl, HS.out.1, HS.out.2.1, fun x => by have := HS.out.2.2 x; omega⟩
              case round =>
               as_aux_lemma =>
                clear HS
                obtain ⟨j, f, hj, rfl, hO, hB, hbnd⟩ := hrel
                have kg := HKg.out _ hO.low
                have kr : wr.cell? ⟨b1, o1 + u, none⟩ = some (.slice P1 m d1) := (hO.low.cell (World.block_lt_of_cell? _ _ HRw.out.2.2)).trans HRw.out.2.2
                have hfl : f.length = i := hB.len.trans HH.out.2.2.1
                obtain ⟨ku, -⟩ := hO.cell u (by rw [hfl]; exact hul)
                by_cases hjm : j < m
                · have t5 : decide ((j : Int) < (m : Int)) = true := by simp; omega
                  by_cases hfu : 0 ≤ fv f u
                  · have hjl : j < (row g u).length := by rw [HRw.out.2.1]; exact hjm
                    obtain ⟨b4, o4, rfl, hb4, k3⟩ := (HRw.out.1.on hO.low).at_ (zc_getN (row g u) j (qa (row g u) j) (qa_eq hjl))
                    have hto := HH.out.2.2.2.2.1.bdd u _ (qa_mem hjl)
                    rw [HH.out.2.2.1] at hto
                    have hkeep := hB.keep hjl
                    have hless := hB.less HH.out.2.2.2.2.1.bdd hjl hfu
                    have hub := hbnd u
                    obtain ⟨to, hto2⟩ : ∃ to, qa (row g u) j = to := ⟨_, rfl⟩
                    rw [hto2] at k3 hto hkeep hless
                    obtain ⟨kt, kz⟩ := hO.cell to (by rw [hfl]; exact hto)
                    have t6 : decide ((0 : Int) ≤ fv f u) = true := decide_eq_true hfu
                    have a1 : IntKind.i64.wrap (fv f u + 1) = fv f u + 1 := by rw [IntKind.wrap_i64]; omega
                    have t7 : (0 : Int) ≤ (j : Int) := by omega
                    have t8 : (j : Int) < (m : Int) := by omega
                    have t9 : (0 : Int) ≤ (to : Int) := by omega
                    have t10 : (to : Int) < (i : Int) := by omega
                    have HO := Lib.hid hO
                    have HL : Hid (∀ x, fv (f.set to (fv f u + 1)) x ≤ (T : Int) * 200000 + (u : Int) * 1000 + ((j + 1 : Nat) : Int)) := fun x => by
                      rw [fv_set _ _ _ _ (by rw [hfl]; exact hto)]
                      have := hbnd x
                      split <;> omega
                    have HKp : Hid (∀ x, fv f x ≤ (T : Int) * 200000 + (u : Int) * 1000 + ((j + 1 : Nat) : Int)) := fun x => by have := hbnd x; omega
                    by_cases hc : fv f to < 0
                    · have hl2 := hless (.inl hc)
                      have HS2 := Lib.hid hl2
                      have HO2 : Hid (∀ n, Or w1 ((wr.drewN n).setCell ⟨gb, to, none⟩ (.int .i64 (fv f u + 1))) gb i cv (f.set to (fv f u + 1))) := fun n => (hO.drewN n).set to (fv f u + 1)
                      have c1 : decide (fv f to < 0) = true := decide_eq_true hc
                      generalize fv f to = z2 at *
                      generalize fv f u = z1 at *
                      clear hO hB hbnd hkeep hless hl2 hc hub hto2 hfl
                      go_wp2
                      go_quiet (fail)
                      have HO3 := Lib.hid (HO2.out nq)
                      have ku2 : (wr.drewN nq).cell? ⟨gb, u, none⟩ = some (.int .i64 z1) := ku
                      have kt2 : (wr.drewN nq).cell? ⟨gb, to, none⟩ = some (.int .i64 z2) := kt
                      have kz2 : (wr.drewN nq).frozen? ⟨gb, to, none⟩ = false := kz
                      generalize wr.drewN nq = V at *
                      clear HO2 ku kt kz k3 kr kg
                      go_wp2
                      go_roundw
                      case rel => exact ⟨j + 1, _, by omega, by go_num, HO3.out, HS2.out, HL.out⟩
                      case measure => simp [intOf]; omega
                    · have c1 : decide (fv f to < 0) = false := decide_eq_false hc
                      by_cases hd : fv f u + 1 < fv f to
                      · have hl2 := hless (.inr hd)
                        have HS2 := Lib.hid hl2
                        have HO2 : Hid (∀ n, Or w1 ((wr.drewN n).setCell ⟨gb, to, none⟩ (.int .i64 (fv f u + 1))) gb i cv (f.set to (fv f u + 1))) := fun n => (hO.drewN n).set to (fv f u + 1)
                        have c2 : decide (fv f u + 1 < fv f to) = true := decide_eq_true hd
                        generalize fv f to = z2 at *
                        generalize fv f u = z1 at *
                        clear hO hB hbnd hkeep hless hl2 hc hd hub hto2 hfl
                        go_wp2
                        go_quiet (fail)
                        have HO3 := Lib.hid (HO2.out nq)
                        have ku2 : (wr.drewN nq).cell? ⟨gb, u, none⟩ = some (.int .i64 z1) := ku
                        have kt2 : (wr.drewN nq).cell? ⟨gb, to, none⟩ = some (.int .i64 z2) := kt
                        have kz2 : (wr.drewN nq).frozen? ⟨gb, to, none⟩ = false := kz
                        generalize wr.drewN nq = V at *
                        clear HO2 ku kt kz k3 kr kg
                        go_wp2
                        go_roundw
                        case rel => exact ⟨j + 1, _, by omega, by go_num, HO3.out, HS2.out, HL.out⟩
                        case measure => simp [intOf]; omega
                      · have c2 : decide (fv f u + 1 < fv f to) = false := decide_eq_false hd
                        have HS2 := Lib.hid (hkeep (by omega) (by omega) hfu)
                        generalize fv f to = z2 at *
                        generalize fv f u = z1 at *
                        clear hO hB hbnd hkeep hless hc hd hub hto2 hfl
                        go_wp2
                        go_quiet (fail)
                        go_wp2
                        go_roundw
                        case rel => exact ⟨j + 1, f, by omega, by go_num, HO.out.drewN nq, HS2.out, HKp.out⟩
                        case measure => simp [intOf]; omega
                  · have t6 : decide ((0 : Int) ≤ fv f u) = false := decide_eq_false hfu
                    have HE : Hid (Or w1 wr gb i cv f ∧ Bm g s T (u + 1) 0 f ∧ ∀ x, fv f x ≤ (T : Int) * 200000 + ((u + 1 : Nat) : Int) * 1000) := ⟨hO, hB.next (.inl (by omega)), fun x => by have := hbnd x; omega⟩
                    generalize fv f u = z at *
                    clear hO hB hfu hbnd
                    go_wp2
                    go_roundw
                    case rel => exact ⟨u + 1, f, by omega, by go_num, HE.out.1, HE.out.2.1, HE.out.2.2⟩
                    case measure => simp [intOf]; omega
                · obtain rfl : j = m := by omega
                  have t5 : decide ((j : Int) < (j : Int)) = false := by simp
                  have HE : Hid (Or w1 wr gb i cv f ∧ Bm g s T (u + 1) 0 f ∧ ∀ x, fv f x ≤ (T : Int) * 200000 + ((u + 1 : Nat) : Int) * 1000) := ⟨hO, hB.next (.inr HRw.out.2.1.symm), fun x => by have := hbnd x; omega⟩
                  clear hO hB hjm hbnd
                  go_wp2
                  go_roundw
                  case rel => exact ⟨u + 1, f, by omega, by go_num, HE.out.1, HE.out.2.1, HE.out.2.2⟩
                  case measure => simp [intOf]; omega
            · obtain rfl : u = i := by omega
              have HE : Hid (Or w1 wr gb u cv f ∧ Bm g s (T + 1) 0 0 f ∧ ∀ x, fv f x ≤ ((T + 1 : Nat) : Int) * 200000) := ⟨hO, by have h1 := hB; rw [← HH.out.2.2.1] at h1; exact h1.turn, fun x => by have := hbnd x; omega⟩
              clear hO hB hul hbnd
              go_wp2
              go_roundw
              case rel => exact ⟨T + 1, f, by omega, by go_num, HE.out.1, HE.out.2.1, HE.out.2.2⟩
              case measure => simp [intOf]; omega
        · obtain rfl : T = i := by omega
          have HE : Hid (RdV wr wr.heap.size (some ⟨gb, 0, none⟩) (zc F) ∧ Below w.heap.size w wr) := by
            have hf : f = F := by
              have h1 := hB
              have h2 := HH.out.2.2.1
              rw [← h2] at h1
              exact h1.fin HH.out.2.2.2.2.1.bdd (by rw [h2]; exact hs) HH.out.2.2.2.2.2.2.1
            rw [← hf]
            exact ⟨own_rdvA hO.own, HH.out.2.2.2.2.2.1.trans (hO.low.mono HH.out.2.2.2.2.2.1.size)⟩
          clear hO hB hlt hbnd
          go_wp2
          go_ret
          exact ⟨gb, cv, rfl, HE.out.1, HE.out.2⟩
end

section
set_option maxRecDepth 100000
set_option linter.unusedVariables false
open Go.RowKit Go.Shelf

theorem Or.setN {w1 W : World} {gb N cap : Nat} {p : List Nat} (h : Or w1 W gb N cap (ns p)) (i x : Nat) : Or w1 (W.setCell ⟨gb, i, none⟩ (.int .i64 (x : Int))) gb N cap (ns (p.set i x)) := by
  have := h.set i (x : Int)
  rwa [ns_set] at this
set_option maxHeartbeats 8000000 in
theorem refparts_ok (R : List Rw) (g : List (List Nat)) (hg : gs R = g.map ns) (hok : GOk g) (N : Nat) (hN : R.length = N) (A : Option Addr) (c : Nat) (w : World) (h : RdG w w.heap.size A R) :
    Calls Try.prog 34 #[.agg #[.slice A N c]] w fun e w' => ∃ b cap p, e = .returned (.slice (some ⟨b, 0, none⟩) N cap) ∧ Pa g p ∧ RdV w' w'.heap.size (some ⟨b, 0, none⟩) (zc (ns p)) ∧ Below w.heap.size w w' := by
  obtain ⟨i0, hi, hz0, hz1, hz2⟩ := info_parts info_intD
  have hgl : g.length = N := by have := congrArg List.length hg; rw [gs_length, List.length_map] at this; omega
  have hN1 : N ≤ 100 := by have := hok.nodes; omega
  obtain ⟨w1, hw1⟩ : ∃ w1, w.alloc (.cells #[.slice A N c] 24) = w1 := ⟨_, rfl⟩
  have hb1 : Below w.heap.size w w1 := hw1 ▸ one_below w _
  have hs1 : w.heap.size < w1.heap.size := by rw [← hw1, World.size_alloc]; omega
  have kg1 : w1.cell? ⟨w.heap.size, 0, none⟩ = some (.slice A N c) := by rw [← hw1]; exact (cell_at (World.alloc_heap_new w _) 0).trans rfl
  have HH := Lib.hid (⟨hg, hN, hgl, h.on hb1, hok, hb1⟩ : gs R = g.map ns ∧ R.length = N ∧ g.length = N ∧ RdG w1 w1.heap.size A R ∧ GOk g ∧ Below w.heap.size w w1)
  have HKg : Hid (∀ V, Below w1.heap.size w1 V → V.cell? ⟨w.heap.size, 0, none⟩ = some (.slice A N c)) := fun V hV => (hV.cell (p := ⟨w.heap.size, 0, none⟩) hs1).trans kg1
  have HW := Lib.hid hw1
  have hmz : zc (ns (List.replicate N 0)) = (madeCells (Value.int .i64 0).cells (N * 1)).toList := by
    rw [show (Value.int .i64 0).cells = #[Value.int .i64 0] from rfl, toList_madeCells_one, Nat.mul_one]; simp [zc, ns]
  have HMZ := Lib.hid hmz
  rw [← hw1] at kg1
  clear hg hok hN hgl h hb1 hw1 hs1 hmz
  have hle : w1.heap.size ≤ (w.alloc (.cells #[.slice A N c] 24)).heap.size := by rw [HW.out]; exact Nat.le_refl _
  go_enter Try.func34, Try.ntmps34
  go_wp2_with (at_make; refine wpList_make_full _ rfl _ _ 32 rfl w1.heap.size 3 i0 (.int .i64 0) 1 Try.underlying32 hi hz0 hz1 _ _ _ _ N rfl rfl rfl rfl (by rw [hz2]; omega) (by unfold maxLen; omega) hle ?_; intro w3 hown1 hgrow1; rw [← HMZ.out] at hown1; rw [HW.out] at hgrow1 hown1 ⊢; have hlow : Below w1.heap.size w1 w3 := (Below.refl _ w1).grown hgrow1 (Nat.le_refl _) (fun j hj => nomatch hj); have HO : Hid (Or w1 w3 w1.heap.size N N (ns (List.replicate N 0))) := ⟨hlow, Nat.le_refl _, hown1⟩; clear hown1 hgrow1 hlow)
  obtain ⟨gb, hgb⟩ : ∃ gb, w1.heap.size = gb := ⟨_, rfl⟩
  rw [hgb] at HO ⊢
  clear kg1 hle hgb HMZ
  go_loopw [4] (fun v wr => ∃ (i : Nat) (p : List Nat), i ≤ N ∧ v = .int .i64 (i : Int) ∧ Or w1 wr gb N N (ns p) ∧ p.length = N ∧ ∀ x, x < i → qa p x = x) (fun v _ => N - (intOf v).toNat)
  case atStart => exact ⟨0, _, Nat.zero_le _, rfl, HO.out, by simp, fun x hx => absurd hx (Nat.not_lt_zero _)⟩
  case round =>
   as_aux_lemma =>
    clear HO
    obtain ⟨i, p, hi2, rfl, hO, hl, hq⟩ := hrel
    by_cases hlt : i < N
    · obtain ⟨k1, k2⟩ := hO.cell i (by rw [ns_length, hl]; exact hlt)
      have HO2 := Lib.hid (hO.setN i i)
      have HQ : Hid ((p.set i i).length = N ∧ ∀ x, x < i + 1 → qa (p.set i i) x = x) := ⟨by rw [List.length_set]; exact hl, fun x hx => by
        rw [qa_set _ _ _ _ (by rw [hl]; exact hlt)]
        by_cases e : x = i
        · rw [if_pos e, e]
        · rw [if_neg e]; exact hq x (by omega)⟩
      have t1 : (0 : Int) ≤ (i : Int) := by omega
      have t2 : (i : Int) < (N : Int) := by omega
      clear hO hl hq
      go_wp2
      go_roundw
      case rel => exact ⟨i + 1, _, by omega, by go_num, HO2.out, HQ.out.1, HQ.out.2⟩
      case measure => simp [intOf]; omega
    · obtain rfl : i = N := by omega
      have hp : p = List.range i := List.ext_getElem (by simp [hl]) (fun x h1 h2 => by rw [qa_get h1, hq x (by omega)]; simp)
      subst hp
      have HS : Hid (Or w1 wr gb i i (ns (List.range i)) ∧ Pm g 0 0 0 (List.range i)) := ⟨hO, pm_start HH.out.2.2.1⟩
      clear hO hl hq hlt
      go_wp2
      go_loopw [5] (fun v wr => ∃ (T : Nat) (p : List Nat), T ≤ i ∧ v = .int .i64 (T : Int) ∧ Or w1 wr gb i i (ns p) ∧ Pm g T 0 0 p) (fun v _ => i - (intOf v).toNat)
      case atStart => exact ⟨0, _, Nat.zero_le _, rfl, HS.out.1, HS.out.2⟩
      case round =>
       as_aux_lemma =>
        clear HS
        obtain ⟨T, p, hT, rfl, hO, hP⟩ := hrel
        by_cases hlt : T < i
        · have HS := Lib.hid (⟨hO, hP⟩ : _ ∧ _)
          clear hO hP
          go_wp2
          go_loopw [6] (fun v wr => ∃ (u : Nat) (p : List Nat), u ≤ i ∧ v = .int .i64 (u : Int) ∧ Or w1 wr gb i i (ns p) ∧ Pm g T u 0 p) (fun v _ => i - (intOf v).toNat)
          case atStart => exact ⟨0, p, Nat.zero_le _, rfl, HS.out.1, HS.out.2⟩
          case round =>
           as_aux_lemma =>
            clear HS
            obtain ⟨u, p, hu, rfl, hO, hP⟩ := hrel
            by_cases hul : u < i
            · have hil : u < R.length := by rw [HH.out.2.1]; exact hul
              obtain ⟨b1, o1, rfl, hb1, kr'⟩ := HH.out.2.2.2.1.1.at_ (rcl_get R u hil)
              have hr1 := HH.out.2.2.2.1.2 _ (rw_mem R u hil)
              have hro := row_ofD R g HH.out.1 u (by rw [HH.out.2.2.1]; exact hul)
              generalize R[u]?.getD (none, 0, []) = y at *
              obtain ⟨P1, d1, xs⟩ := y
              unfold sl at kr'
              simp only at kr' hr1 hro
              subst hro
              obtain ⟨m, hm⟩ : ∃ m, (row g u).length = m := ⟨_, rfl⟩
              rw [ns_length, hm] at kr' hr1
              have hm47 := hr1.2
              have HRw := Lib.hid (⟨hr1.1, hm, kr'⟩ : _ ∧ _ ∧ _)
              have HS := Lib.hid (⟨hO, hP⟩ : _ ∧ _)
              have t3 : (0 : Int) ≤ (u : Int) := by omega
              have t4 : (u : Int) < (i : Int) := by omega
              clear hO hP hr1 hm kr' hb1 hil
              go_wp2
              go_loopw [7] (fun v wr => ∃ (j : Nat) (p : List Nat), j ≤ m ∧ v = .int .i64 (j : Int) ∧ Or w1 wr gb i i (ns p) ∧ Pm g T u j p) (fun v _ => m - (intOf v).toNat)
              case atStart => exact ⟨0, p, Nat.zero_le _, rfl, HS.out.1, HS.out.2⟩
              case round =>
               as_aux_lemma =>
                clear HS
                obtain ⟨j, p, hj, rfl, hO, hP⟩ := hrel
                have kg := HKg.out _ hO.low
                have kr : wr.cell? ⟨b1, o1 + u, none⟩ = some (.slice P1 m d1) := (hO.low.cell (World.block_lt_of_cell? _ _ HRw.out.2.2)).trans HRw.out.2.2
                have hpl : p.length = i := hP.len.trans HH.out.2.2.1
                by_cases hjm : j < m
                · have hjl : j < (row g u).length := by rw [HRw.out.2.1]; exact hjm
                  obtain ⟨b4, o4, rfl, hb4, k3⟩ := (HRw.out.1.on hO.low).at_ (zc_getN (row g u) j (qa (row g u) j) (qa_eq hjl))
                  have hto := HH.out.2.2.2.2.1.bdd u _ (qa_mem hjl)
                  rw [HH.out.2.2.1] at hto
                  have hst := fun p' => hP.step (p' := p') HH.out.2.2.2.2.1 hjl
                  obtain ⟨to, hto2⟩ : ∃ to, qa (row g u) j = to := ⟨_, rfl⟩
                  rw [hto2] at k3 hto hst
                  obtain ⟨ku, kuz⟩ := hO.cell u (by rw [ns_length, hpl]; exact hul)
                  obtain ⟨kt, ktz⟩ := hO.cell to (by rw [ns_length, hpl]; exact hto)
                  rw [fv_ns _ _ (by rw [hpl]; exact hul)] at ku
                  rw [fv_ns _ _ (by rw [hpl]; exact hto)] at kt
                  have t7 : (0 : Int) ≤ (j : Int) := by omega
                  have t8 : (j : Int) < (m : Int) := by omega
                  have t9 : (0 : Int) ≤ (to : Int) := by omega
                  have t10 : (to : Int) < (i : Int) := by omega
                  have hsu : ∀ v x, qa (p.set u v) x = if x = u then v else qa p x := fun v x => qa_set _ _ _ _ (by rw [hpl]; exact hul)
                  have hstt : ∀ v x, qa (p.set to v) x = if x = to then v else qa p x := fun v x => qa_set _ _ _ _ (by rw [hpl]; exact hto)
                  have HO := Lib.hid hO
                  by_cases c1 : qa p u < qa p to
                  · have hS2 := hst (p.set to (qa p u)) (by rw [List.length_set]) (fun x => by
                      rw [hstt]
                      by_cases e : x = to
                      · rw [if_pos e, if_pos (.inr e)]; omega
                      · rw [if_neg e]
                        by_cases e2 : x = u
                        · rw [if_pos (.inl e2), e2]; omega
                        · rw [if_neg (fun q => q.elim e2 e)])
                    have HS2 := Lib.hid hS2
                    have HO2 : Hid (∀ n, Or w1 ((wr.drewN n).setCell ⟨gb, to, none⟩ (.int .i64 ((qa p u : Nat) : Int))) gb i i (ns (p.set to (qa p u)))) := fun n => (hO.drewN n).setN to (qa p u)
                    have HKu : Hid (∀ n, ((wr.drewN n).setCell ⟨gb, to, none⟩ (.int .i64 ((qa p u : Nat) : Int))).cell? ⟨gb, u, none⟩ = some (.int .i64 ((qa p u : Nat) : Int)) ∧ ((wr.drewN n).setCell ⟨gb, to, none⟩ (.int .i64 ((qa p u : Nat) : Int))).cell? ⟨gb, to, none⟩ = some (.int .i64 ((qa p u : Nat) : Int))) := fun n => by
                      have h1 := ((hO.drewN n).setN to (qa p u)).cell u (by rw [ns_length, List.length_set, hpl]; exact hul)
                      have h2 := ((hO.drewN n).setN to (qa p u)).cell to (by rw [ns_length, List.length_set, hpl]; exact hto)
                      rw [fv_ns _ _ (by rw [List.length_set, hpl]; exact hul), hstt, if_neg (fun e => by rw [e] at c1; omega)] at h1
                      rw [fv_ns _ _ (by rw [List.length_set, hpl]; exact hto), hstt, if_pos rfl] at h2
                      exact ⟨h1.1, h2.1⟩
                    have c2 : decide (((qa p u : Nat) : Int) < ((qa p to : Nat) : Int)) = true := by simp; omega
                    have c2n : decide (qa p u < qa p to) = true := by simpa using c1
                    have c3 : decide (((qa p u : Nat) : Int) < ((qa p u : Nat) : Int)) = false := by simp
                    generalize qa p u = a at *
                    generalize qa p to = z at *
                    clear hO hP hst hsu hstt hS2 c1 hto2 hpl
                    go_wp2
                    go_quiet (fail)
                    have HO3 := Lib.hid (HO2.out nq)
                    have HKu3 := Lib.hid (HKu.out nq)
                    have ku2 : (wr.drewN nq).cell? ⟨gb, u, none⟩ = some (.int .i64 (a : Int)) := ku
                    have kt2 : (wr.drewN nq).cell? ⟨gb, to, none⟩ = some (.int .i64 (z : Int)) := kt
                    have kz2 : (wr.drewN nq).frozen? ⟨gb, to, none⟩ = false := ktz
                    generalize wr.drewN nq = V at *
                    clear HO2 HKu ku kt kuz ktz k3 kr kg
                    obtain ⟨y1, y2⟩ := HKu3.out
                    go_wp2
                    go_quiet (fail)
                    go_wp2
                    go_roundw
                    case rel => exact ⟨j + 1, _, by omega, by go_num, HO3.out.drewN _, HS2.out⟩
                    case measure => simp [intOf]; omega
                  · have c2 : decide (((qa p u : Nat) : Int) < ((qa p to : Nat) : Int)) = false := by simp; omega
                    have c2n : decide (qa p u < qa p to) = false := by simpa using c1
                    by_cases c4 : qa p to < qa p u
                    · have hS2 := hst (p.set u (qa p to)) (by rw [List.length_set]) (fun x => by
                        rw [hsu]
                        by_cases e : x = u
                        · rw [if_pos e, if_pos (.inl e)]; omega
                        · rw [if_neg e]
                          by_cases e2 : x = to
                          · rw [if_pos (.inr e2), e2]; omega
                          · rw [if_neg (fun q => q.elim e e2)])
                      have HS2 := Lib.hid hS2
                      have HO2 : Hid (∀ n k, Or w1 (((wr.drewN n).drewN k).setCell ⟨gb, u, none⟩ (.int .i64 ((qa p to : Nat) : Int))) gb i i (ns (p.set u (qa p to)))) := fun n k => ((hO.drewN n).drewN k).setN u (qa p to)
                      have c3 : decide (((qa p to : Nat) : Int) < ((qa p u : Nat) : Int)) = true := by simp; omega
                      have c3n : decide (qa p to < qa p u) = true := by simpa using c4
                      generalize qa p u = a at *
                      generalize qa p to = z at *
                      clear hO hP hst hsu hstt hS2 c1 c4 hto2 hpl
                      go_wp2
                      go_quiet (fail)
                      have ku1 : (wr.drewN nq).cell? ⟨gb, u, none⟩ = some (.int .i64 (a : Int)) := ku
                      have kt1 : (wr.drewN nq).cell? ⟨gb, to, none⟩ = some (.int .i64 (z : Int)) := kt
                      have kz1 : (wr.drewN nq).frozen? ⟨gb, u, none⟩ = false := kuz
                      have HO5 := Lib.hid (fun k => HO2.out nq k)
                      generalize wr.drewN nq = V at *
                      clear HO2 ku kt kuz ktz k3 kr kg
                      go_wp2
                      go_quiet (fail)
                      have HO3 := Lib.hid (HO5.out nq)
                      have ku2 : (V.drewN nq).cell? ⟨gb, u, none⟩ = some (.int .i64 (a : Int)) := ku1
                      have kt2 : (V.drewN nq).cell? ⟨gb, to, none⟩ = some (.int .i64 (z : Int)) := kt1
                      have kz2 : (V.drewN nq).frozen? ⟨gb, u, none⟩ = false := kz1
                      generalize V.drewN nq = V2 at *
                      clear HO5 ku1 kt1 kz1
                      go_wp2
                      go_roundw
                      case rel => exact ⟨j + 1, _, by omega, by go_num, HO3.out, HS2.out⟩
                      case measure => simp [intOf]; omega
                    · have hS2 := hst p rfl (fun x => by
                        split
                        · rename_i e
                          rcases e with e | e <;> rw [e] <;> omega
                        · rfl)
                      have HS2 := Lib.hid hS2
                      have c3 : decide (((qa p to : Nat) : Int) < ((qa p u : Nat) : Int)) = false := by simp; omega
                      have c3n : decide (qa p to < qa p u) = false := by simpa using c4
                      generalize qa p u = a at *
                      generalize qa p to = z at *
                      clear hO hP hst hsu hstt hS2 c1 c4 hto2 hpl
                      go_wp2
                      go_quiet (fail)
                      have ku1 : (wr.drewN nq).cell? ⟨gb, u, none⟩ = some (.int .i64 (a : Int)) := ku
                      have kt1 : (wr.drewN nq).cell? ⟨gb, to, none⟩ = some (.int .i64 (z : Int)) := kt
                      have HO5 := Lib.hid (HO.out.drewN nq)
                      generalize wr.drewN nq = V at *
                      clear ku kt kuz ktz k3 kr kg
                      go_wp2
                      go_quiet (fail)
                      go_wp2
                      go_roundw
                      case rel => exact ⟨j + 1, p, by omega, by go_num, HO5.out.drewN _, HS2.out⟩
                      case measure => simp [intOf]; omega
                · obtain rfl : j = m := by omega
                  have HE : Hid (Or w1 wr gb i i (ns p) ∧ Pm g T (u + 1) 0 p) := ⟨hO, by have h1 := hP; rw [← HRw.out.2.1] at h1; exact h1.next⟩
                  clear hO hP hjm
                  go_wp2
                  go_roundw
                  case rel => exact ⟨u + 1, p, by omega, by go_num, HE.out.1, HE.out.2⟩
                  case measure => simp [intOf]; omega
            · obtain rfl : u = i := by omega
              have HE : Hid (Or w1 wr gb u u (ns p) ∧ Pm g (T + 1) 0 0 p) := ⟨hO, by have h1 := hP; rw [← HH.out.2.2.1] at h1; exact h1.turn HH.out.2.2.2.2.1⟩
              clear hO hP hul
              go_wp2
              go_roundw
              case rel => exact ⟨T + 1, p, by omega, by go_num, HE.out.1, HE.out.2⟩
              case measure => simp [intOf]; omega
        · obtain rfl : T = i := by omega
          have HE : Hid (Pa g p ∧ RdV wr wr.heap.size (some ⟨gb, 0, none⟩) (zc (ns p)) ∧ Below w.heap.size w wr) := by
            refine ⟨?_, own_rdvA hO.own, HH.out.2.2.2.2.2.trans (hO.low.mono HH.out.2.2.2.2.2.size)⟩
            have h1 := hP
            rw [← HH.out.2.2.1] at h1
            exact h1.fin HH.out.2.2.2.2.1
          clear hO hP hlt
          go_wp2
          go_ret
          exact ⟨gb, T, p, rfl, HE.out.1, HE.out.2.1, HE.out.2.2⟩
end

section
set_option maxRecDepth 100000
set_option linter.unusedVariables false
open Go.RowKit Go.Shelf

theorem To.zero {g : List (List Nat)} {t : Nat} {L : List Int} (h : To g t L) {x : Nat} (hx : x < g.length) (hk : fv L x = ((0 : Nat) : Int)) : x = t := by
  rcases h.val x hx with ⟨q1, _⟩ | ⟨d, q1, q2, _⟩
  · omega
  · obtain rfl : d = 0 := by omega
    exact Eq.symm q2
theorem To.notz {g : List (List Nat)} {t : Nat} {L : List Int} (h : To g t L) {x k : Nat} (hx : x < g.length) (hk : fv L x = ((k + 1 : Nat) : Int)) : x ≠ t := by
  rcases h.val x hx with ⟨q1, _⟩ | ⟨d, q1, q2, q3⟩
  · omega
  · intro e
    subst e
    have := q3 0 rfl
    omega
/-- The first that is so far is the one where to go next. -/
theorem nxt_first {L : List Int} {k : Nat} {r : List Nat} {i : Nat} (hi : i < r.length) (h1 : fv L (qa r i) = (k : Int)) (h2 : ∀ j, j < i → fv L (qa r j) ≠ (k : Int)) : nxtW L k r = qa r i := by
  have := find_at (fun y => fv L y == (k : Int)) r i hi (by rw [← qa_get hi] at h1; simpa using h1) (fun j hj => by
    have := h2 j hj
    rw [← qa_get (by omega : j < r.length)] at this
    simpa using this)
  unfold nxtW
  rw [this, Option.getD_some, qa_get hi]
set_option maxHeartbeats 8000000 in
theorem refway_ok (R : List Rw) (g : List (List Nat)) (hg : gs R = g.map ns) (hok : GOk g) (N : Nat) (hN : R.length = N) (t : Nat) (ht : t < N) (L : List Int) (hL : Fa (gturn g) t L) (hT : To g t L) :
    ∀ (k s : Nat), s < N → fv L s = (k : Int) → ∀ (A : Option Addr) (c : Nat) (w : World), RdG w w.heap.size A R →
    Calls Try.prog 36 #[.agg #[.slice A N c], .int .i64 (s : Int), .int .i64 (t : Int)] w fun e w' => ∃ Av cv, e = .returned (.slice Av (k + 1) cv) ∧ RdV w' w'.heap.size Av (zc (ns (wayL g L k s))) ∧ Below w.heap.size w w' := by
  obtain ⟨i0, hi, hz0, hz1, hz2⟩ := info_parts info_intD
  have hgl : g.length = N := by have := congrArg List.length hg; rw [gs_length, List.length_map] at this; omega
  have hN1 : N ≤ 100 := by have := hok.nodes; omega
  have HWF : Hid (∀ (y : Nat), y < N → ∃ F : List Int, F.length = N ∧ fv F t = fv L y ∧ ∀ A c V, RdG V V.heap.size A R → Calls Try.prog 35 #[.agg #[.slice A N c], .int .i64 (y : Int)] V fun e w' => ∃ b cap, e = .returned (.slice (some ⟨b, 0, none⟩) N cap) ∧ RdV w' w'.heap.size (some ⟨b, 0, none⟩) (zc F) ∧ Below V.heap.size V w') := fun y hy => by
    obtain ⟨F, hF⟩ := fa_ex g y
    exact ⟨F, by rw [hF.len]; exact hgl, Fa.turn hok (by omega) (by omega) hF hL, fun A c V h => reffar_ok R g hg hok N hN y hy F hF A c V h⟩
  have HLt : Hid (∀ x, x < N → fv L x < (N : Int)) := fun x hx => by
    have := hL.lt (gturn_ok hok).bdd (by rw [gturn_length]; omega) x (by rw [gturn_length]; omega)
    rwa [gturn_length, hgl] at this
  have HH := Lib.hid (⟨hg, hN, hgl, hok, hT⟩ : gs R = g.map ns ∧ R.length = N ∧ g.length = N ∧ GOk g ∧ To g t L)
  clear hg hN hgl hok hT hL
  intro k
  induction k with
  | zero =>
    intro s hs hk A c w h
    obtain rfl : s = t := HH.out.2.2.2.2.zero (by rw [HH.out.2.2.1]; exact hs) hk
    clear h hk
    go_enter Try.func36, Try.ntmps36
    have HL : Hid (∀ V, Below w.heap.size w V → V.heap.size = w.heap.size + 1 → RdV (V.alloc (.cells #[.int .i64 (s : Int)] 3)) (V.alloc (.cells #[.int .i64 (s : Int)] 3)).heap.size (some ⟨w.heap.size + 1, 0, none⟩) (zc (ns (wayL g L 0 s))) ∧ Below w.heap.size w (V.alloc (.cells #[.int .i64 (s : Int)] 3))) := fun V hV hz => ⟨by rw [← hz]; exact lit_rdv V [(s : Int)], hV.trans ((one_below V _).mono hV.size)⟩
    go_wp2
    go_ret
    have := HL.out _ (one_below w (.cells #[.slice A N c] 24)) (World.size_alloc _ _)
    exact ⟨_, _, rfl, this.1, this.2⟩
  | succ k ih =>
    intro s hs hk A c w h
    have hst := HH.out.2.2.2.2.notz (by rw [HH.out.2.2.1]; exact hs) hk
    obtain ⟨w1, hw1⟩ : ∃ w1, w.alloc (.cells #[.slice A N c] 24) = w1 := ⟨_, rfl⟩
    have HB1 : Hid (Below w.heap.size w w1) := hw1 ▸ one_below w _
    have HR1 := Lib.hid (h.on HB1.out)
    have hs1 : w.heap.size < w1.heap.size := by rw [← hw1, World.size_alloc]; omega
    have kg1 : w1.cell? ⟨w.heap.size, 0, none⟩ = some (.slice A N c) := by rw [← hw1]; exact (cell_at (World.alloc_heap_new w _) 0).trans rfl
    have HKg : Hid (∀ V, Below w1.heap.size w1 V → V.cell? ⟨w.heap.size, 0, none⟩ = some (.slice A N c)) := fun V hV => (hV.cell (p := ⟨w.heap.size, 0, none⟩) hs1).trans kg1
    have HW := Lib.hid hw1
    have HK := Lib.hid hk
    have t0 : ((s : Int) == (t : Int)) = false := by simp; omega
    have t0n : (s == t) = false := by simpa using hst
    clear h hw1 hs1 hk hst
    rw [← HW.out] at kg1
    go_enter Try.func36, Try.ntmps36
    obtain ⟨F, hF1, hF2, hF3⟩ := HWF.out s hs
    have HC : Hid (Calls Try.prog 35 #[.agg #[.slice A N c], .int .i64 (s : Int)] (w.alloc (.cells #[.slice A N c] 24)) fun e w' => ∃ b cap, e = .returned (.slice (some ⟨b, 0, none⟩) N cap) ∧ RdV w' w'.heap.size (some ⟨b, 0, none⟩) (zc F) ∧ Below w1.heap.size w1 w') := by rw [HW.out]; exact hF3 A c w1 HR1.out
    clear hF3
    go_wp2_with fail
    refine HC.out.mono ?_
    rintro e w2 ⟨b, cap, rfl, q2, b2⟩
    have k2 := rdv_at q2 (N := N) t (by rw [hF1]; exact ht)
    rw [hF2, HK.out] at k2
    have HB2 := Lib.hid b2
    clear kg1 HC q2 b2 hF1 hF2
    have t1 : (0 : Int) ≤ (t : Int) := by omega
    have t2 : (t : Int) < (N : Int) := by omega
    have t3 : decide (((k + 1 : Nat) : Int) < 0) = false := by simp; omega
    have hkN : k ≤ 100 := by have := HLt.out s hs; rw [HK.out] at this; omega
    have HIH : Hid (∀ (y : Nat), y < N → fv L y = (k : Int) → ∀ V, Below w1.heap.size w1 V → Calls Try.prog 36 #[.agg #[.slice A N c], .int .i64 (y : Int), .int .i64 (t : Int)] V fun e w' => ∃ Av cv, e = .returned (.slice Av (k + 1) cv) ∧ RdV w' w'.heap.size Av (zc (ns (wayL g L k y))) ∧ Below V.heap.size V w') := fun y hy hk V hV => ih y hy hk A c V (HR1.out.on hV)
    clear ih
    have hil : s < R.length := by rw [HH.out.2.1]; exact hs
    obtain ⟨b1, o1, rfl, hb1, kr'⟩ := HR1.out.1.at_ (rcl_get R s hil)
    have hr1 := HR1.out.2 _ (rw_mem R s hil)
    have hro := row_ofD R g HH.out.1 s (by rw [HH.out.2.2.1]; exact hs)
    generalize R[s]?.getD (none, 0, []) = y at *
    obtain ⟨P1, d1, xs⟩ := y
    unfold sl at kr'
    simp only at kr' hr1 hro
    subst hro
    obtain ⟨m, hm⟩ : ∃ m, (row g s).length = m := ⟨_, rfl⟩
    rw [ns_length, hm] at kr' hr1
    have hm47 := hr1.2
    have HRw := Lib.hid (⟨hr1.1, hm, kr'⟩ : _ ∧ _ ∧ _)
    have t5 : (0 : Int) ≤ (s : Int) := by omega
    have t6 : (s : Int) < (N : Int) := by omega
    obtain ⟨n, hn⟩ : ∃ n, ((k + 1 : Nat) : Int) = n := ⟨_, rfl⟩
    rw [hn] at k2 t3
    have a1 : IntKind.i64.wrap (n - 1) = (k : Int) := by rw [IntKind.wrap_i64]; omega
    have HWy : Hid (∀ y, fv L y = (k : Int) → ∀ i, i < m → y = qa (row g s) i → (∀ j, j < i → fv L (qa (row g s) j) ≠ (k : Int)) → wayL g L (k + 1) s = s :: wayL g L k y) := fun y hy i hi he hq => by
      show _ :: wayL g L k _ = _
      rw [nxt_first (by rw [HRw.out.2.1]; exact hi) (by rw [← he]; exact hy) hq, he]
    have HEx : Hid (∃ j, j < m ∧ fv L (qa (row g s) j) = (k : Int)) := by
      obtain ⟨y, h1, h2⟩ := HH.out.2.2.2.2.next (by rw [HH.out.2.2.1]; exact hs) HK.out
      obtain ⟨j, hj, e⟩ := List.getElem_of_mem h1
      exact ⟨j, by rw [← HRw.out.2.1]; exact hj, by rw [← qa_get hj, e]; exact h2⟩
    have HN := Lib.hid hn
    clear hr1 hm kr' hb1 hil hn
    go_wp2
    clear k2
    go_loopw [8] (fun v wr => ∃ i : Nat, i ≤ m ∧ v = .int .i64 (i : Int) ∧ (∀ j, j < i → fv L (qa (row g s) j) ≠ (k : Int)) ∧ Below w1.heap.size w1 wr) (fun v _ => m - (intOf v).toNat)
    case atStart => exact ⟨0, Nat.zero_le _, rfl, fun j hj => absurd hj (Nat.not_lt_zero _), HB2.out⟩
    case round =>
     as_aux_lemma =>
      obtain ⟨i, hi2, rfl, hq, hbel⟩ := hrel
      have kg := HKg.out _ hbel
      have kr : wr.cell? ⟨b1, o1 + s, none⟩ = some (.slice P1 m d1) := (hbel.cell (World.block_lt_of_cell? _ _ HRw.out.2.2)).trans HRw.out.2.2
      by_cases hlt : i < m
      · have hjl : i < (row g s).length := by rw [HRw.out.2.1]; exact hlt
        obtain ⟨b4, o4, rfl, hb4, k3⟩ := (HRw.out.1.on hbel).at_ (zc_getN (row g s) i (qa (row g s) i) (qa_eq hjl))
        have hto := HH.out.2.2.2.1.bdd s _ (qa_mem hjl)
        rw [HH.out.2.2.1] at hto
        have HQ := Lib.hid hq
        have hwy := HWy.out (qa (row g s) i)
        have hnq : fv L (qa (row g s) i) ≠ (k : Int) → ∀ j, j < i + 1 → fv L (qa (row g s) j) ≠ (k : Int) := fun h j hj => by
          by_cases e : j = i
          · rw [e]; exact h
          · exact hq j (by omega)
        have hwy2 : fv L (qa (row g s) i) = (k : Int) → wayL g L (k + 1) s = s :: wayL g L k (qa (row g s) i) := fun h => HWy.out _ h i hlt rfl hq
        have HHy := Lib.hid (⟨hnq, hwy2⟩ : _ ∧ _)
        clear hwy hnq hwy2 hq
        obtain ⟨to, hto2⟩ : ∃ to, qa (row g s) i = to := ⟨_, rfl⟩
        rw [hto2] at k3 hto HHy
        obtain ⟨F, hF1, hF2, hF3⟩ := HWF.out to hto
        have HC := Lib.hid (hF3 (some ⟨b1, o1, none⟩) c wr (HR1.out.on hbel))
        have HBl := Lib.hid hbel
        have t7 : (0 : Int) ≤ (i : Int) := by omega
        have t8 : (i : Int) < (m : Int) := by omega
        have t9 : decide ((i : Int) < (m : Int)) = true := by simp; omega
        clear hF3 hbel hto2 hjl
        go_wp2_with fail
        refine HC.out.mono ?_
        rintro e w3 ⟨b5, cap5, rfl, q5, bl5⟩
        have k5 := rdv_at q5 (N := N) t (by rw [hF1]; exact ht)
        rw [hF2] at k5
        have HB3 : Hid (Below w1.heap.size w1 w3) := HBl.out.trans (bl5.mono HBl.out.size)
        have kg3 := HKg.out _ HB3.out
        clear q5 bl5 HC hF1 hF2 kg kr k3
        by_cases hc : fv L to = (k : Int)
        · have hway := HHy.out.2 hc
          have c1 : (fv L to == (k : Int)) = true := by simpa using hc
          have HWay := Lib.hid hway
          have HC2 : Hid (∀ V, Below w1.heap.size w1 V → Calls Try.prog 36 #[.agg #[.slice (some ⟨b1, o1, none⟩) N c], .int .i64 (to : Int), .int .i64 (t : Int)] V fun e w' => ∃ Av cv, e = .returned (.slice Av (k + 1) cv) ∧ RdV w' w'.heap.size Av (zc (ns (wayL g L k to))) ∧ Below V.heap.size V w') := fun V hV => HIH.out to hto hc V hV
          generalize fv L to = u at *
          clear hway hc HIH HHy HWF
          obtain ⟨w4, hw4⟩ : ∃ w4, w3.alloc (.cells #[.int .i64 (s : Int)] 3) = w4 := ⟨_, rfl⟩
          have HB4 : Hid (Below w1.heap.size w1 w4 ∧ w4.ownsRow w3.heap.size 3 1 (.slice (some ⟨w3.heap.size, 0, none⟩) 1 1) 1 (zc [(s : Int)]) ∧ w3.heap.size ≤ w4.heap.size) := by
            rw [← hw4]
            refine ⟨HB3.out.trans ((one_below w3 _).mono HB3.out.size), ⟨rfl, .inr ⟨w3.heap.size, 1, #[.int .i64 (s : Int)], rfl, Nat.le_refl _, World.alloc_heap_new w3 _, Nat.le_refl _, by unfold maxLen; omega, rfl, rfl⟩⟩, by rw [World.size_alloc]; omega⟩
          have HW4 := Lib.hid hw4
          have HC3 := Lib.hid (HC2.out w4 HB4.out.1)
          rw [← hw4] at HC3
          have kg4 := HKg.out _ HB4.out.1
          rw [← hw4] at kg4
          clear hw4 HC2
          go_wp2_with fail
          refine HC3.out.mono ?_
          rintro e w5 ⟨Av, cv, rfl, q6, bl6⟩
          rw [HW4.out] at bl6
          have hrow5 := own_below HB4.out.2.1 bl6
          obtain ⟨b7, o7, rfl, -, -⟩ := q6.at_ (i := 0) (v := .int .i64 (to : Int)) (by
            have h1 := wayL_head g L k to
            unfold zc ns
            rw [List.getElem?_map, List.getElem?_map, h1]; rfl)
          have HNw := Lib.hid (rdv_newsU q6)
          have HLz : Hid ((zc (ns (wayL g L k to))).length = (k + 1) * 1) := by show _ = _; rw [zc_length, ns_length, wayL_length, Nat.mul_one]
          have HOn := Lib.hid (zc_one (ns (wayL g L k to)))
          have HS5 : Hid (w3.heap.size ≤ w5.heap.size ∧ Below w1.heap.size w1 w5 ∧ w1.heap.size ≤ w3.heap.size) := ⟨Nat.le_trans HB4.out.2.2 bl6.size, HB4.out.1.trans (bl6.mono HB4.out.1.size), HB3.out.size⟩
          clear bl6 q6 kg4 HC3
          go_wp2_with (at_builtin; refine wpList_append_own _ rfl _ _ 32 rfl w3.heap.size 3 i0 (.int .i64 0) 1 8 Try.underlying32 hi hz0 hz1 hz2 rfl (by decide) _ _ _ rfl hrow5 ⟨b7, o7, none⟩ (k + 1) cv (zc (ns (wayL g L k to))) rfl HLz.out HNw.out HOn.out (by unfold maxLen; omega) (by omega) HS5.out.1 ?_; intro v' w6 hown' hgrow _; obtain ⟨Av', cv', rfl⟩ := own_slice3 hown')
          go_ret
          refine ⟨Av', cv', by rw [Nat.add_comm 1 (k + 1)]; rfl, ?_, ?_⟩
          · rw [HWay.out]
            have := own_rdvA hown'
            exact this
          · have h6 : Below w1.heap.size w5 w6 := (grown_low hgrow hrow5 HS5.out.1).mono HS5.out.2.2
            exact HB1.out.trans ((HS5.out.2.1.trans h6).mono HB1.out.size)
        · have hnq := HHy.out.1 hc
          have c1 : (fv L to == (k : Int)) = false := by simpa using hc
          have HNq := Lib.hid hnq
          generalize fv L to = u at *
          clear hnq hc HIH HHy
          go_wp2
          go_roundw
          case rel => exact ⟨i + 1, by omega, by go_num, HNq.out, HB3.out⟩
          case measure => simp [intOf]; omega
      · obtain ⟨j, hj1, hj2⟩ := HEx.out
        exact absurd hj2 (hq j (by omega))
end

section
set_option maxRecDepth 100000
set_option linter.unusedVariables false
open Go.RowKit Go.Shelf

/-- The most of the first i nodes, so far. -/
def MoT (g : List (List Nat)) (i : Nat) (r : Int) : Prop := 0 ≤ r ∧ (∀ s, s < i → ∀ F, Fa g s F → ∀ x, x < g.length → fv F x ≤ r) ∧ (r = 0 ∨ ∃ s, s < g.length ∧ ∃ x, x < g.length ∧ ∀ F, Fa g s F → fv F x = r)
theorem moT_start (g : List (List Nat)) : MoT g 0 0 := ⟨Int.le_refl _, fun s hs => absurd hs (Nat.not_lt_zero _), .inl rfl⟩
theorem MoT.fin {g : List (List Nat)} {r m : Int} (h : MoT g g.length r) (hm : MoG g m) : m = r := by
  refine hm.uniq ⟨h.1, h.2.1, ?_⟩
  rcases h.2.2 with h0 | q
  · by_cases hl : g.length = 0
    · exact .inl ⟨hl, h0⟩
    · exact .inr ⟨0, by omega, 0, by omega, fun F hF => by rw [h0]; exact hF.zero (by omega)⟩
  · exact .inr q
theorem MoT.step {g : List (List Nat)} {i j : Nat} {r : Int} {F : List Int} (h : MoT g i r) (hF : Fa g i F) (hi : i < g.length) (hj : j < g.length) (hq : ∀ x, x < j → fv F x ≤ r) (r' : Int) (hr : r' = if r < fv F j then fv F j else r) : MoT g i r' ∧ ∀ x, x < j + 1 → fv F x ≤ r' := by
  by_cases c : r < fv F j
  · rw [if_pos c] at hr
    subst hr
    refine ⟨⟨by have := h.1; omega, fun s hs F' hF' x hx => by have := h.2.1 s hs F' hF' x hx; omega, .inr ⟨i, hi, j, hj, fun F' hF' => by rw [hF'.uniq hF]⟩⟩, fun x hx => ?_⟩
    by_cases e : x = j
    · rw [e]; exact Int.le_refl _
    · have := hq x (by omega); omega
  · rw [if_neg c] at hr
    subst hr
    refine ⟨h, fun x hx => ?_⟩
    by_cases e : x = j
    · rw [e]; omega
    · exact hq x (by omega)
theorem MoT.next {g : List (List Nat)} {i : Nat} {r : Int} {F : List Int} (h : MoT g i r) (hF : Fa g i F) (hq : ∀ x, x < g.length → fv F x ≤ r) : MoT g (i + 1) r :=
  ⟨h.1, fun s hs F' hF' x hx => by
    by_cases e : s = i
    · subst e; rw [hF'.uniq hF]; exact hq x hx
    · exact h.2.1 s (by omega) F' hF' x hx, h.2.2⟩
/-- What Far answers. -/
def FR (g : List (List Nat)) (s : Int) (fs : List Int) (e : Int) : Prop := (¬ (0 ≤ s ∧ s < (g.length : Int)) ∧ fs = [] ∧ e = 3) ∨ ∃ k : Nat, k < g.length ∧ s = (k : Int) ∧ Fa g k fs ∧ e = 0
/-- What Way answers. -/
def WR (g : List (List Nat)) (s t : Int) (ws : List Int) (e : Int) : Prop := (¬ ((0 ≤ s ∧ s < (g.length : Int)) ∧ (0 ≤ t ∧ t < (g.length : Int))) ∧ ws = [] ∧ e = 3) ∨ ∃ (k l : Nat) (L : List Int), k < g.length ∧ l < g.length ∧ s = (k : Int) ∧ t = (l : Int) ∧ Fa (gturn g) l L ∧ (fv L k = -1 ∧ ws = [] ∧ e = 5 ∨ ∃ d : Nat, fv L k = (d : Int) ∧ ws = ns (wayL g L d k) ∧ e = 0)
set_option maxHeartbeats 32000000 in
theorem walkTells_law (A : Option Addr) (c : Nat) (R : List Rw) (s t : Int) (w : World) (hA : RdG w w.heap.size A R) (hn : R.length ≤ 140737488355328) (hs0 : -9223372036854775808 ≤ s ∧ s ≤ 9223372036854775807) (ht0 : -9223372036854775808 ≤ t ∧ t ≤ 9223372036854775807) :
    Calls Try.prog 4 #[.agg #[.slice A R.length c], .int .i64 s, .int .i64 t] w fun e w' => e = .returned (.bool true) ∧ Below w.heap.size w w' := by
  clear hs0 ht0
  have HSm : Hid (∀ (xs : List Int) (n : Nat), xs.length = n → n ≤ 9223372036854775807 → ∀ A B c d V, RdV V V.heap.size A (zc xs) → RdV V V.heap.size B (zc xs) → Calls Try.prog 29 #[.slice A n c, .slice B n d] V fun e w' => e = .returned (.bool true) ∧ Below V.heap.size V w') := fun xs n hx hn A B c d V h1 h2 => by
    have := sameI_any V A B c d xs xs (by omega) h1 h2
    rw [hx] at this
    simpa using this
  obtain ⟨N, hN⟩ : ∃ N, R.length = N := ⟨_, rfl⟩
  rw [hN] at hn ⊢
  by_cases e0 : grE (gs R) = 0
  · obtain ⟨g, hg, hok⟩ := grE_zero _ e0
    have hgl : g.length = N := by have := congrArg List.length hg; rw [gs_length, List.length_map] at this; omega
    have hN1 : N ≤ 100 := by have := hok.nodes; omega
    have HF : Hid (∀ A c V, RdG V V.heap.size A R → Calls Try.prog 30 #[.agg #[.slice A N c], .int .i64 s] V fun e w' => ∃ Af nf cf fs ef, e = .returned (.tuple #[.slice Af nf cf, .int .i64 ef]) ∧ fs.length = nf ∧ RdV w' w'.heap.size Af (zc fs) ∧ FR g s fs ef ∧ Below V.heap.size V w') := fun A c V h => by
      by_cases hs : 0 ≤ s ∧ s < (N : Int)
      · obtain ⟨k, rfl⟩ := Int.eq_ofNat_of_zero_le hs.1
        obtain ⟨F, hF⟩ := fa_ex g k
        exact (far_ok R g hg hok N hN k (by omega) F hF A c V h).mono fun e w' ⟨b, q1, q2⟩ => ⟨_, N, N, F, 0, q1, hF.len.trans hgl, q2.rd, .inr ⟨k, by omega, rfl, hF, rfl⟩, q2.low⟩
      · exact (far_e R N hN (by omega) s 3 (cnE_out e0 ⟨s, by simp, by rw [gs_length, hN]; exact hs⟩) (by decide) A c V h).mono fun e w' ⟨q1, q2⟩ => ⟨none, 0, 0, [], 3, q1, rfl, .inl rfl, .inl ⟨by rw [hgl]; exact hs, rfl, rfl⟩, q2⟩
    have HW : Hid (∀ A c V, RdG V V.heap.size A R → Calls Try.prog 31 #[.agg #[.slice A N c], .int .i64 s, .int .i64 t] V fun e w' => ∃ Aw nw cw ws ew, e = .returned (.tuple #[.slice Aw nw cw, .int .i64 ew]) ∧ ws.length = nw ∧ nw ≤ 101 ∧ RdV w' w'.heap.size Aw (zc ws) ∧ WR g s t ws ew ∧ Below V.heap.size V w') := fun A c V h => by
      by_cases hst : (0 ≤ s ∧ s < (N : Int)) ∧ (0 ≤ t ∧ t < (N : Int))
      · obtain ⟨k, rfl⟩ := Int.eq_ofNat_of_zero_le hst.1.1
        obtain ⟨l, rfl⟩ := Int.eq_ofNat_of_zero_le hst.2.1
        obtain ⟨L, hL⟩ := fa_ex (gturn g) l
        have hlt := hL.lt (gturn_ok hok).bdd (by rw [gturn_length]; omega) k (by rw [gturn_length]; omega)
        rw [gturn_length, hgl] at hlt
        refine (way_ok R g hg hok N hN k l (by omega) (by omega) L hL A c V h).mono fun e w' hq => ?_
        rcases hq with ⟨q1, q2, q3⟩ | ⟨d, Av, cv, q1, q2, q3, q4, _⟩
        · exact ⟨none, 0, 0, [], 5, q2, rfl, by omega, .inl rfl, .inr ⟨k, l, L, by omega, by omega, rfl, rfl, hL, .inl ⟨q1, rfl, rfl⟩⟩, q3⟩
        · exact ⟨Av, d + 1, cv, _, 0, q2, by rw [ns_length, wayL_length], by omega, q3, .inr ⟨k, l, L, by omega, by omega, rfl, rfl, hL, .inr ⟨d, q1, rfl, rfl⟩⟩, q4⟩
      · exact (way_e R N hN (by omega) s t 3 (cnE_out e0 (by rw [gs_length, hN]; by_cases q : 0 ≤ s ∧ s < (N : Int); exact ⟨t, by simp, fun r => hst ⟨q, r⟩⟩; exact ⟨s, by simp, q⟩)) (by decide) A c V h).mono fun e w' ⟨q1, q2⟩ => ⟨none, 0, 0, [], 3, q1, rfl, by omega, .inl rfl, .inl ⟨by rw [hgl]; exact hst, rfl, rfl⟩, q2⟩
    have HP : Hid (∀ A c V, RdG V V.heap.size A R → Calls Try.prog 32 #[.agg #[.slice A N c]] V fun e w' => ∃ b p, e = .returned (.tuple #[.slice (some ⟨b, 0, none⟩) N N, .int .i64 0]) ∧ Pa g p ∧ RdV w' w'.heap.size (some ⟨b, 0, none⟩) (zc (ns p)) ∧ Below V.heap.size V w') := fun A c V h => (parts_ok R g hg hok N hN A c V h).mono fun e w' ⟨b, p, q1, q2, q3⟩ => ⟨b, p, q1, q2, q3.rd, q3.low⟩
    have HM : Hid (∀ A c V, RdG V V.heap.size A R → Calls Try.prog 33 #[.agg #[.slice A N c]] V fun e w' => ∃ r, e = .returned (.tuple #[.int .i64 r, .int .i64 0]) ∧ MoG g r ∧ Below V.heap.size V w') := fun A c V h => most_ok R g hg hok N hN A c V h
    have HG : Hid (∀ A c V, RdG V V.heap.size A R → Calls Try.prog 20 #[.agg #[.slice A N c]] V fun e w' => e = .returned (.int .i64 0) ∧ Below V.heap.size V w') := fun A c V h => by have := refgchk_any R N hN (by omega) A c V h; rwa [e0] at this
    have HRP : Hid (∀ A c V, RdG V V.heap.size A R → Calls Try.prog 34 #[.agg #[.slice A N c]] V fun e w' => ∃ b cap p, e = .returned (.slice (some ⟨b, 0, none⟩) N cap) ∧ Pa g p ∧ RdV w' w'.heap.size (some ⟨b, 0, none⟩) (zc (ns p)) ∧ Below V.heap.size V w') := fun A c V h => refparts_ok R g hg hok N hN A c V h
    have HRF : Hid (∀ (k : Nat) F, k < N → Fa g k F → ∀ A c V, RdG V V.heap.size A R → Calls Try.prog 35 #[.agg #[.slice A N c], .int .i64 (k : Int)] V fun e w' => ∃ b cap, e = .returned (.slice (some ⟨b, 0, none⟩) N cap) ∧ RdV w' w'.heap.size (some ⟨b, 0, none⟩) (zc F) ∧ Below V.heap.size V w') := fun k F hk hF A c V h => reffar_ok R g hg hok N hN k hk F hF A c V h
    have HRW : Hid (∀ (l : Nat) L, l < N → Fa (gturn g) l L → ∀ d k : Nat, k < N → fv L k = (d : Int) → ∀ A c V, RdG V V.heap.size A R → Calls Try.prog 36 #[.agg #[.slice A N c], .int .i64 (k : Int), .int .i64 (l : Int)] V fun e w' => ∃ Av cv, e = .returned (.slice Av (d + 1) cv) ∧ RdV w' w'.heap.size Av (zc (ns (wayL g L d k))) ∧ Below V.heap.size V w') := fun l L hl hL d k hk hd A c V h => refway_ok R g hg hok N hN l hl L hL (To.of (gturn_length g) hok.bdd (by omega) (fun i x => gturn_memD hok i x) hL) d k hk hd A c V h
    have HOk : Hid (GOk g ∧ g.length = N) := ⟨hok, hgl⟩
    clear e0 hN hn hg hok hgl
    have HB : Hid (Below w.heap.size w w) := Below.refl _ w
    have HR := Lib.hid hA; clear hA
    go_enter Try.func4, Try.ntmps4
    have HBq : Hid (Below w.heap.size w (w.alloc (.cells #[.slice A N c] 24))) := one_below _ _
    replace HB : Hid (Below w.heap.size w (w.alloc (.cells #[.slice A N c] 24))) := HB.out.trans (HBq.out.mono HB.out.size)
    replace HR : Hid (RdG (w.alloc (.cells #[.slice A N c] 24)) ((w.alloc (.cells #[.slice A N c] 24))).heap.size A R) := HR.out.on HBq.out
    clear HBq
    have K0 : Hid (((w.alloc (.cells #[.slice A N c] 24))).cell? ⟨w.heap.size, 0, none⟩ = some (.slice A N c)) := (cell_at (World.alloc_heap_new w _) 0).trans rfl
    have HC := Lib.hid (HF.out A c _ HR.out)
    have k_K0 := K0.out
    go_wp2_with fail
    clear k_K0
    refine HC.out.mono ?_
    rintro e w1 ⟨Af, nf, cf, fs, ef, rfl, hfl, qf, hfr, bq⟩
    clear HC
    have HBc := Lib.hid bq; clear bq
    have HBq : Hid (Below (w.alloc (.cells #[.slice A N c] 24)).heap.size (w.alloc (.cells #[.slice A N c] 24)) w1) := HBc.out
    replace HB : Hid (Below w.heap.size w w1) := HB.out.trans (HBq.out.mono HB.out.size)
    replace HR : Hid (RdG w1 (w1).heap.size A R) := HR.out.on HBq.out
    replace K0 : Hid ((w1).cell? ⟨w.heap.size, 0, none⟩ = some (.slice A N c)) := (HBq.out.cell (World.block_lt_of_cell? _ _ K0.out)).trans K0.out
    clear HBq
    clear HBc
    have QF : Hid (RdV w1 (w1).heap.size Af (zc fs)) := qf
    clear qf
    have HFr : Hid (fs.length = nf ∧ FR g s fs ef) := ⟨hfl, hfr⟩; clear hfl hfr
    have HC := Lib.hid (HW.out A c _ HR.out)
    have k_K0 := K0.out
    go_wp2_with fail
    clear k_K0
    refine HC.out.mono ?_
    rintro e w2 ⟨Aw, nw, cw, ws, ew, rfl, hwl, hw101, qw, hwr, bq⟩
    clear HC
    have HBc := Lib.hid bq; clear bq
    have HBq : Hid (Below w1.heap.size w1 w2) := HBc.out
    replace HB : Hid (Below w.heap.size w w2) := HB.out.trans (HBq.out.mono HB.out.size)
    replace HR : Hid (RdG w2 (w2).heap.size A R) := HR.out.on HBq.out
    replace K0 : Hid ((w2).cell? ⟨w.heap.size, 0, none⟩ = some (.slice A N c)) := (HBq.out.cell (World.block_lt_of_cell? _ _ K0.out)).trans K0.out
    replace QF : Hid (RdV w2 (w2).heap.size Af (zc fs)) := QF.out.on HBq.out
    clear HBq
    clear HBc
    have QW : Hid (RdV w2 (w2).heap.size Aw (zc ws)) := qw
    clear qw
    have HWr : Hid (ws.length = nw ∧ WR g s t ws ew) := ⟨hwl, hwr⟩; clear hwl hwr
    have HC := Lib.hid (HP.out A c _ HR.out)
    have k_K0 := K0.out
    go_wp2_with fail
    clear k_K0
    refine HC.out.mono ?_
    rintro e w3 ⟨bp, p1, rfl, hp1, qp, bq⟩
    clear HC
    have HBc := Lib.hid bq; clear bq
    have HBq : Hid (Below w2.heap.size w2 w3) := HBc.out
    replace HB : Hid (Below w.heap.size w w3) := HB.out.trans (HBq.out.mono HB.out.size)
    replace HR : Hid (RdG w3 (w3).heap.size A R) := HR.out.on HBq.out
    replace K0 : Hid ((w3).cell? ⟨w.heap.size, 0, none⟩ = some (.slice A N c)) := (HBq.out.cell (World.block_lt_of_cell? _ _ K0.out)).trans K0.out
    replace QF : Hid (RdV w3 (w3).heap.size Af (zc fs)) := QF.out.on HBq.out
    replace QW : Hid (RdV w3 (w3).heap.size Aw (zc ws)) := QW.out.on HBq.out
    clear HBq
    clear HBc
    have QP : Hid (RdV w3 (w3).heap.size (some ⟨bp, 0, none⟩) (zc (ns p1))) := qp
    clear qp
    have HPa := Lib.hid hp1; clear hp1
    have HC := Lib.hid (HM.out A c _ HR.out)
    have k_K0 := K0.out
    go_wp2_with fail
    clear k_K0
    refine HC.out.mono ?_
    rintro e w4 ⟨m, rfl, hm, bq⟩
    clear HC
    have HBc := Lib.hid bq; clear bq
    have HBq : Hid (Below w3.heap.size w3 w4) := HBc.out
    replace HB : Hid (Below w.heap.size w w4) := HB.out.trans (HBq.out.mono HB.out.size)
    replace HR : Hid (RdG w4 (w4).heap.size A R) := HR.out.on HBq.out
    replace K0 : Hid ((w4).cell? ⟨w.heap.size, 0, none⟩ = some (.slice A N c)) := (HBq.out.cell (World.block_lt_of_cell? _ _ K0.out)).trans K0.out
    replace QF : Hid (RdV w4 (w4).heap.size Af (zc fs)) := QF.out.on HBq.out
    replace QW : Hid (RdV w4 (w4).heap.size Aw (zc ws)) := QW.out.on HBq.out
    replace QP : Hid (RdV w4 (w4).heap.size (some ⟨bp, 0, none⟩) (zc (ns p1))) := QP.out.on HBq.out
    clear HBq
    clear HBc
    have HMo := Lib.hid hm; clear hm
    have HC := Lib.hid (HG.out A c _ HR.out)
    have k_K0 := K0.out
    go_wp2_with fail
    clear k_K0
    refine HC.out.mono ?_
    rintro e w5 ⟨rfl, bq⟩
    clear HC
    have HBc := Lib.hid bq; clear bq
    have HBq : Hid (Below w4.heap.size w4 w5) := HBc.out
    replace HB : Hid (Below w.heap.size w w5) := HB.out.trans (HBq.out.mono HB.out.size)
    replace HR : Hid (RdG w5 (w5).heap.size A R) := HR.out.on HBq.out
    replace K0 : Hid ((w5).cell? ⟨w.heap.size, 0, none⟩ = some (.slice A N c)) := (HBq.out.cell (World.block_lt_of_cell? _ _ K0.out)).trans K0.out
    replace QF : Hid (RdV w5 (w5).heap.size Af (zc fs)) := QF.out.on HBq.out
    replace QW : Hid (RdV w5 (w5).heap.size Aw (zc ws)) := QW.out.on HBq.out
    replace QP : Hid (RdV w5 (w5).heap.size (some ⟨bp, 0, none⟩) (zc (ns p1))) := QP.out.on HBq.out
    clear HBq
    clear HBc
    have HC := Lib.hid (HRP.out A c _ HR.out)
    have k_K0 := K0.out
    go_wp2_with fail
    clear k_K0
    refine HC.out.mono ?_
    rintro e w6 ⟨bpr, cpr, p2, rfl, hp2, qp, bq⟩
    clear HC
    have HBc := Lib.hid bq; clear bq
    have HBq : Hid (Below w5.heap.size w5 w6) := HBc.out
    replace HB : Hid (Below w.heap.size w w6) := HB.out.trans (HBq.out.mono HB.out.size)
    replace HR : Hid (RdG w6 (w6).heap.size A R) := HR.out.on HBq.out
    replace K0 : Hid ((w6).cell? ⟨w.heap.size, 0, none⟩ = some (.slice A N c)) := (HBq.out.cell (World.block_lt_of_cell? _ _ K0.out)).trans K0.out
    replace QF : Hid (RdV w6 (w6).heap.size Af (zc fs)) := QF.out.on HBq.out
    replace QW : Hid (RdV w6 (w6).heap.size Aw (zc ws)) := QW.out.on HBq.out
    replace QP : Hid (RdV w6 (w6).heap.size (some ⟨bp, 0, none⟩) (zc (ns p1))) := QP.out.on HBq.out
    clear HBq
    clear HBc
    have hpe := hp2.uniq HPa.out
    rw [hpe] at qp
    have QR : Hid (RdV w6 (w6).heap.size (some ⟨bpr, 0, none⟩) (zc (ns p1))) := qp
    clear qp hpe hp2
    clear HF HW HP HM HG HRP
    have HPl : Hid ((ns p1).length = N) := by show _ = _; rw [ns_length]; exact HPa.out.len.trans HOk.out.2
    have HMt : Hid (g.length = N) := HOk.out.2
    have k0 := K0.out
    go_wp2
    clear k0
    go_loopw [22, 23] (fun u v wr => ∃ (i : Nat) (r : Int), i ≤ N ∧ u = .int .i64 r ∧ v = .int .i64 (i : Int) ∧ MoT g i r ∧ Below w6.heap.size w6 wr) (fun _ v _ => N - (intOf v).toNat)
    case atStart => exact ⟨0, 0, Nat.zero_le _, rfl, rfl, moT_start g, Below.refl _ _⟩
    case round =>
     as_aux_lemma =>
      obtain ⟨i, r, hi, rfl, rfl, hmt, hbel⟩ := hrel
      by_cases hlt : i < N
      · obtain ⟨F, hF⟩ := fa_ex g i
        have HFl : Hid (F.length = N) := by show _ = _; rw [hF.len]; exact HOk.out.2
        have HFa := Lib.hid hF
        have HMr := Lib.hid hmt
        have HC := Lib.hid (HRF.out i F hlt hF A c wr (HR.out.on hbel))
        have HBl := Lib.hid hbel
        have kg : wr.cell? ⟨w.heap.size, 0, none⟩ = some (.slice A N c) := (hbel.cell (World.block_lt_of_cell? _ _ K0.out)).trans K0.out
        clear hF hbel hmt
        go_wp2_with fail
        refine HC.out.mono ?_
        rintro e v3 ⟨b, cap, rfl, q3, b3⟩
        have HQ := Lib.hid q3
        have HB3 : Hid (Below w6.heap.size w6 v3) := HBl.out.trans (b3.mono HBl.out.size)
        clear q3 b3 kg HC
        go_wp2
        go_loopw [22, 25] (fun u v wq => ∃ (k : Nat) (r : Int), k ≤ N ∧ u = .int .i64 r ∧ v = .int .i64 (k : Int) ∧ MoT g i r ∧ (∀ x, x < k → fv F x ≤ r) ∧ Below v3.heap.size v3 wq) (fun _ v _ => N - (intOf v).toNat)
        case atStart => exact ⟨0, r, Nat.zero_le _, rfl, rfl, HMr.out, fun x hx => absurd hx (Nat.not_lt_zero _), Below.refl _ _⟩
        case round =>
         as_aux_lemma =>
          clear HMr
          obtain ⟨k, r, hk, rfl, rfl, hmt, hq, hbel⟩ := hrel
          by_cases hkl : k < N
          · have k1 := rdv_at (HQ.out.on hbel) (N := N) k (by rw [HFl.out]; exact hkl)
            have HS : Hid (∀ r', r' = (if r < fv F k then fv F k else r) → MoT g i r' ∧ ∀ x, x < k + 1 → fv F x ≤ r') := fun r' hr => hmt.step HFa.out (by rw [HOk.out.2]; exact hlt) (by rw [HOk.out.2]; exact hkl) hq r' hr
            have HBk := Lib.hid hbel
            have t2 : (0 : Int) ≤ (k : Int) := by omega
            have t3 : (k : Int) < (N : Int) := by omega
            generalize fv F k = u at *
            clear hmt hq hbel
            go_wp2
            go_roundw
            case rel => exact ⟨k + 1, _, by omega, rfl, by go_num, (HS.out (max r u) (by split <;> omega)).1, (HS.out (max r u) (by split <;> omega)).2, HBk.out⟩
            case measure => simp [intOf]; omega
          · obtain rfl : k = N := by omega
            have HS : Hid (MoT g (i + 1) r) := hmt.next HFa.out (by rw [HOk.out.2]; exact hq)
            have HBk := Lib.hid hbel
            clear hmt hq hbel
            go_wp2
            go_roundw
            case rel => exact ⟨i + 1, r, by omega, rfl, by go_num, HS.out, HB3.out.trans (HBk.out.mono HB3.out.size)⟩
            case measure => simp [intOf]; omega
      · obtain rfl : i = N := by omega
        have HMe : Hid (m = r) := by
          have h1 := hmt
          rw [← HOk.out.2] at h1
          exact h1.fin HMo.out
        obtain rfl : m = r := HMe.out
        replace HB : Hid (Below w.heap.size w wr) := HB.out.trans (hbel.mono HB.out.size)
        replace HR : Hid (RdG wr wr.heap.size A R) := HR.out.on hbel
        replace K0 : Hid (wr.cell? ⟨w.heap.size, 0, none⟩ = some (.slice A i c)) := (hbel.cell (World.block_lt_of_cell? _ _ K0.out)).trans K0.out
        replace QF : Hid (RdV wr wr.heap.size Af (zc fs)) := QF.out.on hbel
        replace QW : Hid (RdV wr wr.heap.size Aw (zc ws)) := QW.out.on hbel
        replace QP : Hid (RdV wr wr.heap.size (some ⟨bp, 0, none⟩) (zc (ns p1))) := QP.out.on hbel
        replace QR : Hid (RdV wr wr.heap.size (some ⟨bpr, 0, none⟩) (zc (ns p1))) := QR.out.on hbel
        clear hmt hbel HMe hlt hi
        have hlt0 : ((i : Nat) : Int) ≤ 100 := by omega
        have tm : (m == m) = true := by simp
        by_cases hs1 : s < 0
        · obtain ⟨rfl, rfl⟩ : fs = [] ∧ ef = 3 := by
            rcases HFr.out.2 with ⟨_, q1, q2⟩ | ⟨k', q1, q2, _⟩
            · exact ⟨q1, q2⟩
            · exfalso; rw [HOk.out.2] at q1; omega
          have hf0 : 0 = nf := HFr.out.1
          clear HFr
          subst hf0
          obtain ⟨rfl, rfl⟩ : ws = [] ∧ ew = 3 := by
            rcases HWr.out.2 with ⟨_, q1, q2⟩ | ⟨k', l', L, q1, q2, q3, q4, _⟩
            · exact ⟨q1, q2⟩
            · exfalso; rw [HOk.out.2] at q1 q2; omega
          have hw0 : 0 = nw := HWr.out.1
          clear HWr
          subst hw0
          have t1 : decide (s < 0) = true := decide_eq_true hs1
          have tm : (m == m) = true := by simp
          have HC := Lib.hid (walkbegun_true wr)
          go_wp2_with fail
          refine HC.out.mono ?_
          rintro e w17 ⟨rfl, bq⟩
          clear HC
          have HBc := Lib.hid bq; clear bq
          have HBq : Hid (Below wr.heap.size wr w17) := HBc.out
          replace HB : Hid (Below w.heap.size w w17) := HB.out.trans (HBq.out.mono HB.out.size)
          replace HR : Hid (RdG w17 (w17).heap.size A R) := HR.out.on HBq.out
          replace K0 : Hid ((w17).cell? ⟨w.heap.size, 0, none⟩ = some (.slice A i c)) := (HBq.out.cell (World.block_lt_of_cell? _ _ K0.out)).trans K0.out
          replace QF : Hid (RdV w17 (w17).heap.size Af (zc [])) := QF.out.on HBq.out
          replace QW : Hid (RdV w17 (w17).heap.size Aw (zc [])) := QW.out.on HBq.out
          replace QP : Hid (RdV w17 (w17).heap.size (some ⟨bp, 0, none⟩) (zc (ns p1))) := QP.out.on HBq.out
          replace QR : Hid (RdV w17 (w17).heap.size (some ⟨bpr, 0, none⟩) (zc (ns p1))) := QR.out.on HBq.out
          clear HBq
          clear HBc
          have HC := Lib.hid (HSm.out [] 0 rfl (by omega) Af none cf 0 _ QF.out (.inl rfl))
          go_wp2_with fail
          refine HC.out.mono ?_
          rintro e w18 ⟨rfl, bq⟩
          clear HC
          have HBc := Lib.hid bq; clear bq
          have HBq : Hid (Below w17.heap.size w17 w18) := HBc.out
          replace HB : Hid (Below w.heap.size w w18) := HB.out.trans (HBq.out.mono HB.out.size)
          replace HR : Hid (RdG w18 (w18).heap.size A R) := HR.out.on HBq.out
          replace K0 : Hid ((w18).cell? ⟨w.heap.size, 0, none⟩ = some (.slice A i c)) := (HBq.out.cell (World.block_lt_of_cell? _ _ K0.out)).trans K0.out
          replace QF : Hid (RdV w18 (w18).heap.size Af (zc [])) := QF.out.on HBq.out
          replace QW : Hid (RdV w18 (w18).heap.size Aw (zc [])) := QW.out.on HBq.out
          replace QP : Hid (RdV w18 (w18).heap.size (some ⟨bp, 0, none⟩) (zc (ns p1))) := QP.out.on HBq.out
          replace QR : Hid (RdV w18 (w18).heap.size (some ⟨bpr, 0, none⟩) (zc (ns p1))) := QR.out.on HBq.out
          clear HBq
          clear HBc
          have HC := Lib.hid (HSm.out [] 0 rfl (by omega) Aw none cw 0 _ QW.out (.inl rfl))
          go_wp2_with fail
          refine HC.out.mono ?_
          rintro e w19 ⟨rfl, bq⟩
          clear HC
          have HBc := Lib.hid bq; clear bq
          have HBq : Hid (Below w18.heap.size w18 w19) := HBc.out
          replace HB : Hid (Below w.heap.size w w19) := HB.out.trans (HBq.out.mono HB.out.size)
          replace HR : Hid (RdG w19 (w19).heap.size A R) := HR.out.on HBq.out
          replace K0 : Hid ((w19).cell? ⟨w.heap.size, 0, none⟩ = some (.slice A i c)) := (HBq.out.cell (World.block_lt_of_cell? _ _ K0.out)).trans K0.out
          replace QF : Hid (RdV w19 (w19).heap.size Af (zc [])) := QF.out.on HBq.out
          replace QW : Hid (RdV w19 (w19).heap.size Aw (zc [])) := QW.out.on HBq.out
          replace QP : Hid (RdV w19 (w19).heap.size (some ⟨bp, 0, none⟩) (zc (ns p1))) := QP.out.on HBq.out
          replace QR : Hid (RdV w19 (w19).heap.size (some ⟨bpr, 0, none⟩) (zc (ns p1))) := QR.out.on HBq.out
          clear HBq
          clear HBc
          have HC := Lib.hid (HSm.out (ns p1) i HPl.out (by omega) (some ⟨bp, 0, none⟩) (some ⟨bpr, 0, none⟩) i cpr _ QP.out QR.out)
          go_wp2_with fail
          refine HC.out.mono ?_
          rintro e w20 ⟨rfl, bq⟩
          clear HC
          have HBc := Lib.hid bq; clear bq
          have HBq : Hid (Below w19.heap.size w19 w20) := HBc.out
          replace HB : Hid (Below w.heap.size w w20) := HB.out.trans (HBq.out.mono HB.out.size)
          replace HR : Hid (RdG w20 (w20).heap.size A R) := HR.out.on HBq.out
          replace K0 : Hid ((w20).cell? ⟨w.heap.size, 0, none⟩ = some (.slice A i c)) := (HBq.out.cell (World.block_lt_of_cell? _ _ K0.out)).trans K0.out
          replace QF : Hid (RdV w20 (w20).heap.size Af (zc [])) := QF.out.on HBq.out
          replace QW : Hid (RdV w20 (w20).heap.size Aw (zc [])) := QW.out.on HBq.out
          replace QP : Hid (RdV w20 (w20).heap.size (some ⟨bp, 0, none⟩) (zc (ns p1))) := QP.out.on HBq.out
          replace QR : Hid (RdV w20 (w20).heap.size (some ⟨bpr, 0, none⟩) (zc (ns p1))) := QR.out.on HBq.out
          clear HBq
          clear HBc
          go_wp2
          go_ret
          exact ⟨rfl, HB.out⟩
        · have t1 : decide (s < 0) = false := decide_eq_false hs1
          by_cases hs2 : (i : Int) ≤ s
          · obtain ⟨rfl, rfl⟩ : fs = [] ∧ ef = 3 := by
              rcases HFr.out.2 with ⟨_, q1, q2⟩ | ⟨k', q1, q2, _⟩
              · exact ⟨q1, q2⟩
              · exfalso; rw [HOk.out.2] at q1; omega
            have hf0 : 0 = nf := HFr.out.1
            clear HFr
            subst hf0
            obtain ⟨rfl, rfl⟩ : ws = [] ∧ ew = 3 := by
              rcases HWr.out.2 with ⟨_, q1, q2⟩ | ⟨k', l', L, q1, q2, q3, q4, _⟩
              · exact ⟨q1, q2⟩
              · exfalso; rw [HOk.out.2] at q1 q2; omega
            have hw0 : 0 = nw := HWr.out.1
            clear HWr
            subst hw0
            have t2 : decide ((i : Int) ≤ s) = true := decide_eq_true hs2
            have tm : (m == m) = true := by simp
            have HC := Lib.hid (walkbegun_true wr)
            go_wp2_with fail
            refine HC.out.mono ?_
            rintro e w17 ⟨rfl, bq⟩
            clear HC
            have HBc := Lib.hid bq; clear bq
            have HBq : Hid (Below wr.heap.size wr w17) := HBc.out
            replace HB : Hid (Below w.heap.size w w17) := HB.out.trans (HBq.out.mono HB.out.size)
            replace HR : Hid (RdG w17 (w17).heap.size A R) := HR.out.on HBq.out
            replace K0 : Hid ((w17).cell? ⟨w.heap.size, 0, none⟩ = some (.slice A i c)) := (HBq.out.cell (World.block_lt_of_cell? _ _ K0.out)).trans K0.out
            replace QF : Hid (RdV w17 (w17).heap.size Af (zc [])) := QF.out.on HBq.out
            replace QW : Hid (RdV w17 (w17).heap.size Aw (zc [])) := QW.out.on HBq.out
            replace QP : Hid (RdV w17 (w17).heap.size (some ⟨bp, 0, none⟩) (zc (ns p1))) := QP.out.on HBq.out
            replace QR : Hid (RdV w17 (w17).heap.size (some ⟨bpr, 0, none⟩) (zc (ns p1))) := QR.out.on HBq.out
            clear HBq
            clear HBc
            have HC := Lib.hid (HSm.out [] 0 rfl (by omega) Af none cf 0 _ QF.out (.inl rfl))
            go_wp2_with fail
            refine HC.out.mono ?_
            rintro e w18 ⟨rfl, bq⟩
            clear HC
            have HBc := Lib.hid bq; clear bq
            have HBq : Hid (Below w17.heap.size w17 w18) := HBc.out
            replace HB : Hid (Below w.heap.size w w18) := HB.out.trans (HBq.out.mono HB.out.size)
            replace HR : Hid (RdG w18 (w18).heap.size A R) := HR.out.on HBq.out
            replace K0 : Hid ((w18).cell? ⟨w.heap.size, 0, none⟩ = some (.slice A i c)) := (HBq.out.cell (World.block_lt_of_cell? _ _ K0.out)).trans K0.out
            replace QF : Hid (RdV w18 (w18).heap.size Af (zc [])) := QF.out.on HBq.out
            replace QW : Hid (RdV w18 (w18).heap.size Aw (zc [])) := QW.out.on HBq.out
            replace QP : Hid (RdV w18 (w18).heap.size (some ⟨bp, 0, none⟩) (zc (ns p1))) := QP.out.on HBq.out
            replace QR : Hid (RdV w18 (w18).heap.size (some ⟨bpr, 0, none⟩) (zc (ns p1))) := QR.out.on HBq.out
            clear HBq
            clear HBc
            have HC := Lib.hid (HSm.out [] 0 rfl (by omega) Aw none cw 0 _ QW.out (.inl rfl))
            go_wp2_with fail
            refine HC.out.mono ?_
            rintro e w19 ⟨rfl, bq⟩
            clear HC
            have HBc := Lib.hid bq; clear bq
            have HBq : Hid (Below w18.heap.size w18 w19) := HBc.out
            replace HB : Hid (Below w.heap.size w w19) := HB.out.trans (HBq.out.mono HB.out.size)
            replace HR : Hid (RdG w19 (w19).heap.size A R) := HR.out.on HBq.out
            replace K0 : Hid ((w19).cell? ⟨w.heap.size, 0, none⟩ = some (.slice A i c)) := (HBq.out.cell (World.block_lt_of_cell? _ _ K0.out)).trans K0.out
            replace QF : Hid (RdV w19 (w19).heap.size Af (zc [])) := QF.out.on HBq.out
            replace QW : Hid (RdV w19 (w19).heap.size Aw (zc [])) := QW.out.on HBq.out
            replace QP : Hid (RdV w19 (w19).heap.size (some ⟨bp, 0, none⟩) (zc (ns p1))) := QP.out.on HBq.out
            replace QR : Hid (RdV w19 (w19).heap.size (some ⟨bpr, 0, none⟩) (zc (ns p1))) := QR.out.on HBq.out
            clear HBq
            clear HBc
            have HC := Lib.hid (HSm.out (ns p1) i HPl.out (by omega) (some ⟨bp, 0, none⟩) (some ⟨bpr, 0, none⟩) i cpr _ QP.out QR.out)
            go_wp2_with fail
            refine HC.out.mono ?_
            rintro e w20 ⟨rfl, bq⟩
            clear HC
            have HBc := Lib.hid bq; clear bq
            have HBq : Hid (Below w19.heap.size w19 w20) := HBc.out
            replace HB : Hid (Below w.heap.size w w20) := HB.out.trans (HBq.out.mono HB.out.size)
            replace HR : Hid (RdG w20 (w20).heap.size A R) := HR.out.on HBq.out
            replace K0 : Hid ((w20).cell? ⟨w.heap.size, 0, none⟩ = some (.slice A i c)) := (HBq.out.cell (World.block_lt_of_cell? _ _ K0.out)).trans K0.out
            replace QF : Hid (RdV w20 (w20).heap.size Af (zc [])) := QF.out.on HBq.out
            replace QW : Hid (RdV w20 (w20).heap.size Aw (zc [])) := QW.out.on HBq.out
            replace QP : Hid (RdV w20 (w20).heap.size (some ⟨bp, 0, none⟩) (zc (ns p1))) := QP.out.on HBq.out
            replace QR : Hid (RdV w20 (w20).heap.size (some ⟨bpr, 0, none⟩) (zc (ns p1))) := QR.out.on HBq.out
            clear HBq
            clear HBc
            go_wp2
            go_ret
            exact ⟨rfl, HB.out⟩
          · have t2 : decide ((i : Int) ≤ s) = false := decide_eq_false hs2
            obtain ⟨k, rfl⟩ := Int.eq_ofNat_of_zero_le (show 0 ≤ s by omega)
            have hk : k < i := by omega
            obtain ⟨hF, rfl⟩ : Fa g k fs ∧ ef = 0 := by
              rcases HFr.out.2 with ⟨q, _⟩ | ⟨k', q1, q2, q3, q4⟩
              · exfalso; rw [HOk.out.2] at q; exact q ⟨by omega, by omega⟩
              · obtain rfl : k = k' := by omega
                exact ⟨q3, q4⟩
            have hf0 : i = nf := by rw [← HOk.out.2, ← hF.len]; exact HFr.out.1
            clear HFr
            subst hf0
            have HFl : Hid (fs.length = i) := by show _ = _; rw [hF.len]; exact HOk.out.2
            have HFa := Lib.hid hF
            have HC := Lib.hid (HRF.out k fs hk hF A c _ HR.out)
            have k_K0 := K0.out
            go_wp2_with fail
            clear k_K0
            refine HC.out.mono ?_
            rintro e w7 ⟨bf, capf, rfl, qf, bq⟩
            clear HC
            have HBc := Lib.hid bq; clear bq
            have HBq : Hid (Below wr.heap.size wr w7) := HBc.out
            replace HB : Hid (Below w.heap.size w w7) := HB.out.trans (HBq.out.mono HB.out.size)
            replace HR : Hid (RdG w7 (w7).heap.size A R) := HR.out.on HBq.out
            replace K0 : Hid ((w7).cell? ⟨w.heap.size, 0, none⟩ = some (.slice A i c)) := (HBq.out.cell (World.block_lt_of_cell? _ _ K0.out)).trans K0.out
            replace QF : Hid (RdV w7 (w7).heap.size Af (zc fs)) := QF.out.on HBq.out
            replace QW : Hid (RdV w7 (w7).heap.size Aw (zc ws)) := QW.out.on HBq.out
            replace QP : Hid (RdV w7 (w7).heap.size (some ⟨bp, 0, none⟩) (zc (ns p1))) := QP.out.on HBq.out
            replace QR : Hid (RdV w7 (w7).heap.size (some ⟨bpr, 0, none⟩) (zc (ns p1))) := QR.out.on HBq.out
            clear HBq
            clear HBc
            have QRF : Hid (RdV w7 (w7).heap.size (some ⟨bf, 0, none⟩) (zc fs)) := qf
            clear qf hF HRF
            by_cases ht1 : t < 0
            · obtain ⟨rfl, rfl⟩ : ws = [] ∧ ew = 3 := by
                rcases HWr.out.2 with ⟨_, q1, q2⟩ | ⟨k', l', L, q1, q2, q3, q4, _⟩
                · exact ⟨q1, q2⟩
                · exfalso; rw [HOk.out.2] at q1 q2; omega
              have hw0 : 0 = nw := HWr.out.1
              clear HWr
              subst hw0
              have t3 : decide (t < 0) = true := decide_eq_true ht1
              have tm : (m == m) = true := by simp
              have HC := Lib.hid (walkbegun_true w7)
              go_wp2_with fail
              refine HC.out.mono ?_
              rintro e w17 ⟨rfl, bq⟩
              clear HC
              have HBc := Lib.hid bq; clear bq
              have HBq : Hid (Below w7.heap.size w7 w17) := HBc.out
              replace HB : Hid (Below w.heap.size w w17) := HB.out.trans (HBq.out.mono HB.out.size)
              replace HR : Hid (RdG w17 (w17).heap.size A R) := HR.out.on HBq.out
              replace K0 : Hid ((w17).cell? ⟨w.heap.size, 0, none⟩ = some (.slice A i c)) := (HBq.out.cell (World.block_lt_of_cell? _ _ K0.out)).trans K0.out
              replace QF : Hid (RdV w17 (w17).heap.size Af (zc fs)) := QF.out.on HBq.out
              replace QW : Hid (RdV w17 (w17).heap.size Aw (zc [])) := QW.out.on HBq.out
              replace QP : Hid (RdV w17 (w17).heap.size (some ⟨bp, 0, none⟩) (zc (ns p1))) := QP.out.on HBq.out
              replace QR : Hid (RdV w17 (w17).heap.size (some ⟨bpr, 0, none⟩) (zc (ns p1))) := QR.out.on HBq.out
              replace QRF : Hid (RdV w17 (w17).heap.size (some ⟨bf, 0, none⟩) (zc fs)) := QRF.out.on HBq.out
              clear HBq
              clear HBc
              have HC := Lib.hid (HSm.out fs i HFl.out (by omega) Af (some ⟨bf, 0, none⟩) cf capf _ QF.out QRF.out)
              go_wp2_with fail
              refine HC.out.mono ?_
              rintro e w18 ⟨rfl, bq⟩
              clear HC
              have HBc := Lib.hid bq; clear bq
              have HBq : Hid (Below w17.heap.size w17 w18) := HBc.out
              replace HB : Hid (Below w.heap.size w w18) := HB.out.trans (HBq.out.mono HB.out.size)
              replace HR : Hid (RdG w18 (w18).heap.size A R) := HR.out.on HBq.out
              replace K0 : Hid ((w18).cell? ⟨w.heap.size, 0, none⟩ = some (.slice A i c)) := (HBq.out.cell (World.block_lt_of_cell? _ _ K0.out)).trans K0.out
              replace QF : Hid (RdV w18 (w18).heap.size Af (zc fs)) := QF.out.on HBq.out
              replace QW : Hid (RdV w18 (w18).heap.size Aw (zc [])) := QW.out.on HBq.out
              replace QP : Hid (RdV w18 (w18).heap.size (some ⟨bp, 0, none⟩) (zc (ns p1))) := QP.out.on HBq.out
              replace QR : Hid (RdV w18 (w18).heap.size (some ⟨bpr, 0, none⟩) (zc (ns p1))) := QR.out.on HBq.out
              replace QRF : Hid (RdV w18 (w18).heap.size (some ⟨bf, 0, none⟩) (zc fs)) := QRF.out.on HBq.out
              clear HBq
              clear HBc
              have HC := Lib.hid (HSm.out [] 0 rfl (by omega) Aw none cw 0 _ QW.out (.inl rfl))
              go_wp2_with fail
              refine HC.out.mono ?_
              rintro e w19 ⟨rfl, bq⟩
              clear HC
              have HBc := Lib.hid bq; clear bq
              have HBq : Hid (Below w18.heap.size w18 w19) := HBc.out
              replace HB : Hid (Below w.heap.size w w19) := HB.out.trans (HBq.out.mono HB.out.size)
              replace HR : Hid (RdG w19 (w19).heap.size A R) := HR.out.on HBq.out
              replace K0 : Hid ((w19).cell? ⟨w.heap.size, 0, none⟩ = some (.slice A i c)) := (HBq.out.cell (World.block_lt_of_cell? _ _ K0.out)).trans K0.out
              replace QF : Hid (RdV w19 (w19).heap.size Af (zc fs)) := QF.out.on HBq.out
              replace QW : Hid (RdV w19 (w19).heap.size Aw (zc [])) := QW.out.on HBq.out
              replace QP : Hid (RdV w19 (w19).heap.size (some ⟨bp, 0, none⟩) (zc (ns p1))) := QP.out.on HBq.out
              replace QR : Hid (RdV w19 (w19).heap.size (some ⟨bpr, 0, none⟩) (zc (ns p1))) := QR.out.on HBq.out
              replace QRF : Hid (RdV w19 (w19).heap.size (some ⟨bf, 0, none⟩) (zc fs)) := QRF.out.on HBq.out
              clear HBq
              clear HBc
              have HC := Lib.hid (HSm.out (ns p1) i HPl.out (by omega) (some ⟨bp, 0, none⟩) (some ⟨bpr, 0, none⟩) i cpr _ QP.out QR.out)
              go_wp2_with fail
              refine HC.out.mono ?_
              rintro e w20 ⟨rfl, bq⟩
              clear HC
              have HBc := Lib.hid bq; clear bq
              have HBq : Hid (Below w19.heap.size w19 w20) := HBc.out
              replace HB : Hid (Below w.heap.size w w20) := HB.out.trans (HBq.out.mono HB.out.size)
              replace HR : Hid (RdG w20 (w20).heap.size A R) := HR.out.on HBq.out
              replace K0 : Hid ((w20).cell? ⟨w.heap.size, 0, none⟩ = some (.slice A i c)) := (HBq.out.cell (World.block_lt_of_cell? _ _ K0.out)).trans K0.out
              replace QF : Hid (RdV w20 (w20).heap.size Af (zc fs)) := QF.out.on HBq.out
              replace QW : Hid (RdV w20 (w20).heap.size Aw (zc [])) := QW.out.on HBq.out
              replace QP : Hid (RdV w20 (w20).heap.size (some ⟨bp, 0, none⟩) (zc (ns p1))) := QP.out.on HBq.out
              replace QR : Hid (RdV w20 (w20).heap.size (some ⟨bpr, 0, none⟩) (zc (ns p1))) := QR.out.on HBq.out
              replace QRF : Hid (RdV w20 (w20).heap.size (some ⟨bf, 0, none⟩) (zc fs)) := QRF.out.on HBq.out
              clear HBq
              clear HBc
              go_wp2
              go_ret
              exact ⟨rfl, HB.out⟩
            · have t3 : decide (t < 0) = false := decide_eq_false ht1
              by_cases ht2 : (i : Int) ≤ t
              · obtain ⟨rfl, rfl⟩ : ws = [] ∧ ew = 3 := by
                  rcases HWr.out.2 with ⟨_, q1, q2⟩ | ⟨k', l', L, q1, q2, q3, q4, _⟩
                  · exact ⟨q1, q2⟩
                  · exfalso; rw [HOk.out.2] at q1 q2; omega
                have hw0 : 0 = nw := HWr.out.1
                clear HWr
                subst hw0
                have t4 : decide ((i : Int) ≤ t) = true := decide_eq_true ht2
                have tm : (m == m) = true := by simp
                have HC := Lib.hid (walkbegun_true w7)
                go_wp2_with fail
                refine HC.out.mono ?_
                rintro e w17 ⟨rfl, bq⟩
                clear HC
                have HBc := Lib.hid bq; clear bq
                have HBq : Hid (Below w7.heap.size w7 w17) := HBc.out
                replace HB : Hid (Below w.heap.size w w17) := HB.out.trans (HBq.out.mono HB.out.size)
                replace HR : Hid (RdG w17 (w17).heap.size A R) := HR.out.on HBq.out
                replace K0 : Hid ((w17).cell? ⟨w.heap.size, 0, none⟩ = some (.slice A i c)) := (HBq.out.cell (World.block_lt_of_cell? _ _ K0.out)).trans K0.out
                replace QF : Hid (RdV w17 (w17).heap.size Af (zc fs)) := QF.out.on HBq.out
                replace QW : Hid (RdV w17 (w17).heap.size Aw (zc [])) := QW.out.on HBq.out
                replace QP : Hid (RdV w17 (w17).heap.size (some ⟨bp, 0, none⟩) (zc (ns p1))) := QP.out.on HBq.out
                replace QR : Hid (RdV w17 (w17).heap.size (some ⟨bpr, 0, none⟩) (zc (ns p1))) := QR.out.on HBq.out
                replace QRF : Hid (RdV w17 (w17).heap.size (some ⟨bf, 0, none⟩) (zc fs)) := QRF.out.on HBq.out
                clear HBq
                clear HBc
                have HC := Lib.hid (HSm.out fs i HFl.out (by omega) Af (some ⟨bf, 0, none⟩) cf capf _ QF.out QRF.out)
                go_wp2_with fail
                refine HC.out.mono ?_
                rintro e w18 ⟨rfl, bq⟩
                clear HC
                have HBc := Lib.hid bq; clear bq
                have HBq : Hid (Below w17.heap.size w17 w18) := HBc.out
                replace HB : Hid (Below w.heap.size w w18) := HB.out.trans (HBq.out.mono HB.out.size)
                replace HR : Hid (RdG w18 (w18).heap.size A R) := HR.out.on HBq.out
                replace K0 : Hid ((w18).cell? ⟨w.heap.size, 0, none⟩ = some (.slice A i c)) := (HBq.out.cell (World.block_lt_of_cell? _ _ K0.out)).trans K0.out
                replace QF : Hid (RdV w18 (w18).heap.size Af (zc fs)) := QF.out.on HBq.out
                replace QW : Hid (RdV w18 (w18).heap.size Aw (zc [])) := QW.out.on HBq.out
                replace QP : Hid (RdV w18 (w18).heap.size (some ⟨bp, 0, none⟩) (zc (ns p1))) := QP.out.on HBq.out
                replace QR : Hid (RdV w18 (w18).heap.size (some ⟨bpr, 0, none⟩) (zc (ns p1))) := QR.out.on HBq.out
                replace QRF : Hid (RdV w18 (w18).heap.size (some ⟨bf, 0, none⟩) (zc fs)) := QRF.out.on HBq.out
                clear HBq
                clear HBc
                have HC := Lib.hid (HSm.out [] 0 rfl (by omega) Aw none cw 0 _ QW.out (.inl rfl))
                go_wp2_with fail
                refine HC.out.mono ?_
                rintro e w19 ⟨rfl, bq⟩
                clear HC
                have HBc := Lib.hid bq; clear bq
                have HBq : Hid (Below w18.heap.size w18 w19) := HBc.out
                replace HB : Hid (Below w.heap.size w w19) := HB.out.trans (HBq.out.mono HB.out.size)
                replace HR : Hid (RdG w19 (w19).heap.size A R) := HR.out.on HBq.out
                replace K0 : Hid ((w19).cell? ⟨w.heap.size, 0, none⟩ = some (.slice A i c)) := (HBq.out.cell (World.block_lt_of_cell? _ _ K0.out)).trans K0.out
                replace QF : Hid (RdV w19 (w19).heap.size Af (zc fs)) := QF.out.on HBq.out
                replace QW : Hid (RdV w19 (w19).heap.size Aw (zc [])) := QW.out.on HBq.out
                replace QP : Hid (RdV w19 (w19).heap.size (some ⟨bp, 0, none⟩) (zc (ns p1))) := QP.out.on HBq.out
                replace QR : Hid (RdV w19 (w19).heap.size (some ⟨bpr, 0, none⟩) (zc (ns p1))) := QR.out.on HBq.out
                replace QRF : Hid (RdV w19 (w19).heap.size (some ⟨bf, 0, none⟩) (zc fs)) := QRF.out.on HBq.out
                clear HBq
                clear HBc
                have HC := Lib.hid (HSm.out (ns p1) i HPl.out (by omega) (some ⟨bp, 0, none⟩) (some ⟨bpr, 0, none⟩) i cpr _ QP.out QR.out)
                go_wp2_with fail
                refine HC.out.mono ?_
                rintro e w20 ⟨rfl, bq⟩
                clear HC
                have HBc := Lib.hid bq; clear bq
                have HBq : Hid (Below w19.heap.size w19 w20) := HBc.out
                replace HB : Hid (Below w.heap.size w w20) := HB.out.trans (HBq.out.mono HB.out.size)
                replace HR : Hid (RdG w20 (w20).heap.size A R) := HR.out.on HBq.out
                replace K0 : Hid ((w20).cell? ⟨w.heap.size, 0, none⟩ = some (.slice A i c)) := (HBq.out.cell (World.block_lt_of_cell? _ _ K0.out)).trans K0.out
                replace QF : Hid (RdV w20 (w20).heap.size Af (zc fs)) := QF.out.on HBq.out
                replace QW : Hid (RdV w20 (w20).heap.size Aw (zc [])) := QW.out.on HBq.out
                replace QP : Hid (RdV w20 (w20).heap.size (some ⟨bp, 0, none⟩) (zc (ns p1))) := QP.out.on HBq.out
                replace QR : Hid (RdV w20 (w20).heap.size (some ⟨bpr, 0, none⟩) (zc (ns p1))) := QR.out.on HBq.out
                replace QRF : Hid (RdV w20 (w20).heap.size (some ⟨bf, 0, none⟩) (zc fs)) := QRF.out.on HBq.out
                clear HBq
                clear HBc
                go_wp2
                go_ret
                exact ⟨rfl, HB.out⟩
              · have t4 : decide ((i : Int) ≤ t) = false := decide_eq_false ht2
                obtain ⟨l, rfl⟩ := Int.eq_ofNat_of_zero_le (show 0 ≤ t by omega)
                have hl : l < i := by omega
                have t5 : (0 : Int) ≤ (l : Int) := by omega
                have t6 : (l : Int) < (i : Int) := by omega
                have t3n : decide (i ≤ l) = false := by simp; omega
                have t2n : decide (i ≤ k) = false := by simp; omega
                obtain ⟨L, hL, hor⟩ : ∃ L, Fa (gturn g) l L ∧ (fv L k = -1 ∧ ws = [] ∧ ew = 5 ∨ ∃ d : Nat, fv L k = (d : Int) ∧ ws = ns (wayL g L d k) ∧ ew = 0) := by
                  rcases HWr.out.2 with ⟨q, _⟩ | ⟨k', l', L, q1, q2, q3, q4, q5, q6⟩
                  · exfalso; rw [HOk.out.2] at q; exact q ⟨⟨by omega, by omega⟩, by omega, by omega⟩
                  · obtain rfl : k = k' := by omega
                    obtain rfl : l = l' := by omega
                    exact ⟨L, q5, q6⟩
                have kt := rdv_at QRF.out (N := i) l (by rw [HFl.out]; exact hl)
                rw [show fv fs l = fv L k from Fa.turn HOk.out.1 (by rw [HOk.out.2]; exact hk) (by rw [HOk.out.2]; exact hl) HFa.out hL] at kt
                have HWl := HWr.out.1; clear HWr
                rcases hor with ⟨hq, rfl, rfl⟩ | ⟨d, hq, rfl, rfl⟩
                · rw [hq] at kt
                  have hw0 : 0 = nw := HWl
                  clear HWl hL hq
                  subst hw0
                  have tm : (m == m) = true := by simp
                  have HC := Lib.hid (walkbegun_true w7)
                  go_wp2_with fail
                  refine HC.out.mono ?_
                  rintro e w17 ⟨rfl, bq⟩
                  clear HC
                  have HBc := Lib.hid bq; clear bq
                  have HBq : Hid (Below w7.heap.size w7 w17) := HBc.out
                  replace HB : Hid (Below w.heap.size w w17) := HB.out.trans (HBq.out.mono HB.out.size)
                  replace HR : Hid (RdG w17 (w17).heap.size A R) := HR.out.on HBq.out
                  replace K0 : Hid ((w17).cell? ⟨w.heap.size, 0, none⟩ = some (.slice A i c)) := (HBq.out.cell (World.block_lt_of_cell? _ _ K0.out)).trans K0.out
                  replace QF : Hid (RdV w17 (w17).heap.size Af (zc fs)) := QF.out.on HBq.out
                  replace QW : Hid (RdV w17 (w17).heap.size Aw (zc [])) := QW.out.on HBq.out
                  replace QP : Hid (RdV w17 (w17).heap.size (some ⟨bp, 0, none⟩) (zc (ns p1))) := QP.out.on HBq.out
                  replace QR : Hid (RdV w17 (w17).heap.size (some ⟨bpr, 0, none⟩) (zc (ns p1))) := QR.out.on HBq.out
                  replace QRF : Hid (RdV w17 (w17).heap.size (some ⟨bf, 0, none⟩) (zc fs)) := QRF.out.on HBq.out
                  clear HBq
                  clear HBc
                  have HC := Lib.hid (HSm.out fs i HFl.out (by omega) Af (some ⟨bf, 0, none⟩) cf capf _ QF.out QRF.out)
                  go_wp2_with fail
                  refine HC.out.mono ?_
                  rintro e w18 ⟨rfl, bq⟩
                  clear HC
                  have HBc := Lib.hid bq; clear bq
                  have HBq : Hid (Below w17.heap.size w17 w18) := HBc.out
                  replace HB : Hid (Below w.heap.size w w18) := HB.out.trans (HBq.out.mono HB.out.size)
                  replace HR : Hid (RdG w18 (w18).heap.size A R) := HR.out.on HBq.out
                  replace K0 : Hid ((w18).cell? ⟨w.heap.size, 0, none⟩ = some (.slice A i c)) := (HBq.out.cell (World.block_lt_of_cell? _ _ K0.out)).trans K0.out
                  replace QF : Hid (RdV w18 (w18).heap.size Af (zc fs)) := QF.out.on HBq.out
                  replace QW : Hid (RdV w18 (w18).heap.size Aw (zc [])) := QW.out.on HBq.out
                  replace QP : Hid (RdV w18 (w18).heap.size (some ⟨bp, 0, none⟩) (zc (ns p1))) := QP.out.on HBq.out
                  replace QR : Hid (RdV w18 (w18).heap.size (some ⟨bpr, 0, none⟩) (zc (ns p1))) := QR.out.on HBq.out
                  replace QRF : Hid (RdV w18 (w18).heap.size (some ⟨bf, 0, none⟩) (zc fs)) := QRF.out.on HBq.out
                  clear HBq
                  clear HBc
                  have HC := Lib.hid (HSm.out [] 0 rfl (by omega) Aw none cw 0 _ QW.out (.inl rfl))
                  go_wp2_with fail
                  refine HC.out.mono ?_
                  rintro e w19 ⟨rfl, bq⟩
                  clear HC
                  have HBc := Lib.hid bq; clear bq
                  have HBq : Hid (Below w18.heap.size w18 w19) := HBc.out
                  replace HB : Hid (Below w.heap.size w w19) := HB.out.trans (HBq.out.mono HB.out.size)
                  replace HR : Hid (RdG w19 (w19).heap.size A R) := HR.out.on HBq.out
                  replace K0 : Hid ((w19).cell? ⟨w.heap.size, 0, none⟩ = some (.slice A i c)) := (HBq.out.cell (World.block_lt_of_cell? _ _ K0.out)).trans K0.out
                  replace QF : Hid (RdV w19 (w19).heap.size Af (zc fs)) := QF.out.on HBq.out
                  replace QW : Hid (RdV w19 (w19).heap.size Aw (zc [])) := QW.out.on HBq.out
                  replace QP : Hid (RdV w19 (w19).heap.size (some ⟨bp, 0, none⟩) (zc (ns p1))) := QP.out.on HBq.out
                  replace QR : Hid (RdV w19 (w19).heap.size (some ⟨bpr, 0, none⟩) (zc (ns p1))) := QR.out.on HBq.out
                  replace QRF : Hid (RdV w19 (w19).heap.size (some ⟨bf, 0, none⟩) (zc fs)) := QRF.out.on HBq.out
                  clear HBq
                  clear HBc
                  have HC := Lib.hid (HSm.out (ns p1) i HPl.out (by omega) (some ⟨bp, 0, none⟩) (some ⟨bpr, 0, none⟩) i cpr _ QP.out QR.out)
                  go_wp2_with fail
                  refine HC.out.mono ?_
                  rintro e w20 ⟨rfl, bq⟩
                  clear HC
                  have HBc := Lib.hid bq; clear bq
                  have HBq : Hid (Below w19.heap.size w19 w20) := HBc.out
                  replace HB : Hid (Below w.heap.size w w20) := HB.out.trans (HBq.out.mono HB.out.size)
                  replace HR : Hid (RdG w20 (w20).heap.size A R) := HR.out.on HBq.out
                  replace K0 : Hid ((w20).cell? ⟨w.heap.size, 0, none⟩ = some (.slice A i c)) := (HBq.out.cell (World.block_lt_of_cell? _ _ K0.out)).trans K0.out
                  replace QF : Hid (RdV w20 (w20).heap.size Af (zc fs)) := QF.out.on HBq.out
                  replace QW : Hid (RdV w20 (w20).heap.size Aw (zc [])) := QW.out.on HBq.out
                  replace QP : Hid (RdV w20 (w20).heap.size (some ⟨bp, 0, none⟩) (zc (ns p1))) := QP.out.on HBq.out
                  replace QR : Hid (RdV w20 (w20).heap.size (some ⟨bpr, 0, none⟩) (zc (ns p1))) := QR.out.on HBq.out
                  replace QRF : Hid (RdV w20 (w20).heap.size (some ⟨bf, 0, none⟩) (zc fs)) := QRF.out.on HBq.out
                  clear HBq
                  clear HBc
                  go_wp2
                  go_ret
                  exact ⟨rfl, HB.out⟩
                · have hw0 : d + 1 = nw := by rw [← HWl, ns_length, wayL_length]
                  subst hw0
                  have HWl2 : Hid ((ns (wayL g L d k)).length = d + 1) := by show _ = _; rw [ns_length, wayL_length]
                  clear HWl
                  rw [hq] at kt
                  have t7 : decide (((d : Nat) : Int) < 0) = false := decide_eq_false (by omega)
                  have HC := Lib.hid (HRW.out l L hl hL d k hk hq A c _ HR.out)
                  have k_K0 := K0.out
                  go_wp2_with fail
                  clear k_K0
                  refine HC.out.mono ?_
                  rintro e w8 ⟨Av, cv, rfl, qv, bq⟩
                  clear HC
                  have HBc := Lib.hid bq; clear bq
                  have HBq : Hid (Below w7.heap.size w7 w8) := HBc.out
                  replace HB : Hid (Below w.heap.size w w8) := HB.out.trans (HBq.out.mono HB.out.size)
                  replace HR : Hid (RdG w8 (w8).heap.size A R) := HR.out.on HBq.out
                  replace K0 : Hid ((w8).cell? ⟨w.heap.size, 0, none⟩ = some (.slice A i c)) := (HBq.out.cell (World.block_lt_of_cell? _ _ K0.out)).trans K0.out
                  replace QF : Hid (RdV w8 (w8).heap.size Af (zc fs)) := QF.out.on HBq.out
                  replace QW : Hid (RdV w8 (w8).heap.size Aw (zc (ns (wayL g L d k)))) := QW.out.on HBq.out
                  replace QP : Hid (RdV w8 (w8).heap.size (some ⟨bp, 0, none⟩) (zc (ns p1))) := QP.out.on HBq.out
                  replace QR : Hid (RdV w8 (w8).heap.size (some ⟨bpr, 0, none⟩) (zc (ns p1))) := QR.out.on HBq.out
                  replace QRF : Hid (RdV w8 (w8).heap.size (some ⟨bf, 0, none⟩) (zc fs)) := QRF.out.on HBq.out
                  clear HBq
                  clear HBc
                  have QV : Hid (RdV w8 (w8).heap.size Av (zc (ns (wayL g L d k)))) := qv
                  clear qv hL hq kt
                  have tm : (m == m) = true := by simp
                  have HC := Lib.hid (walkbegun_true w8)
                  go_wp2_with fail
                  refine HC.out.mono ?_
                  rintro e w17 ⟨rfl, bq⟩
                  clear HC
                  have HBc := Lib.hid bq; clear bq
                  have HBq : Hid (Below w8.heap.size w8 w17) := HBc.out
                  replace HB : Hid (Below w.heap.size w w17) := HB.out.trans (HBq.out.mono HB.out.size)
                  replace HR : Hid (RdG w17 (w17).heap.size A R) := HR.out.on HBq.out
                  replace K0 : Hid ((w17).cell? ⟨w.heap.size, 0, none⟩ = some (.slice A i c)) := (HBq.out.cell (World.block_lt_of_cell? _ _ K0.out)).trans K0.out
                  replace QF : Hid (RdV w17 (w17).heap.size Af (zc fs)) := QF.out.on HBq.out
                  replace QW : Hid (RdV w17 (w17).heap.size Aw (zc (ns (wayL g L d k)))) := QW.out.on HBq.out
                  replace QP : Hid (RdV w17 (w17).heap.size (some ⟨bp, 0, none⟩) (zc (ns p1))) := QP.out.on HBq.out
                  replace QR : Hid (RdV w17 (w17).heap.size (some ⟨bpr, 0, none⟩) (zc (ns p1))) := QR.out.on HBq.out
                  replace QRF : Hid (RdV w17 (w17).heap.size (some ⟨bf, 0, none⟩) (zc fs)) := QRF.out.on HBq.out
                  replace QV : Hid (RdV w17 (w17).heap.size Av (zc (ns (wayL g L d k)))) := QV.out.on HBq.out
                  clear HBq
                  clear HBc
                  have HC := Lib.hid (HSm.out fs i HFl.out (by omega) Af (some ⟨bf, 0, none⟩) cf capf _ QF.out QRF.out)
                  go_wp2_with fail
                  refine HC.out.mono ?_
                  rintro e w18 ⟨rfl, bq⟩
                  clear HC
                  have HBc := Lib.hid bq; clear bq
                  have HBq : Hid (Below w17.heap.size w17 w18) := HBc.out
                  replace HB : Hid (Below w.heap.size w w18) := HB.out.trans (HBq.out.mono HB.out.size)
                  replace HR : Hid (RdG w18 (w18).heap.size A R) := HR.out.on HBq.out
                  replace K0 : Hid ((w18).cell? ⟨w.heap.size, 0, none⟩ = some (.slice A i c)) := (HBq.out.cell (World.block_lt_of_cell? _ _ K0.out)).trans K0.out
                  replace QF : Hid (RdV w18 (w18).heap.size Af (zc fs)) := QF.out.on HBq.out
                  replace QW : Hid (RdV w18 (w18).heap.size Aw (zc (ns (wayL g L d k)))) := QW.out.on HBq.out
                  replace QP : Hid (RdV w18 (w18).heap.size (some ⟨bp, 0, none⟩) (zc (ns p1))) := QP.out.on HBq.out
                  replace QR : Hid (RdV w18 (w18).heap.size (some ⟨bpr, 0, none⟩) (zc (ns p1))) := QR.out.on HBq.out
                  replace QRF : Hid (RdV w18 (w18).heap.size (some ⟨bf, 0, none⟩) (zc fs)) := QRF.out.on HBq.out
                  replace QV : Hid (RdV w18 (w18).heap.size Av (zc (ns (wayL g L d k)))) := QV.out.on HBq.out
                  clear HBq
                  clear HBc
                  have HC := Lib.hid (HSm.out (ns (wayL g L d k)) (d + 1) HWl2.out (by omega) Aw Av cw cv _ QW.out QV.out)
                  go_wp2_with fail
                  refine HC.out.mono ?_
                  rintro e w19 ⟨rfl, bq⟩
                  clear HC
                  have HBc := Lib.hid bq; clear bq
                  have HBq : Hid (Below w18.heap.size w18 w19) := HBc.out
                  replace HB : Hid (Below w.heap.size w w19) := HB.out.trans (HBq.out.mono HB.out.size)
                  replace HR : Hid (RdG w19 (w19).heap.size A R) := HR.out.on HBq.out
                  replace K0 : Hid ((w19).cell? ⟨w.heap.size, 0, none⟩ = some (.slice A i c)) := (HBq.out.cell (World.block_lt_of_cell? _ _ K0.out)).trans K0.out
                  replace QF : Hid (RdV w19 (w19).heap.size Af (zc fs)) := QF.out.on HBq.out
                  replace QW : Hid (RdV w19 (w19).heap.size Aw (zc (ns (wayL g L d k)))) := QW.out.on HBq.out
                  replace QP : Hid (RdV w19 (w19).heap.size (some ⟨bp, 0, none⟩) (zc (ns p1))) := QP.out.on HBq.out
                  replace QR : Hid (RdV w19 (w19).heap.size (some ⟨bpr, 0, none⟩) (zc (ns p1))) := QR.out.on HBq.out
                  replace QRF : Hid (RdV w19 (w19).heap.size (some ⟨bf, 0, none⟩) (zc fs)) := QRF.out.on HBq.out
                  replace QV : Hid (RdV w19 (w19).heap.size Av (zc (ns (wayL g L d k)))) := QV.out.on HBq.out
                  clear HBq
                  clear HBc
                  have HC := Lib.hid (HSm.out (ns p1) i HPl.out (by omega) (some ⟨bp, 0, none⟩) (some ⟨bpr, 0, none⟩) i cpr _ QP.out QR.out)
                  go_wp2_with fail
                  refine HC.out.mono ?_
                  rintro e w20 ⟨rfl, bq⟩
                  clear HC
                  have HBc := Lib.hid bq; clear bq
                  have HBq : Hid (Below w19.heap.size w19 w20) := HBc.out
                  replace HB : Hid (Below w.heap.size w w20) := HB.out.trans (HBq.out.mono HB.out.size)
                  replace HR : Hid (RdG w20 (w20).heap.size A R) := HR.out.on HBq.out
                  replace K0 : Hid ((w20).cell? ⟨w.heap.size, 0, none⟩ = some (.slice A i c)) := (HBq.out.cell (World.block_lt_of_cell? _ _ K0.out)).trans K0.out
                  replace QF : Hid (RdV w20 (w20).heap.size Af (zc fs)) := QF.out.on HBq.out
                  replace QW : Hid (RdV w20 (w20).heap.size Aw (zc (ns (wayL g L d k)))) := QW.out.on HBq.out
                  replace QP : Hid (RdV w20 (w20).heap.size (some ⟨bp, 0, none⟩) (zc (ns p1))) := QP.out.on HBq.out
                  replace QR : Hid (RdV w20 (w20).heap.size (some ⟨bpr, 0, none⟩) (zc (ns p1))) := QR.out.on HBq.out
                  replace QRF : Hid (RdV w20 (w20).heap.size (some ⟨bf, 0, none⟩) (zc fs)) := QRF.out.on HBq.out
                  replace QV : Hid (RdV w20 (w20).heap.size Av (zc (ns (wayL g L d k)))) := QV.out.on HBq.out
                  clear HBq
                  clear HBc
                  go_wp2
                  go_ret
                  exact ⟨rfl, HB.out⟩
  · obtain ⟨e1, he1⟩ : ∃ e1, grE (gs R) = e1 := ⟨_, rfl⟩
    have h1 : e1 ≠ 0 := by rw [← he1]; exact e0
    have HF : Hid (∀ A c V, RdG V V.heap.size A R → Calls Try.prog 30 #[.agg #[.slice A N c], .int .i64 s] V fun e w' => e = .returned (.tuple #[.slice none 0 0, .int .i64 e1]) ∧ Below V.heap.size V w') := fun A c V h => far_e R N hN hn s e1 (by rw [cnE_bad e0, he1]) h1 A c V h
    have HW : Hid (∀ A c V, RdG V V.heap.size A R → Calls Try.prog 31 #[.agg #[.slice A N c], .int .i64 s, .int .i64 t] V fun e w' => e = .returned (.tuple #[.slice none 0 0, .int .i64 e1]) ∧ Below V.heap.size V w') := fun A c V h => way_e R N hN hn s t e1 (by rw [cnE_bad e0, he1]) h1 A c V h
    have HP : Hid (∀ A c V, RdG V V.heap.size A R → Calls Try.prog 32 #[.agg #[.slice A N c]] V fun e w' => e = .returned (.tuple #[.slice none 0 0, .int .i64 e1]) ∧ Below V.heap.size V w') := fun A c V h => parts_e R N hN hn e1 he1 h1 A c V h
    have HM : Hid (∀ A c V, RdG V V.heap.size A R → Calls Try.prog 33 #[.agg #[.slice A N c]] V fun e w' => e = .returned (.tuple #[.int .i64 0, .int .i64 e1]) ∧ Below V.heap.size V w') := fun A c V h => most_e R N hN hn e1 he1 h1 A c V h
    have HG : Hid (∀ A c V, RdG V V.heap.size A R → Calls Try.prog 20 #[.agg #[.slice A N c]] V fun e w' => e = .returned (.int .i64 e1) ∧ Below V.heap.size V w') := fun A c V h => by have := refgchk_any R N hN hn A c V h; rwa [he1] at this
    have t1 : (e1 == 0) = false := by simpa using h1
    have t2 : (e1 == e1) = true := by simp
    have t3 : (0 == e1) = false := by simp; omega
    clear e0 hN hn he1 h1
    have HB : Hid (Below w.heap.size w w) := Below.refl _ w
    have HR := Lib.hid hA; clear hA
    go_enter Try.func4, Try.ntmps4
    have HBq : Hid (Below w.heap.size w (w.alloc (.cells #[.slice A N c] 24))) := one_below _ _
    replace HB : Hid (Below w.heap.size w (w.alloc (.cells #[.slice A N c] 24))) := HB.out.trans (HBq.out.mono HB.out.size)
    replace HR : Hid (RdG (w.alloc (.cells #[.slice A N c] 24)) ((w.alloc (.cells #[.slice A N c] 24))).heap.size A R) := HR.out.on HBq.out
    clear HBq
    have K0 : Hid (((w.alloc (.cells #[.slice A N c] 24))).cell? ⟨w.heap.size, 0, none⟩ = some (.slice A N c)) := (cell_at (World.alloc_heap_new w _) 0).trans rfl
    have HC := Lib.hid (HF.out A c _ HR.out)
    have k_K0 := K0.out
    go_wp2_with fail
    clear k_K0
    refine HC.out.mono ?_
    rintro e w1 ⟨rfl, bq⟩
    clear HC
    have HBc := Lib.hid bq; clear bq
    have HBq : Hid (Below (w.alloc (.cells #[.slice A N c] 24)).heap.size (w.alloc (.cells #[.slice A N c] 24)) w1) := HBc.out
    replace HB : Hid (Below w.heap.size w w1) := HB.out.trans (HBq.out.mono HB.out.size)
    replace HR : Hid (RdG w1 (w1).heap.size A R) := HR.out.on HBq.out
    replace K0 : Hid ((w1).cell? ⟨w.heap.size, 0, none⟩ = some (.slice A N c)) := (HBq.out.cell (World.block_lt_of_cell? _ _ K0.out)).trans K0.out
    clear HBq
    clear HBc
    have HC := Lib.hid (HW.out A c _ HR.out)
    have k_K0 := K0.out
    go_wp2_with fail
    clear k_K0
    refine HC.out.mono ?_
    rintro e w2 ⟨rfl, bq⟩
    clear HC
    have HBc := Lib.hid bq; clear bq
    have HBq : Hid (Below w1.heap.size w1 w2) := HBc.out
    replace HB : Hid (Below w.heap.size w w2) := HB.out.trans (HBq.out.mono HB.out.size)
    replace HR : Hid (RdG w2 (w2).heap.size A R) := HR.out.on HBq.out
    replace K0 : Hid ((w2).cell? ⟨w.heap.size, 0, none⟩ = some (.slice A N c)) := (HBq.out.cell (World.block_lt_of_cell? _ _ K0.out)).trans K0.out
    clear HBq
    clear HBc
    have HC := Lib.hid (HP.out A c _ HR.out)
    have k_K0 := K0.out
    go_wp2_with fail
    clear k_K0
    refine HC.out.mono ?_
    rintro e w3 ⟨rfl, bq⟩
    clear HC
    have HBc := Lib.hid bq; clear bq
    have HBq : Hid (Below w2.heap.size w2 w3) := HBc.out
    replace HB : Hid (Below w.heap.size w w3) := HB.out.trans (HBq.out.mono HB.out.size)
    replace HR : Hid (RdG w3 (w3).heap.size A R) := HR.out.on HBq.out
    replace K0 : Hid ((w3).cell? ⟨w.heap.size, 0, none⟩ = some (.slice A N c)) := (HBq.out.cell (World.block_lt_of_cell? _ _ K0.out)).trans K0.out
    clear HBq
    clear HBc
    have HC := Lib.hid (HM.out A c _ HR.out)
    have k_K0 := K0.out
    go_wp2_with fail
    clear k_K0
    refine HC.out.mono ?_
    rintro e w4 ⟨rfl, bq⟩
    clear HC
    have HBc := Lib.hid bq; clear bq
    have HBq : Hid (Below w3.heap.size w3 w4) := HBc.out
    replace HB : Hid (Below w.heap.size w w4) := HB.out.trans (HBq.out.mono HB.out.size)
    replace HR : Hid (RdG w4 (w4).heap.size A R) := HR.out.on HBq.out
    replace K0 : Hid ((w4).cell? ⟨w.heap.size, 0, none⟩ = some (.slice A N c)) := (HBq.out.cell (World.block_lt_of_cell? _ _ K0.out)).trans K0.out
    clear HBq
    clear HBc
    have HC := Lib.hid (HG.out A c _ HR.out)
    have k_K0 := K0.out
    go_wp2_with fail
    clear k_K0
    refine HC.out.mono ?_
    rintro e w5 ⟨rfl, bq⟩
    clear HC
    have HBc := Lib.hid bq; clear bq
    have HBq : Hid (Below w4.heap.size w4 w5) := HBc.out
    replace HB : Hid (Below w.heap.size w w5) := HB.out.trans (HBq.out.mono HB.out.size)
    replace HR : Hid (RdG w5 (w5).heap.size A R) := HR.out.on HBq.out
    replace K0 : Hid ((w5).cell? ⟨w.heap.size, 0, none⟩ = some (.slice A N c)) := (HBq.out.cell (World.block_lt_of_cell? _ _ K0.out)).trans K0.out
    clear HBq
    clear HBc
    have HC := Lib.hid (walkbegun_true w5)
    have k_K0 := K0.out
    go_wp2_with fail
    clear k_K0
    refine HC.out.mono ?_
    rintro e w6 ⟨rfl, bq⟩
    clear HC
    have HBc := Lib.hid bq; clear bq
    have HBq : Hid (Below w5.heap.size w5 w6) := HBc.out
    replace HB : Hid (Below w.heap.size w w6) := HB.out.trans (HBq.out.mono HB.out.size)
    replace HR : Hid (RdG w6 (w6).heap.size A R) := HR.out.on HBq.out
    replace K0 : Hid ((w6).cell? ⟨w.heap.size, 0, none⟩ = some (.slice A N c)) := (HBq.out.cell (World.block_lt_of_cell? _ _ K0.out)).trans K0.out
    clear HBq
    clear HBc
    have HC := Lib.hid (HSm.out [] 0 rfl (by omega) none none 0 0 w6 (.inl rfl) (.inl rfl))
    go_wp2_with fail
    refine HC.out.mono ?_
    rintro e w7 ⟨rfl, bq⟩
    clear HC
    have HBc := Lib.hid bq; clear bq
    have HBq : Hid (Below w6.heap.size w6 w7) := HBc.out
    replace HB : Hid (Below w.heap.size w w7) := HB.out.trans (HBq.out.mono HB.out.size)
    replace HR : Hid (RdG w7 (w7).heap.size A R) := HR.out.on HBq.out
    replace K0 : Hid ((w7).cell? ⟨w.heap.size, 0, none⟩ = some (.slice A N c)) := (HBq.out.cell (World.block_lt_of_cell? _ _ K0.out)).trans K0.out
    clear HBq
    clear HBc
    have HC := Lib.hid (HSm.out [] 0 rfl (by omega) none none 0 0 w7 (.inl rfl) (.inl rfl))
    go_wp2_with fail
    refine HC.out.mono ?_
    rintro e w8 ⟨rfl, bq⟩
    clear HC
    have HBc := Lib.hid bq; clear bq
    have HBq : Hid (Below w7.heap.size w7 w8) := HBc.out
    replace HB : Hid (Below w.heap.size w w8) := HB.out.trans (HBq.out.mono HB.out.size)
    replace HR : Hid (RdG w8 (w8).heap.size A R) := HR.out.on HBq.out
    replace K0 : Hid ((w8).cell? ⟨w.heap.size, 0, none⟩ = some (.slice A N c)) := (HBq.out.cell (World.block_lt_of_cell? _ _ K0.out)).trans K0.out
    clear HBq
    clear HBc
    have HC := Lib.hid (HSm.out [] 0 rfl (by omega) none none 0 0 w8 (.inl rfl) (.inl rfl))
    go_wp2_with fail
    refine HC.out.mono ?_
    rintro e w9 ⟨rfl, bq⟩
    clear HC
    have HBc := Lib.hid bq; clear bq
    have HBq : Hid (Below w8.heap.size w8 w9) := HBc.out
    replace HB : Hid (Below w.heap.size w w9) := HB.out.trans (HBq.out.mono HB.out.size)
    replace HR : Hid (RdG w9 (w9).heap.size A R) := HR.out.on HBq.out
    replace K0 : Hid ((w9).cell? ⟨w.heap.size, 0, none⟩ = some (.slice A N c)) := (HBq.out.cell (World.block_lt_of_cell? _ _ K0.out)).trans K0.out
    clear HBq
    clear HBc
    go_wp2
    go_ret
    exact ⟨rfl, HB.out⟩
end

section
open Go.ChangeShapes Go.WideShapes Go.ChangeAt Go.RowKit
open Go.ChangeMaps (open_string shut_string)

set_option linter.unusedVariables false
set_option maxRecDepth 100000 in
theorem walkTells_lifted (os : Os) (started : os.Started) (H : Type) (enc : TypeId × Value → H) :
    ReturnsInHanded {} Try.checked os 4 .any (Rows.walkTellsSpec.pre6 enc Try.prog Try.f4 Rows.walkTellsRow.domain false) (Rows.walkTellsSpec.post enc Try.prog Try.f4 false true false false) := by
  refine returnsInHanded_of_change_sized (C := Try.checked) own started (by kernel_rfl) Try.func4
    (ChangeSpec.witness6 (enc := enc) (C := Try.checked) false ⟨#[], #[.agg #[.slice none 0 0], .int .i64 0, .int .i64 0], []⟩ 8 (by kernel_rfl) (by kernel_rfl) (by kernel_rfl) (by kernel_rfl)) ?_
  intro W base args ds gs before hval0 hW hcnd hzz _
  have hval : ∀ (j : Nat) t v, Try.f4.params[j]? = some t → args[j]? = some v → Value.okWide Try.prog W .any base t v := hval0
  have hW' := hW
  obtain ⟨p, q, hA0, hV, rfl, hfz, hnd⟩ := hW
  have hA : DataW.TrodAll enc Try.prog W 0 (fun _ => true) true Try.f4.params.toList args.toList ds p := hA0
  rw [Try.params4] at hA hval hzz
  obtain ⟨v0, vs0, d0, ds0, p0, q0, hargs, rfl, rfl, h0, r0⟩ := trodAll_cons hA
  obtain ⟨v1, vs1, d1, ds1, p1, q1, rfl, rfl, rfl, h1, r1⟩ := trodAll_cons r0
  obtain ⟨v2, vs2, d2, ds2, p2, q2, rfl, rfl, rfl, h2, r2⟩ := trodAll_cons r1
  obtain ⟨rfl, rfl, rfl⟩ := trodAll_nil r2
  obtain rfl : args = #[v0, v1, v2] := by cases args; simp_all
  obtain ⟨rfl, rfl⟩ := trodVars_none hV
  have k0 := h0
  have lt0 : ∀ x ∈ p0, x.block < W.heap.size := by obtain ⟨m, hm⟩ := k0; exact DataW.trod_lt m _ _ _ hm
  obtain ⟨A0, c0, R0, rfl, rd0, nn0⟩ := open_graph (hval 0 24 v0 rfl rfl) h0 (fun n hn => of_decide_eq_true (List.all_eq_true.1 hzz n (DataW.weights_mem_each (j := 0) (t := 24) (d := d0) rfl rfl n hn)))
  obtain ⟨x1, rfl, rfl, rfl, wx1⟩ := open_int Try.underlying3 (hval 1 3 v1 rfl rfl) h1
  have bd1 := bounds_i64 wx1
  obtain ⟨x2, rfl, rfl, rfl, wx2⟩ := open_int Try.underlying3 (hval 2 3 v2 rfl rfl) h2
  have bd2 := bounds_i64 wx2
  clear hA0 hval0
  refine (walkTells_law A0 c0 R0 x1 x2 W rd0 nn0 bd1 bd2).mono fun e W' ⟨he, bel⟩ => ?_
  subst he
  exact ⟨_, rfl, _, _, _, [], _, [], hW', trodAll_mk1 (shut_bool Try.underlying4 _), (trodAll_cons_mk (Below.trod laidOut (by kernel_rfl) (of_decide_eq_true (by kernel_rfl)) k0 bel lt0) (trodAll_cons_mk (shut_int Try.underlying3 wx1) (trodAll_cons_mk (shut_int Try.underlying3 wx2) trodAll_mk0))), rfl, bel.frame _, fun h => by cases h⟩

theorem WalkTells_holds : Rows.WalkTellsSaid :=
  OpenClaim.holds_of_wide 4 Try.f4 rfl rfl rfl rfl rfl rfl rfl ⟨rfl, rfl, rfl, rfl, rfl⟩ rfl rfl rfl rfl rfl (by kernel_rfl) Try.func4 (by kernel_rfl)
    (of_decide_eq_true (by kernel_rfl)) (by unfold Func.isWrapper; first | (rw [if_pos (by decide +kernel)]; kernel_rfl) | (rw [if_neg (by decide +kernel)]; exact ⟨rfl, rfl⟩))
    (fun os started H enc _ => walkTells_lifted os started H enc)
#print axioms WalkTells_holds
end
end Go.Proofs.Ytffgmjfanpgbbaa
