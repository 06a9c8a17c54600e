/- The law WalkSteps: no arc leads more than a step farther, to each other one that is come to an arc leads just a step farther; for whatever graph and node. -/
import Derived.Test.YtnjdbcbfafbkiaaDJB
import Derived.BigRegion
import Derived.Test.YtnjdbcbfafbkiaaWOp
namespace Go.Proofs.Ytnjdbcbfafbkiaa

section
set_option maxRecDepth 100000
set_option linter.unusedVariables false
open Go.RowKit Go.Shelf

theorem info_boolD : (Try.prog.info? 4).map (fun i => (i.zero, i.size, i.bytes)) = some (some (.bool false), 1, 1) := by kernel_rfl
/-- Cells of truths. -/
def tcs (l : List Bool) : List Value := l.map Value.bool
def bv (l : List Bool) (x : Nat) : Bool := l[x]?.getD false
theorem bv_get (l : List Bool) (i : Nat) (h : i < l.length) : (tcs l)[i]? = some (.bool (bv l i)) := by
  unfold tcs bv; rw [List.getElem?_map, List.getElem?_eq_getElem h]; rfl
theorem bv_set (l : List Bool) (i x : Nat) (q : Bool) (hi : i < l.length) : bv (l.set i q) x = if x = i then q else bv l x := by
  unfold bv
  rw [List.getElem?_set]
  by_cases e : i = x
  · subst e; rw [if_pos rfl, if_pos hi, if_pos rfl]; rfl
  · rw [if_neg e, if_neg (fun r => e r.symm)]
/-- A list of truths in a row of the call's own, whole. -/
structure Ob (w0 W : World) (g : Nat) (l : List Bool) : Prop where
  low : Below w0.heap.size w0 W
  ge : w0.heap.size ≤ g
  row : W.heap[g]? = some (.cells (tcs l).toArray 4 (0, 0))
theorem Ob.cell {w0 W : World} {g : Nat} {l : List Bool} (h : Ob w0 W g l) (i : Nat) (hi : i < l.length) : W.cell? ⟨g, i, none⟩ = some (.bool (bv l i)) ∧ W.frozen? ⟨g, i, none⟩ = false := by
  refine ⟨(cell_at h.row i).trans ?_, frz_at h.row i⟩
  rw [List.getElem?_toArray]; exact bv_get l i hi
theorem Ob.set {w0 W : World} {g : Nat} {l : List Bool} (h : Ob w0 W g l) (i : Nat) (x : Bool) : Ob w0 (W.setCell ⟨g, i, none⟩ (.bool x)) g (l.set i x) := by
  refine ⟨h.low.setCell (p := ⟨g, i, none⟩) h.ge _, h.ge, ?_⟩
  rw [heap_set_same _ _ _ _ _ _ h.row, List.setIfInBounds_toArray]
  unfold tcs
  rw [List.map_set]
theorem Ob.drew {w0 W : World} {g : Nat} {l : List Bool} (h : Ob w0 W g l) : Ob w0 W.drew g l := ⟨h.low.drew, h.ge, h.row⟩
theorem Ob.drewN {w0 W : World} {g : Nat} {l : List Bool} (h : Ob w0 W g l) (n : Nat) : Ob w0 (W.drewN n) g l := ⟨below_drewN h.low n, h.ge, h.row⟩
theorem Ob.of_own {w0 W : World} {g n : Nat} {l : List Bool} (hb : Below w0.heap.size w0 W) (h : W.ownsRow w0.heap.size 4 1 (.slice (some ⟨g, 0, none⟩) n n) n (tcs l)) : Ob w0 W g l := by
  rcases h.2 with ⟨h0, _⟩ | ⟨g', cap, cur, he, h1, h2, h3, h4, h5, h6⟩
  · cases h0
  · simp only [Value.slice.injEq, Option.some.injEq, Addr.mk.injEq, and_true] at he
    obtain ⟨rfl, _, rfl⟩ := he
    refine ⟨hb, h1, ?_⟩
    have : cur = (tcs l).toArray := by
      rw [← h6, List.take_of_length_le (by rw [Array.length_toList, h5]; omega)]
    rw [h2, this]
/-- What is hit by the first nodes, and by the first j of the next one. -/
def HitS (g : List (List Nat)) (F : List Int) (s i j : Nat) (x : Nat) : Prop := x = s ∨ (∃ y, y < i ∧ 0 ≤ fv F y ∧ x ∈ row g y ∧ fv F x = fv F y + 1) ∨ (0 ≤ fv F i ∧ x ∈ (row g i).take j ∧ fv F x = fv F i + 1)
set_option maxHeartbeats 16000000 in
theorem walkSteps_law (A : Option Addr) (c : Nat) (R : List Rw) (s : Int) (w : World) (hA : RdG w w.heap.size A R) (hn : R.length ≤ 140737488355328) (hs0 : -9223372036854775808 ≤ s ∧ s ≤ 9223372036854775807) :
    Calls Try.prog 5 #[.agg #[.slice A R.length c], .int .i64 s] w fun e w' => e = .returned (.bool true) ∧ Below w.heap.size w w' := by
  clear hs0
  obtain ⟨i0, hi, hz0, hz1, hz2⟩ := info_parts info_boolD
  obtain ⟨N, hN⟩ : ∃ N, R.length = N := ⟨_, rfl⟩
  rw [hN] at hn ⊢
  by_cases e0 : cnE (gs R) [s] = 0
  · obtain ⟨z0, z1⟩ := cnE_zero e0
    obtain ⟨g, hg, hok⟩ := grE_zero _ z0
    have hgl : g.length = N := by have := congrArg List.length hg; rw [gs_length, List.length_map] at this; omega
    have hN1 : N ≤ 100 := by have := hok.nodes; omega
    have z2 := z1 s (by simp)
    rw [gs_length, hN] at z2
    obtain ⟨k, rfl⟩ := Int.eq_ofNat_of_zero_le z2.1
    have hk : k < N := by omega
    obtain ⟨F, hF⟩ := fa_ex g k
    have HF : Hid (∀ A c V, RdG V V.heap.size A R → Calls Try.prog 14 #[.agg #[.slice A N c], .int .i64 (k : Int)] V fun e w' => ∃ b, e = .returned (.tuple #[.slice (some ⟨b, 0, none⟩) N N, .int .i64 0]) ∧ RdV w' w'.heap.size (some ⟨b, 0, none⟩) (zc F) ∧ Below V.heap.size V w') := fun A c V h => (far_ok R g hg hok N hN k hk F hF A c V h).mono fun e w' ⟨b, q1, q2⟩ => ⟨b, q1, q2.rd, q2.low⟩
    have HFl : Hid (F.length = N) := by show _ = _; rw [hF.len]; exact hgl
    have HFa := Lib.hid (⟨hF, hok, hgl, hg, hN, hF.zero (by omega)⟩ : Fa g k F ∧ GOk g ∧ g.length = N ∧ gs R = g.map ns ∧ R.length = N ∧ fv F k = 0)
    clear e0 hN hn hg hok hgl z0 z1 z2 hF
    have HB : Hid (Below w.heap.size w w) := Below.refl _ w
    have HR := Lib.hid hA; clear hA
    go_enter Try.func5, Try.ntmps5
    have HBq : Hid (Below w.heap.size w (w.alloc (.cells #[.slice A N c] 24))) := one_below _ _
    replace HB : Hid (Below w.heap.size w (w.alloc (.cells #[.slice A N c] 24))) := HB.out.trans (HBq.out.mono HB.out.size)
    replace HR : Hid (RdG (w.alloc (.cells #[.slice A N c] 24)) ((w.alloc (.cells #[.slice A N c] 24))).heap.size A R) := HR.out.on HBq.out
    clear HBq
    have K0 : Hid (((w.alloc (.cells #[.slice A N c] 24))).cell? ⟨w.heap.size, 0, none⟩ = some (.slice A N c)) := (cell_at (World.alloc_heap_new w _) 0).trans rfl
    have HC := Lib.hid (HF.out A c _ HR.out)
    have k_K0 := K0.out
    go_wp2_with fail
    clear k_K0
    refine HC.out.mono ?_
    rintro e w1 ⟨b, rfl, q1, bq⟩
    clear HC
    have HBc := Lib.hid bq; clear bq
    have HBq : Hid (Below (w.alloc (.cells #[.slice A N c] 24)).heap.size (w.alloc (.cells #[.slice A N c] 24)) w1) := HBc.out
    replace HB : Hid (Below w.heap.size w w1) := HB.out.trans (HBq.out.mono HB.out.size)
    replace HR : Hid (RdG w1 (w1).heap.size A R) := HR.out.on HBq.out
    replace K0 : Hid ((w1).cell? ⟨w.heap.size, 0, none⟩ = some (.slice A N c)) := (HBq.out.cell (World.block_lt_of_cell? _ _ K0.out)).trans K0.out
    clear HBq
    clear HBc
    have Q1 : Hid (RdV w1 (w1).heap.size (some ⟨b, 0, none⟩) (zc F)) := q1
    clear q1
    have HC := Lib.hid (walkbegun_true w1)
    go_wp2_with fail
    refine HC.out.mono ?_
    rintro e w2 ⟨rfl, bq⟩
    clear HC
    have HBc := Lib.hid bq; clear bq
    have HBq : Hid (Below w1.heap.size w1 w2) := HBc.out
    replace HB : Hid (Below w.heap.size w w2) := HB.out.trans (HBq.out.mono HB.out.size)
    replace HR : Hid (RdG w2 (w2).heap.size A R) := HR.out.on HBq.out
    replace K0 : Hid ((w2).cell? ⟨w.heap.size, 0, none⟩ = some (.slice A N c)) := (HBq.out.cell (World.block_lt_of_cell? _ _ K0.out)).trans K0.out
    replace Q1 : Hid (RdV w2 (w2).heap.size (some ⟨b, 0, none⟩) (zc F)) := Q1.out.on HBq.out
    clear HBq
    clear HBc
    have k0 := K0.out
    have k1 := rdv_at Q1.out (N := N) k (by rw [HFl.out]; exact hk)
    rw [HFa.out.2.2.2.2.2] at k1
    have t1 : (0 : Int) ≤ (k : Int) := by omega
    have t2 : (k : Int) < (N : Int) := by omega
    have t0 : ((N : Int) != (N : Int)) = false := by simp
    have hmz : tcs (List.replicate N false) = (madeCells (Value.bool false).cells (N * 1)).toList := by
      rw [show (Value.bool false).cells = #[Value.bool false] from rfl, toList_madeCells_one, Nat.mul_one]; simp [tcs]
    have HMZ := Lib.hid hmz; clear hmz
    go_wp2_with (at_make; refine wpList_make_full _ rfl _ _ 44 rfl w2.heap.size 4 i0 (.bool false) 1 Try.underlying44 hi hz0 hz1 _ _ _ _ N rfl rfl rfl rfl (by rw [hz2]; omega) (by unfold maxLen; omega) (Nat.le_refl _) ?_; intro w3 hown1 hgrow1; rw [← HMZ.out] at hown1; have hlow : Below w2.heap.size w2 w3 := (Below.refl _ w2).grown hgrow1 (Nat.le_refl _) (fun j hj => nomatch hj); have HO : Hid (Ob w2 w3 w2.heap.size (List.replicate N false)) := Ob.of_own hlow hown1; clear hown1 hgrow1 hlow; obtain ⟨m1, m2⟩ := HO.out.cell k (by simpa using hk))
    obtain ⟨bh, hbh⟩ : ∃ bh, w2.heap.size = bh := ⟨_, rfl⟩
    have hO1 := HO.out.set k true
    rw [hbh] at hO1 ⊢
    have HO1 := Lib.hid hO1
    clear hO1 HO hbh k1 k0 m1 m2 HMZ
    go_loopw [8] (fun v wr => ∃ (i : Nat) (l : List Bool), i ≤ N ∧ v = .int .i64 (i : Int) ∧ l.length = N ∧ (∀ x, x < N → HitS g F k i 0 x → bv l x = true) ∧ Ob w2 wr bh l) (fun v _ => N - (intOf v).toNat)
    case atStart =>
      refine ⟨0, _, Nat.zero_le _, rfl, by simp, fun x hx hh => ?_, HO1.out⟩
      rw [bv_set _ _ _ _ (by simpa using hk)]
      rcases hh with q | ⟨y, q, _⟩ | ⟨_, q, _⟩
      · rw [if_pos q]
      · omega
      · simp at q
    case round =>
     as_aux_lemma =>
      clear HO1
      obtain ⟨i, l, hi2, rfl, hl, hh, hO⟩ := hrel
      by_cases hlt : i < N
      · have hil : i < R.length := by rw [HFa.out.2.2.2.2.1]; exact hlt
        obtain ⟨b1, o1, rfl, hb1, kr'⟩ := HR.out.1.at_ (rcl_get R i hil)
        have hr1 := HR.out.2 _ (rw_mem R i hil)
        have hro := row_ofD R g HFa.out.2.2.2.1 i (by rw [HFa.out.2.2.1]; exact hlt)
        generalize R[i]?.getD (none, 0, []) = y at *
        obtain ⟨P1, d1, xs⟩ := y
        unfold sl at kr'
        simp only at kr' hr1 hro
        subst hro
        obtain ⟨m, hm⟩ : ∃ m, (row g i).length = m := ⟨_, rfl⟩
        rw [ns_length, hm] at kr' hr1
        have hm47 := hr1.2
        have HRw := Lib.hid (⟨hr1.1, hm, kr'⟩ : _ ∧ _ ∧ _)
        have HH := Lib.hid (⟨hl, hh, hO⟩ : _ ∧ _ ∧ _)
        have t1 : (0 : Int) ≤ (i : Int) := by omega
        have t2 : (i : Int) < (N : Int) := by omega
        clear hr1 hm kr' hl hh hO hb1 hil
        go_wp2
        go_loopw [9] (fun v wq => ∃ (j : Nat) (l : List Bool), j ≤ m ∧ v = .int .i64 (j : Int) ∧ l.length = N ∧ (∀ x, x < N → HitS g F k i j x → bv l x = true) ∧ Ob w2 wq bh l) (fun v _ => m - (intOf v).toNat)
        case atStart => exact ⟨0, l, Nat.zero_le _, rfl, HH.out.1, HH.out.2.1, HH.out.2.2⟩
        case round =>
         as_aux_lemma =>
          clear HH
          obtain ⟨j, l, hj, rfl, hl, hh, hO⟩ := hrel
          have kg : wr.cell? ⟨w.heap.size, 0, none⟩ = some (.slice (some ⟨b1, o1, none⟩) N c) := (hO.low.cell (World.block_lt_of_cell? _ _ K0.out)).trans K0.out
          have kr : wr.cell? ⟨b1, o1 + i, none⟩ = some (.slice P1 m d1) := (hO.low.cell (World.block_lt_of_cell? _ _ HRw.out.2.2)).trans HRw.out.2.2
          have ki := rdv_at (Q1.out.on hO.low) (N := N) i (by rw [HFl.out]; exact hlt)
          have hend : ∀ l', l'.length = N → (∀ x, x < N → HitS g F k i j x → bv l' x = true) → (0 ≤ fv F i → j = m) → ∀ x, x < N → HitS g F k (i + 1) 0 x → bv l' x = true := fun l' hl' hh' hjm x hx hq => by
            rcases hq with q | ⟨y, q1, q2, q3, q4⟩ | ⟨_, q, _⟩
            · exact hh' x hx (.inl q)
            · by_cases e : y = i
              · subst e
                exact hh' x hx (.inr (.inr ⟨q2, by rw [hjm q2, ← HRw.out.2.1, List.take_length]; exact q3, q4⟩))
              · exact hh' x hx (.inr (.inl ⟨y, by omega, q2, q3, q4⟩))
            · simp at q
          by_cases hjm : j < m
          · have t3 : decide ((j : Int) < (m : Int)) = true := by simp; omega
            by_cases hfi : 0 ≤ fv F i
            · have hjl : j < (row g i).length := by rw [HRw.out.2.1]; exact hjm
              obtain ⟨b4, o4, rfl, hb4, k3⟩ := (HRw.out.1.on hO.low).at_ (zc_getN (row g i) j (qa (row g i) j) (qa_eq hjl))
              have hto := HFa.out.2.1.bdd i _ (qa_mem hjl)
              rw [HFa.out.2.2.1] at hto
              have hstep := HFa.out.1.step HFa.out.2.1.bdd hfi (qa_mem hjl)
              have hnext : ∀ l', (∀ x, x < N → bv l' x = if x = qa (row g i) j then (bv l (qa (row g i) j) || decide (fv F (qa (row g i) j) = fv F i + 1)) else bv l x) → ∀ x, x < N → HitS g F k i (j + 1) x → bv l' x = true := fun l' hl' x hx hq => by
                rw [hl' x hx]
                have hpre : HitS g F k i j x → bv l x = true := hh x hx
                by_cases e : x = qa (row g i) j
                · rw [if_pos e]
                  rcases hq with q | q | ⟨q1, q2, q3⟩
                  · rw [← e, hpre (.inl q)]; rfl
                  · rw [← e, hpre (.inr (.inl q))]; rfl
                  · rw [← e, q3]; simp
                · rw [if_neg e]
                  rcases hq with q | q | ⟨q1, q2, q3⟩
                  · exact hpre (.inl q)
                  · exact hpre (.inr (.inl q))
                  · rw [List.take_succ_eq_append_getElem hjl] at q2
                    rcases List.mem_append.1 q2 with q2 | q2
                    · exact hpre (.inr (.inr ⟨q1, q2, q3⟩))
                    · simp only [List.mem_singleton] at q2
                      rw [qa_get hjl] at q2
                      exact absurd q2 e
              have hfu : fv F i < (N : Int) := by have := HFa.out.1.lt HFa.out.2.1.bdd (by rw [HFa.out.2.2.1]; exact hk) i (by rw [HFa.out.2.2.1]; exact hlt); rwa [HFa.out.2.2.1] at this
              obtain ⟨to, hto2⟩ : ∃ to, qa (row g i) j = to := ⟨_, rfl⟩
              rw [hto2] at k3 hto hstep hnext
              have kt := rdv_at (Q1.out.on hO.low) (N := N) to (by rw [HFl.out]; exact hto)
              obtain ⟨kh, kz⟩ := hO.cell to (by rw [hl]; exact hto)
              have t4 : decide ((0 : Int) ≤ fv F i) = true := decide_eq_true hfi
              have t5 : decide (fv F to < 0) = false := by simp; omega
              have t6 : decide (fv F i + 1 < fv F to) = false := by simp; omega
              have a1 : IntKind.i64.wrap (fv F i + 1) = fv F i + 1 := by rw [IntKind.wrap_i64]; omega
              have t7 : (0 : Int) ≤ (j : Int) := by omega
              have t8 : (j : Int) < (m : Int) := by omega
              have t9 : (0 : Int) ≤ (to : Int) := by omega
              have t10 : (to : Int) < (N : Int) := by omega
              have HSt : Hid (∀ q : Bool, q = (bv l to || decide (fv F to = fv F i + 1)) → (l.set to q).length = N ∧ (∀ x, x < N → HitS g F k i (j + 1) x → bv (l.set to q) x = true)) := fun q hq => ⟨by rw [List.length_set]; exact hl, hnext _ (fun x hx => by rw [bv_set _ _ _ _ (by rw [hl]; exact hto), hq])⟩
              have HO := Lib.hid hO
              obtain ⟨q, hq⟩ : ∃ q, (fv F to == fv F i + 1) = q := ⟨_, rfl⟩
              have hq2 : decide (fv F to = fv F i + 1) = q := by rw [← hq]; rfl
              rw [hq2] at HSt
              generalize fv F i = u1 at *
              generalize fv F to = u2 at *
              generalize bv l to = h0 at *
              clear hnext hstep hend hh hO hfi hfu hto2 hl hq2
              go_wp2
              go_quiet (fail)
              have HO2 := Lib.hid (HO.out.drewN nq)
              have kh2 : (wr.drewN nq).cell? ⟨bh, to, none⟩ = some (.bool h0) := kh
              have kz2 : (wr.drewN nq).frozen? ⟨bh, to, none⟩ = false := kz
              have ki2 : (wr.drewN nq).cell? ⟨b, i, none⟩ = some (.int .i64 u1) := ki
              have kt2 : (wr.drewN nq).cell? ⟨b, to, none⟩ = some (.int .i64 u2) := kt
              generalize wr.drewN nq = V at *
              clear kh kz ki kt kg kr k3
              cases h0 with
              | true =>
                have HSq := Lib.hid (HSt.out true rfl)
                have HOq := Lib.hid (HO2.out.drew.set to true)
                go_wp2
                go_region
                all_goals (
                  go_wp2
                  go_roundw
                  case rel => exact ⟨j + 1, _, by omega, by go_num, HSq.out.1, HSq.out.2, HOq.out⟩
                  case measure => simp [intOf]; omega)
              | false =>
                have HSq := Lib.hid (HSt.out q (by simp))
                have HOq := Lib.hid (HO2.out.drew.set to q)
                go_wp2
                go_region
                all_goals (
                  go_wp2
                  go_roundw
                  case rel => exact ⟨j + 1, _, by omega, by go_num, HSq.out.1, HSq.out.2, HOq.out⟩
                  case measure => simp [intOf]; omega)
            · have t4 : decide ((0 : Int) ≤ fv F i) = false := decide_eq_false hfi
              have HE : Hid (l.length = N ∧ (∀ x, x < N → HitS g F k (i + 1) 0 x → bv l x = true) ∧ Ob w2 wr bh l) := ⟨hl, hend l hl hh (fun q => absurd q hfi), hO⟩
              generalize fv F i = u1 at *
              clear hend hh hl hO hfi
              go_wp2
              go_roundw
              case rel => exact ⟨i + 1, l, by omega, by go_num, HE.out.1, HE.out.2.1, HE.out.2.2⟩
              case measure => simp [intOf]; omega
          · obtain rfl : j = m := by omega
            have t3 : decide ((j : Int) < (j : Int)) = false := by simp
            have HE : Hid (l.length = N ∧ (∀ x, x < N → HitS g F k (i + 1) 0 x → bv l x = true) ∧ Ob w2 wr bh l) := ⟨hl, hend l hl hh (fun _ => rfl), hO⟩
            clear hend hh hl hO hjm
            go_wp2
            go_roundw
            case rel => exact ⟨i + 1, l, by omega, by go_num, HE.out.1, HE.out.2.1, HE.out.2.2⟩
            case measure => simp [intOf]; omega
      · obtain rfl : i = N := by omega
        have hall : ∀ x, x < i → 0 ≤ fv F x → bv l x = true := fun x hx hx0 => by
          by_cases e : x = k
          · exact hh x hx (.inl e)
          · obtain ⟨y, q1, q2, q3, q4⟩ := HFa.out.1.pred HFa.out.2.1.bdd (by rw [HFa.out.2.2.1]; exact hx) hx0 e
            exact hh x hx (.inr (.inl ⟨y, by rw [← HFa.out.2.2.1]; exact q1, q2, q4, q3.symm⟩))
        have HE := Lib.hid (⟨hall, hl, hO⟩ : _ ∧ _ ∧ _)
        clear hall hh hl hO hlt
        go_wp2
        go_loopw [11] (fun v wq => ∃ j : Nat, j ≤ i ∧ v = .int .i64 (j : Int) ∧ wq = wr) (fun v _ => i - (intOf v).toNat)
        case atStart => exact ⟨0, Nat.zero_le _, rfl, rfl⟩
        case round =>
         as_aux_lemma =>
          obtain ⟨j, hj, rfl, hw⟩ := hrel
          have HE2 : Hid ((∀ x, x < i → 0 ≤ fv F x → bv l x = true) ∧ l.length = i ∧ Ob w2 wr bh l) := by rw [hw]; exact HE.out
          have HWq := Lib.hid hw
          clear hw HE
          by_cases hji : j < i
          · have ki := rdv_at (Q1.out.on HE2.out.2.2.low) (N := i) j (by rw [HFl.out]; exact hji)
            obtain ⟨kh, -⟩ := HE2.out.2.2.cell j (by rw [HE2.out.2.1]; exact hji)
            have hge := HFa.out.1.ge j
            have hlt2 : fv F j < (i : Int) := by have := HFa.out.1.lt HFa.out.2.1.bdd (by rw [HFa.out.2.2.1]; exact hk) j (by rw [HFa.out.2.2.1]; exact hji); rwa [HFa.out.2.2.1] at this
            have hb1 : 0 ≤ fv F j → bv l j = true := HE2.out.1 j hji
            have t1 : decide (fv F j < -1) = false := by simp; omega
            have t2 : decide ((i : Int) ≤ fv F j) = false := by simp; omega
            have t3 : (0 : Int) ≤ (j : Int) := by omega
            have t4 : (j : Int) < (i : Int) := by omega
            by_cases hf : 0 ≤ fv F j
            · have t5 : decide ((0 : Int) ≤ fv F j) = true := decide_eq_true hf
              rw [hb1 hf] at kh
              generalize fv F j = u at *
              clear hb1 hf hge hlt2
              go_wp2
              go_roundw
              case rel => exact ⟨j + 1, by omega, by go_num, HWq.out⟩
              case measure => simp [intOf]; omega
            · have t5 : decide ((0 : Int) ≤ fv F j) = false := decide_eq_false hf
              generalize fv F j = u at *
              clear hb1 hf hge hlt2
              go_wp2
              go_roundw
              case rel => exact ⟨j + 1, by omega, by go_num, HWq.out⟩
              case measure => simp [intOf]; omega
          · obtain rfl : j = i := by omega
            have HFn : Hid (Below w.heap.size w wr) := HB.out.trans (HE2.out.2.2.low.mono HB.out.size)
            clear HE2
            go_wp2
            go_ret
            exact ⟨rfl, HFn.out⟩
  · have HC1 : Hid (∀ A c V, RdG V V.heap.size A R → Calls Try.prog 14 #[.agg #[.slice A N c], .int .i64 s] V fun e w' => e = .returned (.tuple #[.slice none 0 0, .int .i64 (cnE (gs R) [s])]) ∧ Below V.heap.size V w') := fun A c V h => far_e R N hN hn s _ rfl e0 A c V h
    have t1 : (cnE (gs R) [s] == 0) = false := by simpa using e0
    clear e0 hN hn
    generalize cnE (gs R) [s] = e1 at *
    have HB : Hid (Below w.heap.size w w) := Below.refl _ w
    have HR := Lib.hid hA; clear hA
    go_enter Try.func5, Try.ntmps5
    have HBq : Hid (Below w.heap.size w (w.alloc (.cells #[.slice A N c] 24))) := one_below _ _
    replace HB : Hid (Below w.heap.size w (w.alloc (.cells #[.slice A N c] 24))) := HB.out.trans (HBq.out.mono HB.out.size)
    replace HR : Hid (RdG (w.alloc (.cells #[.slice A N c] 24)) ((w.alloc (.cells #[.slice A N c] 24))).heap.size A R) := HR.out.on HBq.out
    clear HBq
    have K0 : Hid (((w.alloc (.cells #[.slice A N c] 24))).cell? ⟨w.heap.size, 0, none⟩ = some (.slice A N c)) := (cell_at (World.alloc_heap_new w _) 0).trans rfl
    have HC := Lib.hid (HC1.out A c _ HR.out)
    have k_K0 := K0.out
    go_wp2_with fail
    clear k_K0
    refine HC.out.mono ?_
    rintro e w1 ⟨rfl, bq⟩
    clear HC
    have HBc := Lib.hid bq; clear bq
    have HBq : Hid (Below (w.alloc (.cells #[.slice A N c] 24)).heap.size (w.alloc (.cells #[.slice A N c] 24)) w1) := HBc.out
    replace HB : Hid (Below w.heap.size w w1) := HB.out.trans (HBq.out.mono HB.out.size)
    replace HR : Hid (RdG w1 (w1).heap.size A R) := HR.out.on HBq.out
    replace K0 : Hid ((w1).cell? ⟨w.heap.size, 0, none⟩ = some (.slice A N c)) := (HBq.out.cell (World.block_lt_of_cell? _ _ K0.out)).trans K0.out
    clear HBq
    clear HBc
    have HC := Lib.hid (walkbegun_true w1)
    go_wp2_with fail
    refine HC.out.mono ?_
    rintro e w2 ⟨rfl, bq⟩
    clear HC
    have HBc := Lib.hid bq; clear bq
    have HBq : Hid (Below w1.heap.size w1 w2) := HBc.out
    replace HB : Hid (Below w.heap.size w w2) := HB.out.trans (HBq.out.mono HB.out.size)
    replace HR : Hid (RdG w2 (w2).heap.size A R) := HR.out.on HBq.out
    replace K0 : Hid ((w2).cell? ⟨w.heap.size, 0, none⟩ = some (.slice A N c)) := (HBq.out.cell (World.block_lt_of_cell? _ _ K0.out)).trans K0.out
    clear HBq
    clear HBc
    go_wp2
    go_ret
    exact ⟨rfl, HB.out⟩
end

section
open Go.ChangeShapes Go.WideShapes Go.ChangeAt Go.RowKit
open Go.ChangeMaps (open_string shut_string)

set_option linter.unusedVariables false
set_option maxRecDepth 100000 in
theorem walkSteps_lifted (os : Os) (started : os.Started) (H : Type) (enc : TypeId × Value → H) :
    ReturnsInHanded {} Try.checked os 5 .any (Rows.walkStepsSpec.pre6 enc Try.prog Try.f5 Rows.walkStepsRow.domain false) (Rows.walkStepsSpec.post enc Try.prog Try.f5 false true false false) := by
  refine returnsInHanded_of_change_sized (C := Try.checked) own started (by kernel_rfl) Try.func5
    (ChangeSpec.witness6 (enc := enc) (C := Try.checked) false ⟨#[], #[.agg #[.slice none 0 0], .int .i64 0], []⟩ 8 (by kernel_rfl) (by kernel_rfl) (by kernel_rfl) (by kernel_rfl)) ?_
  intro W base args ds gs before hval0 hW hcnd hzz _
  have hval : ∀ (j : Nat) t v, Try.f5.params[j]? = some t → args[j]? = some v → Value.okWide Try.prog W .any base t v := hval0
  have hW' := hW
  obtain ⟨p, q, hA0, hV, rfl, hfz, hnd⟩ := hW
  have hA : DataW.TrodAll enc Try.prog W 0 (fun _ => true) true Try.f5.params.toList args.toList ds p := hA0
  rw [Try.params5] at hA hval hzz
  obtain ⟨v0, vs0, d0, ds0, p0, q0, hargs, rfl, rfl, h0, r0⟩ := trodAll_cons hA
  obtain ⟨v1, vs1, d1, ds1, p1, q1, rfl, rfl, rfl, h1, r1⟩ := trodAll_cons r0
  obtain ⟨rfl, rfl, rfl⟩ := trodAll_nil r1
  obtain rfl : args = #[v0, v1] := by cases args; simp_all
  obtain ⟨rfl, rfl⟩ := trodVars_none hV
  have k0 := h0
  have lt0 : ∀ x ∈ p0, x.block < W.heap.size := by obtain ⟨m, hm⟩ := k0; exact DataW.trod_lt m _ _ _ hm
  obtain ⟨A0, c0, R0, rfl, rd0, nn0⟩ := open_graph (hval 0 24 v0 rfl rfl) h0 (fun n hn => of_decide_eq_true (List.all_eq_true.1 hzz n (DataW.weights_mem_each (j := 0) (t := 24) (d := d0) rfl rfl n hn)))
  obtain ⟨x1, rfl, rfl, rfl, wx1⟩ := open_int Try.underlying3 (hval 1 3 v1 rfl rfl) h1
  have bd1 := bounds_i64 wx1
  clear hA0 hval0
  refine (walkSteps_law A0 c0 R0 x1 W rd0 nn0 bd1).mono fun e W' ⟨he, bel⟩ => ?_
  subst he
  exact ⟨_, rfl, _, _, _, [], _, [], hW', trodAll_mk1 (shut_bool Try.underlying4 _), (trodAll_cons_mk (Below.trod laidOut (by kernel_rfl) (of_decide_eq_true (by kernel_rfl)) k0 bel lt0) (trodAll_cons_mk (shut_int Try.underlying3 wx1) trodAll_mk0)), rfl, bel.frame _, fun h => by cases h⟩

theorem WalkSteps_holds : Rows.WalkStepsSaid :=
  OpenClaim.holds_of_wide 5 Try.f5 rfl rfl rfl rfl rfl rfl rfl ⟨rfl, rfl, rfl, rfl, rfl⟩ rfl rfl rfl rfl rfl (by kernel_rfl) Try.func5 (by kernel_rfl)
    (of_decide_eq_true (by kernel_rfl)) (by unfold Func.isWrapper; first | (rw [if_pos (by decide +kernel)]; kernel_rfl) | (rw [if_neg (by decide +kernel)]; exact ⟨rfl, rfl⟩))
    (fun os started H enc _ => walkSteps_lifted os started H enc)
#print axioms WalkSteps_holds
end
end Go.Proofs.Ytnjdbcbfafbkiaa
