/- The law GraphTurn: a graph turned twice is as it was, and its degrees change places; for whatever graph. -/
import Derived.Test.YtfeegpggfmfhjaaWEnd
import Derived.Test.YtfeegpggfmfhjaaWOp
namespace Go.Proofs.Ytfeegpggfmfhjaa

section
set_option maxRecDepth 100000
set_option linter.unusedVariables false
open Go.RowKit Go.Shelf

set_option maxHeartbeats 8000000 in
theorem graphTurn_law (A : Option Addr) (c : Nat) (R : List Rw) (w : World) (hA : RdG w w.heap.size A R) (hn : R.length ≤ 140737488355328) :
    Calls Try.prog 5 #[.agg #[.slice A R.length c]] w fun e w' => e = .returned (.bool true) ∧ Below w.heap.size w w' := by
  obtain ⟨N, hN⟩ : ∃ N, R.length = N := ⟨_, rfl⟩
  rw [hN] at hn ⊢
  by_cases e0 : grE (gs R) = 0
  · obtain ⟨g, hg, hok⟩ := grE_zero _ e0
    have hgl : g.length = N := by have := congrArg List.length hg; rw [gs_length, List.length_map] at this; omega
    have hN1 : N ≤ 100 := by have := hok.nodes; omega
    have h600 := hok.many
    have HT : Hid (∀ A c V, RdG V V.heap.size A R → Calls Try.prog 11 #[.agg #[.slice A N c]] V fun e w' => ∃ A R c, e = .returned (.tuple #[.agg #[.slice A N c], .int .i64 0]) ∧ gs R = (gturn g).map ns ∧ RdG w' w'.heap.size A R ∧ Below V.heap.size V w') := fun A c V h => by
      have := gturn_okW R g hg hok N hN A c V h
      unfold GrP at this; rw [gturn_length, hgl] at this; exact this
    have HT2 : Hid (∀ R2 A c V, gs R2 = (gturn g).map ns → RdG V V.heap.size A R2 → Calls Try.prog 11 #[.agg #[.slice A N c]] V fun e w' => ∃ A R c, e = .returned (.tuple #[.agg #[.slice A N c], .int .i64 0]) ∧ gs R = g.map ns ∧ RdG w' w'.heap.size A R ∧ Below V.heap.size V w') := fun R2 A c V h2 h => by
      have := gturn_okW R2 (gturn g) h2 (gturn_ok hok) N (by have := congrArg List.length h2; rw [gs_length, List.length_map, gturn_length] at this; omega) A c V h
      unfold GrP at this; rw [gturn_turn hok, hgl] at this; exact this
    obtain ⟨F, hF⟩ : ∃ F, dFrom N (arcs 0 g) = F := ⟨_, rfl⟩
    obtain ⟨T, hT⟩ : ∃ T, dTo N (arcs 0 g) = T := ⟨_, rfl⟩
    have lF : F.length = N := by rw [← hF, dFrom_length]
    have lT : T.length = N := by rw [← hT, dTo_length]
    have sF : F.sum = (arcs 0 g).length := by rw [← hF]; exact dFrom_sum _ _ (fun a ha => by have := (arcs_bd hok a ha).1; omega)
    have sT : T.sum = (arcs 0 g).length := by rw [← hT]; unfold dTo; rw [dFrom_sum _ _ (fun a ha => by have := (arcs_bd hok _ ((rev_mem _ a).1 ha)).2; rw [hgl] at this; exact this), List.length_map]
    have HD : Hid (∀ A c V, RdG V V.heap.size A R → Calls Try.prog 13 #[.agg #[.slice A N c]] V fun e w' => ∃ A c A2 c2, e = .returned (.tuple #[.slice A N c, .slice A2 N c2, .int .i64 0]) ∧ RdV w' w'.heap.size A (zc (ns F)) ∧ RdV w' w'.heap.size A2 (zc (ns T)) ∧ Below V.heap.size V w') := fun A c V h => by
      have := gdeg_ok R g hg hok N hN A c V h
      unfold DegP at this; rw [hF, hT, lF, lT] at this; exact this
    have HD2 : Hid (∀ R2 A c V, gs R2 = (gturn g).map ns → RdG V V.heap.size A R2 → Calls Try.prog 13 #[.agg #[.slice A N c]] V fun e w' => ∃ A c A2 c2, e = .returned (.tuple #[.slice A N c, .slice A2 N c2, .int .i64 0]) ∧ RdV w' w'.heap.size A (zc (ns T)) ∧ RdV w' w'.heap.size A2 (zc (ns F)) ∧ Below V.heap.size V w') := fun R2 A c V h2 h => by
      have := gdeg_ok R2 (gturn g) h2 (gturn_ok hok) N (by have := congrArg List.length h2; rw [gs_length, List.length_map, gturn_length] at this; omega) A c V h
      unfold DegP at this; rw [(dFrom_turn hok N).1, (dFrom_turn hok N).2, hF, hT, lF, lT] at this; exact this
    have HS : Hid (∀ R2 A2 c2 V, gs R2 = g.map ns → RdG V V.heap.size A2 R2 → RdG V V.heap.size A R → Calls Try.prog 22 #[.agg #[.slice A2 N c2], .agg #[.slice A N c]] V fun e w' => e = .returned (.bool true) ∧ Below V.heap.size V w') := fun R2 A2 c2 V h h1 h2 => sg_true g R2 R h hg N N hgl hgl hN1 A2 A c2 c V h1 h2
    have HI : Hid (∀ l A B c d V, (l = F ∨ l = T) → RdV V V.heap.size A (zc (ns l)) → RdV V V.heap.size B (zc (ns l)) → Calls Try.prog 23 #[.slice A N c, .slice B N d] V fun e w' => e = .returned (.bool true) ∧ Below V.heap.size V w') := fun l A B c d V h h1 h2 => si_true l N N (by rcases h with rfl | rfl <;> omega) (by rcases h with rfl | rfl <;> omega) (by omega) A B c d V h1 h2
    have HCk : Hid (∀ R2 A c V, gs R2 = (gturn g).map ns → RdG V V.heap.size A R2 → Calls Try.prog 20 #[.agg #[.slice A N c]] V fun e w' => e = .returned (.int .i64 0) ∧ Below V.heap.size V w') := fun R2 A c V h2 h => by
      have := gchk_any R2 N (by have := congrArg List.length h2; rw [gs_length, List.length_map, gturn_length] at this; omega) (by omega) A c V h
      rwa [h2, grE_ok _ (gturn_ok hok)] at this
    obtain ⟨m, hm⟩ : ∃ m, (arcs 0 g).length = m := ⟨_, rfl⟩
    rw [hm] at sF sT h600
    have HFT := Lib.hid (⟨lF, lT, sF, sT⟩ : F.length = N ∧ T.length = N ∧ F.sum = m ∧ T.sum = m)
    clear e0 hg hok hgl hF hT lF lT sF sT hm hN hn
    have HB : Hid (Below w.heap.size w w) := Below.refl _ w
    have HR := Lib.hid hA; clear hA
    go_enter Try.func5, Try.ntmps5
    have HBq : Hid (Below w.heap.size w (w.alloc (.cells #[.slice A N c] 24))) := one_below _ _
    replace HB : Hid (Below w.heap.size w (w.alloc (.cells #[.slice A N c] 24))) := HB.out.trans (HBq.out.mono HB.out.size)
    replace HR : Hid (RdG (w.alloc (.cells #[.slice A N c] 24)) ((w.alloc (.cells #[.slice A N c] 24))).heap.size A R) := HR.out.on HBq.out
    clear HBq
    have K0 : Hid (((w.alloc (.cells #[.slice A N c] 24))).cell? ⟨w.heap.size, 0, none⟩ = some (.slice A N c)) := (cell_at (World.alloc_heap_new w _) 0).trans rfl
    have HC := Lib.hid (HT.out A c _ HR.out)
    go_wp2_with fail
    refine HC.out.mono ?_
    rintro e w1 ⟨A1, R1, c1, rfl, g1, h1, bq⟩
    clear HC
    have HBc := Lib.hid bq; clear bq
    have HBq : Hid (Below (w.alloc (.cells #[.slice A N c] 24)).heap.size (w.alloc (.cells #[.slice A N c] 24)) w1) := HBc.out
    replace HB : Hid (Below w.heap.size w w1) := HB.out.trans (HBq.out.mono HB.out.size)
    replace HR : Hid (RdG w1 (w1).heap.size A R) := HR.out.on HBq.out
    replace K0 : Hid ((w1).cell? ⟨w.heap.size, 0, none⟩ = some (.slice A N c)) := (HBq.out.cell (World.block_lt_of_cell? _ _ K0.out)).trans K0.out
    clear HBq
    clear HBc
    have G1 := Lib.hid g1; clear g1
    have H1 : Hid (RdG w1 (w1).heap.size A1 R1) := h1
    clear h1
    have HBq : Hid (Below w1.heap.size w1 (w1.alloc (.cells #[.slice A1 N c1] 24))) := one_below _ _
    replace HB : Hid (Below w.heap.size w (w1.alloc (.cells #[.slice A1 N c1] 24))) := HB.out.trans (HBq.out.mono HB.out.size)
    replace HR : Hid (RdG (w1.alloc (.cells #[.slice A1 N c1] 24)) ((w1.alloc (.cells #[.slice A1 N c1] 24))).heap.size A R) := HR.out.on HBq.out
    replace K0 : Hid (((w1.alloc (.cells #[.slice A1 N c1] 24))).cell? ⟨w.heap.size, 0, none⟩ = some (.slice A N c)) := (HBq.out.cell (World.block_lt_of_cell? _ _ K0.out)).trans K0.out
    replace H1 : Hid (RdG (w1.alloc (.cells #[.slice A1 N c1] 24)) ((w1.alloc (.cells #[.slice A1 N c1] 24))).heap.size A1 R1) := H1.out.on HBq.out
    clear HBq
    have K1 : Hid (((w1.alloc (.cells #[.slice A1 N c1] 24))).cell? ⟨w1.heap.size, 0, none⟩ = some (.slice A1 N c1)) := (cell_at (World.alloc_heap_new w1 _) 0).trans rfl
    have HC := Lib.hid (graphbegun_true (w1.alloc (.cells #[.slice A1 N c1] 24)))
    go_wp2_with fail
    refine HC.out.mono ?_
    rintro e w2 ⟨rfl, bq⟩
    clear HC
    have HBc := Lib.hid bq; clear bq
    have HBq : Hid (Below (w1.alloc (.cells #[.slice A1 N c1] 24)).heap.size (w1.alloc (.cells #[.slice A1 N c1] 24)) w2) := HBc.out
    replace HB : Hid (Below w.heap.size w w2) := HB.out.trans (HBq.out.mono HB.out.size)
    replace HR : Hid (RdG w2 (w2).heap.size A R) := HR.out.on HBq.out
    replace K0 : Hid ((w2).cell? ⟨w.heap.size, 0, none⟩ = some (.slice A N c)) := (HBq.out.cell (World.block_lt_of_cell? _ _ K0.out)).trans K0.out
    replace H1 : Hid (RdG w2 (w2).heap.size A1 R1) := H1.out.on HBq.out
    replace K1 : Hid ((w2).cell? ⟨w1.heap.size, 0, none⟩ = some (.slice A1 N c1)) := (HBq.out.cell (World.block_lt_of_cell? _ _ K1.out)).trans K1.out
    clear HBq
    clear HBc
    have HC := Lib.hid (HT2.out R1 A1 c1 _ G1.out H1.out)
    have k_K1 := K1.out
    go_wp2_with fail
    clear k_K1
    refine HC.out.mono ?_
    rintro e w3 ⟨A2, R2, c2, rfl, g2, h2, bq⟩
    clear HC
    have HBc := Lib.hid bq; clear bq
    have HBq : Hid (Below w2.heap.size w2 w3) := HBc.out
    replace HB : Hid (Below w.heap.size w w3) := HB.out.trans (HBq.out.mono HB.out.size)
    replace HR : Hid (RdG w3 (w3).heap.size A R) := HR.out.on HBq.out
    replace K0 : Hid ((w3).cell? ⟨w.heap.size, 0, none⟩ = some (.slice A N c)) := (HBq.out.cell (World.block_lt_of_cell? _ _ K0.out)).trans K0.out
    replace H1 : Hid (RdG w3 (w3).heap.size A1 R1) := H1.out.on HBq.out
    replace K1 : Hid ((w3).cell? ⟨w1.heap.size, 0, none⟩ = some (.slice A1 N c1)) := (HBq.out.cell (World.block_lt_of_cell? _ _ K1.out)).trans K1.out
    clear HBq
    clear HBc
    have G2 := Lib.hid g2; clear g2
    have H2 : Hid (RdG w3 (w3).heap.size A2 R2) := h2
    clear h2
    have HBq : Hid (Below w3.heap.size w3 (w3.alloc (.cells #[.slice A2 N c2] 24))) := one_below _ _
    replace HB : Hid (Below w.heap.size w (w3.alloc (.cells #[.slice A2 N c2] 24))) := HB.out.trans (HBq.out.mono HB.out.size)
    replace HR : Hid (RdG (w3.alloc (.cells #[.slice A2 N c2] 24)) ((w3.alloc (.cells #[.slice A2 N c2] 24))).heap.size A R) := HR.out.on HBq.out
    replace K0 : Hid (((w3.alloc (.cells #[.slice A2 N c2] 24))).cell? ⟨w.heap.size, 0, none⟩ = some (.slice A N c)) := (HBq.out.cell (World.block_lt_of_cell? _ _ K0.out)).trans K0.out
    replace H1 : Hid (RdG (w3.alloc (.cells #[.slice A2 N c2] 24)) ((w3.alloc (.cells #[.slice A2 N c2] 24))).heap.size A1 R1) := H1.out.on HBq.out
    replace K1 : Hid (((w3.alloc (.cells #[.slice A2 N c2] 24))).cell? ⟨w1.heap.size, 0, none⟩ = some (.slice A1 N c1)) := (HBq.out.cell (World.block_lt_of_cell? _ _ K1.out)).trans K1.out
    replace H2 : Hid (RdG (w3.alloc (.cells #[.slice A2 N c2] 24)) ((w3.alloc (.cells #[.slice A2 N c2] 24))).heap.size A2 R2) := H2.out.on HBq.out
    clear HBq
    have K2 : Hid (((w3.alloc (.cells #[.slice A2 N c2] 24))).cell? ⟨w3.heap.size, 0, none⟩ = some (.slice A2 N c2)) := (cell_at (World.alloc_heap_new w3 _) 0).trans rfl
    have HC := Lib.hid (HD.out A c _ HR.out)
    have k_K0 := K0.out
    go_wp2_with fail
    clear k_K0
    refine HC.out.mono ?_
    rintro e w4 ⟨A3, c3, A4, c4, rfl, h3, h4, bq⟩
    clear HC
    have HBc := Lib.hid bq; clear bq
    have HBq : Hid (Below (w3.alloc (.cells #[.slice A2 N c2] 24)).heap.size (w3.alloc (.cells #[.slice A2 N c2] 24)) w4) := HBc.out
    replace HB : Hid (Below w.heap.size w w4) := HB.out.trans (HBq.out.mono HB.out.size)
    replace HR : Hid (RdG w4 (w4).heap.size A R) := HR.out.on HBq.out
    replace K0 : Hid ((w4).cell? ⟨w.heap.size, 0, none⟩ = some (.slice A N c)) := (HBq.out.cell (World.block_lt_of_cell? _ _ K0.out)).trans K0.out
    replace H1 : Hid (RdG w4 (w4).heap.size A1 R1) := H1.out.on HBq.out
    replace K1 : Hid ((w4).cell? ⟨w1.heap.size, 0, none⟩ = some (.slice A1 N c1)) := (HBq.out.cell (World.block_lt_of_cell? _ _ K1.out)).trans K1.out
    replace H2 : Hid (RdG w4 (w4).heap.size A2 R2) := H2.out.on HBq.out
    replace K2 : Hid ((w4).cell? ⟨w3.heap.size, 0, none⟩ = some (.slice A2 N c2)) := (HBq.out.cell (World.block_lt_of_cell? _ _ K2.out)).trans K2.out
    clear HBq
    clear HBc
    have H3 : Hid (RdV w4 (w4).heap.size A3 (zc (ns F))) := h3
    clear h3
    have H4 : Hid (RdV w4 (w4).heap.size A4 (zc (ns T))) := h4
    clear h4
    have HC := Lib.hid (HD2.out R1 A1 c1 _ G1.out H1.out)
    have k_K1 := K1.out
    go_wp2_with fail
    clear k_K1
    refine HC.out.mono ?_
    rintro e w5 ⟨A5, c5, A6, c6, rfl, h5, h6, bq⟩
    clear HC
    have HBc := Lib.hid bq; clear bq
    have HBq : Hid (Below w4.heap.size w4 w5) := HBc.out
    replace HB : Hid (Below w.heap.size w w5) := HB.out.trans (HBq.out.mono HB.out.size)
    replace HR : Hid (RdG w5 (w5).heap.size A R) := HR.out.on HBq.out
    replace K0 : Hid ((w5).cell? ⟨w.heap.size, 0, none⟩ = some (.slice A N c)) := (HBq.out.cell (World.block_lt_of_cell? _ _ K0.out)).trans K0.out
    replace H1 : Hid (RdG w5 (w5).heap.size A1 R1) := H1.out.on HBq.out
    replace K1 : Hid ((w5).cell? ⟨w1.heap.size, 0, none⟩ = some (.slice A1 N c1)) := (HBq.out.cell (World.block_lt_of_cell? _ _ K1.out)).trans K1.out
    replace H2 : Hid (RdG w5 (w5).heap.size A2 R2) := H2.out.on HBq.out
    replace K2 : Hid ((w5).cell? ⟨w3.heap.size, 0, none⟩ = some (.slice A2 N c2)) := (HBq.out.cell (World.block_lt_of_cell? _ _ K2.out)).trans K2.out
    replace H3 : Hid (RdV w5 (w5).heap.size A3 (zc (ns F))) := H3.out.on HBq.out
    replace H4 : Hid (RdV w5 (w5).heap.size A4 (zc (ns T))) := H4.out.on HBq.out
    clear HBq
    clear HBc
    have H5 : Hid (RdV w5 (w5).heap.size A5 (zc (ns T))) := h5
    clear h5
    have H6 : Hid (RdV w5 (w5).heap.size A6 (zc (ns F))) := h6
    clear h6
    go_wp2
    go_loopw [13, 14, 15] (fun a b p wr => ∃ i : Nat, i ≤ N ∧ p = .int .i64 (i : Int) ∧ a = .int .i64 (((F.take i).sum : Nat) : Int) ∧ b = .int .i64 (((T.take i).sum : Nat) : Int) ∧ w5 = wr) (fun _ _ p _ => N - (intOf p).toNat)
    case atStart => exact ⟨0, Nat.zero_le _, rfl, rfl, rfl, rfl⟩
    case round =>
      obtain ⟨i, hi, rfl, rfl, rfl, rfl⟩ := hrel
      by_cases hlt : i < N
      · obtain ⟨b1, o1, rfl, hb1, q1⟩ := H3.out.at_ (zc_getN F i (F[i]?.getD 0) (by rw [List.getElem?_eq_getElem (by rw [HFT.out.1]; exact hlt)]; rfl))
        obtain ⟨b2, o2, rfl, hb2, q2⟩ := H4.out.at_ (zc_getN T i (T[i]?.getD 0) (by rw [List.getElem?_eq_getElem (by rw [HFT.out.2.1]; exact hlt)]; rfl))
        have s1 := sum_take_succ F i (by rw [HFT.out.1]; exact hlt)
        have s2 := sum_take_succ T i (by rw [HFT.out.2.1]; exact hlt)
        have z1 := sum_take_le F (i + 1)
        have z2 := sum_take_le T (i + 1)
        rw [HFT.out.2.2.1, s1] at z1
        rw [HFT.out.2.2.2, s2] at z2
        have S1 := Lib.hid s1; have S2 := Lib.hid s2
        clear s1 s2
        generalize F[i]?.getD 0 = f at *
        generalize T[i]?.getD 0 = t at *
        generalize (F.take i).sum = fs at *
        generalize (T.take i).sum = ts at *
        have a1 : IntKind.i64.wrap ((fs : Int) + (f : Int)) = ((fs + f : Nat) : Int) := by rw [IntWalk.i64_in _ (by omega)]; omega
        have a2 : IntKind.i64.wrap ((ts : Int) + (t : Int)) = ((ts + t : Nat) : Int) := by rw [IntWalk.i64_in _ (by omega)]; omega
        have c1 : decide ((i : Int) < (N : Int)) = true := by simp; omega
        go_wp2
        go_roundw
        case rel => exact ⟨i + 1, by omega, by go_num, by rw [S1.out] <;> go_num, by rw [S2.out] <;> go_num, by first | rfl | trivial⟩
        case measure => simp [intOf]; omega
      · have e : i = N := by omega
        rw [e, List.take_of_length_le (by rw [HFT.out.1]; omega), List.take_of_length_le (by rw [HFT.out.2.1]; omega), HFT.out.2.2.1, HFT.out.2.2.2]
        clear HT HT2 HD HD2
        have d1 : decide ((N : Int) < (N : Int)) = false := by simp
        have HC := Lib.hid (HS.out R2 A2 c2 _ G2.out H2.out HR.out)
        have k_K2 := K2.out
        have k_K0 := K0.out
        go_wp2_with fail
        clear k_K2
        clear k_K0
        refine HC.out.mono ?_
        rintro e w6 ⟨rfl, bq⟩
        clear HC
        have HBc := Lib.hid bq; clear bq
        have HBq : Hid (Below w5.heap.size w5 w6) := HBc.out
        replace HB : Hid (Below w.heap.size w w6) := HB.out.trans (HBq.out.mono HB.out.size)
        replace HR : Hid (RdG w6 (w6).heap.size A R) := HR.out.on HBq.out
        replace K0 : Hid ((w6).cell? ⟨w.heap.size, 0, none⟩ = some (.slice A N c)) := (HBq.out.cell (World.block_lt_of_cell? _ _ K0.out)).trans K0.out
        replace H1 : Hid (RdG w6 (w6).heap.size A1 R1) := H1.out.on HBq.out
        replace K1 : Hid ((w6).cell? ⟨w1.heap.size, 0, none⟩ = some (.slice A1 N c1)) := (HBq.out.cell (World.block_lt_of_cell? _ _ K1.out)).trans K1.out
        replace H2 : Hid (RdG w6 (w6).heap.size A2 R2) := H2.out.on HBq.out
        replace K2 : Hid ((w6).cell? ⟨w3.heap.size, 0, none⟩ = some (.slice A2 N c2)) := (HBq.out.cell (World.block_lt_of_cell? _ _ K2.out)).trans K2.out
        replace H3 : Hid (RdV w6 (w6).heap.size A3 (zc (ns F))) := H3.out.on HBq.out
        replace H4 : Hid (RdV w6 (w6).heap.size A4 (zc (ns T))) := H4.out.on HBq.out
        replace H5 : Hid (RdV w6 (w6).heap.size A5 (zc (ns T))) := H5.out.on HBq.out
        replace H6 : Hid (RdV w6 (w6).heap.size A6 (zc (ns F))) := H6.out.on HBq.out
        clear HBq
        clear HBc
        have HC := Lib.hid (HI.out F A3 A6 c3 c6 _ (.inl rfl) H3.out H6.out)
        go_wp2_with fail
        refine HC.out.mono ?_
        rintro e w7 ⟨rfl, bq⟩
        clear HC
        have HBc := Lib.hid bq; clear bq
        have HBq : Hid (Below w6.heap.size w6 w7) := HBc.out
        replace HB : Hid (Below w.heap.size w w7) := HB.out.trans (HBq.out.mono HB.out.size)
        replace HR : Hid (RdG w7 (w7).heap.size A R) := HR.out.on HBq.out
        replace K0 : Hid ((w7).cell? ⟨w.heap.size, 0, none⟩ = some (.slice A N c)) := (HBq.out.cell (World.block_lt_of_cell? _ _ K0.out)).trans K0.out
        replace H1 : Hid (RdG w7 (w7).heap.size A1 R1) := H1.out.on HBq.out
        replace K1 : Hid ((w7).cell? ⟨w1.heap.size, 0, none⟩ = some (.slice A1 N c1)) := (HBq.out.cell (World.block_lt_of_cell? _ _ K1.out)).trans K1.out
        replace H2 : Hid (RdG w7 (w7).heap.size A2 R2) := H2.out.on HBq.out
        replace K2 : Hid ((w7).cell? ⟨w3.heap.size, 0, none⟩ = some (.slice A2 N c2)) := (HBq.out.cell (World.block_lt_of_cell? _ _ K2.out)).trans K2.out
        replace H3 : Hid (RdV w7 (w7).heap.size A3 (zc (ns F))) := H3.out.on HBq.out
        replace H4 : Hid (RdV w7 (w7).heap.size A4 (zc (ns T))) := H4.out.on HBq.out
        replace H5 : Hid (RdV w7 (w7).heap.size A5 (zc (ns T))) := H5.out.on HBq.out
        replace H6 : Hid (RdV w7 (w7).heap.size A6 (zc (ns F))) := H6.out.on HBq.out
        clear HBq
        clear HBc
        have HC := Lib.hid (HI.out T A4 A5 c4 c5 _ (.inr rfl) H4.out H5.out)
        go_wp2_with fail
        refine HC.out.mono ?_
        rintro e w8 ⟨rfl, bq⟩
        clear HC
        have HBc := Lib.hid bq; clear bq
        have HBq : Hid (Below w7.heap.size w7 w8) := HBc.out
        replace HB : Hid (Below w.heap.size w w8) := HB.out.trans (HBq.out.mono HB.out.size)
        replace HR : Hid (RdG w8 (w8).heap.size A R) := HR.out.on HBq.out
        replace K0 : Hid ((w8).cell? ⟨w.heap.size, 0, none⟩ = some (.slice A N c)) := (HBq.out.cell (World.block_lt_of_cell? _ _ K0.out)).trans K0.out
        replace H1 : Hid (RdG w8 (w8).heap.size A1 R1) := H1.out.on HBq.out
        replace K1 : Hid ((w8).cell? ⟨w1.heap.size, 0, none⟩ = some (.slice A1 N c1)) := (HBq.out.cell (World.block_lt_of_cell? _ _ K1.out)).trans K1.out
        replace H2 : Hid (RdG w8 (w8).heap.size A2 R2) := H2.out.on HBq.out
        replace K2 : Hid ((w8).cell? ⟨w3.heap.size, 0, none⟩ = some (.slice A2 N c2)) := (HBq.out.cell (World.block_lt_of_cell? _ _ K2.out)).trans K2.out
        replace H3 : Hid (RdV w8 (w8).heap.size A3 (zc (ns F))) := H3.out.on HBq.out
        replace H4 : Hid (RdV w8 (w8).heap.size A4 (zc (ns T))) := H4.out.on HBq.out
        replace H5 : Hid (RdV w8 (w8).heap.size A5 (zc (ns T))) := H5.out.on HBq.out
        replace H6 : Hid (RdV w8 (w8).heap.size A6 (zc (ns F))) := H6.out.on HBq.out
        clear HBq
        clear HBc
        have m1 : ((m : Int) == (m : Int)) = true := by simp
        have HC := Lib.hid (HCk.out R1 A1 c1 _ G1.out H1.out)
        have k_K1 := K1.out
        go_wp2_with fail
        clear k_K1
        refine HC.out.mono ?_
        rintro e w9 ⟨rfl, bq⟩
        clear HC
        have HBc := Lib.hid bq; clear bq
        have HBq : Hid (Below w8.heap.size w8 w9) := HBc.out
        replace HB : Hid (Below w.heap.size w w9) := HB.out.trans (HBq.out.mono HB.out.size)
        replace HR : Hid (RdG w9 (w9).heap.size A R) := HR.out.on HBq.out
        replace K0 : Hid ((w9).cell? ⟨w.heap.size, 0, none⟩ = some (.slice A N c)) := (HBq.out.cell (World.block_lt_of_cell? _ _ K0.out)).trans K0.out
        replace H1 : Hid (RdG w9 (w9).heap.size A1 R1) := H1.out.on HBq.out
        replace K1 : Hid ((w9).cell? ⟨w1.heap.size, 0, none⟩ = some (.slice A1 N c1)) := (HBq.out.cell (World.block_lt_of_cell? _ _ K1.out)).trans K1.out
        replace H2 : Hid (RdG w9 (w9).heap.size A2 R2) := H2.out.on HBq.out
        replace K2 : Hid ((w9).cell? ⟨w3.heap.size, 0, none⟩ = some (.slice A2 N c2)) := (HBq.out.cell (World.block_lt_of_cell? _ _ K2.out)).trans K2.out
        replace H3 : Hid (RdV w9 (w9).heap.size A3 (zc (ns F))) := H3.out.on HBq.out
        replace H4 : Hid (RdV w9 (w9).heap.size A4 (zc (ns T))) := H4.out.on HBq.out
        replace H5 : Hid (RdV w9 (w9).heap.size A5 (zc (ns T))) := H5.out.on HBq.out
        replace H6 : Hid (RdV w9 (w9).heap.size A6 (zc (ns F))) := H6.out.on HBq.out
        clear HBq
        clear HBc
        go_wp2
        go_ret
        exact ⟨rfl, HB.out⟩
  · have HT : Hid (∀ A c V, RdG V V.heap.size A R → ∃ e1 : Int, (e1 == 0) = false ∧ Calls Try.prog 11 #[.agg #[.slice A N c]] V fun e w' => ∃ A R c, e = .returned (.tuple #[.agg #[.slice A 0 c], .int .i64 e1]) ∧ gs R = [] ∧ RdG w' w'.heap.size A R ∧ Below V.heap.size V w') := fun A c V h => ⟨grE (gs R), by simpa using e0, gturn_e R N hN hn _ rfl e0 A c V h⟩
    clear e0 hN hn
    have HB : Hid (Below w.heap.size w w) := Below.refl _ w
    have HR := Lib.hid hA; clear hA
    go_enter Try.func5, Try.ntmps5
    have HBq : Hid (Below w.heap.size w (w.alloc (.cells #[.slice A N c] 24))) := one_below _ _
    replace HB : Hid (Below w.heap.size w (w.alloc (.cells #[.slice A N c] 24))) := HB.out.trans (HBq.out.mono HB.out.size)
    replace HR : Hid (RdG (w.alloc (.cells #[.slice A N c] 24)) ((w.alloc (.cells #[.slice A N c] 24))).heap.size A R) := HR.out.on HBq.out
    clear HBq
    have K0 : Hid (((w.alloc (.cells #[.slice A N c] 24))).cell? ⟨w.heap.size, 0, none⟩ = some (.slice A N c)) := (cell_at (World.alloc_heap_new w _) 0).trans rfl
    obtain ⟨e1, t1, hc1⟩ := HT.out A c _ HR.out
    have HC1 := Lib.hid hc1; clear hc1
    have HC := Lib.hid (HC1.out)
    go_wp2_with fail
    refine HC.out.mono ?_
    rintro e w1 ⟨A1, R1, c1, rfl, g1, h1, bq⟩
    clear HC
    have HBc := Lib.hid bq; clear bq
    have HBq : Hid (Below (w.alloc (.cells #[.slice A N c] 24)).heap.size (w.alloc (.cells #[.slice A N c] 24)) w1) := HBc.out
    replace HB : Hid (Below w.heap.size w w1) := HB.out.trans (HBq.out.mono HB.out.size)
    replace HR : Hid (RdG w1 (w1).heap.size A R) := HR.out.on HBq.out
    replace K0 : Hid ((w1).cell? ⟨w.heap.size, 0, none⟩ = some (.slice A N c)) := (HBq.out.cell (World.block_lt_of_cell? _ _ K0.out)).trans K0.out
    clear HBq
    clear HBc
    have G1 := Lib.hid g1; clear g1
    have H1 : Hid (RdG w1 (w1).heap.size A1 R1) := h1
    clear h1
    have HBq : Hid (Below w1.heap.size w1 (w1.alloc (.cells #[.slice A1 0 c1] 24))) := one_below _ _
    replace HB : Hid (Below w.heap.size w (w1.alloc (.cells #[.slice A1 0 c1] 24))) := HB.out.trans (HBq.out.mono HB.out.size)
    replace HR : Hid (RdG (w1.alloc (.cells #[.slice A1 0 c1] 24)) ((w1.alloc (.cells #[.slice A1 0 c1] 24))).heap.size A R) := HR.out.on HBq.out
    replace K0 : Hid (((w1.alloc (.cells #[.slice A1 0 c1] 24))).cell? ⟨w.heap.size, 0, none⟩ = some (.slice A N c)) := (HBq.out.cell (World.block_lt_of_cell? _ _ K0.out)).trans K0.out
    replace H1 : Hid (RdG (w1.alloc (.cells #[.slice A1 0 c1] 24)) ((w1.alloc (.cells #[.slice A1 0 c1] 24))).heap.size A1 R1) := H1.out.on HBq.out
    clear HBq
    have K1 : Hid (((w1.alloc (.cells #[.slice A1 0 c1] 24))).cell? ⟨w1.heap.size, 0, none⟩ = some (.slice A1 0 c1)) := (cell_at (World.alloc_heap_new w1 _) 0).trans rfl
    have HC := Lib.hid (graphbegun_true (w1.alloc (.cells #[.slice A1 0 c1] 24)))
    go_wp2_with fail
    refine HC.out.mono ?_
    rintro e w2 ⟨rfl, bq⟩
    clear HC
    have HBc := Lib.hid bq; clear bq
    have HBq : Hid (Below (w1.alloc (.cells #[.slice A1 0 c1] 24)).heap.size (w1.alloc (.cells #[.slice A1 0 c1] 24)) w2) := HBc.out
    replace HB : Hid (Below w.heap.size w w2) := HB.out.trans (HBq.out.mono HB.out.size)
    replace HR : Hid (RdG w2 (w2).heap.size A R) := HR.out.on HBq.out
    replace K0 : Hid ((w2).cell? ⟨w.heap.size, 0, none⟩ = some (.slice A N c)) := (HBq.out.cell (World.block_lt_of_cell? _ _ K0.out)).trans K0.out
    replace H1 : Hid (RdG w2 (w2).heap.size A1 R1) := H1.out.on HBq.out
    replace K1 : Hid ((w2).cell? ⟨w1.heap.size, 0, none⟩ = some (.slice A1 0 c1)) := (HBq.out.cell (World.block_lt_of_cell? _ _ K1.out)).trans K1.out
    clear HBq
    clear HBc
    have HC := Lib.hid (sg_true [] R1 [] G1.out rfl 0 0 rfl rfl (by omega) A1 none c1 0 _ H1.out (rdg_nil _))
    have k_K1 := K1.out
    go_wp2_with fail
    clear k_K1
    refine HC.out.mono ?_
    rintro e w3 ⟨rfl, bq⟩
    clear HC
    have HBc := Lib.hid bq; clear bq
    have HBq : Hid (Below w2.heap.size w2 w3) := HBc.out
    replace HB : Hid (Below w.heap.size w w3) := HB.out.trans (HBq.out.mono HB.out.size)
    replace HR : Hid (RdG w3 (w3).heap.size A R) := HR.out.on HBq.out
    replace K0 : Hid ((w3).cell? ⟨w.heap.size, 0, none⟩ = some (.slice A N c)) := (HBq.out.cell (World.block_lt_of_cell? _ _ K0.out)).trans K0.out
    replace H1 : Hid (RdG w3 (w3).heap.size A1 R1) := H1.out.on HBq.out
    replace K1 : Hid ((w3).cell? ⟨w1.heap.size, 0, none⟩ = some (.slice A1 0 c1)) := (HBq.out.cell (World.block_lt_of_cell? _ _ K1.out)).trans K1.out
    clear HBq
    clear HBc
    go_wp2
    go_ret
    exact ⟨rfl, HB.out⟩
end

section
open Go.ChangeShapes Go.WideShapes Go.ChangeAt Go.RowKit
open Go.ChangeMaps (open_string shut_string)

set_option linter.unusedVariables false
set_option maxRecDepth 100000 in
theorem graphTurn_lifted (os : Os) (started : os.Started) (H : Type) (enc : TypeId × Value → H) :
    ReturnsInHanded {} Try.checked os 5 .any (Rows.graphTurnSpec.pre6 enc Try.prog Try.f5 Rows.graphTurnRow.domain false) (Rows.graphTurnSpec.post enc Try.prog Try.f5 false true false false) := by
  refine returnsInHanded_of_change_sized (C := Try.checked) own started (by kernel_rfl) Try.func5
    (ChangeSpec.witness6 (enc := enc) (C := Try.checked) false ⟨#[], #[.agg #[.slice none 0 0]], []⟩ 8 (by kernel_rfl) (by kernel_rfl) (by kernel_rfl) (by kernel_rfl)) ?_
  intro W base args ds gs before hval0 hW hcnd hzz _
  have hval : ∀ (j : Nat) t v, Try.f5.params[j]? = some t → args[j]? = some v → Value.okWide Try.prog W .any base t v := hval0
  have hW' := hW
  obtain ⟨p, q, hA0, hV, rfl, hfz, hnd⟩ := hW
  have hA : DataW.TrodAll enc Try.prog W 0 (fun _ => true) true Try.f5.params.toList args.toList ds p := hA0
  rw [Try.params5] at hA hval hzz
  obtain ⟨v0, vs0, d0, ds0, p0, q0, hargs, rfl, rfl, h0, r0⟩ := trodAll_cons hA
  obtain ⟨rfl, rfl, rfl⟩ := trodAll_nil r0
  obtain rfl : args = #[v0] := by cases args; simp_all
  obtain ⟨rfl, rfl⟩ := trodVars_none hV
  have k0 := h0
  have lt0 : ∀ x ∈ p0, x.block < W.heap.size := by obtain ⟨m, hm⟩ := k0; exact DataW.trod_lt m _ _ _ hm
  obtain ⟨A0, c0, R0, rfl, rd0, nn0⟩ := open_graph (hval 0 24 v0 rfl rfl) h0 (fun n hn => of_decide_eq_true (List.all_eq_true.1 hzz n (DataW.weights_mem_each (j := 0) (t := 24) (d := d0) rfl rfl n hn)))
  clear hA0 hval0
  refine (graphTurn_law A0 c0 R0 W rd0 nn0).mono fun e W' ⟨he, bel⟩ => ?_
  subst he
  exact ⟨_, rfl, _, _, _, [], _, [], hW', trodAll_mk1 (shut_bool Try.underlying4 _), (trodAll_cons_mk (Below.trod laidOut (by kernel_rfl) (of_decide_eq_true (by kernel_rfl)) k0 bel lt0) trodAll_mk0), rfl, bel.frame _, fun h => by cases h⟩

theorem GraphTurn_holds : Rows.GraphTurnSaid :=
  OpenClaim.holds_of_wide 5 Try.f5 rfl rfl rfl rfl rfl rfl rfl ⟨rfl, rfl, rfl, rfl, rfl⟩ rfl rfl rfl rfl rfl (by kernel_rfl) Try.func5 (by kernel_rfl)
    (of_decide_eq_true (by kernel_rfl)) (by unfold Func.isWrapper; first | (rw [if_pos (by decide +kernel)]; kernel_rfl) | (rw [if_neg (by decide +kernel)]; exact ⟨rfl, rfl⟩))
    (fun os started H enc _ => graphTurn_lifted os started H enc)
#print axioms GraphTurn_holds
end
end Go.Proofs.Ytfeegpggfmfhjaa
