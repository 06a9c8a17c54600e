/- The law CoreBoth: whichever way arcs lead it is the same; for whatever graph. -/
import Derived.Test.YtnbjhldpadjgfaaCoJ
import Derived.Test.YtnbjhldpadjgfaaOpen
import Derived.Test.YtnbjhldpadjgfaaNMem
import Derived.Test.YtnbjhldpadjgfaaWChk
import Derived.Deep.Matrix
import Derived.Deep.SlicePairs
import Derived.SizedLaws
namespace Go.Proofs.Ytnbjhldpadjgfaa

section
set_option maxRecDepth 100000
set_option linter.unusedVariables false
open Go.RowKit Go.Shelf

theorem near_bothF {g : List (List Nat)} (hok : GOk g) (h6 : (bth (arcs 0 g)).length ≤ 600) : near (gboth g) = near g := by
  funext i j
  by_cases h : i < g.length ∧ j < g.length
  · exact near_both g i j h.1 h.2
  · have e1 : near g i j = false := by
      cases e : near g i j with
      | false => rfl
      | true => exact absurd (near_lt hok e) h
    have e2 : near (gboth g) i j = false := by
      cases e : near (gboth g) i j with
      | false => rfl
      | true => have := near_lt (gboth_ok hok h6) e; rw [gboth_length] at this; exact absurd this h
    rw [e1, e2]
set_option maxHeartbeats 8000000 in
theorem coreBoth_law (A : Option Addr) (c : Nat) (R : List Rw) (w : World) (hA : RdG w w.heap.size A R) (hn : R.length ≤ 140737488355328) :
    Calls Try.prog 12 #[.agg #[.slice A R.length c]] w fun e w' => e = .returned (.bool true) ∧ Below w.heap.size w w' := by
  obtain ⟨N, hN⟩ : ∃ N, R.length = N := ⟨_, rfl⟩
  rw [hN] at hn ⊢
  by_cases e0 : grE (gs R) = 0
  · obtain ⟨g, hg, hok⟩ := grE_zero _ e0
    have hgl : g.length = N := by have := congrArg List.length hg; rw [gs_length, List.length_map] at this; omega
    have hN1 : N ≤ 100 := by have := hok.nodes; omega
    have HOk : Hid (GOk g ∧ g.length = N) := ⟨hok, hgl⟩
    have HG0 := Lib.hid hg
    by_cases hb6 : 600 < (bth (arcs 0 g)).length
    · obtain ⟨e1, he1, hne⟩ : ∃ e1 : Int, e1 = 2 ∧ e1 ≠ 0 := ⟨2, rfl, by decide⟩
      have HBe : Hid (∀ A c V, RdG V V.heap.size A R → Calls Try.prog 33 #[.agg #[.slice A N c]] V fun e w' => ∃ A1 n1 c1, e = .returned (.tuple #[.agg #[.slice A1 n1 c1], .int .i64 e1]) ∧ Below V.heap.size V w') := fun A c V h => by
        have := gboth_okW R g hg hok N hN A c V h
        rw [if_pos hb6, if_pos hb6, ← he1] at this
        unfold GrP at this
        exact this.mono fun e w' ⟨A1, R1, c1, q1, _, _, q4⟩ => ⟨A1, _, c1, q1, q4⟩
      clear e0 hg hok hgl hb6 hN hn he1
      have u1 : (e1 != 0) = true := by simpa using hne
      have t1 : (e1 == 0) = false := by simpa using hne
      clear hne
      have HB : Hid (Below w.heap.size w w) := Below.refl _ w
      have HR := Lib.hid hA; clear hA
      go_enter Try.func12, Try.ntmps12
      have HBq : Hid (Below w.heap.size w (w.alloc (.cells #[.slice A N c] 24))) := one_below _ _
      replace HB : Hid (Below w.heap.size w (w.alloc (.cells #[.slice A N c] 24))) := HB.out.trans (HBq.out.mono HB.out.size)
      replace HR : Hid (RdG (w.alloc (.cells #[.slice A N c] 24)) ((w.alloc (.cells #[.slice A N c] 24))).heap.size A R) := HR.out.on HBq.out
      clear HBq
      have K0 : Hid (((w.alloc (.cells #[.slice A N c] 24))).cell? ⟨w.heap.size, 0, none⟩ = some (.slice A N c)) := (cell_at (World.alloc_heap_new w _) 0).trans rfl
      have HC := Lib.hid (HBe.out A c _ HR.out)
      have k_K0 := K0.out
      go_wp2_with fail
      clear k_K0
      refine HC.out.mono ?_
      rintro e w1 ⟨A1, n1, c1, rfl, bq⟩
      clear HC
      have HBc := Lib.hid bq; clear bq
      have HBq : Hid (Below (w.alloc (.cells #[.slice A N c] 24)).heap.size (w.alloc (.cells #[.slice A N c] 24)) w1) := HBc.out
      replace HB : Hid (Below w.heap.size w w1) := HB.out.trans (HBq.out.mono HB.out.size)
      replace HR : Hid (RdG w1 (w1).heap.size A R) := HR.out.on HBq.out
      replace K0 : Hid ((w1).cell? ⟨w.heap.size, 0, none⟩ = some (.slice A N c)) := (HBq.out.cell (World.block_lt_of_cell? _ _ K0.out)).trans K0.out
      clear HBq
      clear HBc
      have HBq : Hid (Below w1.heap.size w1 (w1.alloc (.cells #[.slice A1 n1 c1] 24))) := one_below _ _
      replace HB : Hid (Below w.heap.size w (w1.alloc (.cells #[.slice A1 n1 c1] 24))) := HB.out.trans (HBq.out.mono HB.out.size)
      replace HR : Hid (RdG (w1.alloc (.cells #[.slice A1 n1 c1] 24)) ((w1.alloc (.cells #[.slice A1 n1 c1] 24))).heap.size A R) := HR.out.on HBq.out
      replace K0 : Hid (((w1.alloc (.cells #[.slice A1 n1 c1] 24))).cell? ⟨w.heap.size, 0, none⟩ = some (.slice A N c)) := (HBq.out.cell (World.block_lt_of_cell? _ _ K0.out)).trans K0.out
      clear HBq
      have K1 : Hid (((w1.alloc (.cells #[.slice A1 n1 c1] 24))).cell? ⟨w1.heap.size, 0, none⟩ = some (.slice A1 n1 c1)) := (cell_at (World.alloc_heap_new w1 _) 0).trans rfl
      have HC := Lib.hid (corebegun_true (w1.alloc (.cells #[.slice A1 n1 c1] 24)))
      go_wp2_with fail
      refine HC.out.mono ?_
      rintro e w2 ⟨rfl, bq⟩
      clear HC
      have HBc := Lib.hid bq; clear bq
      have HBq : Hid (Below (w1.alloc (.cells #[.slice A1 n1 c1] 24)).heap.size (w1.alloc (.cells #[.slice A1 n1 c1] 24)) w2) := HBc.out
      replace HB : Hid (Below w.heap.size w w2) := HB.out.trans (HBq.out.mono HB.out.size)
      replace HR : Hid (RdG w2 (w2).heap.size A R) := HR.out.on HBq.out
      replace K0 : Hid ((w2).cell? ⟨w.heap.size, 0, none⟩ = some (.slice A N c)) := (HBq.out.cell (World.block_lt_of_cell? _ _ K0.out)).trans K0.out
      replace K1 : Hid ((w2).cell? ⟨w1.heap.size, 0, none⟩ = some (.slice A1 n1 c1)) := (HBq.out.cell (World.block_lt_of_cell? _ _ K1.out)).trans K1.out
      clear HBq
      clear HBc
      have HC := Lib.hid (graphbegun_true w2)
      go_wp2_with fail
      refine HC.out.mono ?_
      rintro e w3 ⟨rfl, bq⟩
      clear HC
      have HBc := Lib.hid bq; clear bq
      have HBq : Hid (Below w2.heap.size w2 w3) := HBc.out
      replace HB : Hid (Below w.heap.size w w3) := HB.out.trans (HBq.out.mono HB.out.size)
      replace HR : Hid (RdG w3 (w3).heap.size A R) := HR.out.on HBq.out
      replace K0 : Hid ((w3).cell? ⟨w.heap.size, 0, none⟩ = some (.slice A N c)) := (HBq.out.cell (World.block_lt_of_cell? _ _ K0.out)).trans K0.out
      replace K1 : Hid ((w3).cell? ⟨w1.heap.size, 0, none⟩ = some (.slice A1 n1 c1)) := (HBq.out.cell (World.block_lt_of_cell? _ _ K1.out)).trans K1.out
      clear HBq
      clear HBc
      go_wp2
      go_ret
      exact ⟨rfl, HB.out⟩
    · have hbok := gboth_ok hok (by omega)
      have hnb := near_bothF hok (by omega)
      obtain ⟨l, hl⟩ := cn_list (near g) N
      have hlb : (gboth g).length = N := by rw [gboth_length]; exact hgl
      have HBo : Hid (∀ A c V, RdG V V.heap.size A R → Calls Try.prog 33 #[.agg #[.slice A N c]] V fun e w' => ∃ A R c, e = .returned (.tuple #[.agg #[.slice A N c], .int .i64 0]) ∧ gs R = (gboth g).map ns ∧ RdG w' w'.heap.size A R ∧ Below V.heap.size V w') := fun A c V h => by
        have := gboth_okW R g hg hok N hN A c V h
        rw [if_neg hb6, if_neg hb6] at this
        unfold GrP at this; rw [gboth_length, hgl] at this; exact this
      have HNu := Lib.hid (lw_num R g hg hok N hgl l hl)
      have HTh := Lib.hid (lw_thr R g hg hok N hgl)
      have HPa := Lib.hid (lw_pai R g hg hok N hgl)
      have HNu2 : Hid (∀ R2 A c V, gs R2 = (gboth g).map ns → RdG V V.heap.size A R2 → Calls Try.prog 23 #[.agg #[.slice A N c]] V fun e w' => ∃ b, e = .returned (.tuple #[.slice (some ⟨b, 0, none⟩) N N, .int .i64 0]) ∧ RdV w' w'.heap.size (some ⟨b, 0, none⟩) (zc (ns l)) ∧ Below V.heap.size V w') := fun R2 A c V h2 h => lw_num R2 (gboth g) h2 hbok N hlb l (by rw [hnb]; exact hl) A c V h
      have HTh2 : Hid (∀ R2 A c V, gs R2 = (gboth g).map ns → RdG V V.heap.size A R2 → Calls Try.prog 24 #[.agg #[.slice A N c]] V fun e w' => ∃ b, e = .returned (.tuple #[.slice (some ⟨b, 0, none⟩) N N, .int .i64 ((trs (near g) N).length : Int), .int .i64 0]) ∧ RdV w' w'.heap.size (some ⟨b, 0, none⟩) (zc (ns (cnl N (trs (near g) N)))) ∧ Below V.heap.size V w') := fun R2 A c V h2 h => by
        have := lw_thr R2 (gboth g) h2 hbok N hlb A c V h
        rwa [hnb] at this
      have HPa2 : Hid (∀ R2 A c V, gs R2 = (gboth g).map ns → RdG V V.heap.size A R2 → Calls Try.prog 25 #[.agg #[.slice A N c]] V fun e w' => ∃ b, e = .returned (.tuple #[.slice (some ⟨b, 0, none⟩) N N, .int .i64 0]) ∧ RdV w' w'.heap.size (some ⟨b, 0, none⟩) (zc (pairing (near g) N)) ∧ Below V.heap.size V w') := fun R2 A c V h2 h => by
        have := lw_pai R2 (gboth g) h2 hbok N hlb A c V h
        rwa [hnb] at this
      have HL : Hid (l.length = N ∧ (pairing (near g) N).length = N) := ⟨hl.1, (pairing_ok (near_comm g) N).len⟩
      have HT0 : Hid ((cnl N (trs (near g) N)).length = N) := cnl_length _ _
      clear e0 hg hok hgl hb6 hN hn hbok hnb hl hlb HOk HG0
      generalize cnl N (trs (near g) N) = tl at *
      generalize (trs (near g) N).length = many at *
      generalize pairing (near g) N = P at *
      generalize gboth g = gb at *
      have HB : Hid (Below w.heap.size w w) := Below.refl _ w
      have HR := Lib.hid hA; clear hA
      go_enter Try.func12, Try.ntmps12
      have HBq : Hid (Below w.heap.size w (w.alloc (.cells #[.slice A N c] 24))) := one_below _ _
      replace HB : Hid (Below w.heap.size w (w.alloc (.cells #[.slice A N c] 24))) := HB.out.trans (HBq.out.mono HB.out.size)
      replace HR : Hid (RdG (w.alloc (.cells #[.slice A N c] 24)) ((w.alloc (.cells #[.slice A N c] 24))).heap.size A R) := HR.out.on HBq.out
      clear HBq
      have K0 : Hid (((w.alloc (.cells #[.slice A N c] 24))).cell? ⟨w.heap.size, 0, none⟩ = some (.slice A N c)) := (cell_at (World.alloc_heap_new w _) 0).trans rfl
      have HC := Lib.hid (HBo.out A c _ HR.out)
      have k_K0 := K0.out
      go_wp2_with fail
      clear k_K0
      refine HC.out.mono ?_
      rintro e w1 ⟨A1, R1, c1, rfl, g1, h1, bq⟩
      clear HC
      have HBc := Lib.hid bq; clear bq
      have HBq : Hid (Below (w.alloc (.cells #[.slice A N c] 24)).heap.size (w.alloc (.cells #[.slice A N c] 24)) w1) := HBc.out
      replace HB : Hid (Below w.heap.size w w1) := HB.out.trans (HBq.out.mono HB.out.size)
      replace HR : Hid (RdG w1 (w1).heap.size A R) := HR.out.on HBq.out
      replace K0 : Hid ((w1).cell? ⟨w.heap.size, 0, none⟩ = some (.slice A N c)) := (HBq.out.cell (World.block_lt_of_cell? _ _ K0.out)).trans K0.out
      clear HBq
      clear HBc
      have G1 := Lib.hid g1; clear g1
      have H1 : Hid (RdG w1 (w1).heap.size A1 R1) := h1
      clear h1
      have HBq : Hid (Below w1.heap.size w1 (w1.alloc (.cells #[.slice A1 N c1] 24))) := one_below _ _
      replace HB : Hid (Below w.heap.size w (w1.alloc (.cells #[.slice A1 N c1] 24))) := HB.out.trans (HBq.out.mono HB.out.size)
      replace HR : Hid (RdG (w1.alloc (.cells #[.slice A1 N c1] 24)) ((w1.alloc (.cells #[.slice A1 N c1] 24))).heap.size A R) := HR.out.on HBq.out
      replace K0 : Hid (((w1.alloc (.cells #[.slice A1 N c1] 24))).cell? ⟨w.heap.size, 0, none⟩ = some (.slice A N c)) := (HBq.out.cell (World.block_lt_of_cell? _ _ K0.out)).trans K0.out
      replace H1 : Hid (RdG (w1.alloc (.cells #[.slice A1 N c1] 24)) ((w1.alloc (.cells #[.slice A1 N c1] 24))).heap.size A1 R1) := H1.out.on HBq.out
      clear HBq
      have K1 : Hid (((w1.alloc (.cells #[.slice A1 N c1] 24))).cell? ⟨w1.heap.size, 0, none⟩ = some (.slice A1 N c1)) := (cell_at (World.alloc_heap_new w1 _) 0).trans rfl
      have HC := Lib.hid (corebegun_true (w1.alloc (.cells #[.slice A1 N c1] 24)))
      go_wp2_with fail
      refine HC.out.mono ?_
      rintro e w2 ⟨rfl, bq⟩
      clear HC
      have HBc := Lib.hid bq; clear bq
      have HBq : Hid (Below (w1.alloc (.cells #[.slice A1 N c1] 24)).heap.size (w1.alloc (.cells #[.slice A1 N c1] 24)) w2) := HBc.out
      replace HB : Hid (Below w.heap.size w w2) := HB.out.trans (HBq.out.mono HB.out.size)
      replace HR : Hid (RdG w2 (w2).heap.size A R) := HR.out.on HBq.out
      replace K0 : Hid ((w2).cell? ⟨w.heap.size, 0, none⟩ = some (.slice A N c)) := (HBq.out.cell (World.block_lt_of_cell? _ _ K0.out)).trans K0.out
      replace H1 : Hid (RdG w2 (w2).heap.size A1 R1) := H1.out.on HBq.out
      replace K1 : Hid ((w2).cell? ⟨w1.heap.size, 0, none⟩ = some (.slice A1 N c1)) := (HBq.out.cell (World.block_lt_of_cell? _ _ K1.out)).trans K1.out
      clear HBq
      clear HBc
      have HC := Lib.hid (graphbegun_true w2)
      go_wp2_with fail
      refine HC.out.mono ?_
      rintro e w3 ⟨rfl, bq⟩
      clear HC
      have HBc := Lib.hid bq; clear bq
      have HBq : Hid (Below w2.heap.size w2 w3) := HBc.out
      replace HB : Hid (Below w.heap.size w w3) := HB.out.trans (HBq.out.mono HB.out.size)
      replace HR : Hid (RdG w3 (w3).heap.size A R) := HR.out.on HBq.out
      replace K0 : Hid ((w3).cell? ⟨w.heap.size, 0, none⟩ = some (.slice A N c)) := (HBq.out.cell (World.block_lt_of_cell? _ _ K0.out)).trans K0.out
      replace H1 : Hid (RdG w3 (w3).heap.size A1 R1) := H1.out.on HBq.out
      replace K1 : Hid ((w3).cell? ⟨w1.heap.size, 0, none⟩ = some (.slice A1 N c1)) := (HBq.out.cell (World.block_lt_of_cell? _ _ K1.out)).trans K1.out
      clear HBq
      clear HBc
      have HC := Lib.hid (HNu.out A c _ HR.out)
      have k_K0 := K0.out
      go_wp2_with fail
      clear k_K0
      refine HC.out.mono ?_
      rintro e w4 ⟨b1, rfl, q1, bq⟩
      clear HC
      have HBc := Lib.hid bq; clear bq
      have HBq : Hid (Below w3.heap.size w3 w4) := HBc.out
      replace HB : Hid (Below w.heap.size w w4) := HB.out.trans (HBq.out.mono HB.out.size)
      replace HR : Hid (RdG w4 (w4).heap.size A R) := HR.out.on HBq.out
      replace K0 : Hid ((w4).cell? ⟨w.heap.size, 0, none⟩ = some (.slice A N c)) := (HBq.out.cell (World.block_lt_of_cell? _ _ K0.out)).trans K0.out
      replace H1 : Hid (RdG w4 (w4).heap.size A1 R1) := H1.out.on HBq.out
      replace K1 : Hid ((w4).cell? ⟨w1.heap.size, 0, none⟩ = some (.slice A1 N c1)) := (HBq.out.cell (World.block_lt_of_cell? _ _ K1.out)).trans K1.out
      clear HBq
      clear HBc
      have Q1 : Hid (RdV w4 (w4).heap.size (some ⟨b1, 0, none⟩) (zc (ns l))) := q1
      clear q1
      have HC := Lib.hid (HNu2.out R1 A1 c1 _ G1.out H1.out)
      have k_K1 := K1.out
      go_wp2_with fail
      clear k_K1
      refine HC.out.mono ?_
      rintro e w5 ⟨b2, rfl, q2, bq⟩
      clear HC
      have HBc := Lib.hid bq; clear bq
      have HBq : Hid (Below w4.heap.size w4 w5) := HBc.out
      replace HB : Hid (Below w.heap.size w w5) := HB.out.trans (HBq.out.mono HB.out.size)
      replace HR : Hid (RdG w5 (w5).heap.size A R) := HR.out.on HBq.out
      replace K0 : Hid ((w5).cell? ⟨w.heap.size, 0, none⟩ = some (.slice A N c)) := (HBq.out.cell (World.block_lt_of_cell? _ _ K0.out)).trans K0.out
      replace H1 : Hid (RdG w5 (w5).heap.size A1 R1) := H1.out.on HBq.out
      replace K1 : Hid ((w5).cell? ⟨w1.heap.size, 0, none⟩ = some (.slice A1 N c1)) := (HBq.out.cell (World.block_lt_of_cell? _ _ K1.out)).trans K1.out
      replace Q1 : Hid (RdV w5 (w5).heap.size (some ⟨b1, 0, none⟩) (zc (ns l))) := Q1.out.on HBq.out
      clear HBq
      clear HBc
      have Q2 : Hid (RdV w5 (w5).heap.size (some ⟨b2, 0, none⟩) (zc (ns l))) := q2
      clear q2
      have HC := Lib.hid (HTh.out A c _ HR.out)
      have k_K0 := K0.out
      go_wp2_with fail
      clear k_K0
      refine HC.out.mono ?_
      rintro e w6 ⟨b3, rfl, q3, bq⟩
      clear HC
      have HBc := Lib.hid bq; clear bq
      have HBq : Hid (Below w5.heap.size w5 w6) := HBc.out
      replace HB : Hid (Below w.heap.size w w6) := HB.out.trans (HBq.out.mono HB.out.size)
      replace HR : Hid (RdG w6 (w6).heap.size A R) := HR.out.on HBq.out
      replace K0 : Hid ((w6).cell? ⟨w.heap.size, 0, none⟩ = some (.slice A N c)) := (HBq.out.cell (World.block_lt_of_cell? _ _ K0.out)).trans K0.out
      replace H1 : Hid (RdG w6 (w6).heap.size A1 R1) := H1.out.on HBq.out
      replace K1 : Hid ((w6).cell? ⟨w1.heap.size, 0, none⟩ = some (.slice A1 N c1)) := (HBq.out.cell (World.block_lt_of_cell? _ _ K1.out)).trans K1.out
      replace Q1 : Hid (RdV w6 (w6).heap.size (some ⟨b1, 0, none⟩) (zc (ns l))) := Q1.out.on HBq.out
      replace Q2 : Hid (RdV w6 (w6).heap.size (some ⟨b2, 0, none⟩) (zc (ns l))) := Q2.out.on HBq.out
      clear HBq
      clear HBc
      have Q3 : Hid (RdV w6 (w6).heap.size (some ⟨b3, 0, none⟩) (zc (ns tl))) := q3
      clear q3
      have HC := Lib.hid (HTh2.out R1 A1 c1 _ G1.out H1.out)
      have k_K1 := K1.out
      go_wp2_with fail
      clear k_K1
      refine HC.out.mono ?_
      rintro e w7 ⟨b4, rfl, q4, bq⟩
      clear HC
      have HBc := Lib.hid bq; clear bq
      have HBq : Hid (Below w6.heap.size w6 w7) := HBc.out
      replace HB : Hid (Below w.heap.size w w7) := HB.out.trans (HBq.out.mono HB.out.size)
      replace HR : Hid (RdG w7 (w7).heap.size A R) := HR.out.on HBq.out
      replace K0 : Hid ((w7).cell? ⟨w.heap.size, 0, none⟩ = some (.slice A N c)) := (HBq.out.cell (World.block_lt_of_cell? _ _ K0.out)).trans K0.out
      replace H1 : Hid (RdG w7 (w7).heap.size A1 R1) := H1.out.on HBq.out
      replace K1 : Hid ((w7).cell? ⟨w1.heap.size, 0, none⟩ = some (.slice A1 N c1)) := (HBq.out.cell (World.block_lt_of_cell? _ _ K1.out)).trans K1.out
      replace Q1 : Hid (RdV w7 (w7).heap.size (some ⟨b1, 0, none⟩) (zc (ns l))) := Q1.out.on HBq.out
      replace Q2 : Hid (RdV w7 (w7).heap.size (some ⟨b2, 0, none⟩) (zc (ns l))) := Q2.out.on HBq.out
      replace Q3 : Hid (RdV w7 (w7).heap.size (some ⟨b3, 0, none⟩) (zc (ns tl))) := Q3.out.on HBq.out
      clear HBq
      clear HBc
      have Q4 : Hid (RdV w7 (w7).heap.size (some ⟨b4, 0, none⟩) (zc (ns tl))) := q4
      clear q4
      have HC := Lib.hid (HPa.out A c _ HR.out)
      have k_K0 := K0.out
      go_wp2_with fail
      clear k_K0
      refine HC.out.mono ?_
      rintro e w8 ⟨b5, rfl, q5, bq⟩
      clear HC
      have HBc := Lib.hid bq; clear bq
      have HBq : Hid (Below w7.heap.size w7 w8) := HBc.out
      replace HB : Hid (Below w.heap.size w w8) := HB.out.trans (HBq.out.mono HB.out.size)
      replace HR : Hid (RdG w8 (w8).heap.size A R) := HR.out.on HBq.out
      replace K0 : Hid ((w8).cell? ⟨w.heap.size, 0, none⟩ = some (.slice A N c)) := (HBq.out.cell (World.block_lt_of_cell? _ _ K0.out)).trans K0.out
      replace H1 : Hid (RdG w8 (w8).heap.size A1 R1) := H1.out.on HBq.out
      replace K1 : Hid ((w8).cell? ⟨w1.heap.size, 0, none⟩ = some (.slice A1 N c1)) := (HBq.out.cell (World.block_lt_of_cell? _ _ K1.out)).trans K1.out
      replace Q1 : Hid (RdV w8 (w8).heap.size (some ⟨b1, 0, none⟩) (zc (ns l))) := Q1.out.on HBq.out
      replace Q2 : Hid (RdV w8 (w8).heap.size (some ⟨b2, 0, none⟩) (zc (ns l))) := Q2.out.on HBq.out
      replace Q3 : Hid (RdV w8 (w8).heap.size (some ⟨b3, 0, none⟩) (zc (ns tl))) := Q3.out.on HBq.out
      replace Q4 : Hid (RdV w8 (w8).heap.size (some ⟨b4, 0, none⟩) (zc (ns tl))) := Q4.out.on HBq.out
      clear HBq
      clear HBc
      have Q5 : Hid (RdV w8 (w8).heap.size (some ⟨b5, 0, none⟩) (zc P)) := q5
      clear q5
      have HC := Lib.hid (HPa2.out R1 A1 c1 _ G1.out H1.out)
      have k_K1 := K1.out
      go_wp2_with fail
      clear k_K1
      refine HC.out.mono ?_
      rintro e w9 ⟨b6, rfl, q6, bq⟩
      clear HC
      have HBc := Lib.hid bq; clear bq
      have HBq : Hid (Below w8.heap.size w8 w9) := HBc.out
      replace HB : Hid (Below w.heap.size w w9) := HB.out.trans (HBq.out.mono HB.out.size)
      replace HR : Hid (RdG w9 (w9).heap.size A R) := HR.out.on HBq.out
      replace K0 : Hid ((w9).cell? ⟨w.heap.size, 0, none⟩ = some (.slice A N c)) := (HBq.out.cell (World.block_lt_of_cell? _ _ K0.out)).trans K0.out
      replace H1 : Hid (RdG w9 (w9).heap.size A1 R1) := H1.out.on HBq.out
      replace K1 : Hid ((w9).cell? ⟨w1.heap.size, 0, none⟩ = some (.slice A1 N c1)) := (HBq.out.cell (World.block_lt_of_cell? _ _ K1.out)).trans K1.out
      replace Q1 : Hid (RdV w9 (w9).heap.size (some ⟨b1, 0, none⟩) (zc (ns l))) := Q1.out.on HBq.out
      replace Q2 : Hid (RdV w9 (w9).heap.size (some ⟨b2, 0, none⟩) (zc (ns l))) := Q2.out.on HBq.out
      replace Q3 : Hid (RdV w9 (w9).heap.size (some ⟨b3, 0, none⟩) (zc (ns tl))) := Q3.out.on HBq.out
      replace Q4 : Hid (RdV w9 (w9).heap.size (some ⟨b4, 0, none⟩) (zc (ns tl))) := Q4.out.on HBq.out
      replace Q5 : Hid (RdV w9 (w9).heap.size (some ⟨b5, 0, none⟩) (zc P)) := Q5.out.on HBq.out
      clear HBq
      clear HBc
      have Q6 : Hid (RdV w9 (w9).heap.size (some ⟨b6, 0, none⟩) (zc P)) := q6
      clear q6
      have HC := Lib.hid (si_true l N N HL.out.1 HL.out.1 (by omega) _ _ N N _ Q1.out Q2.out)
      go_wp2_with fail
      refine HC.out.mono ?_
      rintro e w10 ⟨rfl, bq⟩
      clear HC
      have HBc := Lib.hid bq; clear bq
      have HBq : Hid (Below w9.heap.size w9 w10) := HBc.out
      replace HB : Hid (Below w.heap.size w w10) := HB.out.trans (HBq.out.mono HB.out.size)
      replace HR : Hid (RdG w10 (w10).heap.size A R) := HR.out.on HBq.out
      replace K0 : Hid ((w10).cell? ⟨w.heap.size, 0, none⟩ = some (.slice A N c)) := (HBq.out.cell (World.block_lt_of_cell? _ _ K0.out)).trans K0.out
      replace H1 : Hid (RdG w10 (w10).heap.size A1 R1) := H1.out.on HBq.out
      replace K1 : Hid ((w10).cell? ⟨w1.heap.size, 0, none⟩ = some (.slice A1 N c1)) := (HBq.out.cell (World.block_lt_of_cell? _ _ K1.out)).trans K1.out
      replace Q1 : Hid (RdV w10 (w10).heap.size (some ⟨b1, 0, none⟩) (zc (ns l))) := Q1.out.on HBq.out
      replace Q2 : Hid (RdV w10 (w10).heap.size (some ⟨b2, 0, none⟩) (zc (ns l))) := Q2.out.on HBq.out
      replace Q3 : Hid (RdV w10 (w10).heap.size (some ⟨b3, 0, none⟩) (zc (ns tl))) := Q3.out.on HBq.out
      replace Q4 : Hid (RdV w10 (w10).heap.size (some ⟨b4, 0, none⟩) (zc (ns tl))) := Q4.out.on HBq.out
      replace Q5 : Hid (RdV w10 (w10).heap.size (some ⟨b5, 0, none⟩) (zc P)) := Q5.out.on HBq.out
      replace Q6 : Hid (RdV w10 (w10).heap.size (some ⟨b6, 0, none⟩) (zc P)) := Q6.out.on HBq.out
      clear HBq
      clear HBc
      have HC := Lib.hid (si_true tl N N HT0.out HT0.out (by omega) _ _ N N _ Q3.out Q4.out)
      go_wp2_with fail
      refine HC.out.mono ?_
      rintro e w11 ⟨rfl, bq⟩
      clear HC
      have HBc := Lib.hid bq; clear bq
      have HBq : Hid (Below w10.heap.size w10 w11) := HBc.out
      replace HB : Hid (Below w.heap.size w w11) := HB.out.trans (HBq.out.mono HB.out.size)
      replace HR : Hid (RdG w11 (w11).heap.size A R) := HR.out.on HBq.out
      replace K0 : Hid ((w11).cell? ⟨w.heap.size, 0, none⟩ = some (.slice A N c)) := (HBq.out.cell (World.block_lt_of_cell? _ _ K0.out)).trans K0.out
      replace H1 : Hid (RdG w11 (w11).heap.size A1 R1) := H1.out.on HBq.out
      replace K1 : Hid ((w11).cell? ⟨w1.heap.size, 0, none⟩ = some (.slice A1 N c1)) := (HBq.out.cell (World.block_lt_of_cell? _ _ K1.out)).trans K1.out
      replace Q1 : Hid (RdV w11 (w11).heap.size (some ⟨b1, 0, none⟩) (zc (ns l))) := Q1.out.on HBq.out
      replace Q2 : Hid (RdV w11 (w11).heap.size (some ⟨b2, 0, none⟩) (zc (ns l))) := Q2.out.on HBq.out
      replace Q3 : Hid (RdV w11 (w11).heap.size (some ⟨b3, 0, none⟩) (zc (ns tl))) := Q3.out.on HBq.out
      replace Q4 : Hid (RdV w11 (w11).heap.size (some ⟨b4, 0, none⟩) (zc (ns tl))) := Q4.out.on HBq.out
      replace Q5 : Hid (RdV w11 (w11).heap.size (some ⟨b5, 0, none⟩) (zc P)) := Q5.out.on HBq.out
      replace Q6 : Hid (RdV w11 (w11).heap.size (some ⟨b6, 0, none⟩) (zc P)) := Q6.out.on HBq.out
      clear HBq
      clear HBc
      have hsi := sameI_any w11 _ _ N N P P (by rw [HL.out.2]; omega) Q5.out Q6.out
      rw [HL.out.2, decide_eq_true rfl] at hsi
      have HC := Lib.hid (hsi)
      go_wp2_with fail
      refine HC.out.mono ?_
      rintro e w12 ⟨rfl, bq⟩
      clear HC
      have HBc := Lib.hid bq; clear bq
      have HBq : Hid (Below w11.heap.size w11 w12) := HBc.out
      replace HB : Hid (Below w.heap.size w w12) := HB.out.trans (HBq.out.mono HB.out.size)
      replace HR : Hid (RdG w12 (w12).heap.size A R) := HR.out.on HBq.out
      replace K0 : Hid ((w12).cell? ⟨w.heap.size, 0, none⟩ = some (.slice A N c)) := (HBq.out.cell (World.block_lt_of_cell? _ _ K0.out)).trans K0.out
      replace H1 : Hid (RdG w12 (w12).heap.size A1 R1) := H1.out.on HBq.out
      replace K1 : Hid ((w12).cell? ⟨w1.heap.size, 0, none⟩ = some (.slice A1 N c1)) := (HBq.out.cell (World.block_lt_of_cell? _ _ K1.out)).trans K1.out
      replace Q1 : Hid (RdV w12 (w12).heap.size (some ⟨b1, 0, none⟩) (zc (ns l))) := Q1.out.on HBq.out
      replace Q2 : Hid (RdV w12 (w12).heap.size (some ⟨b2, 0, none⟩) (zc (ns l))) := Q2.out.on HBq.out
      replace Q3 : Hid (RdV w12 (w12).heap.size (some ⟨b3, 0, none⟩) (zc (ns tl))) := Q3.out.on HBq.out
      replace Q4 : Hid (RdV w12 (w12).heap.size (some ⟨b4, 0, none⟩) (zc (ns tl))) := Q4.out.on HBq.out
      replace Q5 : Hid (RdV w12 (w12).heap.size (some ⟨b5, 0, none⟩) (zc P)) := Q5.out.on HBq.out
      replace Q6 : Hid (RdV w12 (w12).heap.size (some ⟨b6, 0, none⟩) (zc P)) := Q6.out.on HBq.out
      clear HBq
      clear HBc
      clear hsi
      have t20 : ((many : Int) == (many : Int)) = true := by simp
      go_wp2
      go_ret
      exact ⟨rfl, HB.out⟩
  · obtain ⟨e1, he1⟩ : ∃ e1, grE (gs R) = e1 := ⟨_, rfl⟩
    have hne : e1 ≠ 0 := by rw [← he1]; exact e0
    have HBe : Hid (∀ A c V, RdG V V.heap.size A R → Calls Try.prog 33 #[.agg #[.slice A N c]] V fun e w' => ∃ A1 n1 c1, e = .returned (.tuple #[.agg #[.slice A1 n1 c1], .int .i64 e1]) ∧ Below V.heap.size V w') := fun A c V h => (gboth_e R N hN hn e1 he1 hne A c V h).mono fun e w' ⟨A1, R1, c1, q1, _, _, q4⟩ => ⟨A1, _, c1, q1, q4⟩
    clear e0 he1 hN hn
    have u1 : (e1 != 0) = true := by simpa using hne
    have t1 : (e1 == 0) = false := by simpa using hne
    clear hne
    have HB : Hid (Below w.heap.size w w) := Below.refl _ w
    have HR := Lib.hid hA; clear hA
    go_enter Try.func12, Try.ntmps12
    have HBq : Hid (Below w.heap.size w (w.alloc (.cells #[.slice A N c] 24))) := one_below _ _
    replace HB : Hid (Below w.heap.size w (w.alloc (.cells #[.slice A N c] 24))) := HB.out.trans (HBq.out.mono HB.out.size)
    replace HR : Hid (RdG (w.alloc (.cells #[.slice A N c] 24)) ((w.alloc (.cells #[.slice A N c] 24))).heap.size A R) := HR.out.on HBq.out
    clear HBq
    have K0 : Hid (((w.alloc (.cells #[.slice A N c] 24))).cell? ⟨w.heap.size, 0, none⟩ = some (.slice A N c)) := (cell_at (World.alloc_heap_new w _) 0).trans rfl
    have HC := Lib.hid (HBe.out A c _ HR.out)
    have k_K0 := K0.out
    go_wp2_with fail
    clear k_K0
    refine HC.out.mono ?_
    rintro e w1 ⟨A1, n1, c1, rfl, bq⟩
    clear HC
    have HBc := Lib.hid bq; clear bq
    have HBq : Hid (Below (w.alloc (.cells #[.slice A N c] 24)).heap.size (w.alloc (.cells #[.slice A N c] 24)) w1) := HBc.out
    replace HB : Hid (Below w.heap.size w w1) := HB.out.trans (HBq.out.mono HB.out.size)
    replace HR : Hid (RdG w1 (w1).heap.size A R) := HR.out.on HBq.out
    replace K0 : Hid ((w1).cell? ⟨w.heap.size, 0, none⟩ = some (.slice A N c)) := (HBq.out.cell (World.block_lt_of_cell? _ _ K0.out)).trans K0.out
    clear HBq
    clear HBc
    have HBq : Hid (Below w1.heap.size w1 (w1.alloc (.cells #[.slice A1 n1 c1] 24))) := one_below _ _
    replace HB : Hid (Below w.heap.size w (w1.alloc (.cells #[.slice A1 n1 c1] 24))) := HB.out.trans (HBq.out.mono HB.out.size)
    replace HR : Hid (RdG (w1.alloc (.cells #[.slice A1 n1 c1] 24)) ((w1.alloc (.cells #[.slice A1 n1 c1] 24))).heap.size A R) := HR.out.on HBq.out
    replace K0 : Hid (((w1.alloc (.cells #[.slice A1 n1 c1] 24))).cell? ⟨w.heap.size, 0, none⟩ = some (.slice A N c)) := (HBq.out.cell (World.block_lt_of_cell? _ _ K0.out)).trans K0.out
    clear HBq
    have K1 : Hid (((w1.alloc (.cells #[.slice A1 n1 c1] 24))).cell? ⟨w1.heap.size, 0, none⟩ = some (.slice A1 n1 c1)) := (cell_at (World.alloc_heap_new w1 _) 0).trans rfl
    have HC := Lib.hid (corebegun_true (w1.alloc (.cells #[.slice A1 n1 c1] 24)))
    go_wp2_with fail
    refine HC.out.mono ?_
    rintro e w2 ⟨rfl, bq⟩
    clear HC
    have HBc := Lib.hid bq; clear bq
    have HBq : Hid (Below (w1.alloc (.cells #[.slice A1 n1 c1] 24)).heap.size (w1.alloc (.cells #[.slice A1 n1 c1] 24)) w2) := HBc.out
    replace HB : Hid (Below w.heap.size w w2) := HB.out.trans (HBq.out.mono HB.out.size)
    replace HR : Hid (RdG w2 (w2).heap.size A R) := HR.out.on HBq.out
    replace K0 : Hid ((w2).cell? ⟨w.heap.size, 0, none⟩ = some (.slice A N c)) := (HBq.out.cell (World.block_lt_of_cell? _ _ K0.out)).trans K0.out
    replace K1 : Hid ((w2).cell? ⟨w1.heap.size, 0, none⟩ = some (.slice A1 n1 c1)) := (HBq.out.cell (World.block_lt_of_cell? _ _ K1.out)).trans K1.out
    clear HBq
    clear HBc
    have HC := Lib.hid (graphbegun_true w2)
    go_wp2_with fail
    refine HC.out.mono ?_
    rintro e w3 ⟨rfl, bq⟩
    clear HC
    have HBc := Lib.hid bq; clear bq
    have HBq : Hid (Below w2.heap.size w2 w3) := HBc.out
    replace HB : Hid (Below w.heap.size w w3) := HB.out.trans (HBq.out.mono HB.out.size)
    replace HR : Hid (RdG w3 (w3).heap.size A R) := HR.out.on HBq.out
    replace K0 : Hid ((w3).cell? ⟨w.heap.size, 0, none⟩ = some (.slice A N c)) := (HBq.out.cell (World.block_lt_of_cell? _ _ K0.out)).trans K0.out
    replace K1 : Hid ((w3).cell? ⟨w1.heap.size, 0, none⟩ = some (.slice A1 n1 c1)) := (HBq.out.cell (World.block_lt_of_cell? _ _ K1.out)).trans K1.out
    clear HBq
    clear HBc
    go_wp2
    go_ret
    exact ⟨rfl, HB.out⟩
end

section
section
open Go.ChangeShapes Go.WideShapes Go.ChangeAt Go.RowKit Go.Joins

theorem cells3i : Try.prog.cellsOf 3 = 1 := by kernel_rfl

set_option maxRecDepth 100000 in
/-- Numbers that were handed in. -/
theorem open_zs {H : Type} {enc : TypeId × Value → H} {W : World} {base : Nat} {v : Value} {d : DataW H} {p : List MemPlace}
    (hv : Value.okWide Try.prog W .any base 25 v) (h : DataW.Trod enc Try.prog W 0 (fun _ => true) true 25 v d p) :
    ∃ (A : Option Addr) (c : Nat) (xs : List Int), v = .slice A xs.length c ∧ xs.length ≤ c ∧ (A = none → c = 0) ∧ RdV W W.heap.size A (zc xs) ∧ (∀ x ∈ xs, -9223372036854775808 ≤ x ∧ x ≤ 9223372036854775807) ∧ xs.length ≤ 9223372036854775807 := by
  obtain ⟨a0, len0, cap0, rfl⟩ := okWide_slice Try.underlying25 hv
  obtain ⟨fuel, hf⟩ := h
  rcases open_ints Try.underlying25 Try.underlying3 cells3i hf with ⟨hcs, _⟩ | ⟨x, l, c, zs, hcs, _, hl, hm, hz, _, hcell, hwz⟩
  · simp [Value.cells] at hcs
    obtain ⟨rfl, rfl, rfl⟩ := hcs
    exact ⟨none, 0, [], rfl, by simp, fun _ => rfl, .inl rfl, by simp, by simp⟩
  · simp [Value.cells] at hcs
    obtain ⟨rfl, rfl, rfl⟩ := hcs
    have hzc : zs.length = cap0 := by simpa using hz
    have hlen : (zs.take len0).length = len0 := by rw [List.length_take]; omega
    unfold maxLen at hm
    refine ⟨some x, cap0, zs.take len0, by rw [hlen], by rw [hlen]; exact hl, (fun h => by cases h), ?_, ?_, by rw [hlen]; omega⟩
    · rcases Nat.eq_zero_or_pos len0 with h0 | h0
      · left; rw [h0]; rfl
      · obtain ⟨b, off, rfl, hc⟩ := ints_at hcell (by omega)
        refine .inr ⟨b, off, rfl, lt_of_cell (hc 0 (by omega)), fun i v hi => ?_⟩
        have hil : i < len0 := by
          rcases Nat.lt_or_ge i len0 with h | h
          · exact h
          · rw [List.getElem?_eq_none (by rw [zc_length, hlen]; exact h)] at hi; cases hi
        rw [zc_get _ i (by rw [hlen]; exact hil)] at hi
        cases hi
        rw [hc i (by omega)]
        have hz0 : zs.getD i 0 = zs[i]'(by omega) := by rw [List.getD_eq_getElem?_getD, List.getElem?_eq_getElem (by omega)]; rfl
        have e1 : (zs.take len0)[i]?.getD 0 = zs[i]'(by omega) := by
          rw [List.getElem?_take_of_lt hil, List.getElem?_eq_getElem (by omega)]; rfl
        rw [e1, hz0]
    · intro n hn
      exact bounds_i64 (hwz n (List.mem_of_mem_take hn))
end

section
open Go.ChangeShapes Go.WideShapes Go.ChangeAt Go.RowKit Go.Joins Go.Deep

theorem cellsG : Try.prog.cellsOf 24 = 1 := by kernel_rfl
theorem cellsL1 : Try.prog.cellsOf 25 = 1 := by kernel_rfl
theorem cellsL2 : Try.prog.cellsOf 22 = 1 := by kernel_rfl
theorem bytesL1 : Try.prog.bytesOf 25 = 24 := by kernel_rfl
theorem bytesI1 : Try.prog.bytesOf 3 = 8 := by kernel_rfl
theorem weightsAll_mem {H : Type} {P : Program} {e : TypeId} {n : Nat} : ∀ {l : List (DataW H)} {d : DataW H}, d ∈ l → n ∈ d.weights P e → n ∈ DataW.weightsAll P e l
  | x :: t, d, hd, hn => by
    simp only [DataW.weightsAll, List.mem_append]
    rcases List.mem_cons.1 hd with rfl | h
    · exact .inl hn
    · exact .inr (weightsAll_mem h hn)
theorem add_plG (b off k : Nat) : (⟨b, off, none⟩ : Addr).add k = ⟨b, off + k, none⟩ := by unfold Addr.add; split <;> simp_all
theorem zc_mem {l : List Int} {i : Nat} {v : Value} (h : (zc l)[i]? = some v) : ∃ hi : i < l.length, v = .int .i64 l[i] := by
  unfold zc at h
  rw [List.getElem?_map] at h
  obtain ⟨x, hx, rfl⟩ := Option.map_eq_some_iff.1 h
  obtain ⟨hi, rfl⟩ := List.getElem?_eq_some_iff.1 hx
  exact ⟨hi, rfl⟩
set_option maxRecDepth 100000 in
/-- A graph that was handed in. -/
theorem open_graph {H : Type} {enc : TypeId × Value → H} {W : World} {base : Nat} {v : Value} {d : DataW H} {p : List MemPlace}
    (hv : Value.okWide Try.prog W .any base 24 v) (h : DataW.Trod enc Try.prog W 0 (fun _ => true) true 24 v d p)
    (hz : ∀ n ∈ d.weights Try.prog 24, n ≤ reachBytes) :
    ∃ (A : Option Addr) (c : Nat) (R : List Rw), v = .agg #[.slice A R.length c] ∧ RdG W W.heap.size A R ∧ R.length ≤ 140737488355328 := by
  obtain ⟨cs, rfl, hsz⟩ := okWide_struct Try.underlying24 hv
  obtain ⟨c0, rfl⟩ := Array.size_eq_one_iff.1 (hsz.trans cellsG)
  obtain ⟨fuel, hf⟩ := h
  obtain ⟨y0, n, hx, _, h0⟩ := trod_struct1 Try.underlying24 hf
  simp only [Prod.mk.injEq] at hx
  obtain ⟨rfl, rfl⟩ := hx
  simp [Value.cells, cellsL2] at h0
  have hz0 : ∀ n ∈ y0.1.weights Try.prog 22, n ≤ reachBytes := fun n hn => hz n (by
    unfold DataW.weights
    rw [Try.underlying24]
    simp only [List.map_cons, List.map_nil, DataW.weightsEach, List.append_nil]
    exact hn)
  have hrb := reachBytes_lt
  rcases open_int_rows Try.underlying22 Try.underlying25 Try.underlying3 cellsL1 cells3i h0 with ⟨hcs, _⟩ | ⟨a, len, cap, A, L, C, Z, hcs, _, hl, hm, hx, hrow⟩
  · simp at hcs
    subst hcs
    exact ⟨none, 0, [], rfl, ⟨.inl rfl, fun r hr => by simp at hr⟩, by simp⟩
  · simp at hcs
    subst hcs
    rw [hx] at hz0
    have hlen : (len + (cap - len)) * 24 ≤ reachBytes := hz0 _ (by
      simp only [DataW.weights, Try.underlying22, List.length_map, List.length_range, bytesL1]
      exact List.mem_cons_self)
    have hrl : ∀ r, r < len → L r ≤ 140737488355328 := fun r hr => by
      obtain ⟨_, q1, q2, q3, _, q5, _⟩ := hrow r (by omega)
      cases hA : A r with
      | none => rw [q5 hA] at q1; omega
      | some a' =>
        have := hz0 (((Z r).take (L r)).length * 8 + ((Z r).drop (L r)).length * 8) (by
          simp only [DataW.weights, Try.underlying22, List.length_map, List.length_range, bytesL1]
          refine List.mem_cons_of_mem _ (List.mem_append.2 (.inl (weightsAll_mem (List.mem_map.2 ⟨r, List.mem_range.2 hr, rfl⟩) ?_)))
          unfold intRow
          rw [hA]
          simp only [DataW.weights, Try.underlying25, bytesI1, lits, List.length_map]
          refine List.mem_cons.2 (.inl ?_)
          omega)
        rw [List.length_take] at this
        omega
    refine ⟨some a, cap, (List.range len).map fun r => (A r, C r, (Z r).take (L r)), by simp, ⟨?_, ?_⟩, by simp; omega⟩
    · rcases Nat.eq_zero_or_pos len with h0 | h0
      · left; rw [h0]; rfl
      · obtain ⟨b, off, spot⟩ := a
        have hspot : spot = none := by simpa [Addr.add] using World.cell?_spot (hrow 0 (by omega)).1
        subst hspot
        refine .inr ⟨b, off, rfl, ?_, fun i v hi => ?_⟩
        · have := (hrow 0 (by omega)).1
          exact lt_of_cell (p := ⟨b, off + 0, none⟩) (by rw [← add_plG]; exact this)
        · unfold rcl at hi
          rw [List.getElem?_map, List.getElem?_map] at hi
          obtain ⟨y, hy, rfl⟩ := Option.map_eq_some_iff.1 hi
          obtain ⟨j, hj, rfl⟩ := Option.map_eq_some_iff.1 hy
          obtain ⟨hil, rfl⟩ := List.getElem?_eq_some_iff.1 hj
          rw [List.length_range] at hil
          have := hrow i (by omega)
          rw [add_plG] at this
          simp only [List.getElem_range]
          unfold sl
          simp only [List.length_take]
          rw [this.1]
          have e : min (L i) (Z i).length = L i := by have q1 := this.2.1; have q2 := this.2.2.2.1; omega
          rw [e]
    · intro r hr
      obtain ⟨i, hi, rfl⟩ := List.mem_map.1 hr
      have hil := List.mem_range.1 hi
      obtain ⟨q0, q1, q2, q3, q4, q5, q6⟩ := hrow i (by omega)
      refine ⟨?_, by simp only [List.length_take]; have := hrl i hil; omega⟩
      simp only
      rcases Nat.eq_zero_or_pos (L i) with h0 | h0
      · left; rw [h0]; rfl
      · cases hA : A i with
        | none => rw [q5 hA] at q1; omega
        | some a' =>
          obtain ⟨_, q7⟩ := q6 a' hA
          obtain ⟨b, off, spot⟩ := a'
          have hspot : spot = none := by simpa [Addr.add] using World.cell?_spot (q7 0 (by omega))
          subst hspot
          refine .inr ⟨b, off, rfl, ?_, fun j v hj => ?_⟩
          · have := q7 0 (by omega)
            exact lt_of_cell (p := ⟨b, off + 0, none⟩) (by rw [← add_plG]; exact this)
          · obtain ⟨hjl, rfl⟩ := zc_mem hj
            have hjl2 : j < L i := by rw [List.length_take] at hjl; omega
            have := q7 j (by omega)
            rw [add_plG] at this
            rw [this]
            simp [List.getD_eq_getElem?_getD, List.getElem?_eq_getElem (show j < (Z i).length by omega)]
end
end

section
open Go.ChangeShapes Go.WideShapes Go.ChangeAt Go.RowKit
open Go.ChangeMaps (open_string shut_string)

set_option linter.unusedVariables false
set_option maxRecDepth 100000 in
theorem coreBoth_lifted (os : Os) (started : os.Started) (H : Type) (enc : TypeId × Value → H) :
    ReturnsInHanded {} Try.checked os 12 .any (Rows.coreBothSpec.pre6 enc Try.prog Try.f12 Rows.coreBothRow.domain false) (Rows.coreBothSpec.post enc Try.prog Try.f12 false true false false) := by
  refine returnsInHanded_of_change_sized (C := Try.checked) own started (by kernel_rfl) Try.func12
    (ChangeSpec.witness6 (enc := enc) (C := Try.checked) false ⟨#[], #[.agg #[.slice none 0 0]], []⟩ 8 (by kernel_rfl) (by kernel_rfl) (by kernel_rfl) (by kernel_rfl)) ?_
  intro W base args ds gs before hval0 hW hcnd hzz _
  have hval : ∀ (j : Nat) t v, Try.f12.params[j]? = some t → args[j]? = some v → Value.okWide Try.prog W .any base t v := hval0
  have hW' := hW
  obtain ⟨p, q, hA0, hV, rfl, hfz, hnd⟩ := hW
  have hA : DataW.TrodAll enc Try.prog W 0 (fun _ => true) true Try.f12.params.toList args.toList ds p := hA0
  rw [Try.params12] at hA hval hzz
  obtain ⟨v0, vs0, d0, ds0, p0, q0, hargs, rfl, rfl, h0, r0⟩ := trodAll_cons hA
  obtain ⟨rfl, rfl, rfl⟩ := trodAll_nil r0
  obtain rfl : args = #[v0] := by cases args; simp_all
  obtain ⟨rfl, rfl⟩ := trodVars_none hV
  have k0 := h0
  have lt0 : ∀ x ∈ p0, x.block < W.heap.size := by obtain ⟨m, hm⟩ := k0; exact DataW.trod_lt m _ _ _ hm
  obtain ⟨A0, c0, R0, rfl, rd0, nn0⟩ := open_graph (hval 0 24 v0 rfl rfl) h0 (fun n hn => of_decide_eq_true (List.all_eq_true.1 hzz n (DataW.weights_mem_each (j := 0) (t := 24) (d := d0) rfl rfl n hn)))
  clear hA0 hval0
  refine (coreBoth_law A0 c0 R0 W rd0 nn0).mono fun e W' ⟨he, bel⟩ => ?_
  subst he
  exact ⟨_, rfl, _, _, _, [], _, [], hW', trodAll_mk1 (shut_bool Try.underlying4 _), (trodAll_cons_mk (Below.trod laidOut (by kernel_rfl) (of_decide_eq_true (by kernel_rfl)) k0 bel lt0) trodAll_mk0), rfl, bel.frame _, fun h => by cases h⟩

theorem CoreBoth_holds : Rows.CoreBothSaid :=
  OpenClaim.holds_of_wide 12 Try.f12 rfl rfl rfl rfl rfl rfl rfl ⟨rfl, rfl, rfl, rfl, rfl⟩ rfl rfl rfl rfl rfl (by kernel_rfl) Try.func12 (by kernel_rfl)
    (of_decide_eq_true (by kernel_rfl)) (by unfold Func.isWrapper; first | (rw [if_pos (by decide +kernel)]; kernel_rfl) | (rw [if_neg (by decide +kernel)]; exact ⟨rfl, rfl⟩))
    (fun os started H enc _ => coreBoth_lifted os started H enc)
#print axioms CoreBoth_holds
end
end Go.Proofs.Ytnbjhldpadjgfaa
