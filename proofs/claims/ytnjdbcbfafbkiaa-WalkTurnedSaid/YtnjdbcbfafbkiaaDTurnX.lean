/- The law WalkTurned: turned round it is as far back, parts and the farthest are the same; for whatever graph and nodes. -/
import Derived.Test.YtnjdbcbfafbkiaaDJB
import Derived.Test.YtnjdbcbfafbkiaaWOp
namespace Go.Proofs.Ytnjdbcbfafbkiaa

section
set_option maxRecDepth 100000
set_option linter.unusedVariables false
open Go.RowKit Go.Shelf

set_option maxHeartbeats 8000000 in
theorem walkTurned_law (A : Option Addr) (c : Nat) (R : List Rw) (s t : Int) (w : World) (hA : RdG w w.heap.size A R) (hn : R.length ≤ 140737488355328) (hs0 : -9223372036854775808 ≤ s ∧ s ≤ 9223372036854775807) (ht0 : -9223372036854775808 ≤ t ∧ t ≤ 9223372036854775807) :
    Calls Try.prog 4 #[.agg #[.slice A R.length c], .int .i64 s, .int .i64 t] w fun e w' => e = .returned (.bool true) ∧ Below w.heap.size w w' := by
  clear hs0 ht0
  obtain ⟨N, hN⟩ : ∃ N, R.length = N := ⟨_, rfl⟩
  rw [hN] at hn ⊢
  by_cases e0 : grE (gs R) = 0
  · obtain ⟨g, hg, hok⟩ := grE_zero _ e0
    have hgl : g.length = N := by have := congrArg List.length hg; rw [gs_length, List.length_map] at this; omega
    have hN1 : N ≤ 100 := by have := hok.nodes; omega
    have hlt : ∀ R2, gs R2 = (gturn g).map ns → R2.length = N := fun R2 h2 => by have := congrArg List.length h2; rw [gs_length, List.length_map, gturn_length] at this; omega
    have HT : Hid (∀ A c V, RdG V V.heap.size A R → Calls Try.prog 18 #[.agg #[.slice A N c]] V fun e w' => ∃ A R c, e = .returned (.tuple #[.agg #[.slice A N c], .int .i64 0]) ∧ gs R = (gturn g).map ns ∧ RdG w' w'.heap.size A R ∧ Below V.heap.size V w') := fun A c V h => by
      have := gturn_okW R g hg hok N hN A c V h
      unfold GrP at this; rw [gturn_length, hgl] at this; exact this
    have HP : Hid (∀ A c V, RdG V V.heap.size A R → Calls Try.prog 20 #[.agg #[.slice A N c]] V fun e w' => ∃ b p, e = .returned (.tuple #[.slice (some ⟨b, 0, none⟩) N N, .int .i64 0]) ∧ Pa g p ∧ RdV w' w'.heap.size (some ⟨b, 0, none⟩) (zc (ns p)) ∧ Below V.heap.size V w') := fun A c V h => (parts_ok R g hg hok N hN A c V h).mono fun e w' ⟨b, p, q1, q2, q3⟩ => ⟨b, p, q1, q2, q3.rd, q3.low⟩
    have HP2 : Hid (∀ R2 A c V, gs R2 = (gturn g).map ns → RdG V V.heap.size A R2 → Calls Try.prog 20 #[.agg #[.slice A N c]] V fun e w' => ∃ b p, e = .returned (.tuple #[.slice (some ⟨b, 0, none⟩) N N, .int .i64 0]) ∧ Pa g p ∧ RdV w' w'.heap.size (some ⟨b, 0, none⟩) (zc (ns p)) ∧ Below V.heap.size V w') := fun R2 A c V h2 h => (parts_ok R2 (gturn g) h2 (gturn_ok hok) N (hlt R2 h2) A c V h).mono fun e w' ⟨b, p, q1, q2, q3⟩ => ⟨b, p, q1, q2.turn hok, q3.rd, q3.low⟩
    have HM : Hid (∀ A c V, RdG V V.heap.size A R → Calls Try.prog 21 #[.agg #[.slice A N c]] V fun e w' => ∃ r, e = .returned (.tuple #[.int .i64 r, .int .i64 0]) ∧ MoG g r ∧ Below V.heap.size V w') := fun A c V h => most_ok R g hg hok N hN A c V h
    have HM2 : Hid (∀ R2 A c V, gs R2 = (gturn g).map ns → RdG V V.heap.size A R2 → Calls Try.prog 21 #[.agg #[.slice A N c]] V fun e w' => ∃ r, e = .returned (.tuple #[.int .i64 r, .int .i64 0]) ∧ MoG (gturn g) r ∧ Below V.heap.size V w') := fun R2 A c V h2 h => most_ok R2 (gturn g) h2 (gturn_ok hok) N (hlt R2 h2) A c V h
    have HUq : Hid ((∀ p q, Pa g p → Pa g q → p = q) ∧ (∀ r t, MoG g r → MoG (gturn g) t → r = t) ∧ (∀ p, Pa g p → p.length = N)) := ⟨fun p q h k => h.uniq k, fun r t h k => (h.turn hok).uniq k, fun p h => h.len.trans hgl⟩
    have HS : Hid (∀ l A B c d V, l.length = N → RdV V V.heap.size A (zc (ns l)) → RdV V V.heap.size B (zc (ns l)) → Calls Try.prog 22 #[.slice A N c, .slice B N d] V fun e w' => e = .returned (.bool true) ∧ Below V.heap.size V w') := fun l A B c d V hl h1 h2 => si_true l N N hl hl (by omega) A B c d V h1 h2
    have HFt : Hid (∀ (s : Int), ¬ (0 ≤ s ∧ s < (N : Int)) → ∀ A c V, RdG V V.heap.size A R → Calls Try.prog 14 #[.agg #[.slice A N c], .int .i64 s] V fun e w' => ∃ A n c e1, e = .returned (.tuple #[.slice A n c, .int .i64 e1]) ∧ (e1 == 0) = false ∧ Below V.heap.size V w') := fun s hs A c V h => (far_tot R N hN (by omega) s A c V h).mono fun e w' ⟨A, n, c, e1, q1, q2, q3⟩ => ⟨A, n, c, e1, q1, by rw [q2]; exact decide_eq_false (fun q => hs (by have := (cnE_zero q).2 s (by simp); rwa [gs_length, hN] at this)), q3⟩
    have HFt2 : Hid (∀ (t : Int), ¬ (0 ≤ t ∧ t < (N : Int)) → ∀ R2 A c V, gs R2 = (gturn g).map ns → RdG V V.heap.size A R2 → Calls Try.prog 14 #[.agg #[.slice A N c], .int .i64 t] V fun e w' => ∃ A n c e1, e = .returned (.tuple #[.slice A n c, .int .i64 e1]) ∧ (e1 == 0) = false ∧ Below V.heap.size V w') := fun t ht R2 A c V h2 h => (far_tot R2 N (hlt R2 h2) (by omega) t A c V h).mono fun e w' ⟨A, n, c, e1, q1, q2, q3⟩ => ⟨A, n, c, e1, q1, by rw [q2]; exact decide_eq_false (fun q => ht (by have := (cnE_zero q).2 t (by simp); rwa [gs_length, hlt R2 h2] at this)), q3⟩
    have HFs : Hid (∀ (t : Int) R2 A c V, gs R2 = (gturn g).map ns → RdG V V.heap.size A R2 → Calls Try.prog 14 #[.agg #[.slice A N c], .int .i64 t] V fun e w' => ∃ A n c e1, e = .returned (.tuple #[.slice A n c, .int .i64 e1]) ∧ Below V.heap.size V w') := fun t R2 A c V h2 h => (far_tot R2 N (hlt R2 h2) (by omega) t A c V h).mono fun e w' ⟨A, n, c, e1, q1, _, q3⟩ => ⟨A, n, c, e1, q1, q3⟩
    have HF : Hid (∀ (k : Nat) F, k < N → Fa g k F → ∀ A c V, RdG V V.heap.size A R → Calls Try.prog 14 #[.agg #[.slice A N c], .int .i64 (k : Int)] V fun e w' => ∃ b, e = .returned (.tuple #[.slice (some ⟨b, 0, none⟩) N N, .int .i64 0]) ∧ RdV w' w'.heap.size (some ⟨b, 0, none⟩) (zc F) ∧ Below V.heap.size V w') := fun k F hk hF A c V h => (far_ok R g hg hok N hN k hk F hF A c V h).mono fun e w' ⟨b, q1, q2⟩ => ⟨b, q1, q2.rd, q2.low⟩
    have HF2 : Hid (∀ (k : Nat) F, k < N → Fa (gturn g) k F → ∀ R2 A c V, gs R2 = (gturn g).map ns → RdG V V.heap.size A R2 → Calls Try.prog 14 #[.agg #[.slice A N c], .int .i64 (k : Int)] V fun e w' => ∃ b, e = .returned (.tuple #[.slice (some ⟨b, 0, none⟩) N N, .int .i64 0]) ∧ RdV w' w'.heap.size (some ⟨b, 0, none⟩) (zc F) ∧ Below V.heap.size V w') := fun k F hk hF R2 A c V h2 h => (far_ok R2 (gturn g) h2 (gturn_ok hok) N (hlt R2 h2) k hk F hF A c V h).mono fun e w' ⟨b, q1, q2⟩ => ⟨b, q1, q2.rd, q2.low⟩
    have HOk : Hid (GOk g ∧ g.length = N) := ⟨hok, hgl⟩
    clear e0 hN hn hg hok hgl hlt
    have HB : Hid (Below w.heap.size w w) := Below.refl _ w
    have HR := Lib.hid hA; clear hA
    go_enter Try.func4, Try.ntmps4
    have HBq : Hid (Below w.heap.size w (w.alloc (.cells #[.slice A N c] 24))) := one_below _ _
    replace HB : Hid (Below w.heap.size w (w.alloc (.cells #[.slice A N c] 24))) := HB.out.trans (HBq.out.mono HB.out.size)
    replace HR : Hid (RdG (w.alloc (.cells #[.slice A N c] 24)) ((w.alloc (.cells #[.slice A N c] 24))).heap.size A R) := HR.out.on HBq.out
    clear HBq
    have K0 : Hid (((w.alloc (.cells #[.slice A N c] 24))).cell? ⟨w.heap.size, 0, none⟩ = some (.slice A N c)) := (cell_at (World.alloc_heap_new w _) 0).trans rfl
    have HC := Lib.hid (HT.out A c _ HR.out)
    go_wp2_with fail
    refine HC.out.mono ?_
    rintro e w1 ⟨A1, R1, c1, rfl, g1, h1, bq⟩
    clear HC
    have HBc := Lib.hid bq; clear bq
    have HBq : Hid (Below (w.alloc (.cells #[.slice A N c] 24)).heap.size (w.alloc (.cells #[.slice A N c] 24)) w1) := HBc.out
    replace HB : Hid (Below w.heap.size w w1) := HB.out.trans (HBq.out.mono HB.out.size)
    replace HR : Hid (RdG w1 (w1).heap.size A R) := HR.out.on HBq.out
    replace K0 : Hid ((w1).cell? ⟨w.heap.size, 0, none⟩ = some (.slice A N c)) := (HBq.out.cell (World.block_lt_of_cell? _ _ K0.out)).trans K0.out
    clear HBq
    clear HBc
    have G1 := Lib.hid g1; clear g1
    have H1 : Hid (RdG w1 (w1).heap.size A1 R1) := h1
    clear h1
    have HBq : Hid (Below w1.heap.size w1 (w1.alloc (.cells #[.slice A1 N c1] 24))) := one_below _ _
    replace HB : Hid (Below w.heap.size w (w1.alloc (.cells #[.slice A1 N c1] 24))) := HB.out.trans (HBq.out.mono HB.out.size)
    replace HR : Hid (RdG (w1.alloc (.cells #[.slice A1 N c1] 24)) ((w1.alloc (.cells #[.slice A1 N c1] 24))).heap.size A R) := HR.out.on HBq.out
    replace K0 : Hid (((w1.alloc (.cells #[.slice A1 N c1] 24))).cell? ⟨w.heap.size, 0, none⟩ = some (.slice A N c)) := (HBq.out.cell (World.block_lt_of_cell? _ _ K0.out)).trans K0.out
    replace H1 : Hid (RdG (w1.alloc (.cells #[.slice A1 N c1] 24)) ((w1.alloc (.cells #[.slice A1 N c1] 24))).heap.size A1 R1) := H1.out.on HBq.out
    clear HBq
    have K1 : Hid (((w1.alloc (.cells #[.slice A1 N c1] 24))).cell? ⟨w1.heap.size, 0, none⟩ = some (.slice A1 N c1)) := (cell_at (World.alloc_heap_new w1 _) 0).trans rfl
    have HC := Lib.hid (walkbegun_true (w1.alloc (.cells #[.slice A1 N c1] 24)))
    go_wp2_with fail
    refine HC.out.mono ?_
    rintro e w2 ⟨rfl, bq⟩
    clear HC
    have HBc := Lib.hid bq; clear bq
    have HBq : Hid (Below (w1.alloc (.cells #[.slice A1 N c1] 24)).heap.size (w1.alloc (.cells #[.slice A1 N c1] 24)) w2) := HBc.out
    replace HB : Hid (Below w.heap.size w w2) := HB.out.trans (HBq.out.mono HB.out.size)
    replace HR : Hid (RdG w2 (w2).heap.size A R) := HR.out.on HBq.out
    replace K0 : Hid ((w2).cell? ⟨w.heap.size, 0, none⟩ = some (.slice A N c)) := (HBq.out.cell (World.block_lt_of_cell? _ _ K0.out)).trans K0.out
    replace H1 : Hid (RdG w2 (w2).heap.size A1 R1) := H1.out.on HBq.out
    replace K1 : Hid ((w2).cell? ⟨w1.heap.size, 0, none⟩ = some (.slice A1 N c1)) := (HBq.out.cell (World.block_lt_of_cell? _ _ K1.out)).trans K1.out
    clear HBq
    clear HBc
    have HC := Lib.hid (graphbegun_true w2)
    go_wp2_with fail
    refine HC.out.mono ?_
    rintro e w3 ⟨rfl, bq⟩
    clear HC
    have HBc := Lib.hid bq; clear bq
    have HBq : Hid (Below w2.heap.size w2 w3) := HBc.out
    replace HB : Hid (Below w.heap.size w w3) := HB.out.trans (HBq.out.mono HB.out.size)
    replace HR : Hid (RdG w3 (w3).heap.size A R) := HR.out.on HBq.out
    replace K0 : Hid ((w3).cell? ⟨w.heap.size, 0, none⟩ = some (.slice A N c)) := (HBq.out.cell (World.block_lt_of_cell? _ _ K0.out)).trans K0.out
    replace H1 : Hid (RdG w3 (w3).heap.size A1 R1) := H1.out.on HBq.out
    replace K1 : Hid ((w3).cell? ⟨w1.heap.size, 0, none⟩ = some (.slice A1 N c1)) := (HBq.out.cell (World.block_lt_of_cell? _ _ K1.out)).trans K1.out
    clear HBq
    clear HBc
    have HC := Lib.hid (HP.out A c _ HR.out)
    have k_K0 := K0.out
    go_wp2_with fail
    clear k_K0
    refine HC.out.mono ?_
    rintro e w4 ⟨b4, p4, rfl, p4h, q4, bq⟩
    clear HC
    have HBc := Lib.hid bq; clear bq
    have HBq : Hid (Below w3.heap.size w3 w4) := HBc.out
    replace HB : Hid (Below w.heap.size w w4) := HB.out.trans (HBq.out.mono HB.out.size)
    replace HR : Hid (RdG w4 (w4).heap.size A R) := HR.out.on HBq.out
    replace K0 : Hid ((w4).cell? ⟨w.heap.size, 0, none⟩ = some (.slice A N c)) := (HBq.out.cell (World.block_lt_of_cell? _ _ K0.out)).trans K0.out
    replace H1 : Hid (RdG w4 (w4).heap.size A1 R1) := H1.out.on HBq.out
    replace K1 : Hid ((w4).cell? ⟨w1.heap.size, 0, none⟩ = some (.slice A1 N c1)) := (HBq.out.cell (World.block_lt_of_cell? _ _ K1.out)).trans K1.out
    clear HBq
    clear HBc
    have Q4 : Hid (RdV w4 (w4).heap.size (some ⟨b4, 0, none⟩) (zc (ns p4))) := q4
    clear q4
    have HC := Lib.hid (HP2.out R1 A1 c1 _ G1.out H1.out)
    have k_K1 := K1.out
    go_wp2_with fail
    clear k_K1
    refine HC.out.mono ?_
    rintro e w5 ⟨b5, p5, rfl, p5h, q5, bq⟩
    clear HC
    have HBc := Lib.hid bq; clear bq
    have HBq : Hid (Below w4.heap.size w4 w5) := HBc.out
    replace HB : Hid (Below w.heap.size w w5) := HB.out.trans (HBq.out.mono HB.out.size)
    replace HR : Hid (RdG w5 (w5).heap.size A R) := HR.out.on HBq.out
    replace K0 : Hid ((w5).cell? ⟨w.heap.size, 0, none⟩ = some (.slice A N c)) := (HBq.out.cell (World.block_lt_of_cell? _ _ K0.out)).trans K0.out
    replace H1 : Hid (RdG w5 (w5).heap.size A1 R1) := H1.out.on HBq.out
    replace K1 : Hid ((w5).cell? ⟨w1.heap.size, 0, none⟩ = some (.slice A1 N c1)) := (HBq.out.cell (World.block_lt_of_cell? _ _ K1.out)).trans K1.out
    replace Q4 : Hid (RdV w5 (w5).heap.size (some ⟨b4, 0, none⟩) (zc (ns p4))) := Q4.out.on HBq.out
    clear HBq
    clear HBc
    obtain rfl := HUq.out.1 p4 p5 p4h p5h
    have HPl : Hid (p4.length = N) := HUq.out.2.2 p4 p4h
    clear p4h p5h
    have Q5 : Hid (RdV w5 (w5).heap.size (some ⟨b5, 0, none⟩) (zc (ns p4))) := q5
    clear q5
    have HC := Lib.hid (HM.out A c _ HR.out)
    have k_K0 := K0.out
    go_wp2_with fail
    clear k_K0
    refine HC.out.mono ?_
    rintro e w6 ⟨m, rfl, mh, bq⟩
    clear HC
    have HBc := Lib.hid bq; clear bq
    have HBq : Hid (Below w5.heap.size w5 w6) := HBc.out
    replace HB : Hid (Below w.heap.size w w6) := HB.out.trans (HBq.out.mono HB.out.size)
    replace HR : Hid (RdG w6 (w6).heap.size A R) := HR.out.on HBq.out
    replace K0 : Hid ((w6).cell? ⟨w.heap.size, 0, none⟩ = some (.slice A N c)) := (HBq.out.cell (World.block_lt_of_cell? _ _ K0.out)).trans K0.out
    replace H1 : Hid (RdG w6 (w6).heap.size A1 R1) := H1.out.on HBq.out
    replace K1 : Hid ((w6).cell? ⟨w1.heap.size, 0, none⟩ = some (.slice A1 N c1)) := (HBq.out.cell (World.block_lt_of_cell? _ _ K1.out)).trans K1.out
    replace Q4 : Hid (RdV w6 (w6).heap.size (some ⟨b4, 0, none⟩) (zc (ns p4))) := Q4.out.on HBq.out
    replace Q5 : Hid (RdV w6 (w6).heap.size (some ⟨b5, 0, none⟩) (zc (ns p4))) := Q5.out.on HBq.out
    clear HBq
    clear HBc
    have HC := Lib.hid (HM2.out R1 A1 c1 _ G1.out H1.out)
    have k_K1 := K1.out
    go_wp2_with fail
    clear k_K1
    refine HC.out.mono ?_
    rintro e w7 ⟨m2, rfl, mh2, bq⟩
    clear HC
    have HBc := Lib.hid bq; clear bq
    have HBq : Hid (Below w6.heap.size w6 w7) := HBc.out
    replace HB : Hid (Below w.heap.size w w7) := HB.out.trans (HBq.out.mono HB.out.size)
    replace HR : Hid (RdG w7 (w7).heap.size A R) := HR.out.on HBq.out
    replace K0 : Hid ((w7).cell? ⟨w.heap.size, 0, none⟩ = some (.slice A N c)) := (HBq.out.cell (World.block_lt_of_cell? _ _ K0.out)).trans K0.out
    replace H1 : Hid (RdG w7 (w7).heap.size A1 R1) := H1.out.on HBq.out
    replace K1 : Hid ((w7).cell? ⟨w1.heap.size, 0, none⟩ = some (.slice A1 N c1)) := (HBq.out.cell (World.block_lt_of_cell? _ _ K1.out)).trans K1.out
    replace Q4 : Hid (RdV w7 (w7).heap.size (some ⟨b4, 0, none⟩) (zc (ns p4))) := Q4.out.on HBq.out
    replace Q5 : Hid (RdV w7 (w7).heap.size (some ⟨b5, 0, none⟩) (zc (ns p4))) := Q5.out.on HBq.out
    clear HBq
    clear HBc
    obtain rfl := HUq.out.2.1 m m2 mh mh2
    have HMo := Lib.hid mh; clear mh mh2
    have HC := Lib.hid (HS.out p4 _ _ N N _ HPl.out Q4.out Q5.out)
    go_wp2_with fail
    refine HC.out.mono ?_
    rintro e w8 ⟨rfl, bq⟩
    clear HC
    have HBc := Lib.hid bq; clear bq
    have HBq : Hid (Below w7.heap.size w7 w8) := HBc.out
    replace HB : Hid (Below w.heap.size w w8) := HB.out.trans (HBq.out.mono HB.out.size)
    replace HR : Hid (RdG w8 (w8).heap.size A R) := HR.out.on HBq.out
    replace K0 : Hid ((w8).cell? ⟨w.heap.size, 0, none⟩ = some (.slice A N c)) := (HBq.out.cell (World.block_lt_of_cell? _ _ K0.out)).trans K0.out
    replace H1 : Hid (RdG w8 (w8).heap.size A1 R1) := H1.out.on HBq.out
    replace K1 : Hid ((w8).cell? ⟨w1.heap.size, 0, none⟩ = some (.slice A1 N c1)) := (HBq.out.cell (World.block_lt_of_cell? _ _ K1.out)).trans K1.out
    replace Q4 : Hid (RdV w8 (w8).heap.size (some ⟨b4, 0, none⟩) (zc (ns p4))) := Q4.out.on HBq.out
    replace Q5 : Hid (RdV w8 (w8).heap.size (some ⟨b5, 0, none⟩) (zc (ns p4))) := Q5.out.on HBq.out
    clear HBq
    clear HBc
    clear Q4 Q5
    by_cases hs : 0 ≤ s ∧ s < (N : Int)
    · obtain ⟨k, rfl⟩ := Int.eq_ofNat_of_zero_le hs.1
      have hk : k < N := by omega
      obtain ⟨F, hF⟩ := fa_ex g k
      have HFl : Hid (F.length = N) := by show _ = _; rw [hF.len]; exact HOk.out.2
      have HFa := Lib.hid hF
      clear hs
      have HC := Lib.hid (HF.out k F hk hF A c _ HR.out)
      have k_K0 := K0.out
      go_wp2_with fail
      clear k_K0
      refine HC.out.mono ?_
      rintro e w9 ⟨b9, rfl, q9, bq⟩
      clear HC
      have HBc := Lib.hid bq; clear bq
      have HBq : Hid (Below w8.heap.size w8 w9) := HBc.out
      replace HB : Hid (Below w.heap.size w w9) := HB.out.trans (HBq.out.mono HB.out.size)
      replace HR : Hid (RdG w9 (w9).heap.size A R) := HR.out.on HBq.out
      replace K0 : Hid ((w9).cell? ⟨w.heap.size, 0, none⟩ = some (.slice A N c)) := (HBq.out.cell (World.block_lt_of_cell? _ _ K0.out)).trans K0.out
      replace H1 : Hid (RdG w9 (w9).heap.size A1 R1) := H1.out.on HBq.out
      replace K1 : Hid ((w9).cell? ⟨w1.heap.size, 0, none⟩ = some (.slice A1 N c1)) := (HBq.out.cell (World.block_lt_of_cell? _ _ K1.out)).trans K1.out
      clear HBq
      clear HBc
      clear hF
      have Q9 : Hid (RdV w9 (w9).heap.size (some ⟨b9, 0, none⟩) (zc F)) := q9
      clear q9
      by_cases ht : 0 ≤ t ∧ t < (N : Int)
      · obtain ⟨l, rfl⟩ := Int.eq_ofNat_of_zero_le ht.1
        have hl : l < N := by omega
        obtain ⟨K, hK⟩ := fa_ex (gturn g) l
        have HE : Hid (fv F l = fv K k ∧ fv F l ≤ m ∧ K.length = N) := by
          have h1 := HOk.out.2
          refine ⟨Fa.turn HOk.out.1 (by omega) (by omega) HFa.out hK, HMo.out.2.1 k (by omega) F HFa.out l (by omega), ?_⟩
          rw [hK.len, gturn_length]; exact h1
        clear ht
        have HC := Lib.hid (HF2.out l K hl hK R1 A1 c1 _ G1.out H1.out)
        have k_K1 := K1.out
        go_wp2_with fail
        clear k_K1
        refine HC.out.mono ?_
        rintro e w10 ⟨b10, rfl, q10, bq⟩
        clear HC
        have HBc := Lib.hid bq; clear bq
        have HBq : Hid (Below w9.heap.size w9 w10) := HBc.out
        replace HB : Hid (Below w.heap.size w w10) := HB.out.trans (HBq.out.mono HB.out.size)
        replace HR : Hid (RdG w10 (w10).heap.size A R) := HR.out.on HBq.out
        replace K0 : Hid ((w10).cell? ⟨w.heap.size, 0, none⟩ = some (.slice A N c)) := (HBq.out.cell (World.block_lt_of_cell? _ _ K0.out)).trans K0.out
        replace H1 : Hid (RdG w10 (w10).heap.size A1 R1) := H1.out.on HBq.out
        replace K1 : Hid ((w10).cell? ⟨w1.heap.size, 0, none⟩ = some (.slice A1 N c1)) := (HBq.out.cell (World.block_lt_of_cell? _ _ K1.out)).trans K1.out
        replace Q9 : Hid (RdV w10 (w10).heap.size (some ⟨b9, 0, none⟩) (zc F)) := Q9.out.on HBq.out
        clear HBq
        clear HBc
        have k1 := rdv_at Q9.out (N := N) l (by rw [HFl.out]; exact hl)
        have k2 := rdv_at q10 (N := N) k (by rw [HE.out.2.2]; exact hk)
        have t3 : (fv F l == fv K k) = true := by rw [HE.out.1]; simp
        have t4 : decide (fv F l ≤ m) = true := decide_eq_true HE.out.2.1
        have t5 : (0 : Int) ≤ (l : Int) := by omega
        have t6 : (l : Int) < (N : Int) := by omega
        have t7 : (0 : Int) ≤ (k : Int) := by omega
        have t8 : (k : Int) < (N : Int) := by omega
        clear q10 hK
        generalize fv F l = u1 at *
        generalize fv K k = u2 at *
        go_wp2
        go_quiet (fail)
        go_wp2
        go_ret
        exact ⟨rfl, below_drewN HB.out _⟩
      · have HC := Lib.hid (HFt2.out t ht R1 A1 c1 _ G1.out H1.out)
        have k_K1 := K1.out
        go_wp2_with fail
        clear k_K1
        refine HC.out.mono ?_
        rintro e w10 ⟨A10, n10, c10, e10, rfl, t10, bq⟩
        clear HC
        have HBc := Lib.hid bq; clear bq
        have HBq : Hid (Below w9.heap.size w9 w10) := HBc.out
        replace HB : Hid (Below w.heap.size w w10) := HB.out.trans (HBq.out.mono HB.out.size)
        replace HR : Hid (RdG w10 (w10).heap.size A R) := HR.out.on HBq.out
        replace K0 : Hid ((w10).cell? ⟨w.heap.size, 0, none⟩ = some (.slice A N c)) := (HBq.out.cell (World.block_lt_of_cell? _ _ K0.out)).trans K0.out
        replace H1 : Hid (RdG w10 (w10).heap.size A1 R1) := H1.out.on HBq.out
        replace K1 : Hid ((w10).cell? ⟨w1.heap.size, 0, none⟩ = some (.slice A1 N c1)) := (HBq.out.cell (World.block_lt_of_cell? _ _ K1.out)).trans K1.out
        replace Q9 : Hid (RdV w10 (w10).heap.size (some ⟨b9, 0, none⟩) (zc F)) := Q9.out.on HBq.out
        clear HBq
        clear HBc
        have u10 : (e10 != 0) = true := by simpa using t10
        go_wp2
        go_quiet (fail)
        go_wp2
        go_ret
        exact ⟨rfl, below_drewN HB.out _⟩
    · have HC := Lib.hid (HFt.out s hs A c _ HR.out)
      have k_K0 := K0.out
      go_wp2_with fail
      clear k_K0
      refine HC.out.mono ?_
      rintro e w9 ⟨A9, n9, c9, e9, rfl, t9, bq⟩
      clear HC
      have HBc := Lib.hid bq; clear bq
      have HBq : Hid (Below w8.heap.size w8 w9) := HBc.out
      replace HB : Hid (Below w.heap.size w w9) := HB.out.trans (HBq.out.mono HB.out.size)
      replace HR : Hid (RdG w9 (w9).heap.size A R) := HR.out.on HBq.out
      replace K0 : Hid ((w9).cell? ⟨w.heap.size, 0, none⟩ = some (.slice A N c)) := (HBq.out.cell (World.block_lt_of_cell? _ _ K0.out)).trans K0.out
      replace H1 : Hid (RdG w9 (w9).heap.size A1 R1) := H1.out.on HBq.out
      replace K1 : Hid ((w9).cell? ⟨w1.heap.size, 0, none⟩ = some (.slice A1 N c1)) := (HBq.out.cell (World.block_lt_of_cell? _ _ K1.out)).trans K1.out
      clear HBq
      clear HBc
      have HC := Lib.hid (HFs.out t R1 A1 c1 _ G1.out H1.out)
      have k_K1 := K1.out
      go_wp2_with fail
      clear k_K1
      refine HC.out.mono ?_
      rintro e w10 ⟨A10, n10, c10, e10, rfl, bq⟩
      clear HC
      have HBc := Lib.hid bq; clear bq
      have HBq : Hid (Below w9.heap.size w9 w10) := HBc.out
      replace HB : Hid (Below w.heap.size w w10) := HB.out.trans (HBq.out.mono HB.out.size)
      replace HR : Hid (RdG w10 (w10).heap.size A R) := HR.out.on HBq.out
      replace K0 : Hid ((w10).cell? ⟨w.heap.size, 0, none⟩ = some (.slice A N c)) := (HBq.out.cell (World.block_lt_of_cell? _ _ K0.out)).trans K0.out
      replace H1 : Hid (RdG w10 (w10).heap.size A1 R1) := H1.out.on HBq.out
      replace K1 : Hid ((w10).cell? ⟨w1.heap.size, 0, none⟩ = some (.slice A1 N c1)) := (HBq.out.cell (World.block_lt_of_cell? _ _ K1.out)).trans K1.out
      clear HBq
      clear HBc
      have u9 : (e9 != 0) = true := by simpa using t9
      go_wp2
      go_quiet (fail)
      go_wp2
      go_ret
      exact ⟨rfl, below_drewN HB.out _⟩
  · have HT : Hid (∀ A c V, RdG V V.heap.size A R → ∃ e1 : Int, (e1 == 0) = false ∧ Calls Try.prog 18 #[.agg #[.slice A N c]] V fun e w' => ∃ A c, e = .returned (.tuple #[.agg #[.slice A 0 c], .int .i64 e1]) ∧ Below V.heap.size V w') := fun A c V h => ⟨grE (gs R), by simpa using e0, (gturn_e R N hN hn _ rfl e0 A c V h).mono fun e w' ⟨A, R, c, q1, _, _, q4⟩ => ⟨A, c, q1, q4⟩⟩
    clear e0 hN hn
    have HB : Hid (Below w.heap.size w w) := Below.refl _ w
    have HR := Lib.hid hA; clear hA
    go_enter Try.func4, Try.ntmps4
    have HBq : Hid (Below w.heap.size w (w.alloc (.cells #[.slice A N c] 24))) := one_below _ _
    replace HB : Hid (Below w.heap.size w (w.alloc (.cells #[.slice A N c] 24))) := HB.out.trans (HBq.out.mono HB.out.size)
    replace HR : Hid (RdG (w.alloc (.cells #[.slice A N c] 24)) ((w.alloc (.cells #[.slice A N c] 24))).heap.size A R) := HR.out.on HBq.out
    clear HBq
    have K0 : Hid (((w.alloc (.cells #[.slice A N c] 24))).cell? ⟨w.heap.size, 0, none⟩ = some (.slice A N c)) := (cell_at (World.alloc_heap_new w _) 0).trans rfl
    obtain ⟨e1, t1, hc1⟩ := HT.out A c _ HR.out
    have HC1 := Lib.hid hc1; clear hc1
    have HC := Lib.hid (HC1.out)
    go_wp2_with fail
    refine HC.out.mono ?_
    rintro e w1 ⟨A1, c1, rfl, bq⟩
    clear HC
    have HBc := Lib.hid bq; clear bq
    have HBq : Hid (Below (w.alloc (.cells #[.slice A N c] 24)).heap.size (w.alloc (.cells #[.slice A N c] 24)) w1) := HBc.out
    replace HB : Hid (Below w.heap.size w w1) := HB.out.trans (HBq.out.mono HB.out.size)
    replace HR : Hid (RdG w1 (w1).heap.size A R) := HR.out.on HBq.out
    replace K0 : Hid ((w1).cell? ⟨w.heap.size, 0, none⟩ = some (.slice A N c)) := (HBq.out.cell (World.block_lt_of_cell? _ _ K0.out)).trans K0.out
    clear HBq
    clear HBc
    have HBq : Hid (Below w1.heap.size w1 (w1.alloc (.cells #[.slice A1 0 c1] 24))) := one_below _ _
    replace HB : Hid (Below w.heap.size w (w1.alloc (.cells #[.slice A1 0 c1] 24))) := HB.out.trans (HBq.out.mono HB.out.size)
    replace HR : Hid (RdG (w1.alloc (.cells #[.slice A1 0 c1] 24)) ((w1.alloc (.cells #[.slice A1 0 c1] 24))).heap.size A R) := HR.out.on HBq.out
    replace K0 : Hid (((w1.alloc (.cells #[.slice A1 0 c1] 24))).cell? ⟨w.heap.size, 0, none⟩ = some (.slice A N c)) := (HBq.out.cell (World.block_lt_of_cell? _ _ K0.out)).trans K0.out
    clear HBq
    have K1 : Hid (((w1.alloc (.cells #[.slice A1 0 c1] 24))).cell? ⟨w1.heap.size, 0, none⟩ = some (.slice A1 0 c1)) := (cell_at (World.alloc_heap_new w1 _) 0).trans rfl
    have HC := Lib.hid (walkbegun_true (w1.alloc (.cells #[.slice A1 0 c1] 24)))
    go_wp2_with fail
    refine HC.out.mono ?_
    rintro e w2 ⟨rfl, bq⟩
    clear HC
    have HBc := Lib.hid bq; clear bq
    have HBq : Hid (Below (w1.alloc (.cells #[.slice A1 0 c1] 24)).heap.size (w1.alloc (.cells #[.slice A1 0 c1] 24)) w2) := HBc.out
    replace HB : Hid (Below w.heap.size w w2) := HB.out.trans (HBq.out.mono HB.out.size)
    replace HR : Hid (RdG w2 (w2).heap.size A R) := HR.out.on HBq.out
    replace K0 : Hid ((w2).cell? ⟨w.heap.size, 0, none⟩ = some (.slice A N c)) := (HBq.out.cell (World.block_lt_of_cell? _ _ K0.out)).trans K0.out
    replace K1 : Hid ((w2).cell? ⟨w1.heap.size, 0, none⟩ = some (.slice A1 0 c1)) := (HBq.out.cell (World.block_lt_of_cell? _ _ K1.out)).trans K1.out
    clear HBq
    clear HBc
    have HC := Lib.hid (graphbegun_true w2)
    go_wp2_with fail
    refine HC.out.mono ?_
    rintro e w3 ⟨rfl, bq⟩
    clear HC
    have HBc := Lib.hid bq; clear bq
    have HBq : Hid (Below w2.heap.size w2 w3) := HBc.out
    replace HB : Hid (Below w.heap.size w w3) := HB.out.trans (HBq.out.mono HB.out.size)
    replace HR : Hid (RdG w3 (w3).heap.size A R) := HR.out.on HBq.out
    replace K0 : Hid ((w3).cell? ⟨w.heap.size, 0, none⟩ = some (.slice A N c)) := (HBq.out.cell (World.block_lt_of_cell? _ _ K0.out)).trans K0.out
    replace K1 : Hid ((w3).cell? ⟨w1.heap.size, 0, none⟩ = some (.slice A1 0 c1)) := (HBq.out.cell (World.block_lt_of_cell? _ _ K1.out)).trans K1.out
    clear HBq
    clear HBc
    go_wp2
    go_ret
    exact ⟨rfl, HB.out⟩
end

section
open Go.ChangeShapes Go.WideShapes Go.ChangeAt Go.RowKit
open Go.ChangeMaps (open_string shut_string)

set_option linter.unusedVariables false
set_option maxRecDepth 100000 in
theorem walkTurned_lifted (os : Os) (started : os.Started) (H : Type) (enc : TypeId × Value → H) :
    ReturnsInHanded {} Try.checked os 4 .any (Rows.walkTurnedSpec.pre6 enc Try.prog Try.f4 Rows.walkTurnedRow.domain false) (Rows.walkTurnedSpec.post enc Try.prog Try.f4 false true false false) := by
  refine returnsInHanded_of_change_sized (C := Try.checked) own started (by kernel_rfl) Try.func4
    (ChangeSpec.witness6 (enc := enc) (C := Try.checked) false ⟨#[], #[.agg #[.slice none 0 0], .int .i64 0, .int .i64 0], []⟩ 8 (by kernel_rfl) (by kernel_rfl) (by kernel_rfl) (by kernel_rfl)) ?_
  intro W base args ds gs before hval0 hW hcnd hzz _
  have hval : ∀ (j : Nat) t v, Try.f4.params[j]? = some t → args[j]? = some v → Value.okWide Try.prog W .any base t v := hval0
  have hW' := hW
  obtain ⟨p, q, hA0, hV, rfl, hfz, hnd⟩ := hW
  have hA : DataW.TrodAll enc Try.prog W 0 (fun _ => true) true Try.f4.params.toList args.toList ds p := hA0
  rw [Try.params4] at hA hval hzz
  obtain ⟨v0, vs0, d0, ds0, p0, q0, hargs, rfl, rfl, h0, r0⟩ := trodAll_cons hA
  obtain ⟨v1, vs1, d1, ds1, p1, q1, rfl, rfl, rfl, h1, r1⟩ := trodAll_cons r0
  obtain ⟨v2, vs2, d2, ds2, p2, q2, rfl, rfl, rfl, h2, r2⟩ := trodAll_cons r1
  obtain ⟨rfl, rfl, rfl⟩ := trodAll_nil r2
  obtain rfl : args = #[v0, v1, v2] := by cases args; simp_all
  obtain ⟨rfl, rfl⟩ := trodVars_none hV
  have k0 := h0
  have lt0 : ∀ x ∈ p0, x.block < W.heap.size := by obtain ⟨m, hm⟩ := k0; exact DataW.trod_lt m _ _ _ hm
  obtain ⟨A0, c0, R0, rfl, rd0, nn0⟩ := open_graph (hval 0 24 v0 rfl rfl) h0 (fun n hn => of_decide_eq_true (List.all_eq_true.1 hzz n (DataW.weights_mem_each (j := 0) (t := 24) (d := d0) rfl rfl n hn)))
  obtain ⟨x1, rfl, rfl, rfl, wx1⟩ := open_int Try.underlying3 (hval 1 3 v1 rfl rfl) h1
  have bd1 := bounds_i64 wx1
  obtain ⟨x2, rfl, rfl, rfl, wx2⟩ := open_int Try.underlying3 (hval 2 3 v2 rfl rfl) h2
  have bd2 := bounds_i64 wx2
  clear hA0 hval0
  refine (walkTurned_law A0 c0 R0 x1 x2 W rd0 nn0 bd1 bd2).mono fun e W' ⟨he, bel⟩ => ?_
  subst he
  exact ⟨_, rfl, _, _, _, [], _, [], hW', trodAll_mk1 (shut_bool Try.underlying4 _), (trodAll_cons_mk (Below.trod laidOut (by kernel_rfl) (of_decide_eq_true (by kernel_rfl)) k0 bel lt0) (trodAll_cons_mk (shut_int Try.underlying3 wx1) (trodAll_cons_mk (shut_int Try.underlying3 wx2) trodAll_mk0))), rfl, bel.frame _, fun h => by cases h⟩

theorem WalkTurned_holds : Rows.WalkTurnedSaid :=
  OpenClaim.holds_of_wide 4 Try.f4 rfl rfl rfl rfl rfl rfl rfl ⟨rfl, rfl, rfl, rfl, rfl⟩ rfl rfl rfl rfl rfl (by kernel_rfl) Try.func4 (by kernel_rfl)
    (of_decide_eq_true (by kernel_rfl)) (by unfold Func.isWrapper; first | (rw [if_pos (by decide +kernel)]; kernel_rfl) | (rw [if_neg (by decide +kernel)]; exact ⟨rfl, rfl⟩))
    (fun os started H enc _ => walkTurned_lifted os started H enc)
#print axioms WalkTurned_holds
end
end Go.Proofs.Ytnjdbcbfafbkiaa
