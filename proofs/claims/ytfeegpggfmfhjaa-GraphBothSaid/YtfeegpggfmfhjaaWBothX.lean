/- The law GraphBoth: with each arc its reverse, and nothing else; doing it again or turning it changes nothing; for whatever graph and arc. -/
import Derived.Test.YtfeegpggfmfhjaaWEnd
import Derived.Test.YtfeegpggfmfhjaaWOp
import Derived.Test.YtfeegpggfmfhjaaWOpA
namespace Go.Proofs.Ytfeegpggfmfhjaa

section
set_option maxRecDepth 100000
set_option linter.unusedVariables false
open Go.RowKit Go.Shelf

theorem gb_fail (g : List (List Nat)) (h : 600 < (bth (arcs 0 g)).length) (P : List (List Nat) → Int → Prop) (h2 : P [] 2) : P (if 600 < (bth (arcs 0 g)).length then [] else gboth g) (if 600 < (bth (arcs 0 g)).length then 2 else 0) := by
  rw [if_pos h, if_pos h]; exact h2
theorem row_of (R : List Rw) (g : List (List Nat)) (h : gs R = g.map ns) (i : Nat) (hi : i < g.length) : (R[i]?.getD (none, 0, [])).2.2 = ns (row g i) := by
  have h1 : (gs R)[i]? = (g.map ns)[i]? := by rw [h]
  unfold gs at h1
  have hl : R.length = g.length := by have := congrArg List.length h; rwa [gs_length, List.length_map] at this
  rw [List.getElem?_map, List.getElem?_map, List.getElem?_eq_getElem (by omega), List.getElem?_eq_getElem hi] at h1
  simp only [Option.map_some, Option.some.injEq] at h1
  rw [List.getElem?_eq_getElem (by omega)]
  unfold row
  rw [List.getElem?_eq_getElem hi]
  exact h1
theorem ns_mem (l : List Nat) (x : Nat) : ((x : Int) ∈ ns l) ↔ x ∈ l := by
  unfold ns
  rw [List.mem_map]
  constructor
  · rintro ⟨y, hy, e⟩; have : y = x := by omega
    exact this ▸ hy
  · exact fun h => ⟨x, h, rfl⟩
theorem gheld_skip {P : Program} {md : Region.Mode} {l : List Oper} {Q : Exit → Act → World → Prop} {S : World → Prop} {i : Nat} {oi : Oper} {rest : List Oper} {fuel : Nat} {listed : Array Bool} {a : Act} {w : World} (hi : l.drop i = oi :: rest)
    (hs : Region.noSelect l.toArray = true) (hf : Region.free md l.toArray listed i = true) (hr : (Region.ready md l.toArray listed).contains i = true) (hS : S w) (hw : Region.wanted oi (yielded l.toArray a.tmps) = false)
    (h : wpAnyH P md l.toArray (OnlyN Q) S fuel (listed.setIfInBounds i true) (a.put oi.dst undef) w) : wpAnyH P md l.toArray (OnlyN Q) S (fuel + 1) listed a w :=
  wpAnyH_take (gof_drop hi) hs hf hr (fun c a w q => by cases q.1) (.inr ⟨hw, rfl⟩) hS h
set_option maxHeartbeats 8000000 in
theorem graphBoth_law (A : Option Addr) (c : Nat) (R : List Rw) (xa xb : Int) (w : World) (hA : RdG w w.heap.size A R) (hn : R.length ≤ 140737488355328) (hxa : -9223372036854775808 ≤ xa ∧ xa ≤ 9223372036854775807) (hxb : -9223372036854775808 ≤ xb ∧ xb ≤ 9223372036854775807) :
    Calls Try.prog 6 #[.agg #[.slice A R.length c], .agg #[.int .i64 xa, .int .i64 xb]] w fun e w' => e = .returned (.bool true) ∧ Below w.heap.size w w' := by
  obtain ⟨N, hN⟩ : ∃ N, R.length = N := ⟨_, rfl⟩
  rw [hN] at hn ⊢
  by_cases e0 : grE (gs R) = 0 ∧ ∀ g, gs R = g.map ns → ¬ 600 < (bth (arcs 0 g)).length
  · obtain ⟨e0, hmy⟩ := e0
    obtain ⟨g, hg, hok⟩ := grE_zero _ e0
    have hb6 := hmy g hg
    clear hmy
    have hgl : g.length = N := by have := congrArg List.length hg; rw [gs_length, List.length_map] at this; omega
    have hN1 : N ≤ 100 := by have := hok.nodes; omega
    have HT : Hid (∀ A c V, RdG V V.heap.size A R → Calls Try.prog 12 #[.agg #[.slice A N c]] V fun e w' => ∃ A R c, e = .returned (.tuple #[.agg #[.slice A N c], .int .i64 0]) ∧ gs R = (gboth g).map ns ∧ RdG w' w'.heap.size A R ∧ Below V.heap.size V w') := fun A c V h => by
      have := gboth_okW R g hg hok N hN A c V h
      rw [if_neg hb6, if_neg hb6] at this
      unfold GrP at this; rw [gboth_length, hgl] at this; exact this
    have hbok := gboth_ok hok (by omega)
    have hbb := gboth_both hok (by omega)
    have HT2 : Hid (∀ R2 A c V, gs R2 = (gboth g).map ns → RdG V V.heap.size A R2 → Calls Try.prog 11 #[.agg #[.slice A N c]] V fun e w' => ∃ A R c, e = .returned (.tuple #[.agg #[.slice A N c], .int .i64 0]) ∧ gs R = (gboth g).map ns ∧ RdG w' w'.heap.size A R ∧ Below V.heap.size V w') := fun R2 A c V h2 h => by
      have := gturn_okW R2 (gboth g) h2 hbok N (by have := congrArg List.length h2; rw [gs_length, List.length_map, gboth_length] at this; omega) A c V h
      unfold GrP at this; rw [gboth_turn hok (by omega), gboth_length, hgl] at this; exact this
    have HT3 : Hid (∀ R2 A c V, gs R2 = (gboth g).map ns → RdG V V.heap.size A R2 → Calls Try.prog 12 #[.agg #[.slice A N c]] V fun e w' => ∃ A R c, e = .returned (.tuple #[.agg #[.slice A N c], .int .i64 0]) ∧ gs R = (gboth g).map ns ∧ RdG w' w'.heap.size A R ∧ Below V.heap.size V w') := fun R2 A c V h2 h => by
      have := gboth_okW R2 (gboth g) h2 hbok N (by have := congrArg List.length h2; rw [gs_length, List.length_map, gboth_length] at this; omega) A c V h
      rw [if_neg (by omega), if_neg (by omega)] at this
      unfold GrP at this; rw [hbb.1, gboth_length, hgl] at this; exact this
    have HS : Hid (∀ R2 R3 A2 c2 A3 c3 V, gs R2 = (gboth g).map ns → gs R3 = (gboth g).map ns → RdG V V.heap.size A2 R2 → RdG V V.heap.size A3 R3 → Calls Try.prog 22 #[.agg #[.slice A2 N c2], .agg #[.slice A3 N c3]] V fun e w' => e = .returned (.bool true) ∧ Below V.heap.size V w') := fun R2 R3 A2 c2 A3 c3 V h h' h1 h2 => sg_true (gboth g) R2 R3 h h' N N (by rw [gboth_length]; exact hgl) (by rw [gboth_length]; exact hgl) hN1 A2 A3 c2 c3 V h1 h2
    have HL : Hid (∀ (i j : Nat) A c V, i < N → RdG V V.heap.size A R → Calls Try.prog 24 #[.agg #[.slice A N c], .int .i64 (i : Int), .int .i64 (j : Int)] V fun e w' => e = .returned (.bool (decide (j ∈ row g i))) ∧ Below V.heap.size V w') := fun i j A c V hi h => by
      have := leads_any R N hN A c i hi (j : Int) V h
      rw [row_of R g hg i (by omega)] at this
      have e : decide ((j : Int) ∈ ns (row g i)) = decide (j ∈ row g i) := decide_eq_decide.2 (ns_mem _ _)
      rwa [e] at this
    have HL2 : Hid (∀ (i j : Nat) R2 A c V, gs R2 = (gboth g).map ns → i < N → RdG V V.heap.size A R2 → Calls Try.prog 24 #[.agg #[.slice A N c], .int .i64 (i : Int), .int .i64 (j : Int)] V fun e w' => e = .returned (.bool (decide (j ∈ row g i) || decide (i ∈ row g j))) ∧ Below V.heap.size V w') := fun i j R2 A c V h2 hi h => by
      have := leads_any R2 N (by have := congrArg List.length h2; rw [gs_length, List.length_map, gboth_length] at this; omega) A c i hi (j : Int) V h
      rw [row_of R2 (gboth g) h2 i (by rw [gboth_length]; omega)] at this
      have e : decide ((j : Int) ∈ ns (row (gboth g) i)) = (decide (j ∈ row g i) || decide (i ∈ row g j)) := by
        rw [← Bool.decide_or]; exact decide_eq_decide.2 ((ns_mem _ _).trans (gboth_mem (by omega)))
      rwa [e] at this
    clear e0 hg hok hgl hbok hbb hb6 hN hn
    have HB : Hid (Below w.heap.size w w) := Below.refl _ w
    have HR := Lib.hid hA; clear hA
    go_enter Try.func6, Try.ntmps6
    have HBq : Hid (Below w.heap.size w (w.alloc (.cells #[.slice A N c] 24))) := one_below _ _
    replace HB : Hid (Below w.heap.size w (w.alloc (.cells #[.slice A N c] 24))) := HB.out.trans (HBq.out.mono HB.out.size)
    replace HR : Hid (RdG (w.alloc (.cells #[.slice A N c] 24)) ((w.alloc (.cells #[.slice A N c] 24))).heap.size A R) := HR.out.on HBq.out
    clear HBq
    have K0 : Hid (((w.alloc (.cells #[.slice A N c] 24))).cell? ⟨w.heap.size, 0, none⟩ = some (.slice A N c)) := (cell_at (World.alloc_heap_new w _) 0).trans rfl
    have hK1a : (w.alloc (.cells #[.slice A N c] 24)).heap.size = w.heap.size + 1 := World.size_alloc _ _
    have HBq : Hid (Below (w.alloc (.cells #[.slice A N c] 24)).heap.size (w.alloc (.cells #[.slice A N c] 24)) ((w.alloc (.cells #[.slice A N c] 24)).alloc (.cells #[.int .i64 xa, .int .i64 xb] 44))) := one_below _ _
    replace HB : Hid (Below w.heap.size w ((w.alloc (.cells #[.slice A N c] 24)).alloc (.cells #[.int .i64 xa, .int .i64 xb] 44))) := HB.out.trans (HBq.out.mono HB.out.size)
    replace HR : Hid (RdG ((w.alloc (.cells #[.slice A N c] 24)).alloc (.cells #[.int .i64 xa, .int .i64 xb] 44)) (((w.alloc (.cells #[.slice A N c] 24)).alloc (.cells #[.int .i64 xa, .int .i64 xb] 44))).heap.size A R) := HR.out.on HBq.out
    replace K0 : Hid ((((w.alloc (.cells #[.slice A N c] 24)).alloc (.cells #[.int .i64 xa, .int .i64 xb] 44))).cell? ⟨w.heap.size, 0, none⟩ = some (.slice A N c)) := (HBq.out.cell (World.block_lt_of_cell? _ _ K0.out)).trans K0.out
    clear HBq
    obtain ⟨w0, hw0⟩ : ∃ V, (w.alloc (.cells #[.slice A N c] 24)).alloc (.cells #[.int .i64 xa, .int .i64 xb] 44) = V := ⟨_, rfl⟩
    have Ka : Hid ((((w.alloc (.cells #[.slice A N c] 24)).alloc (.cells #[.int .i64 xa, .int .i64 xb] 44))).cell? ⟨w.heap.size + 1, 0, none⟩ = some (.int .i64 xa)) := by show _ = _; rw [← hK1a]; exact (cell_at (World.alloc_heap_new (w.alloc (.cells #[.slice A N c] 24)) _) 0).trans rfl
    have Kb : Hid ((((w.alloc (.cells #[.slice A N c] 24)).alloc (.cells #[.int .i64 xa, .int .i64 xb] 44))).cell? ⟨w.heap.size + 1, 1, none⟩ = some (.int .i64 xb)) := by show _ = _; rw [← hK1a]; exact (cell_at (World.alloc_heap_new (w.alloc (.cells #[.slice A N c] 24)) _) 1).trans rfl
    rw [hw0] at HB
    rw [hw0] at HR
    rw [hw0] at K0
    rw [hw0] at Ka
    rw [hw0] at Kb
    have HW0 := Lib.hid hw0; clear hw0 hK1a
    have HC := Lib.hid (HT.out A c _ HR.out)
    rw [← HW0.out] at HC
    go_wp2_with fail
    refine HC.out.mono ?_
    rw [HW0.out]
    rintro e w1 ⟨A1, R1, c1, rfl, g1, h1, bq⟩
    clear HC
    have HBc := Lib.hid bq; clear bq
    have HBq : Hid (Below w0.heap.size w0 w1) := HBc.out
    replace HB : Hid (Below w.heap.size w w1) := HB.out.trans (HBq.out.mono HB.out.size)
    replace HR : Hid (RdG w1 (w1).heap.size A R) := HR.out.on HBq.out
    replace K0 : Hid ((w1).cell? ⟨w.heap.size, 0, none⟩ = some (.slice A N c)) := (HBq.out.cell (World.block_lt_of_cell? _ _ K0.out)).trans K0.out
    replace Ka : Hid ((w1).cell? ⟨w.heap.size + 1, 0, none⟩ = some (.int .i64 xa)) := (HBq.out.cell (World.block_lt_of_cell? _ _ Ka.out)).trans Ka.out
    replace Kb : Hid ((w1).cell? ⟨w.heap.size + 1, 1, none⟩ = some (.int .i64 xb)) := (HBq.out.cell (World.block_lt_of_cell? _ _ Kb.out)).trans Kb.out
    clear HBq
    clear HBc
    have G1 := Lib.hid g1; clear g1
    have H1 : Hid (RdG w1 (w1).heap.size A1 R1) := h1
    clear h1
    have HBq : Hid (Below w1.heap.size w1 (w1.alloc (.cells #[.slice A1 N c1] 24))) := one_below _ _
    replace HB : Hid (Below w.heap.size w (w1.alloc (.cells #[.slice A1 N c1] 24))) := HB.out.trans (HBq.out.mono HB.out.size)
    replace HR : Hid (RdG (w1.alloc (.cells #[.slice A1 N c1] 24)) ((w1.alloc (.cells #[.slice A1 N c1] 24))).heap.size A R) := HR.out.on HBq.out
    replace K0 : Hid (((w1.alloc (.cells #[.slice A1 N c1] 24))).cell? ⟨w.heap.size, 0, none⟩ = some (.slice A N c)) := (HBq.out.cell (World.block_lt_of_cell? _ _ K0.out)).trans K0.out
    replace Ka : Hid (((w1.alloc (.cells #[.slice A1 N c1] 24))).cell? ⟨w.heap.size + 1, 0, none⟩ = some (.int .i64 xa)) := (HBq.out.cell (World.block_lt_of_cell? _ _ Ka.out)).trans Ka.out
    replace Kb : Hid (((w1.alloc (.cells #[.slice A1 N c1] 24))).cell? ⟨w.heap.size + 1, 1, none⟩ = some (.int .i64 xb)) := (HBq.out.cell (World.block_lt_of_cell? _ _ Kb.out)).trans Kb.out
    replace H1 : Hid (RdG (w1.alloc (.cells #[.slice A1 N c1] 24)) ((w1.alloc (.cells #[.slice A1 N c1] 24))).heap.size A1 R1) := H1.out.on HBq.out
    clear HBq
    have K1 : Hid (((w1.alloc (.cells #[.slice A1 N c1] 24))).cell? ⟨w1.heap.size, 0, none⟩ = some (.slice A1 N c1)) := (cell_at (World.alloc_heap_new w1 _) 0).trans rfl
    have HC := Lib.hid (graphbegun_true (w1.alloc (.cells #[.slice A1 N c1] 24)))
    go_wp2_with fail
    refine HC.out.mono ?_
    rintro e w2 ⟨rfl, bq⟩
    clear HC
    have HBc := Lib.hid bq; clear bq
    have HBq : Hid (Below (w1.alloc (.cells #[.slice A1 N c1] 24)).heap.size (w1.alloc (.cells #[.slice A1 N c1] 24)) w2) := HBc.out
    replace HB : Hid (Below w.heap.size w w2) := HB.out.trans (HBq.out.mono HB.out.size)
    replace HR : Hid (RdG w2 (w2).heap.size A R) := HR.out.on HBq.out
    replace K0 : Hid ((w2).cell? ⟨w.heap.size, 0, none⟩ = some (.slice A N c)) := (HBq.out.cell (World.block_lt_of_cell? _ _ K0.out)).trans K0.out
    replace Ka : Hid ((w2).cell? ⟨w.heap.size + 1, 0, none⟩ = some (.int .i64 xa)) := (HBq.out.cell (World.block_lt_of_cell? _ _ Ka.out)).trans Ka.out
    replace Kb : Hid ((w2).cell? ⟨w.heap.size + 1, 1, none⟩ = some (.int .i64 xb)) := (HBq.out.cell (World.block_lt_of_cell? _ _ Kb.out)).trans Kb.out
    replace H1 : Hid (RdG w2 (w2).heap.size A1 R1) := H1.out.on HBq.out
    replace K1 : Hid ((w2).cell? ⟨w1.heap.size, 0, none⟩ = some (.slice A1 N c1)) := (HBq.out.cell (World.block_lt_of_cell? _ _ K1.out)).trans K1.out
    clear HBq
    clear HBc
    have HC := Lib.hid (HT2.out R1 A1 c1 _ G1.out H1.out)
    have k_K1 := K1.out
    go_wp2_with fail
    clear k_K1
    refine HC.out.mono ?_
    rintro e w3 ⟨A2, R2, c2, rfl, g2, h2, bq⟩
    clear HC
    have HBc := Lib.hid bq; clear bq
    have HBq : Hid (Below w2.heap.size w2 w3) := HBc.out
    replace HB : Hid (Below w.heap.size w w3) := HB.out.trans (HBq.out.mono HB.out.size)
    replace HR : Hid (RdG w3 (w3).heap.size A R) := HR.out.on HBq.out
    replace K0 : Hid ((w3).cell? ⟨w.heap.size, 0, none⟩ = some (.slice A N c)) := (HBq.out.cell (World.block_lt_of_cell? _ _ K0.out)).trans K0.out
    replace Ka : Hid ((w3).cell? ⟨w.heap.size + 1, 0, none⟩ = some (.int .i64 xa)) := (HBq.out.cell (World.block_lt_of_cell? _ _ Ka.out)).trans Ka.out
    replace Kb : Hid ((w3).cell? ⟨w.heap.size + 1, 1, none⟩ = some (.int .i64 xb)) := (HBq.out.cell (World.block_lt_of_cell? _ _ Kb.out)).trans Kb.out
    replace H1 : Hid (RdG w3 (w3).heap.size A1 R1) := H1.out.on HBq.out
    replace K1 : Hid ((w3).cell? ⟨w1.heap.size, 0, none⟩ = some (.slice A1 N c1)) := (HBq.out.cell (World.block_lt_of_cell? _ _ K1.out)).trans K1.out
    clear HBq
    clear HBc
    have G2 := Lib.hid g2; clear g2
    have H2 : Hid (RdG w3 (w3).heap.size A2 R2) := h2
    clear h2
    have HBq : Hid (Below w3.heap.size w3 (w3.alloc (.cells #[.slice A2 N c2] 24))) := one_below _ _
    replace HB : Hid (Below w.heap.size w (w3.alloc (.cells #[.slice A2 N c2] 24))) := HB.out.trans (HBq.out.mono HB.out.size)
    replace HR : Hid (RdG (w3.alloc (.cells #[.slice A2 N c2] 24)) ((w3.alloc (.cells #[.slice A2 N c2] 24))).heap.size A R) := HR.out.on HBq.out
    replace K0 : Hid (((w3.alloc (.cells #[.slice A2 N c2] 24))).cell? ⟨w.heap.size, 0, none⟩ = some (.slice A N c)) := (HBq.out.cell (World.block_lt_of_cell? _ _ K0.out)).trans K0.out
    replace Ka : Hid (((w3.alloc (.cells #[.slice A2 N c2] 24))).cell? ⟨w.heap.size + 1, 0, none⟩ = some (.int .i64 xa)) := (HBq.out.cell (World.block_lt_of_cell? _ _ Ka.out)).trans Ka.out
    replace Kb : Hid (((w3.alloc (.cells #[.slice A2 N c2] 24))).cell? ⟨w.heap.size + 1, 1, none⟩ = some (.int .i64 xb)) := (HBq.out.cell (World.block_lt_of_cell? _ _ Kb.out)).trans Kb.out
    replace H1 : Hid (RdG (w3.alloc (.cells #[.slice A2 N c2] 24)) ((w3.alloc (.cells #[.slice A2 N c2] 24))).heap.size A1 R1) := H1.out.on HBq.out
    replace K1 : Hid (((w3.alloc (.cells #[.slice A2 N c2] 24))).cell? ⟨w1.heap.size, 0, none⟩ = some (.slice A1 N c1)) := (HBq.out.cell (World.block_lt_of_cell? _ _ K1.out)).trans K1.out
    replace H2 : Hid (RdG (w3.alloc (.cells #[.slice A2 N c2] 24)) ((w3.alloc (.cells #[.slice A2 N c2] 24))).heap.size A2 R2) := H2.out.on HBq.out
    clear HBq
    have K2 : Hid (((w3.alloc (.cells #[.slice A2 N c2] 24))).cell? ⟨w3.heap.size, 0, none⟩ = some (.slice A2 N c2)) := (cell_at (World.alloc_heap_new w3 _) 0).trans rfl
    have HC := Lib.hid (HT3.out R1 A1 c1 _ G1.out H1.out)
    have k_K1 := K1.out
    go_wp2_with fail
    clear k_K1
    refine HC.out.mono ?_
    rintro e w4 ⟨A3, R3, c3, rfl, g3, h3, bq⟩
    clear HC
    have HBc := Lib.hid bq; clear bq
    have HBq : Hid (Below (w3.alloc (.cells #[.slice A2 N c2] 24)).heap.size (w3.alloc (.cells #[.slice A2 N c2] 24)) w4) := HBc.out
    replace HB : Hid (Below w.heap.size w w4) := HB.out.trans (HBq.out.mono HB.out.size)
    replace HR : Hid (RdG w4 (w4).heap.size A R) := HR.out.on HBq.out
    replace K0 : Hid ((w4).cell? ⟨w.heap.size, 0, none⟩ = some (.slice A N c)) := (HBq.out.cell (World.block_lt_of_cell? _ _ K0.out)).trans K0.out
    replace Ka : Hid ((w4).cell? ⟨w.heap.size + 1, 0, none⟩ = some (.int .i64 xa)) := (HBq.out.cell (World.block_lt_of_cell? _ _ Ka.out)).trans Ka.out
    replace Kb : Hid ((w4).cell? ⟨w.heap.size + 1, 1, none⟩ = some (.int .i64 xb)) := (HBq.out.cell (World.block_lt_of_cell? _ _ Kb.out)).trans Kb.out
    replace H1 : Hid (RdG w4 (w4).heap.size A1 R1) := H1.out.on HBq.out
    replace K1 : Hid ((w4).cell? ⟨w1.heap.size, 0, none⟩ = some (.slice A1 N c1)) := (HBq.out.cell (World.block_lt_of_cell? _ _ K1.out)).trans K1.out
    replace H2 : Hid (RdG w4 (w4).heap.size A2 R2) := H2.out.on HBq.out
    replace K2 : Hid ((w4).cell? ⟨w3.heap.size, 0, none⟩ = some (.slice A2 N c2)) := (HBq.out.cell (World.block_lt_of_cell? _ _ K2.out)).trans K2.out
    clear HBq
    clear HBc
    have G3 := Lib.hid g3; clear g3
    have H3 : Hid (RdG w4 (w4).heap.size A3 R3) := h3
    clear h3
    have HBq : Hid (Below w4.heap.size w4 (w4.alloc (.cells #[.slice A3 N c3] 24))) := one_below _ _
    replace HB : Hid (Below w.heap.size w (w4.alloc (.cells #[.slice A3 N c3] 24))) := HB.out.trans (HBq.out.mono HB.out.size)
    replace HR : Hid (RdG (w4.alloc (.cells #[.slice A3 N c3] 24)) ((w4.alloc (.cells #[.slice A3 N c3] 24))).heap.size A R) := HR.out.on HBq.out
    replace K0 : Hid (((w4.alloc (.cells #[.slice A3 N c3] 24))).cell? ⟨w.heap.size, 0, none⟩ = some (.slice A N c)) := (HBq.out.cell (World.block_lt_of_cell? _ _ K0.out)).trans K0.out
    replace Ka : Hid (((w4.alloc (.cells #[.slice A3 N c3] 24))).cell? ⟨w.heap.size + 1, 0, none⟩ = some (.int .i64 xa)) := (HBq.out.cell (World.block_lt_of_cell? _ _ Ka.out)).trans Ka.out
    replace Kb : Hid (((w4.alloc (.cells #[.slice A3 N c3] 24))).cell? ⟨w.heap.size + 1, 1, none⟩ = some (.int .i64 xb)) := (HBq.out.cell (World.block_lt_of_cell? _ _ Kb.out)).trans Kb.out
    replace H1 : Hid (RdG (w4.alloc (.cells #[.slice A3 N c3] 24)) ((w4.alloc (.cells #[.slice A3 N c3] 24))).heap.size A1 R1) := H1.out.on HBq.out
    replace K1 : Hid (((w4.alloc (.cells #[.slice A3 N c3] 24))).cell? ⟨w1.heap.size, 0, none⟩ = some (.slice A1 N c1)) := (HBq.out.cell (World.block_lt_of_cell? _ _ K1.out)).trans K1.out
    replace H2 : Hid (RdG (w4.alloc (.cells #[.slice A3 N c3] 24)) ((w4.alloc (.cells #[.slice A3 N c3] 24))).heap.size A2 R2) := H2.out.on HBq.out
    replace K2 : Hid (((w4.alloc (.cells #[.slice A3 N c3] 24))).cell? ⟨w3.heap.size, 0, none⟩ = some (.slice A2 N c2)) := (HBq.out.cell (World.block_lt_of_cell? _ _ K2.out)).trans K2.out
    replace H3 : Hid (RdG (w4.alloc (.cells #[.slice A3 N c3] 24)) ((w4.alloc (.cells #[.slice A3 N c3] 24))).heap.size A3 R3) := H3.out.on HBq.out
    clear HBq
    have K3 : Hid (((w4.alloc (.cells #[.slice A3 N c3] 24))).cell? ⟨w4.heap.size, 0, none⟩ = some (.slice A3 N c3)) := (cell_at (World.alloc_heap_new w4 _) 0).trans rfl
    have HC := Lib.hid (HS.out R2 R1 A2 c2 A1 c1 _ G2.out G1.out H2.out H1.out)
    have k_K2 := K2.out
    have k_K1 := K1.out
    go_wp2_with fail
    clear k_K2
    clear k_K1
    refine HC.out.mono ?_
    rintro e w5 ⟨rfl, bq⟩
    clear HC
    have HBc := Lib.hid bq; clear bq
    have HBq : Hid (Below (w4.alloc (.cells #[.slice A3 N c3] 24)).heap.size (w4.alloc (.cells #[.slice A3 N c3] 24)) w5) := HBc.out
    replace HB : Hid (Below w.heap.size w w5) := HB.out.trans (HBq.out.mono HB.out.size)
    replace HR : Hid (RdG w5 (w5).heap.size A R) := HR.out.on HBq.out
    replace K0 : Hid ((w5).cell? ⟨w.heap.size, 0, none⟩ = some (.slice A N c)) := (HBq.out.cell (World.block_lt_of_cell? _ _ K0.out)).trans K0.out
    replace Ka : Hid ((w5).cell? ⟨w.heap.size + 1, 0, none⟩ = some (.int .i64 xa)) := (HBq.out.cell (World.block_lt_of_cell? _ _ Ka.out)).trans Ka.out
    replace Kb : Hid ((w5).cell? ⟨w.heap.size + 1, 1, none⟩ = some (.int .i64 xb)) := (HBq.out.cell (World.block_lt_of_cell? _ _ Kb.out)).trans Kb.out
    replace H1 : Hid (RdG w5 (w5).heap.size A1 R1) := H1.out.on HBq.out
    replace K1 : Hid ((w5).cell? ⟨w1.heap.size, 0, none⟩ = some (.slice A1 N c1)) := (HBq.out.cell (World.block_lt_of_cell? _ _ K1.out)).trans K1.out
    replace H2 : Hid (RdG w5 (w5).heap.size A2 R2) := H2.out.on HBq.out
    replace K2 : Hid ((w5).cell? ⟨w3.heap.size, 0, none⟩ = some (.slice A2 N c2)) := (HBq.out.cell (World.block_lt_of_cell? _ _ K2.out)).trans K2.out
    replace H3 : Hid (RdG w5 (w5).heap.size A3 R3) := H3.out.on HBq.out
    replace K3 : Hid ((w5).cell? ⟨w4.heap.size, 0, none⟩ = some (.slice A3 N c3)) := (HBq.out.cell (World.block_lt_of_cell? _ _ K3.out)).trans K3.out
    clear HBq
    clear HBc
    have HC := Lib.hid (HS.out R3 R1 A3 c3 A1 c1 _ G3.out G1.out H3.out H1.out)
    have k_K3 := K3.out
    have k_K1 := K1.out
    go_wp2_with fail
    clear k_K3
    clear k_K1
    refine HC.out.mono ?_
    rintro e w6 ⟨rfl, bq⟩
    clear HC
    have HBc := Lib.hid bq; clear bq
    have HBq : Hid (Below w5.heap.size w5 w6) := HBc.out
    replace HB : Hid (Below w.heap.size w w6) := HB.out.trans (HBq.out.mono HB.out.size)
    replace HR : Hid (RdG w6 (w6).heap.size A R) := HR.out.on HBq.out
    replace K0 : Hid ((w6).cell? ⟨w.heap.size, 0, none⟩ = some (.slice A N c)) := (HBq.out.cell (World.block_lt_of_cell? _ _ K0.out)).trans K0.out
    replace Ka : Hid ((w6).cell? ⟨w.heap.size + 1, 0, none⟩ = some (.int .i64 xa)) := (HBq.out.cell (World.block_lt_of_cell? _ _ Ka.out)).trans Ka.out
    replace Kb : Hid ((w6).cell? ⟨w.heap.size + 1, 1, none⟩ = some (.int .i64 xb)) := (HBq.out.cell (World.block_lt_of_cell? _ _ Kb.out)).trans Kb.out
    replace H1 : Hid (RdG w6 (w6).heap.size A1 R1) := H1.out.on HBq.out
    replace K1 : Hid ((w6).cell? ⟨w1.heap.size, 0, none⟩ = some (.slice A1 N c1)) := (HBq.out.cell (World.block_lt_of_cell? _ _ K1.out)).trans K1.out
    replace H2 : Hid (RdG w6 (w6).heap.size A2 R2) := H2.out.on HBq.out
    replace K2 : Hid ((w6).cell? ⟨w3.heap.size, 0, none⟩ = some (.slice A2 N c2)) := (HBq.out.cell (World.block_lt_of_cell? _ _ K2.out)).trans K2.out
    replace H3 : Hid (RdG w6 (w6).heap.size A3 R3) := H3.out.on HBq.out
    replace K3 : Hid ((w6).cell? ⟨w4.heap.size, 0, none⟩ = some (.slice A3 N c3)) := (HBq.out.cell (World.block_lt_of_cell? _ _ K3.out)).trans K3.out
    clear HBq
    clear HBc
    have HDr : Hid (Below w6.heap.size w6 w6.drew) := (Below.refl _ w6).drew
    have k0 := K0.out; have ka := Ka.out; have kb := Kb.out; have k1 := K1.out
    by_cases hin : (0 ≤ xa ∧ xa < (N : Int)) ∧ (0 ≤ xb ∧ xb < (N : Int))
    · obtain ⟨⟨i1, i2⟩, i3, i4⟩ := hin
      obtain ⟨i, rfl⟩ := Int.eq_ofNat_of_zero_le i1
      obtain ⟨j, rfl⟩ := Int.eq_ofNat_of_zero_le i3
      have q1 : decide ((i : Int) < 0) = false := by simp
      have q2 : decide ((N : Int) ≤ (i : Int)) = false := by simp; omega
      have q3 : decide ((j : Int) < 0) = false := by simp
      have q4 : decide ((N : Int) ≤ (j : Int)) = false := by simp; omega
      have hSt : ∀ V W : World, ((V.cell? ⟨w1.heap.size, 0, none⟩ = some (.slice A1 N c1) ∧ V.cell? ⟨w.heap.size, 0, none⟩ = some (.slice A N c) ∧ V.cell? ⟨w.heap.size + 1, 0, none⟩ = some (.int .i64 (i : Int)) ∧ V.cell? ⟨w.heap.size + 1, 1, none⟩ = some (.int .i64 (j : Int))) ∧ Hid (RdG V V.heap.size A R ∧ RdG V V.heap.size A1 R1 ∧ Below w.heap.size w V)) → Below V.heap.size V W → ((W.cell? ⟨w1.heap.size, 0, none⟩ = some (.slice A1 N c1) ∧ W.cell? ⟨w.heap.size, 0, none⟩ = some (.slice A N c) ∧ W.cell? ⟨w.heap.size + 1, 0, none⟩ = some (.int .i64 (i : Int)) ∧ W.cell? ⟨w.heap.size + 1, 1, none⟩ = some (.int .i64 (j : Int))) ∧ Hid (RdG W W.heap.size A R ∧ RdG W W.heap.size A1 R1 ∧ Below w.heap.size w W)) := fun V W h hb => ⟨⟨(hb.cell (World.block_lt_of_cell? _ _ h.1.1)).trans h.1.1, (hb.cell (World.block_lt_of_cell? _ _ h.1.2.1)).trans h.1.2.1, (hb.cell (World.block_lt_of_cell? _ _ h.1.2.2.1)).trans h.1.2.2.1, (hb.cell (World.block_lt_of_cell? _ _ h.1.2.2.2)).trans h.1.2.2.2⟩, h.2.out.1.on hb, h.2.out.2.1.on hb, h.2.out.2.2.trans (hb.mono h.2.out.2.2.size)⟩
      have hS0 : ∀ V : World, V = w6.drew → ((V.cell? ⟨w1.heap.size, 0, none⟩ = some (.slice A1 N c1) ∧ V.cell? ⟨w.heap.size, 0, none⟩ = some (.slice A N c) ∧ V.cell? ⟨w.heap.size + 1, 0, none⟩ = some (.int .i64 (i : Int)) ∧ V.cell? ⟨w.heap.size + 1, 1, none⟩ = some (.int .i64 (j : Int))) ∧ Hid (RdG V V.heap.size A R ∧ RdG V V.heap.size A1 R1 ∧ Below w.heap.size w V)) := fun V e => by subst e; exact ⟨⟨k1, k0, ka, kb⟩, HR.out.on HDr.out, H1.out.on HDr.out, HB.out.trans (HDr.out.mono HB.out.size)⟩
      obtain ⟨p, hp⟩ : ∃ p, decide (j ∈ row g i) = p := ⟨_, rfl⟩
      obtain ⟨q, hq⟩ : ∃ q, decide (i ∈ row g j) = q := ⟨_, rfl⟩
      have HC1 : Hid (∀ V : World, ((V.cell? ⟨w1.heap.size, 0, none⟩ = some (.slice A1 N c1) ∧ V.cell? ⟨w.heap.size, 0, none⟩ = some (.slice A N c) ∧ V.cell? ⟨w.heap.size + 1, 0, none⟩ = some (.int .i64 (i : Int)) ∧ V.cell? ⟨w.heap.size + 1, 1, none⟩ = some (.int .i64 (j : Int))) ∧ Hid (RdG V V.heap.size A R ∧ RdG V V.heap.size A1 R1 ∧ Below w.heap.size w V)) → Calls Try.prog 24 #[.agg #[.slice A1 N c1], .int .i64 (i : Int), .int .i64 (j : Int)] V fun e W => e = .returned (.bool (p || q)) ∧ ((W.cell? ⟨w1.heap.size, 0, none⟩ = some (.slice A1 N c1) ∧ W.cell? ⟨w.heap.size, 0, none⟩ = some (.slice A N c) ∧ W.cell? ⟨w.heap.size + 1, 0, none⟩ = some (.int .i64 (i : Int)) ∧ W.cell? ⟨w.heap.size + 1, 1, none⟩ = some (.int .i64 (j : Int))) ∧ Hid (RdG W W.heap.size A R ∧ RdG W W.heap.size A1 R1 ∧ Below w.heap.size w W))) := fun V hS => by have := HL2.out i j R1 A1 c1 V G1.out (by omega) hS.2.out.2.1; rw [hp, hq] at this; exact this.mono fun e w' r => ⟨r.1, hSt V w' hS r.2⟩
      have HC2 : Hid (∀ V : World, ((V.cell? ⟨w1.heap.size, 0, none⟩ = some (.slice A1 N c1) ∧ V.cell? ⟨w.heap.size, 0, none⟩ = some (.slice A N c) ∧ V.cell? ⟨w.heap.size + 1, 0, none⟩ = some (.int .i64 (i : Int)) ∧ V.cell? ⟨w.heap.size + 1, 1, none⟩ = some (.int .i64 (j : Int))) ∧ Hid (RdG V V.heap.size A R ∧ RdG V V.heap.size A1 R1 ∧ Below w.heap.size w V)) → Calls Try.prog 24 #[.agg #[.slice A N c], .int .i64 (i : Int), .int .i64 (j : Int)] V fun e W => e = .returned (.bool (p)) ∧ ((W.cell? ⟨w1.heap.size, 0, none⟩ = some (.slice A1 N c1) ∧ W.cell? ⟨w.heap.size, 0, none⟩ = some (.slice A N c) ∧ W.cell? ⟨w.heap.size + 1, 0, none⟩ = some (.int .i64 (i : Int)) ∧ W.cell? ⟨w.heap.size + 1, 1, none⟩ = some (.int .i64 (j : Int))) ∧ Hid (RdG W W.heap.size A R ∧ RdG W W.heap.size A1 R1 ∧ Below w.heap.size w W))) := fun V hS => by have := HL.out i j A c V (by omega) hS.2.out.1; rw [hp] at this; exact this.mono fun e w' r => ⟨r.1, hSt V w' hS r.2⟩
      have HC3 : Hid (∀ V : World, ((V.cell? ⟨w1.heap.size, 0, none⟩ = some (.slice A1 N c1) ∧ V.cell? ⟨w.heap.size, 0, none⟩ = some (.slice A N c) ∧ V.cell? ⟨w.heap.size + 1, 0, none⟩ = some (.int .i64 (i : Int)) ∧ V.cell? ⟨w.heap.size + 1, 1, none⟩ = some (.int .i64 (j : Int))) ∧ Hid (RdG V V.heap.size A R ∧ RdG V V.heap.size A1 R1 ∧ Below w.heap.size w V)) → Calls Try.prog 24 #[.agg #[.slice A N c], .int .i64 (j : Int), .int .i64 (i : Int)] V fun e W => e = .returned (.bool (q)) ∧ ((W.cell? ⟨w1.heap.size, 0, none⟩ = some (.slice A1 N c1) ∧ W.cell? ⟨w.heap.size, 0, none⟩ = some (.slice A N c) ∧ W.cell? ⟨w.heap.size + 1, 0, none⟩ = some (.int .i64 (i : Int)) ∧ W.cell? ⟨w.heap.size + 1, 1, none⟩ = some (.int .i64 (j : Int))) ∧ Hid (RdG W W.heap.size A R ∧ RdG W W.heap.size A1 R1 ∧ Below w.heap.size w W))) := fun V hS => by have := HL.out j i A c V (by omega) hS.2.out.1; rw [hq] at this; exact this.mono fun e w' r => ⟨r.1, hSt V w' hS r.2⟩
      have HS0 := Lib.hid hS0
      clear hSt hS0 hp hq HL HL2 HS HT HT2 HT3
      have hG : ∀ (W : World), ((W.cell? ⟨w1.heap.size, 0, none⟩ = some (.slice A1 N c1) ∧ W.cell? ⟨w.heap.size, 0, none⟩ = some (.slice A N c) ∧ W.cell? ⟨w.heap.size + 1, 0, none⟩ = some (.int .i64 (i : Int)) ∧ W.cell? ⟨w.heap.size + 1, 1, none⟩ = some (.int .i64 (j : Int))) ∧ Hid (RdG W W.heap.size A R ∧ RdG W W.heap.size A1 R1 ∧ Below w.heap.size w W)) → Hid (Below w.heap.size w W) := fun W h => h.2.out.2.2
      have HG := Lib.hid hG; clear hG
      go_wp2_with fail
      refine Code.wp_mono OnlyN.imp (wp_region_held_drew (S := fun V => (V.cell? ⟨w1.heap.size, 0, none⟩ = some (.slice A1 N c1) ∧ V.cell? ⟨w.heap.size, 0, none⟩ = some (.slice A N c) ∧ V.cell? ⟨w.heap.size + 1, 0, none⟩ = some (.int .i64 (i : Int)) ∧ V.cell? ⟨w.heap.size + 1, 1, none⟩ = some (.int .i64 (j : Int))) ∧ Hid (RdG V V.heap.size A R ∧ RdG V V.heap.size A1 R1 ∧ Below w.heap.size w V)) (by kernel_rfl) (HS0.out _ rfl) (fun hHeld => ?_))
      cases p
      · cases q
        all_goals (
          (refine gheld_val (i := 0) rfl (by kernel_rfl) (by kernel_rfl) (by kernel_rfl) hHeld (by rfl) ?_; apply Exists.intro; refine ⟨fun wq hSw => ?_, ?_⟩; ((try dsimp only at hSw); obtain ⟨⟨c1, c2, c3, c4⟩, c5⟩ := hSw; go_simp; try rfl); try simp only [Act.put, List.setIfInBounds_toArray, List.set_cons_zero, List.set_cons_succ])
          (refine gheld_val (i := 1) rfl (by kernel_rfl) (by kernel_rfl) (by kernel_rfl) hHeld (by rfl) ?_; apply Exists.intro; refine ⟨fun wq hSw => ?_, ?_⟩; ((try dsimp only at hSw); obtain ⟨⟨c1, c2, c3, c4⟩, c5⟩ := hSw; go_simp; try rfl); try simp only [Act.put, List.setIfInBounds_toArray, List.set_cons_zero, List.set_cons_succ])
          (refine gheld_val (i := 2) rfl (by kernel_rfl) (by kernel_rfl) (by kernel_rfl) hHeld (by rfl) ?_; apply Exists.intro; refine ⟨fun wq hSw => ?_, ?_⟩; ((try dsimp only at hSw); obtain ⟨⟨c1, c2, c3, c4⟩, c5⟩ := hSw; go_simp; try rfl); try simp only [Act.put, List.setIfInBounds_toArray, List.set_cons_zero, List.set_cons_succ])
          (refine gheld_val (i := 3) rfl (by kernel_rfl) (by kernel_rfl) (by kernel_rfl) hHeld (by rfl) ?_; apply Exists.intro; refine ⟨fun wq hSw => ?_, ?_⟩; ((try dsimp only at hSw); obtain ⟨⟨c1, c2, c3, c4⟩, c5⟩ := hSw; go_simp; try rfl); try simp only [Act.put, List.setIfInBounds_toArray, List.set_cons_zero, List.set_cons_succ])
          (refine gheld_val (i := 4) rfl (by kernel_rfl) (by kernel_rfl) (by kernel_rfl) hHeld (by rfl) ?_; apply Exists.intro; refine ⟨fun wq hSw => ?_, ?_⟩; ((try dsimp only at hSw); obtain ⟨⟨c1, c2, c3, c4⟩, c5⟩ := hSw; go_simp; try rfl); try simp only [Act.put, List.setIfInBounds_toArray, List.set_cons_zero, List.set_cons_succ])
          (refine gheld_val (i := 6) rfl (by kernel_rfl) (by kernel_rfl) (by kernel_rfl) hHeld (by rfl) ?_; apply Exists.intro; refine ⟨fun wq hSw => ?_, ?_⟩; ((try dsimp only at hSw); obtain ⟨⟨c1, c2, c3, c4⟩, c5⟩ := hSw; go_simp; try rfl); try simp only [Act.put, List.setIfInBounds_toArray, List.set_cons_zero, List.set_cons_succ])
          (refine gheld_val (i := 7) rfl (by kernel_rfl) (by kernel_rfl) (by kernel_rfl) hHeld (by rfl) ?_; apply Exists.intro; refine ⟨fun wq hSw => ?_, ?_⟩; ((try dsimp only at hSw); obtain ⟨⟨c1, c2, c3, c4⟩, c5⟩ := hSw; go_simp; try rfl); try simp only [Act.put, List.setIfInBounds_toArray, List.set_cons_zero, List.set_cons_succ])
          (refine gheld_val (i := 8) rfl (by kernel_rfl) (by kernel_rfl) (by kernel_rfl) hHeld (by rfl) ?_; apply Exists.intro; refine ⟨fun wq hSw => ?_, ?_⟩; ((try dsimp only at hSw); obtain ⟨⟨c1, c2, c3, c4⟩, c5⟩ := hSw; go_simp; try rfl); try simp only [Act.put, List.setIfInBounds_toArray, List.set_cons_zero, List.set_cons_succ])
          (refine gheld_val (i := 9) rfl (by kernel_rfl) (by kernel_rfl) (by kernel_rfl) hHeld (by rfl) ?_; apply Exists.intro; refine ⟨fun wq hSw => ?_, ?_⟩; ((try dsimp only at hSw); obtain ⟨⟨c1, c2, c3, c4⟩, c5⟩ := hSw; go_simp; try rfl); try simp only [Act.put, List.setIfInBounds_toArray, List.set_cons_zero, List.set_cons_succ])
          (refine gheld_val (i := 10) rfl (by kernel_rfl) (by kernel_rfl) (by kernel_rfl) hHeld (by rfl) ?_; apply Exists.intro; refine ⟨fun wq hSw => ?_, ?_⟩; ((try dsimp only at hSw); obtain ⟨⟨c1, c2, c3, c4⟩, c5⟩ := hSw; go_simp; try rfl); try simp only [Act.put, List.setIfInBounds_toArray, List.set_cons_zero, List.set_cons_succ])
          refine wpAnyH_ready (rs := [5]) (by kernel_rfl) (by simp) ?_
          refine AllReadyH.cons (gof_drop rfl) (fun K hK => ?_) AllReadyH.nil
          go_simp
          refine (HC1.out _ hHeld).mono ?_
          rintro e wq5 ⟨rfl, hSq⟩
          refine hK.out _ _ (hSq) (fun hHeld => ?_)
          clear hK K
          try simp only [Act.put, List.setIfInBounds_toArray, List.set_cons_zero, List.set_cons_succ]
          refine wpAnyH_ready (rs := [11]) (by kernel_rfl) (by simp) ?_
          refine AllReadyH.cons (gof_drop rfl) (fun K hK => ?_) AllReadyH.nil
          go_simp
          refine (HC2.out _ hHeld).mono ?_
          rintro e wq11 ⟨rfl, hSq⟩
          refine hK.out _ _ (hSq) (fun hHeld => ?_)
          clear hK K
          try simp only [Act.put, List.setIfInBounds_toArray, List.set_cons_zero, List.set_cons_succ]
          (refine gheld_val (i := 12) rfl (by kernel_rfl) (by kernel_rfl) (by kernel_rfl) hHeld (by rfl) ?_; apply Exists.intro; refine ⟨fun wq hSw => ?_, ?_⟩; ((try dsimp only at hSw); obtain ⟨⟨c1, c2, c3, c4⟩, c5⟩ := hSw; go_simp; try rfl); try simp only [Act.put, List.setIfInBounds_toArray, List.set_cons_zero, List.set_cons_succ])
          (refine gheld_val (i := 13) rfl (by kernel_rfl) (by kernel_rfl) (by kernel_rfl) hHeld (by rfl) ?_; apply Exists.intro; refine ⟨fun wq hSw => ?_, ?_⟩; ((try dsimp only at hSw); obtain ⟨⟨c1, c2, c3, c4⟩, c5⟩ := hSw; go_simp; try rfl); try simp only [Act.put, List.setIfInBounds_toArray, List.set_cons_zero, List.set_cons_succ])
          (refine gheld_val (i := 14) rfl (by kernel_rfl) (by kernel_rfl) (by kernel_rfl) hHeld (by rfl) ?_; apply Exists.intro; refine ⟨fun wq hSw => ?_, ?_⟩; ((try dsimp only at hSw); obtain ⟨⟨c1, c2, c3, c4⟩, c5⟩ := hSw; go_simp; try rfl); try simp only [Act.put, List.setIfInBounds_toArray, List.set_cons_zero, List.set_cons_succ])
          (refine gheld_val (i := 15) rfl (by kernel_rfl) (by kernel_rfl) (by kernel_rfl) hHeld (by rfl) ?_; apply Exists.intro; refine ⟨fun wq hSw => ?_, ?_⟩; ((try dsimp only at hSw); obtain ⟨⟨c1, c2, c3, c4⟩, c5⟩ := hSw; go_simp; try rfl); try simp only [Act.put, List.setIfInBounds_toArray, List.set_cons_zero, List.set_cons_succ])
          (refine gheld_val (i := 16) rfl (by kernel_rfl) (by kernel_rfl) (by kernel_rfl) hHeld (by rfl) ?_; apply Exists.intro; refine ⟨fun wq hSw => ?_, ?_⟩; ((try dsimp only at hSw); obtain ⟨⟨c1, c2, c3, c4⟩, c5⟩ := hSw; go_simp; try rfl); try simp only [Act.put, List.setIfInBounds_toArray, List.set_cons_zero, List.set_cons_succ])
          (refine gheld_val (i := 17) rfl (by kernel_rfl) (by kernel_rfl) (by kernel_rfl) hHeld (by rfl) ?_; apply Exists.intro; refine ⟨fun wq hSw => ?_, ?_⟩; ((try dsimp only at hSw); obtain ⟨⟨c1, c2, c3, c4⟩, c5⟩ := hSw; go_simp; try rfl); try simp only [Act.put, List.setIfInBounds_toArray, List.set_cons_zero, List.set_cons_succ])
          refine wpAnyH_ready (rs := [18]) (by kernel_rfl) (by simp) ?_
          refine AllReadyH.cons (gof_drop rfl) (fun K hK => ?_) AllReadyH.nil
          go_simp
          refine (HC3.out _ hHeld).mono ?_
          rintro e wq18 ⟨rfl, hSq⟩
          refine hK.out _ _ (hSq) (fun hHeld => ?_)
          clear hK K
          try simp only [Act.put, List.setIfInBounds_toArray, List.set_cons_zero, List.set_cons_succ]
          (refine gheld_val (i := 19) rfl (by kernel_rfl) (by kernel_rfl) (by kernel_rfl) hHeld (by rfl) ?_; apply Exists.intro; refine ⟨fun wq hSw => ?_, ?_⟩; ((try dsimp only at hSw); obtain ⟨⟨c1, c2, c3, c4⟩, c5⟩ := hSw; go_simp; try rfl); try simp only [Act.put, List.setIfInBounds_toArray, List.set_cons_zero, List.set_cons_succ])
          (refine gheld_val (i := 20) rfl (by kernel_rfl) (by kernel_rfl) (by kernel_rfl) hHeld (by rfl) ?_; apply Exists.intro; refine ⟨fun wq hSw => ?_, ?_⟩; ((try dsimp only at hSw); obtain ⟨⟨c1, c2, c3, c4⟩, c5⟩ := hSw; go_simp; try rfl); try simp only [Act.put, List.setIfInBounds_toArray, List.set_cons_zero, List.set_cons_succ])
          (refine gheld_val (i := 21) rfl (by kernel_rfl) (by kernel_rfl) (by kernel_rfl) hHeld (by rfl) ?_; apply Exists.intro; refine ⟨fun wq hSw => ?_, ?_⟩; ((try dsimp only at hSw); obtain ⟨⟨c1, c2, c3, c4⟩, c5⟩ := hSw; go_simp; try rfl); try simp only [Act.put, List.setIfInBounds_toArray, List.set_cons_zero, List.set_cons_succ])
          refine wpAnyH_done (by kernel_rfl) ⟨rfl, ?_⟩ _
          have HGo := HG.out _ hHeld
          go_wp2
          go_ret
          exact ⟨rfl, HGo.out⟩)
      · cases q
        all_goals (
          (refine gheld_val (i := 0) rfl (by kernel_rfl) (by kernel_rfl) (by kernel_rfl) hHeld (by rfl) ?_; apply Exists.intro; refine ⟨fun wq hSw => ?_, ?_⟩; ((try dsimp only at hSw); obtain ⟨⟨c1, c2, c3, c4⟩, c5⟩ := hSw; go_simp; try rfl); try simp only [Act.put, List.setIfInBounds_toArray, List.set_cons_zero, List.set_cons_succ])
          (refine gheld_val (i := 1) rfl (by kernel_rfl) (by kernel_rfl) (by kernel_rfl) hHeld (by rfl) ?_; apply Exists.intro; refine ⟨fun wq hSw => ?_, ?_⟩; ((try dsimp only at hSw); obtain ⟨⟨c1, c2, c3, c4⟩, c5⟩ := hSw; go_simp; try rfl); try simp only [Act.put, List.setIfInBounds_toArray, List.set_cons_zero, List.set_cons_succ])
          (refine gheld_val (i := 2) rfl (by kernel_rfl) (by kernel_rfl) (by kernel_rfl) hHeld (by rfl) ?_; apply Exists.intro; refine ⟨fun wq hSw => ?_, ?_⟩; ((try dsimp only at hSw); obtain ⟨⟨c1, c2, c3, c4⟩, c5⟩ := hSw; go_simp; try rfl); try simp only [Act.put, List.setIfInBounds_toArray, List.set_cons_zero, List.set_cons_succ])
          (refine gheld_val (i := 3) rfl (by kernel_rfl) (by kernel_rfl) (by kernel_rfl) hHeld (by rfl) ?_; apply Exists.intro; refine ⟨fun wq hSw => ?_, ?_⟩; ((try dsimp only at hSw); obtain ⟨⟨c1, c2, c3, c4⟩, c5⟩ := hSw; go_simp; try rfl); try simp only [Act.put, List.setIfInBounds_toArray, List.set_cons_zero, List.set_cons_succ])
          (refine gheld_val (i := 4) rfl (by kernel_rfl) (by kernel_rfl) (by kernel_rfl) hHeld (by rfl) ?_; apply Exists.intro; refine ⟨fun wq hSw => ?_, ?_⟩; ((try dsimp only at hSw); obtain ⟨⟨c1, c2, c3, c4⟩, c5⟩ := hSw; go_simp; try rfl); try simp only [Act.put, List.setIfInBounds_toArray, List.set_cons_zero, List.set_cons_succ])
          (refine gheld_val (i := 6) rfl (by kernel_rfl) (by kernel_rfl) (by kernel_rfl) hHeld (by rfl) ?_; apply Exists.intro; refine ⟨fun wq hSw => ?_, ?_⟩; ((try dsimp only at hSw); obtain ⟨⟨c1, c2, c3, c4⟩, c5⟩ := hSw; go_simp; try rfl); try simp only [Act.put, List.setIfInBounds_toArray, List.set_cons_zero, List.set_cons_succ])
          (refine gheld_val (i := 7) rfl (by kernel_rfl) (by kernel_rfl) (by kernel_rfl) hHeld (by rfl) ?_; apply Exists.intro; refine ⟨fun wq hSw => ?_, ?_⟩; ((try dsimp only at hSw); obtain ⟨⟨c1, c2, c3, c4⟩, c5⟩ := hSw; go_simp; try rfl); try simp only [Act.put, List.setIfInBounds_toArray, List.set_cons_zero, List.set_cons_succ])
          (refine gheld_val (i := 8) rfl (by kernel_rfl) (by kernel_rfl) (by kernel_rfl) hHeld (by rfl) ?_; apply Exists.intro; refine ⟨fun wq hSw => ?_, ?_⟩; ((try dsimp only at hSw); obtain ⟨⟨c1, c2, c3, c4⟩, c5⟩ := hSw; go_simp; try rfl); try simp only [Act.put, List.setIfInBounds_toArray, List.set_cons_zero, List.set_cons_succ])
          (refine gheld_val (i := 9) rfl (by kernel_rfl) (by kernel_rfl) (by kernel_rfl) hHeld (by rfl) ?_; apply Exists.intro; refine ⟨fun wq hSw => ?_, ?_⟩; ((try dsimp only at hSw); obtain ⟨⟨c1, c2, c3, c4⟩, c5⟩ := hSw; go_simp; try rfl); try simp only [Act.put, List.setIfInBounds_toArray, List.set_cons_zero, List.set_cons_succ])
          (refine gheld_val (i := 10) rfl (by kernel_rfl) (by kernel_rfl) (by kernel_rfl) hHeld (by rfl) ?_; apply Exists.intro; refine ⟨fun wq hSw => ?_, ?_⟩; ((try dsimp only at hSw); obtain ⟨⟨c1, c2, c3, c4⟩, c5⟩ := hSw; go_simp; try rfl); try simp only [Act.put, List.setIfInBounds_toArray, List.set_cons_zero, List.set_cons_succ])
          refine wpAnyH_ready (rs := [5]) (by kernel_rfl) (by simp) ?_
          refine AllReadyH.cons (gof_drop rfl) (fun K hK => ?_) AllReadyH.nil
          go_simp
          refine (HC1.out _ hHeld).mono ?_
          rintro e wq5 ⟨rfl, hSq⟩
          refine hK.out _ _ (hSq) (fun hHeld => ?_)
          clear hK K
          try simp only [Act.put, List.setIfInBounds_toArray, List.set_cons_zero, List.set_cons_succ]
          refine wpAnyH_ready (rs := [11]) (by kernel_rfl) (by simp) ?_
          refine AllReadyH.cons (gof_drop rfl) (fun K hK => ?_) AllReadyH.nil
          go_simp
          refine (HC2.out _ hHeld).mono ?_
          rintro e wq11 ⟨rfl, hSq⟩
          refine hK.out _ _ (hSq) (fun hHeld => ?_)
          clear hK K
          try simp only [Act.put, List.setIfInBounds_toArray, List.set_cons_zero, List.set_cons_succ]
          (refine gheld_val (i := 12) rfl (by kernel_rfl) (by kernel_rfl) (by kernel_rfl) hHeld (by rfl) ?_; apply Exists.intro; refine ⟨fun wq hSw => ?_, ?_⟩; ((try dsimp only at hSw); obtain ⟨⟨c1, c2, c3, c4⟩, c5⟩ := hSw; go_simp; try rfl); try simp only [Act.put, List.setIfInBounds_toArray, List.set_cons_zero, List.set_cons_succ])
          (refine gheld_skip (i := 13) rfl (by kernel_rfl) (by kernel_rfl) (by kernel_rfl) hHeld (by rfl) ?_; try simp only [Act.put, List.setIfInBounds_toArray, List.set_cons_zero, List.set_cons_succ])
          (refine gheld_skip (i := 14) rfl (by kernel_rfl) (by kernel_rfl) (by kernel_rfl) hHeld (by rfl) ?_; try simp only [Act.put, List.setIfInBounds_toArray, List.set_cons_zero, List.set_cons_succ])
          (refine gheld_skip (i := 15) rfl (by kernel_rfl) (by kernel_rfl) (by kernel_rfl) hHeld (by rfl) ?_; try simp only [Act.put, List.setIfInBounds_toArray, List.set_cons_zero, List.set_cons_succ])
          (refine gheld_skip (i := 16) rfl (by kernel_rfl) (by kernel_rfl) (by kernel_rfl) hHeld (by rfl) ?_; try simp only [Act.put, List.setIfInBounds_toArray, List.set_cons_zero, List.set_cons_succ])
          (refine gheld_skip (i := 17) rfl (by kernel_rfl) (by kernel_rfl) (by kernel_rfl) hHeld (by rfl) ?_; try simp only [Act.put, List.setIfInBounds_toArray, List.set_cons_zero, List.set_cons_succ])
          (refine gheld_skip (i := 18) rfl (by kernel_rfl) (by kernel_rfl) (by kernel_rfl) hHeld (by rfl) ?_; try simp only [Act.put, List.setIfInBounds_toArray, List.set_cons_zero, List.set_cons_succ])
          (refine gheld_val (i := 19) rfl (by kernel_rfl) (by kernel_rfl) (by kernel_rfl) hHeld (by rfl) ?_; apply Exists.intro; refine ⟨fun wq hSw => ?_, ?_⟩; ((try dsimp only at hSw); obtain ⟨⟨c1, c2, c3, c4⟩, c5⟩ := hSw; go_simp; try rfl); try simp only [Act.put, List.setIfInBounds_toArray, List.set_cons_zero, List.set_cons_succ])
          (refine gheld_val (i := 20) rfl (by kernel_rfl) (by kernel_rfl) (by kernel_rfl) hHeld (by rfl) ?_; apply Exists.intro; refine ⟨fun wq hSw => ?_, ?_⟩; ((try dsimp only at hSw); obtain ⟨⟨c1, c2, c3, c4⟩, c5⟩ := hSw; go_simp; try rfl); try simp only [Act.put, List.setIfInBounds_toArray, List.set_cons_zero, List.set_cons_succ])
          (refine gheld_val (i := 21) rfl (by kernel_rfl) (by kernel_rfl) (by kernel_rfl) hHeld (by rfl) ?_; apply Exists.intro; refine ⟨fun wq hSw => ?_, ?_⟩; ((try dsimp only at hSw); obtain ⟨⟨c1, c2, c3, c4⟩, c5⟩ := hSw; go_simp; try rfl); try simp only [Act.put, List.setIfInBounds_toArray, List.set_cons_zero, List.set_cons_succ])
          refine wpAnyH_done (by kernel_rfl) ⟨rfl, ?_⟩ _
          have HGo := HG.out _ hHeld
          go_wp2
          go_ret
          exact ⟨rfl, HGo.out⟩)
    · have hin2 : xa < 0 ∨ (N : Int) ≤ xa ∨ xb < 0 ∨ (N : Int) ≤ xb := by omega
      by_cases z1 : xa < 0
      · have q1 : decide (xa < 0) = true := by simpa using z1
        go_wp2; go_ret; exact ⟨rfl, HB.out⟩
      · have q1 : decide (xa < 0) = false := by simpa using z1
        by_cases z2 : (N : Int) ≤ xa
        · have q2 : decide ((N : Int) ≤ xa) = true := by simpa using z2
          go_wp2; go_ret; exact ⟨rfl, HB.out⟩
        · have q2 : decide ((N : Int) ≤ xa) = false := by simpa using z2
          by_cases z3 : xb < 0
          · have q3 : decide (xb < 0) = true := by simpa using z3
            go_wp2; go_ret; exact ⟨rfl, HB.out⟩
          · have q3 : decide (xb < 0) = false := by simpa using z3
            have q4 : decide ((N : Int) ≤ xb) = true := by simp; omega
            go_wp2; go_ret; exact ⟨rfl, HB.out⟩
  · have HT : Hid (∀ A c V, RdG V V.heap.size A R → ∃ e1 : Int, (e1 == 0) = false ∧ Calls Try.prog 12 #[.agg #[.slice A N c]] V fun e w' => ∃ A R c, e = .returned (.tuple #[.agg #[.slice A 0 c], .int .i64 e1]) ∧ gs R = [] ∧ RdG w' w'.heap.size A R ∧ Below V.heap.size V w') := fun A c V h => by
      by_cases e1 : grE (gs R) = 0
      · obtain ⟨g, hg, hok⟩ := grE_zero _ e1
        have h6 : 600 < (bth (arcs 0 g)).length := by
          refine Classical.byContradiction fun q => e0 ⟨e1, fun g2 h2 => ?_⟩
          obtain rfl := gns_inj (h2.symm.trans hg)
          exact q
        have := gboth_okW R g hg hok N hN A c V h
        rw [if_pos h6, if_pos h6] at this
        exact ⟨2, by decide, this⟩
      · exact ⟨grE (gs R), by simpa using e1, gboth_e R N hN hn _ rfl e1 A c V h⟩
    clear e0 hN hn
    have HB : Hid (Below w.heap.size w w) := Below.refl _ w
    have HR := Lib.hid hA; clear hA
    go_enter Try.func6, Try.ntmps6
    have HBq : Hid (Below w.heap.size w ((w.alloc (.cells #[.slice A N c] 24)).alloc (.cells #[.int .i64 xa, .int .i64 xb] 44))) := (one_below _ _).trans ((one_below _ _).mono (by simp))
    replace HB : Hid (Below w.heap.size w ((w.alloc (.cells #[.slice A N c] 24)).alloc (.cells #[.int .i64 xa, .int .i64 xb] 44))) := HB.out.trans (HBq.out.mono HB.out.size)
    replace HR : Hid (RdG ((w.alloc (.cells #[.slice A N c] 24)).alloc (.cells #[.int .i64 xa, .int .i64 xb] 44)) (((w.alloc (.cells #[.slice A N c] 24)).alloc (.cells #[.int .i64 xa, .int .i64 xb] 44))).heap.size A R) := HR.out.on HBq.out
    clear HBq
    obtain ⟨e1, t1, hc1⟩ := HT.out A c _ HR.out
    have HC1 := Lib.hid hc1; clear hc1
    have HC := Lib.hid (HC1.out)
    go_wp2_with fail
    refine HC.out.mono ?_
    rintro e w1 ⟨A1, R1, c1, rfl, g1, h1, bq⟩
    clear HC
    have HBc := Lib.hid bq; clear bq
    have HBq : Hid (Below ((w.alloc (.cells #[.slice A N c] 24)).alloc (.cells #[.int .i64 xa, .int .i64 xb] 44)).heap.size ((w.alloc (.cells #[.slice A N c] 24)).alloc (.cells #[.int .i64 xa, .int .i64 xb] 44)) w1) := HBc.out
    replace HB : Hid (Below w.heap.size w w1) := HB.out.trans (HBq.out.mono HB.out.size)
    replace HR : Hid (RdG w1 (w1).heap.size A R) := HR.out.on HBq.out
    clear HBq
    clear HBc
    have G1 := Lib.hid g1; clear g1
    have H1 : Hid (RdG w1 (w1).heap.size A1 R1) := h1
    clear h1
    have HBq : Hid (Below w1.heap.size w1 (w1.alloc (.cells #[.slice A1 0 c1] 24))) := one_below _ _
    replace HB : Hid (Below w.heap.size w (w1.alloc (.cells #[.slice A1 0 c1] 24))) := HB.out.trans (HBq.out.mono HB.out.size)
    replace HR : Hid (RdG (w1.alloc (.cells #[.slice A1 0 c1] 24)) ((w1.alloc (.cells #[.slice A1 0 c1] 24))).heap.size A R) := HR.out.on HBq.out
    replace H1 : Hid (RdG (w1.alloc (.cells #[.slice A1 0 c1] 24)) ((w1.alloc (.cells #[.slice A1 0 c1] 24))).heap.size A1 R1) := H1.out.on HBq.out
    clear HBq
    have K1 : Hid (((w1.alloc (.cells #[.slice A1 0 c1] 24))).cell? ⟨w1.heap.size, 0, none⟩ = some (.slice A1 0 c1)) := (cell_at (World.alloc_heap_new w1 _) 0).trans rfl
    have HC := Lib.hid (graphbegun_true (w1.alloc (.cells #[.slice A1 0 c1] 24)))
    go_wp2_with fail
    refine HC.out.mono ?_
    rintro e w2 ⟨rfl, bq⟩
    clear HC
    have HBc := Lib.hid bq; clear bq
    have HBq : Hid (Below (w1.alloc (.cells #[.slice A1 0 c1] 24)).heap.size (w1.alloc (.cells #[.slice A1 0 c1] 24)) w2) := HBc.out
    replace HB : Hid (Below w.heap.size w w2) := HB.out.trans (HBq.out.mono HB.out.size)
    replace HR : Hid (RdG w2 (w2).heap.size A R) := HR.out.on HBq.out
    replace H1 : Hid (RdG w2 (w2).heap.size A1 R1) := H1.out.on HBq.out
    replace K1 : Hid ((w2).cell? ⟨w1.heap.size, 0, none⟩ = some (.slice A1 0 c1)) := (HBq.out.cell (World.block_lt_of_cell? _ _ K1.out)).trans K1.out
    clear HBq
    clear HBc
    have HC := Lib.hid (sg_true [] R1 [] G1.out rfl 0 0 rfl rfl (by omega) A1 none c1 0 _ H1.out (rdg_nil _))
    have k_K1 := K1.out
    go_wp2_with fail
    clear k_K1
    refine HC.out.mono ?_
    rintro e w3 ⟨rfl, bq⟩
    clear HC
    have HBc := Lib.hid bq; clear bq
    have HBq : Hid (Below w2.heap.size w2 w3) := HBc.out
    replace HB : Hid (Below w.heap.size w w3) := HB.out.trans (HBq.out.mono HB.out.size)
    replace HR : Hid (RdG w3 (w3).heap.size A R) := HR.out.on HBq.out
    replace H1 : Hid (RdG w3 (w3).heap.size A1 R1) := H1.out.on HBq.out
    replace K1 : Hid ((w3).cell? ⟨w1.heap.size, 0, none⟩ = some (.slice A1 0 c1)) := (HBq.out.cell (World.block_lt_of_cell? _ _ K1.out)).trans K1.out
    clear HBq
    clear HBc
    go_wp2
    go_ret
    exact ⟨rfl, HB.out⟩
end

section
open Go.ChangeShapes Go.WideShapes Go.ChangeAt Go.RowKit
open Go.ChangeMaps (open_string shut_string)

set_option linter.unusedVariables false
set_option maxRecDepth 100000 in
theorem graphBoth_lifted (os : Os) (started : os.Started) (H : Type) (enc : TypeId × Value → H) :
    ReturnsInHanded {} Try.checked os 6 .any (Rows.graphBothSpec.pre6 enc Try.prog Try.f6 Rows.graphBothRow.domain false) (Rows.graphBothSpec.post enc Try.prog Try.f6 false true false false) := by
  refine returnsInHanded_of_change_sized (C := Try.checked) own started (by kernel_rfl) Try.func6
    (ChangeSpec.witness6 (enc := enc) (C := Try.checked) false ⟨#[], #[.agg #[.slice none 0 0], .agg #[.int .i64 0, .int .i64 0]], []⟩ 8 (by kernel_rfl) (by kernel_rfl) (by kernel_rfl) (by kernel_rfl)) ?_
  intro W base args ds gs before hval0 hW hcnd hzz _
  have hval : ∀ (j : Nat) t v, Try.f6.params[j]? = some t → args[j]? = some v → Value.okWide Try.prog W .any base t v := hval0
  have hW' := hW
  obtain ⟨p, q, hA0, hV, rfl, hfz, hnd⟩ := hW
  have hA : DataW.TrodAll enc Try.prog W 0 (fun _ => true) true Try.f6.params.toList args.toList ds p := hA0
  rw [Try.params6] at hA hval hzz
  obtain ⟨v0, vs0, d0, ds0, p0, q0, hargs, rfl, rfl, h0, r0⟩ := trodAll_cons hA
  obtain ⟨v1, vs1, d1, ds1, p1, q1, rfl, rfl, rfl, h1, r1⟩ := trodAll_cons r0
  obtain ⟨rfl, rfl, rfl⟩ := trodAll_nil r1
  obtain rfl : args = #[v0, v1] := by cases args; simp_all
  obtain ⟨rfl, rfl⟩ := trodVars_none hV
  have k0 := h0
  have lt0 : ∀ x ∈ p0, x.block < W.heap.size := by obtain ⟨m, hm⟩ := k0; exact DataW.trod_lt m _ _ _ hm
  obtain ⟨A0, c0, R0, rfl, rd0, nn0⟩ := open_graph (hval 0 24 v0 rfl rfl) h0 (fun n hn => of_decide_eq_true (List.all_eq_true.1 hzz n (DataW.weights_mem_each (j := 0) (t := 24) (d := d0) rfl rfl n hn)))
  have k1 := h1
  have lt1 : ∀ x ∈ p1, x.block < W.heap.size := by obtain ⟨m, hm⟩ := k1; exact DataW.trod_lt m _ _ _ hm
  obtain ⟨xa1, xb1, rfl, ba1, bb1⟩ := open_arc (hval 1 44 v1 rfl rfl) h1
  clear hA0 hval0
  refine (graphBoth_law A0 c0 R0 xa1 xb1 W rd0 nn0 ba1 bb1).mono fun e W' ⟨he, bel⟩ => ?_
  subst he
  exact ⟨_, rfl, _, _, _, [], _, [], hW', trodAll_mk1 (shut_bool Try.underlying4 _), (trodAll_cons_mk (Below.trod laidOut (by kernel_rfl) (of_decide_eq_true (by kernel_rfl)) k0 bel lt0) (trodAll_cons_mk (Below.trod laidOut (by kernel_rfl) (of_decide_eq_true (by kernel_rfl)) k1 bel lt1) trodAll_mk0)), rfl, bel.frame _, fun h => by cases h⟩

theorem GraphBoth_holds : Rows.GraphBothSaid :=
  OpenClaim.holds_of_wide 6 Try.f6 rfl rfl rfl rfl rfl rfl rfl ⟨rfl, rfl, rfl, rfl, rfl⟩ rfl rfl rfl rfl rfl (by kernel_rfl) Try.func6 (by kernel_rfl)
    (of_decide_eq_true (by kernel_rfl)) (by unfold Func.isWrapper; first | (rw [if_pos (by decide +kernel)]; kernel_rfl) | (rw [if_neg (by decide +kernel)]; exact ⟨rfl, rfl⟩))
    (fun os started H enc _ => graphBoth_lifted os started H enc)
#print axioms GraphBoth_holds
end
end Go.Proofs.Ytfeegpggfmfhjaa
