/- The law WalkParts: who is come to is of the same part, both ways all of a part are come to; for whatever graph and nodes. -/
import Derived.Test.YtffgmjfanpgbbaaDJB
import Derived.Test.YtffgmjfanpgbbaaWOp
namespace Go.Proofs.Ytffgmjfanpgbbaa

section
set_option maxRecDepth 100000
set_option linter.unusedVariables false
open Go.RowKit Go.Shelf

theorem re_both {g : List (List Nat)} (hok : GOk g) (x y : Nat) : Re (gboth g) x y ↔ Re (und g) x y := by
  have e : ∀ i z, z ∈ row (gboth g) i ↔ z ∈ row (und g) i := fun i z => by
    rw [und_mem hok]
    by_cases h : i < g.length
    · exact gboth_mem h
    · rw [row_out (by rw [gboth_length]; omega), row_out (i := i) (by omega)]
      refine ⟨fun q => by simp at q, fun q => ?_⟩
      rcases q with q | q
      · simp at q
      · exact absurd (hok.bdd z i q) h
  exact ⟨fun ⟨d, hd⟩ => ⟨d, rc_mono (fun i z q => (e i z).1 q) d y hd⟩, fun ⟨d, hd⟩ => ⟨d, rc_mono (fun i z q => (e i z).2 q) d y hd⟩⟩
set_option maxHeartbeats 8000000 in
theorem walkParts_law (A : Option Addr) (c : Nat) (R : List Rw) (s t : Int) (w : World) (hA : RdG w w.heap.size A R) (hn : R.length ≤ 140737488355328) (hs0 : -9223372036854775808 ≤ s ∧ s ≤ 9223372036854775807) (ht0 : -9223372036854775808 ≤ t ∧ t ≤ 9223372036854775807) :
    Calls Try.prog 6 #[.agg #[.slice A R.length c], .int .i64 s, .int .i64 t] w fun e w' => e = .returned (.bool true) ∧ Below w.heap.size w w' := by
  clear hs0 ht0
  obtain ⟨N, hN⟩ : ∃ N, R.length = N := ⟨_, rfl⟩
  rw [hN] at hn ⊢
  by_cases e0 : grE (gs R) = 0
  · obtain ⟨g, hg, hok⟩ := grE_zero _ e0
    have hgl : g.length = N := by have := congrArg List.length hg; rw [gs_length, List.length_map] at this; omega
    have hN1 : N ≤ 100 := by have := hok.nodes; omega
    have HP : Hid (∀ A c V, RdG V V.heap.size A R → Calls Try.prog 32 #[.agg #[.slice A N c]] V fun e w' => ∃ b p, e = .returned (.tuple #[.slice (some ⟨b, 0, none⟩) N N, .int .i64 0]) ∧ Pa g p ∧ RdV w' w'.heap.size (some ⟨b, 0, none⟩) (zc (ns p)) ∧ Below V.heap.size V w') := fun A c V h => (parts_ok R g hg hok N hN A c V h).mono fun e w' ⟨b, p, q1, q2, q3⟩ => ⟨b, p, q1, q2, q3.rd, q3.low⟩
    have HFt : Hid (∀ (s : Int), ¬ (0 ≤ s ∧ s < (N : Int)) → ∀ A c V, RdG V V.heap.size A R → Calls Try.prog 30 #[.agg #[.slice A N c], .int .i64 s] V fun e w' => ∃ A n c e1, e = .returned (.tuple #[.slice A n c, .int .i64 e1]) ∧ (e1 == 0) = false ∧ Below V.heap.size V w') := fun s hs A c V h => (far_tot R N hN (by omega) s A c V h).mono fun e w' ⟨A, n, c, e1, q1, q2, q3⟩ => ⟨A, n, c, e1, q1, by rw [q2]; exact decide_eq_false (fun q => hs (by have := (cnE_zero q).2 s (by simp); rwa [gs_length, hN] at this)), q3⟩
    have HF : Hid (∀ (k : Nat) F, k < N → Fa g k F → ∀ A c V, RdG V V.heap.size A R → Calls Try.prog 30 #[.agg #[.slice A N c], .int .i64 (k : Int)] V fun e w' => ∃ b, e = .returned (.tuple #[.slice (some ⟨b, 0, none⟩) N N, .int .i64 0]) ∧ RdV w' w'.heap.size (some ⟨b, 0, none⟩) (zc F) ∧ Below V.heap.size V w') := fun k F hk hF A c V h => (far_ok R g hg hok N hN k hk F hF A c V h).mono fun e w' ⟨b, q1, q2⟩ => ⟨b, q1, q2.rd, q2.low⟩
    have HOk : Hid (GOk g ∧ g.length = N) := ⟨hok, hgl⟩
    have HBe : Hid (600 < (bth (arcs 0 g)).length → ∀ A c V, RdG V V.heap.size A R → Calls Try.prog 18 #[.agg #[.slice A N c]] V fun e w' => ∃ A c, e = .returned (.tuple #[.agg #[.slice A 0 c], .int .i64 2]) ∧ Below V.heap.size V w') := fun hb A c V h => by
      have := gboth_okW R g hg hok N hN A c V h
      rw [if_pos hb, if_pos hb] at this
      exact this.mono fun e w' ⟨A, R, c, q1, _, _, q4⟩ => ⟨A, c, q1, q4⟩
    have HBo : Hid (¬ 600 < (bth (arcs 0 g)).length → ∀ A c V, RdG V V.heap.size A R → Calls Try.prog 18 #[.agg #[.slice A N c]] V fun e w' => ∃ A R c, e = .returned (.tuple #[.agg #[.slice A N c], .int .i64 0]) ∧ gs R = (gboth g).map ns ∧ RdG w' w'.heap.size A R ∧ Below V.heap.size V w') := fun hb A c V h => by
      have := gboth_okW R g hg hok N hN A c V h
      rw [if_neg hb, if_neg hb] at this
      unfold GrP at this; rw [gboth_length, hgl] at this; exact this
    have HFb : Hid (¬ 600 < (bth (arcs 0 g)).length → ∀ (k : Nat) F, k < N → Fa (gboth g) k F → ∀ R2 A c V, gs R2 = (gboth g).map ns → RdG V V.heap.size A R2 → Calls Try.prog 30 #[.agg #[.slice A N c], .int .i64 (k : Int)] V fun e w' => ∃ b, e = .returned (.tuple #[.slice (some ⟨b, 0, none⟩) N N, .int .i64 0]) ∧ RdV w' w'.heap.size (some ⟨b, 0, none⟩) (zc F) ∧ Below V.heap.size V w') := fun hb k F hk hF R2 A c V h2 h => (far_ok R2 (gboth g) h2 (gboth_ok hok (by omega)) N (by have := congrArg List.length h2; rw [gs_length, List.length_map, gboth_length] at this; omega) k hk F hF A c V h).mono fun e w' ⟨b, q1, q2⟩ => ⟨b, q1, q2.rd, q2.low⟩
    clear e0 hN hn hg hok hgl
    have HB : Hid (Below w.heap.size w w) := Below.refl _ w
    have HR := Lib.hid hA; clear hA
    go_enter Try.func6, Try.ntmps6
    have HBq : Hid (Below w.heap.size w (w.alloc (.cells #[.slice A N c] 24))) := one_below _ _
    replace HB : Hid (Below w.heap.size w (w.alloc (.cells #[.slice A N c] 24))) := HB.out.trans (HBq.out.mono HB.out.size)
    replace HR : Hid (RdG (w.alloc (.cells #[.slice A N c] 24)) ((w.alloc (.cells #[.slice A N c] 24))).heap.size A R) := HR.out.on HBq.out
    clear HBq
    have K0 : Hid (((w.alloc (.cells #[.slice A N c] 24))).cell? ⟨w.heap.size, 0, none⟩ = some (.slice A N c)) := (cell_at (World.alloc_heap_new w _) 0).trans rfl
    have HC := Lib.hid (HP.out A c _ HR.out)
    have k_K0 := K0.out
    go_wp2_with fail
    clear k_K0
    refine HC.out.mono ?_
    rintro e w1 ⟨b4, p4, rfl, p4h, q4, bq⟩
    clear HC
    have HBc := Lib.hid bq; clear bq
    have HBq : Hid (Below (w.alloc (.cells #[.slice A N c] 24)).heap.size (w.alloc (.cells #[.slice A N c] 24)) w1) := HBc.out
    replace HB : Hid (Below w.heap.size w w1) := HB.out.trans (HBq.out.mono HB.out.size)
    replace HR : Hid (RdG w1 (w1).heap.size A R) := HR.out.on HBq.out
    replace K0 : Hid ((w1).cell? ⟨w.heap.size, 0, none⟩ = some (.slice A N c)) := (HBq.out.cell (World.block_lt_of_cell? _ _ K0.out)).trans K0.out
    clear HBq
    clear HBc
    have Q4 : Hid (RdV w1 (w1).heap.size (some ⟨b4, 0, none⟩) (zc (ns p4))) := q4
    clear q4
    have HPa := Lib.hid p4h; clear p4h
    have HPl : Hid (p4.length = N) := HPa.out.len.trans HOk.out.2
    by_cases hs : 0 ≤ s ∧ s < (N : Int)
    · obtain ⟨k, rfl⟩ := Int.eq_ofNat_of_zero_le hs.1
      have hk : k < N := by omega
      obtain ⟨F, hF⟩ := fa_ex g k
      have HFl : Hid (F.length = N) := by show _ = _; rw [hF.len]; exact HOk.out.2
      have HFa := Lib.hid hF
      clear hs
      have HC := Lib.hid (HF.out k F hk hF A c _ HR.out)
      have k_K0 := K0.out
      go_wp2_with fail
      clear k_K0
      refine HC.out.mono ?_
      rintro e w2 ⟨b9, rfl, q9, bq⟩
      clear HC
      have HBc := Lib.hid bq; clear bq
      have HBq : Hid (Below w1.heap.size w1 w2) := HBc.out
      replace HB : Hid (Below w.heap.size w w2) := HB.out.trans (HBq.out.mono HB.out.size)
      replace HR : Hid (RdG w2 (w2).heap.size A R) := HR.out.on HBq.out
      replace K0 : Hid ((w2).cell? ⟨w.heap.size, 0, none⟩ = some (.slice A N c)) := (HBq.out.cell (World.block_lt_of_cell? _ _ K0.out)).trans K0.out
      replace Q4 : Hid (RdV w2 (w2).heap.size (some ⟨b4, 0, none⟩) (zc (ns p4))) := Q4.out.on HBq.out
      clear HBq
      clear HBc
      clear hF
      have Q9 : Hid (RdV w2 (w2).heap.size (some ⟨b9, 0, none⟩) (zc F)) := q9
      clear q9
      have HC := Lib.hid (walkbegun_true w2)
      go_wp2_with fail
      refine HC.out.mono ?_
      rintro e w3 ⟨rfl, bq⟩
      clear HC
      have HBc := Lib.hid bq; clear bq
      have HBq : Hid (Below w2.heap.size w2 w3) := HBc.out
      replace HB : Hid (Below w.heap.size w w3) := HB.out.trans (HBq.out.mono HB.out.size)
      replace HR : Hid (RdG w3 (w3).heap.size A R) := HR.out.on HBq.out
      replace K0 : Hid ((w3).cell? ⟨w.heap.size, 0, none⟩ = some (.slice A N c)) := (HBq.out.cell (World.block_lt_of_cell? _ _ K0.out)).trans K0.out
      replace Q4 : Hid (RdV w3 (w3).heap.size (some ⟨b4, 0, none⟩) (zc (ns p4))) := Q4.out.on HBq.out
      replace Q9 : Hid (RdV w3 (w3).heap.size (some ⟨b9, 0, none⟩) (zc F)) := Q9.out.on HBq.out
      clear HBq
      clear HBc
      have HC := Lib.hid (graphbegun_true w3)
      go_wp2_with fail
      refine HC.out.mono ?_
      rintro e w4 ⟨rfl, bq⟩
      clear HC
      have HBc := Lib.hid bq; clear bq
      have HBq : Hid (Below w3.heap.size w3 w4) := HBc.out
      replace HB : Hid (Below w.heap.size w w4) := HB.out.trans (HBq.out.mono HB.out.size)
      replace HR : Hid (RdG w4 (w4).heap.size A R) := HR.out.on HBq.out
      replace K0 : Hid ((w4).cell? ⟨w.heap.size, 0, none⟩ = some (.slice A N c)) := (HBq.out.cell (World.block_lt_of_cell? _ _ K0.out)).trans K0.out
      replace Q4 : Hid (RdV w4 (w4).heap.size (some ⟨b4, 0, none⟩) (zc (ns p4))) := Q4.out.on HBq.out
      replace Q9 : Hid (RdV w4 (w4).heap.size (some ⟨b9, 0, none⟩) (zc F)) := Q9.out.on HBq.out
      clear HBq
      clear HBc
      by_cases ht : 0 ≤ t ∧ t < (N : Int)
      · obtain ⟨l, rfl⟩ := Int.eq_ofNat_of_zero_le ht.1
        have hl : l < N := by omega
        clear ht
        have hsm := HPa.out.same HOk.out.1 (x := k) (y := l) (by rw [HOk.out.2]; exact hk) (by rw [HOk.out.2]; exact hl)
        have hle := HPa.out.lt l (by rw [HOk.out.2]; exact hl)
        have hid := HPa.out.idem HOk.out.1 (x := l) (by rw [HOk.out.2]; exact hl)
        have hfr : 0 ≤ fv F l → qa p4 k = qa p4 l := fun q => by
          obtain ⟨d, hd⟩ := (HFa.out.reach l (by rw [HOk.out.2]; exact hl)).1 q
          exact hsm.2 ⟨d, rc_mono (fun i z r => (und_mem HOk.out.1 i z).2 (.inl r)) d l hd⟩
        have k1 := rdv_at Q9.out (N := N) l (by rw [HFl.out]; exact hl)
        have k2 := rdv_at Q4.out (N := N) k (by rw [ns_length, HPl.out]; exact hk)
        have k3 := rdv_at Q4.out (N := N) l (by rw [ns_length, HPl.out]; exact hl)
        have hpl : qa p4 l < N := by omega
        have k4 := rdv_at Q4.out (N := N) (qa p4 l) (by rw [ns_length, HPl.out]; exact hpl)
        rw [fv_ns _ _ (by rw [HPl.out]; exact hk)] at k2
        rw [fv_ns _ _ (by rw [HPl.out]; exact hl)] at k3
        rw [fv_ns _ _ (by rw [HPl.out]; exact hpl), hid] at k4
        have HSm := Lib.hid hsm
        have t1 : decide ((l : Int) < 0) = false := by simp
        have t2 : decide ((N : Int) ≤ (l : Int)) = false := by simp; omega
        have t2n : decide (N ≤ l) = false := by simp; omega
        have t3 : (0 : Int) ≤ (l : Int) := by omega
        have t4 : (l : Int) < (N : Int) := by omega
        have t5 : (0 : Int) ≤ (k : Int) := by omega
        have t6 : (k : Int) < (N : Int) := by omega
        obtain ⟨u, hu⟩ : ∃ u, qa p4 l = u := ⟨_, rfl⟩
        obtain ⟨v, hv⟩ : ∃ v, qa p4 k = v := ⟨_, rfl⟩
        have HUV := Lib.hid (⟨hu, hv⟩ : _ ∧ _)
        rw [hu, hv] at hfr
        rw [hu] at k3 k4 hle hpl
        rw [hv] at k2
        have t7 : decide ((l : Int) < (u : Int)) = false := by simp; omega
        have t7n : decide (l < u) = false := by simp; omega
        have t8 : (0 : Int) ≤ (u : Int) := by omega
        have t9 : (u : Int) < (N : Int) := by omega
        have t10 : ((u : Int) != (u : Int)) = false := by simp
        clear hsm hid hu hv
        by_cases hf : 0 ≤ fv F l
        · rw [hfr hf] at k2
          have t11 : decide ((0 : Int) ≤ fv F l) = true := decide_eq_true hf
          clear hfr
          generalize fv F l = z at *
          go_wp2
          go_quiet (fail)
          have HBw : Hid (Below w4.heap.size w4 (w4.drewN nq)) := below_drewN (Below.refl _ w4) nq
          generalize w4.drewN nq = w5 at *
          have HBq : Hid (Below w4.heap.size w4 w5) := HBw.out
          replace HB : Hid (Below w.heap.size w w5) := HB.out.trans (HBq.out.mono HB.out.size)
          replace HR : Hid (RdG w5 (w5).heap.size A R) := HR.out.on HBq.out
          replace K0 : Hid ((w5).cell? ⟨w.heap.size, 0, none⟩ = some (.slice A N c)) := (HBq.out.cell (World.block_lt_of_cell? _ _ K0.out)).trans K0.out
          replace Q4 : Hid (RdV w5 (w5).heap.size (some ⟨b4, 0, none⟩) (zc (ns p4))) := Q4.out.on HBq.out
          replace Q9 : Hid (RdV w5 (w5).heap.size (some ⟨b9, 0, none⟩) (zc F)) := Q9.out.on HBq.out
          clear HBq
          clear k1 k2 k3 k4
          by_cases hb : 600 < (bth (arcs 0 g)).length
          · have HC := Lib.hid (HBe.out hb A c _ HR.out)
            have k_K0 := K0.out
            go_wp2_with fail
            clear k_K0
            refine HC.out.mono ?_
            rintro e w6 ⟨A6, c6, rfl, bq⟩
            clear HC
            have HBc := Lib.hid bq; clear bq
            have HBq : Hid (Below w5.heap.size w5 w6) := HBc.out
            replace HB : Hid (Below w.heap.size w w6) := HB.out.trans (HBq.out.mono HB.out.size)
            replace HR : Hid (RdG w6 (w6).heap.size A R) := HR.out.on HBq.out
            replace K0 : Hid ((w6).cell? ⟨w.heap.size, 0, none⟩ = some (.slice A N c)) := (HBq.out.cell (World.block_lt_of_cell? _ _ K0.out)).trans K0.out
            replace Q4 : Hid (RdV w6 (w6).heap.size (some ⟨b4, 0, none⟩) (zc (ns p4))) := Q4.out.on HBq.out
            replace Q9 : Hid (RdV w6 (w6).heap.size (some ⟨b9, 0, none⟩) (zc F)) := Q9.out.on HBq.out
            clear HBq
            clear HBc
            have HBq : Hid (Below w6.heap.size w6 (w6.alloc (.cells #[.slice A6 0 c6] 24))) := one_below _ _
            replace HB : Hid (Below w.heap.size w (w6.alloc (.cells #[.slice A6 0 c6] 24))) := HB.out.trans (HBq.out.mono HB.out.size)
            replace HR : Hid (RdG (w6.alloc (.cells #[.slice A6 0 c6] 24)) ((w6.alloc (.cells #[.slice A6 0 c6] 24))).heap.size A R) := HR.out.on HBq.out
            replace K0 : Hid (((w6.alloc (.cells #[.slice A6 0 c6] 24))).cell? ⟨w.heap.size, 0, none⟩ = some (.slice A N c)) := (HBq.out.cell (World.block_lt_of_cell? _ _ K0.out)).trans K0.out
            replace Q4 : Hid (RdV (w6.alloc (.cells #[.slice A6 0 c6] 24)) ((w6.alloc (.cells #[.slice A6 0 c6] 24))).heap.size (some ⟨b4, 0, none⟩) (zc (ns p4))) := Q4.out.on HBq.out
            replace Q9 : Hid (RdV (w6.alloc (.cells #[.slice A6 0 c6] 24)) ((w6.alloc (.cells #[.slice A6 0 c6] 24))).heap.size (some ⟨b9, 0, none⟩) (zc F)) := Q9.out.on HBq.out
            clear HBq
            have K6 : Hid (((w6.alloc (.cells #[.slice A6 0 c6] 24))).cell? ⟨w6.heap.size, 0, none⟩ = some (.slice A6 0 c6)) := (cell_at (World.alloc_heap_new w6 _) 0).trans rfl
            go_wp2
            go_ret
            exact ⟨rfl, HB.out⟩
          · obtain ⟨K, hK⟩ := fa_ex (gboth g) k
            have HK : Hid (K.length = N ∧ (0 ≤ fv K l ↔ v = u)) := by
              refine ⟨by rw [hK.len, gboth_length]; exact HOk.out.2, ?_⟩
              rw [hK.reach l (by rw [gboth_length, HOk.out.2]; exact hl), ← HUV.out.1, ← HUV.out.2, HSm.out]
              exact re_both HOk.out.1 k l
            have HC := Lib.hid (HBo.out hb A c _ HR.out)
            have k_K0 := K0.out
            go_wp2_with fail
            clear k_K0
            refine HC.out.mono ?_
            rintro e w6 ⟨A6, R6, c6, rfl, g6, h6, bq⟩
            clear HC
            have HBc := Lib.hid bq; clear bq
            have HBq : Hid (Below w5.heap.size w5 w6) := HBc.out
            replace HB : Hid (Below w.heap.size w w6) := HB.out.trans (HBq.out.mono HB.out.size)
            replace HR : Hid (RdG w6 (w6).heap.size A R) := HR.out.on HBq.out
            replace K0 : Hid ((w6).cell? ⟨w.heap.size, 0, none⟩ = some (.slice A N c)) := (HBq.out.cell (World.block_lt_of_cell? _ _ K0.out)).trans K0.out
            replace Q4 : Hid (RdV w6 (w6).heap.size (some ⟨b4, 0, none⟩) (zc (ns p4))) := Q4.out.on HBq.out
            replace Q9 : Hid (RdV w6 (w6).heap.size (some ⟨b9, 0, none⟩) (zc F)) := Q9.out.on HBq.out
            clear HBq
            clear HBc
            have G6 := Lib.hid g6; clear g6
            have H6 : Hid (RdG w6 (w6).heap.size A6 R6) := h6
            clear h6
            have HBq : Hid (Below w6.heap.size w6 (w6.alloc (.cells #[.slice A6 N c6] 24))) := one_below _ _
            replace HB : Hid (Below w.heap.size w (w6.alloc (.cells #[.slice A6 N c6] 24))) := HB.out.trans (HBq.out.mono HB.out.size)
            replace HR : Hid (RdG (w6.alloc (.cells #[.slice A6 N c6] 24)) ((w6.alloc (.cells #[.slice A6 N c6] 24))).heap.size A R) := HR.out.on HBq.out
            replace K0 : Hid (((w6.alloc (.cells #[.slice A6 N c6] 24))).cell? ⟨w.heap.size, 0, none⟩ = some (.slice A N c)) := (HBq.out.cell (World.block_lt_of_cell? _ _ K0.out)).trans K0.out
            replace Q4 : Hid (RdV (w6.alloc (.cells #[.slice A6 N c6] 24)) ((w6.alloc (.cells #[.slice A6 N c6] 24))).heap.size (some ⟨b4, 0, none⟩) (zc (ns p4))) := Q4.out.on HBq.out
            replace Q9 : Hid (RdV (w6.alloc (.cells #[.slice A6 N c6] 24)) ((w6.alloc (.cells #[.slice A6 N c6] 24))).heap.size (some ⟨b9, 0, none⟩) (zc F)) := Q9.out.on HBq.out
            replace H6 : Hid (RdG (w6.alloc (.cells #[.slice A6 N c6] 24)) ((w6.alloc (.cells #[.slice A6 N c6] 24))).heap.size A6 R6) := H6.out.on HBq.out
            clear HBq
            have K6 : Hid (((w6.alloc (.cells #[.slice A6 N c6] 24))).cell? ⟨w6.heap.size, 0, none⟩ = some (.slice A6 N c6)) := (cell_at (World.alloc_heap_new w6 _) 0).trans rfl
            have HC := Lib.hid (HFb.out hb k K hk hK R6 A6 c6 _ G6.out H6.out)
            have k_K6 := K6.out
            go_wp2_with fail
            clear k_K6
            refine HC.out.mono ?_
            rintro e w7 ⟨b7, rfl, q7, bq⟩
            clear HC
            have HBc := Lib.hid bq; clear bq
            have HBq : Hid (Below (w6.alloc (.cells #[.slice A6 N c6] 24)).heap.size (w6.alloc (.cells #[.slice A6 N c6] 24)) w7) := HBc.out
            replace HB : Hid (Below w.heap.size w w7) := HB.out.trans (HBq.out.mono HB.out.size)
            replace HR : Hid (RdG w7 (w7).heap.size A R) := HR.out.on HBq.out
            replace K0 : Hid ((w7).cell? ⟨w.heap.size, 0, none⟩ = some (.slice A N c)) := (HBq.out.cell (World.block_lt_of_cell? _ _ K0.out)).trans K0.out
            replace Q4 : Hid (RdV w7 (w7).heap.size (some ⟨b4, 0, none⟩) (zc (ns p4))) := Q4.out.on HBq.out
            replace Q9 : Hid (RdV w7 (w7).heap.size (some ⟨b9, 0, none⟩) (zc F)) := Q9.out.on HBq.out
            replace H6 : Hid (RdG w7 (w7).heap.size A6 R6) := H6.out.on HBq.out
            replace K6 : Hid ((w7).cell? ⟨w6.heap.size, 0, none⟩ = some (.slice A6 N c6)) := (HBq.out.cell (World.block_lt_of_cell? _ _ K6.out)).trans K6.out
            clear HBq
            clear HBc
            have k1 := rdv_at q7 (N := N) l (by rw [HK.out.1]; exact hl)
            have k2 := rdv_at Q4.out (N := N) k (by rw [ns_length, HPl.out]; exact hk)
            have k3 := rdv_at Q4.out (N := N) l (by rw [ns_length, HPl.out]; exact hl)
            rw [fv_ns _ _ (by rw [HPl.out]; exact hk), HUV.out.2] at k2
            rw [fv_ns _ _ (by rw [HPl.out]; exact hl), HUV.out.1] at k3
            have hkk := HK.out.2
            clear q7 hK
            generalize fv K l = y at *
            by_cases hy : 0 ≤ y
            · rw [hkk.1 hy] at k2
              have t11 : decide ((0 : Int) ≤ y) = true := decide_eq_true hy
              have t12 : ((u : Int) == (u : Int)) = true := by simp
              clear hkk
              go_wp2
              go_quiet (fail)
              go_wp2
              go_ret
              exact ⟨rfl, below_drewN HB.out _⟩
            · have hne : ¬ v = u := fun e => hy (hkk.2 e)
              have t11 : decide ((0 : Int) ≤ y) = false := decide_eq_false hy
              have t12 : ((v : Int) == (u : Int)) = false := by simp; omega
              clear hkk
              go_wp2
              go_quiet (fail)
              go_wp2
              go_ret
              exact ⟨rfl, below_drewN HB.out _⟩
        · have t11 : decide ((0 : Int) ≤ fv F l) = false := decide_eq_false hf
          clear hfr
          generalize fv F l = z at *
          go_wp2
          go_quiet (fail)
          have HBw : Hid (Below w4.heap.size w4 (w4.drewN nq)) := below_drewN (Below.refl _ w4) nq
          generalize w4.drewN nq = w5 at *
          have HBq : Hid (Below w4.heap.size w4 w5) := HBw.out
          replace HB : Hid (Below w.heap.size w w5) := HB.out.trans (HBq.out.mono HB.out.size)
          replace HR : Hid (RdG w5 (w5).heap.size A R) := HR.out.on HBq.out
          replace K0 : Hid ((w5).cell? ⟨w.heap.size, 0, none⟩ = some (.slice A N c)) := (HBq.out.cell (World.block_lt_of_cell? _ _ K0.out)).trans K0.out
          replace Q4 : Hid (RdV w5 (w5).heap.size (some ⟨b4, 0, none⟩) (zc (ns p4))) := Q4.out.on HBq.out
          replace Q9 : Hid (RdV w5 (w5).heap.size (some ⟨b9, 0, none⟩) (zc F)) := Q9.out.on HBq.out
          clear HBq
          clear k1 k2 k3 k4
          by_cases hb : 600 < (bth (arcs 0 g)).length
          · have HC := Lib.hid (HBe.out hb A c _ HR.out)
            have k_K0 := K0.out
            go_wp2_with fail
            clear k_K0
            refine HC.out.mono ?_
            rintro e w6 ⟨A6, c6, rfl, bq⟩
            clear HC
            have HBc := Lib.hid bq; clear bq
            have HBq : Hid (Below w5.heap.size w5 w6) := HBc.out
            replace HB : Hid (Below w.heap.size w w6) := HB.out.trans (HBq.out.mono HB.out.size)
            replace HR : Hid (RdG w6 (w6).heap.size A R) := HR.out.on HBq.out
            replace K0 : Hid ((w6).cell? ⟨w.heap.size, 0, none⟩ = some (.slice A N c)) := (HBq.out.cell (World.block_lt_of_cell? _ _ K0.out)).trans K0.out
            replace Q4 : Hid (RdV w6 (w6).heap.size (some ⟨b4, 0, none⟩) (zc (ns p4))) := Q4.out.on HBq.out
            replace Q9 : Hid (RdV w6 (w6).heap.size (some ⟨b9, 0, none⟩) (zc F)) := Q9.out.on HBq.out
            clear HBq
            clear HBc
            have HBq : Hid (Below w6.heap.size w6 (w6.alloc (.cells #[.slice A6 0 c6] 24))) := one_below _ _
            replace HB : Hid (Below w.heap.size w (w6.alloc (.cells #[.slice A6 0 c6] 24))) := HB.out.trans (HBq.out.mono HB.out.size)
            replace HR : Hid (RdG (w6.alloc (.cells #[.slice A6 0 c6] 24)) ((w6.alloc (.cells #[.slice A6 0 c6] 24))).heap.size A R) := HR.out.on HBq.out
            replace K0 : Hid (((w6.alloc (.cells #[.slice A6 0 c6] 24))).cell? ⟨w.heap.size, 0, none⟩ = some (.slice A N c)) := (HBq.out.cell (World.block_lt_of_cell? _ _ K0.out)).trans K0.out
            replace Q4 : Hid (RdV (w6.alloc (.cells #[.slice A6 0 c6] 24)) ((w6.alloc (.cells #[.slice A6 0 c6] 24))).heap.size (some ⟨b4, 0, none⟩) (zc (ns p4))) := Q4.out.on HBq.out
            replace Q9 : Hid (RdV (w6.alloc (.cells #[.slice A6 0 c6] 24)) ((w6.alloc (.cells #[.slice A6 0 c6] 24))).heap.size (some ⟨b9, 0, none⟩) (zc F)) := Q9.out.on HBq.out
            clear HBq
            have K6 : Hid (((w6.alloc (.cells #[.slice A6 0 c6] 24))).cell? ⟨w6.heap.size, 0, none⟩ = some (.slice A6 0 c6)) := (cell_at (World.alloc_heap_new w6 _) 0).trans rfl
            go_wp2
            go_ret
            exact ⟨rfl, HB.out⟩
          · obtain ⟨K, hK⟩ := fa_ex (gboth g) k
            have HK : Hid (K.length = N ∧ (0 ≤ fv K l ↔ v = u)) := by
              refine ⟨by rw [hK.len, gboth_length]; exact HOk.out.2, ?_⟩
              rw [hK.reach l (by rw [gboth_length, HOk.out.2]; exact hl), ← HUV.out.1, ← HUV.out.2, HSm.out]
              exact re_both HOk.out.1 k l
            have HC := Lib.hid (HBo.out hb A c _ HR.out)
            have k_K0 := K0.out
            go_wp2_with fail
            clear k_K0
            refine HC.out.mono ?_
            rintro e w6 ⟨A6, R6, c6, rfl, g6, h6, bq⟩
            clear HC
            have HBc := Lib.hid bq; clear bq
            have HBq : Hid (Below w5.heap.size w5 w6) := HBc.out
            replace HB : Hid (Below w.heap.size w w6) := HB.out.trans (HBq.out.mono HB.out.size)
            replace HR : Hid (RdG w6 (w6).heap.size A R) := HR.out.on HBq.out
            replace K0 : Hid ((w6).cell? ⟨w.heap.size, 0, none⟩ = some (.slice A N c)) := (HBq.out.cell (World.block_lt_of_cell? _ _ K0.out)).trans K0.out
            replace Q4 : Hid (RdV w6 (w6).heap.size (some ⟨b4, 0, none⟩) (zc (ns p4))) := Q4.out.on HBq.out
            replace Q9 : Hid (RdV w6 (w6).heap.size (some ⟨b9, 0, none⟩) (zc F)) := Q9.out.on HBq.out
            clear HBq
            clear HBc
            have G6 := Lib.hid g6; clear g6
            have H6 : Hid (RdG w6 (w6).heap.size A6 R6) := h6
            clear h6
            have HBq : Hid (Below w6.heap.size w6 (w6.alloc (.cells #[.slice A6 N c6] 24))) := one_below _ _
            replace HB : Hid (Below w.heap.size w (w6.alloc (.cells #[.slice A6 N c6] 24))) := HB.out.trans (HBq.out.mono HB.out.size)
            replace HR : Hid (RdG (w6.alloc (.cells #[.slice A6 N c6] 24)) ((w6.alloc (.cells #[.slice A6 N c6] 24))).heap.size A R) := HR.out.on HBq.out
            replace K0 : Hid (((w6.alloc (.cells #[.slice A6 N c6] 24))).cell? ⟨w.heap.size, 0, none⟩ = some (.slice A N c)) := (HBq.out.cell (World.block_lt_of_cell? _ _ K0.out)).trans K0.out
            replace Q4 : Hid (RdV (w6.alloc (.cells #[.slice A6 N c6] 24)) ((w6.alloc (.cells #[.slice A6 N c6] 24))).heap.size (some ⟨b4, 0, none⟩) (zc (ns p4))) := Q4.out.on HBq.out
            replace Q9 : Hid (RdV (w6.alloc (.cells #[.slice A6 N c6] 24)) ((w6.alloc (.cells #[.slice A6 N c6] 24))).heap.size (some ⟨b9, 0, none⟩) (zc F)) := Q9.out.on HBq.out
            replace H6 : Hid (RdG (w6.alloc (.cells #[.slice A6 N c6] 24)) ((w6.alloc (.cells #[.slice A6 N c6] 24))).heap.size A6 R6) := H6.out.on HBq.out
            clear HBq
            have K6 : Hid (((w6.alloc (.cells #[.slice A6 N c6] 24))).cell? ⟨w6.heap.size, 0, none⟩ = some (.slice A6 N c6)) := (cell_at (World.alloc_heap_new w6 _) 0).trans rfl
            have HC := Lib.hid (HFb.out hb k K hk hK R6 A6 c6 _ G6.out H6.out)
            have k_K6 := K6.out
            go_wp2_with fail
            clear k_K6
            refine HC.out.mono ?_
            rintro e w7 ⟨b7, rfl, q7, bq⟩
            clear HC
            have HBc := Lib.hid bq; clear bq
            have HBq : Hid (Below (w6.alloc (.cells #[.slice A6 N c6] 24)).heap.size (w6.alloc (.cells #[.slice A6 N c6] 24)) w7) := HBc.out
            replace HB : Hid (Below w.heap.size w w7) := HB.out.trans (HBq.out.mono HB.out.size)
            replace HR : Hid (RdG w7 (w7).heap.size A R) := HR.out.on HBq.out
            replace K0 : Hid ((w7).cell? ⟨w.heap.size, 0, none⟩ = some (.slice A N c)) := (HBq.out.cell (World.block_lt_of_cell? _ _ K0.out)).trans K0.out
            replace Q4 : Hid (RdV w7 (w7).heap.size (some ⟨b4, 0, none⟩) (zc (ns p4))) := Q4.out.on HBq.out
            replace Q9 : Hid (RdV w7 (w7).heap.size (some ⟨b9, 0, none⟩) (zc F)) := Q9.out.on HBq.out
            replace H6 : Hid (RdG w7 (w7).heap.size A6 R6) := H6.out.on HBq.out
            replace K6 : Hid ((w7).cell? ⟨w6.heap.size, 0, none⟩ = some (.slice A6 N c6)) := (HBq.out.cell (World.block_lt_of_cell? _ _ K6.out)).trans K6.out
            clear HBq
            clear HBc
            have k1 := rdv_at q7 (N := N) l (by rw [HK.out.1]; exact hl)
            have k2 := rdv_at Q4.out (N := N) k (by rw [ns_length, HPl.out]; exact hk)
            have k3 := rdv_at Q4.out (N := N) l (by rw [ns_length, HPl.out]; exact hl)
            rw [fv_ns _ _ (by rw [HPl.out]; exact hk), HUV.out.2] at k2
            rw [fv_ns _ _ (by rw [HPl.out]; exact hl), HUV.out.1] at k3
            have hkk := HK.out.2
            clear q7 hK
            generalize fv K l = y at *
            by_cases hy : 0 ≤ y
            · rw [hkk.1 hy] at k2
              have t11 : decide ((0 : Int) ≤ y) = true := decide_eq_true hy
              have t12 : ((u : Int) == (u : Int)) = true := by simp
              clear hkk
              go_wp2
              go_quiet (fail)
              go_wp2
              go_ret
              exact ⟨rfl, below_drewN HB.out _⟩
            · have hne : ¬ v = u := fun e => hy (hkk.2 e)
              have t11 : decide ((0 : Int) ≤ y) = false := decide_eq_false hy
              have t12 : ((v : Int) == (u : Int)) = false := by simp; omega
              clear hkk
              go_wp2
              go_quiet (fail)
              go_wp2
              go_ret
              exact ⟨rfl, below_drewN HB.out _⟩
      · by_cases hz : t < 0
        · have t2 : decide (t < 0) = true := decide_eq_true hz
          go_wp2
          go_ret
          exact ⟨rfl, HB.out⟩
        · have t2 : decide (t < 0) = false := decide_eq_false hz
          have t3 : decide ((N : Int) ≤ t) = true := by simp; omega
          go_wp2
          go_ret
          exact ⟨rfl, HB.out⟩
    · have HC := Lib.hid (HFt.out s hs A c _ HR.out)
      have k_K0 := K0.out
      go_wp2_with fail
      clear k_K0
      refine HC.out.mono ?_
      rintro e w2 ⟨A9, n9, c9, e9, rfl, t9, bq⟩
      clear HC
      have HBc := Lib.hid bq; clear bq
      have HBq : Hid (Below w1.heap.size w1 w2) := HBc.out
      replace HB : Hid (Below w.heap.size w w2) := HB.out.trans (HBq.out.mono HB.out.size)
      replace HR : Hid (RdG w2 (w2).heap.size A R) := HR.out.on HBq.out
      replace K0 : Hid ((w2).cell? ⟨w.heap.size, 0, none⟩ = some (.slice A N c)) := (HBq.out.cell (World.block_lt_of_cell? _ _ K0.out)).trans K0.out
      replace Q4 : Hid (RdV w2 (w2).heap.size (some ⟨b4, 0, none⟩) (zc (ns p4))) := Q4.out.on HBq.out
      clear HBq
      clear HBc
      have HC := Lib.hid (walkbegun_true w2)
      go_wp2_with fail
      refine HC.out.mono ?_
      rintro e w3 ⟨rfl, bq⟩
      clear HC
      have HBc := Lib.hid bq; clear bq
      have HBq : Hid (Below w2.heap.size w2 w3) := HBc.out
      replace HB : Hid (Below w.heap.size w w3) := HB.out.trans (HBq.out.mono HB.out.size)
      replace HR : Hid (RdG w3 (w3).heap.size A R) := HR.out.on HBq.out
      replace K0 : Hid ((w3).cell? ⟨w.heap.size, 0, none⟩ = some (.slice A N c)) := (HBq.out.cell (World.block_lt_of_cell? _ _ K0.out)).trans K0.out
      replace Q4 : Hid (RdV w3 (w3).heap.size (some ⟨b4, 0, none⟩) (zc (ns p4))) := Q4.out.on HBq.out
      clear HBq
      clear HBc
      have HC := Lib.hid (graphbegun_true w3)
      go_wp2_with fail
      refine HC.out.mono ?_
      rintro e w4 ⟨rfl, bq⟩
      clear HC
      have HBc := Lib.hid bq; clear bq
      have HBq : Hid (Below w3.heap.size w3 w4) := HBc.out
      replace HB : Hid (Below w.heap.size w w4) := HB.out.trans (HBq.out.mono HB.out.size)
      replace HR : Hid (RdG w4 (w4).heap.size A R) := HR.out.on HBq.out
      replace K0 : Hid ((w4).cell? ⟨w.heap.size, 0, none⟩ = some (.slice A N c)) := (HBq.out.cell (World.block_lt_of_cell? _ _ K0.out)).trans K0.out
      replace Q4 : Hid (RdV w4 (w4).heap.size (some ⟨b4, 0, none⟩) (zc (ns p4))) := Q4.out.on HBq.out
      clear HBq
      clear HBc
      have u9 : (e9 != 0) = true := by simpa using t9
      go_wp2
      go_ret
      exact ⟨rfl, HB.out⟩
  · have HP : Hid (∀ A c V, RdG V V.heap.size A R → Calls Try.prog 32 #[.agg #[.slice A N c]] V fun e w' => e = .returned (.tuple #[.slice none 0 0, .int .i64 (grE (gs R))]) ∧ Below V.heap.size V w') := fun A c V h => parts_e R N hN hn _ rfl e0 A c V h
    have HFs : Hid (∀ A c V, RdG V V.heap.size A R → Calls Try.prog 30 #[.agg #[.slice A N c], .int .i64 s] V fun e w' => ∃ A n c e1, e = .returned (.tuple #[.slice A n c, .int .i64 e1]) ∧ Below V.heap.size V w') := fun A c V h => (far_tot R N hN hn s A c V h).mono fun e w' ⟨A, n, c, e1, q1, _, q3⟩ => ⟨A, n, c, e1, q1, q3⟩
    have t1 : (grE (gs R) == 0) = false := by simpa using e0
    clear e0 hN hn
    generalize grE (gs R) = e1 at *
    have HB : Hid (Below w.heap.size w w) := Below.refl _ w
    have HR := Lib.hid hA; clear hA
    go_enter Try.func6, Try.ntmps6
    have HBq : Hid (Below w.heap.size w (w.alloc (.cells #[.slice A N c] 24))) := one_below _ _
    replace HB : Hid (Below w.heap.size w (w.alloc (.cells #[.slice A N c] 24))) := HB.out.trans (HBq.out.mono HB.out.size)
    replace HR : Hid (RdG (w.alloc (.cells #[.slice A N c] 24)) ((w.alloc (.cells #[.slice A N c] 24))).heap.size A R) := HR.out.on HBq.out
    clear HBq
    have K0 : Hid (((w.alloc (.cells #[.slice A N c] 24))).cell? ⟨w.heap.size, 0, none⟩ = some (.slice A N c)) := (cell_at (World.alloc_heap_new w _) 0).trans rfl
    have HC := Lib.hid (HP.out A c _ HR.out)
    have k_K0 := K0.out
    go_wp2_with fail
    clear k_K0
    refine HC.out.mono ?_
    rintro e w1 ⟨rfl, bq⟩
    clear HC
    have HBc := Lib.hid bq; clear bq
    have HBq : Hid (Below (w.alloc (.cells #[.slice A N c] 24)).heap.size (w.alloc (.cells #[.slice A N c] 24)) w1) := HBc.out
    replace HB : Hid (Below w.heap.size w w1) := HB.out.trans (HBq.out.mono HB.out.size)
    replace HR : Hid (RdG w1 (w1).heap.size A R) := HR.out.on HBq.out
    replace K0 : Hid ((w1).cell? ⟨w.heap.size, 0, none⟩ = some (.slice A N c)) := (HBq.out.cell (World.block_lt_of_cell? _ _ K0.out)).trans K0.out
    clear HBq
    clear HBc
    have HC := Lib.hid (HFs.out A c _ HR.out)
    have k_K0 := K0.out
    go_wp2_with fail
    clear k_K0
    refine HC.out.mono ?_
    rintro e w2 ⟨A9, n9, c9, e9, rfl, bq⟩
    clear HC
    have HBc := Lib.hid bq; clear bq
    have HBq : Hid (Below w1.heap.size w1 w2) := HBc.out
    replace HB : Hid (Below w.heap.size w w2) := HB.out.trans (HBq.out.mono HB.out.size)
    replace HR : Hid (RdG w2 (w2).heap.size A R) := HR.out.on HBq.out
    replace K0 : Hid ((w2).cell? ⟨w.heap.size, 0, none⟩ = some (.slice A N c)) := (HBq.out.cell (World.block_lt_of_cell? _ _ K0.out)).trans K0.out
    clear HBq
    clear HBc
    have HC := Lib.hid (walkbegun_true w2)
    go_wp2_with fail
    refine HC.out.mono ?_
    rintro e w3 ⟨rfl, bq⟩
    clear HC
    have HBc := Lib.hid bq; clear bq
    have HBq : Hid (Below w2.heap.size w2 w3) := HBc.out
    replace HB : Hid (Below w.heap.size w w3) := HB.out.trans (HBq.out.mono HB.out.size)
    replace HR : Hid (RdG w3 (w3).heap.size A R) := HR.out.on HBq.out
    replace K0 : Hid ((w3).cell? ⟨w.heap.size, 0, none⟩ = some (.slice A N c)) := (HBq.out.cell (World.block_lt_of_cell? _ _ K0.out)).trans K0.out
    clear HBq
    clear HBc
    have HC := Lib.hid (graphbegun_true w3)
    go_wp2_with fail
    refine HC.out.mono ?_
    rintro e w4 ⟨rfl, bq⟩
    clear HC
    have HBc := Lib.hid bq; clear bq
    have HBq : Hid (Below w3.heap.size w3 w4) := HBc.out
    replace HB : Hid (Below w.heap.size w w4) := HB.out.trans (HBq.out.mono HB.out.size)
    replace HR : Hid (RdG w4 (w4).heap.size A R) := HR.out.on HBq.out
    replace K0 : Hid ((w4).cell? ⟨w.heap.size, 0, none⟩ = some (.slice A N c)) := (HBq.out.cell (World.block_lt_of_cell? _ _ K0.out)).trans K0.out
    clear HBq
    clear HBc
    have u1 : (e1 != 0) = true := by simpa using t1
    go_wp2
    go_ret
    exact ⟨rfl, HB.out⟩
end

section
open Go.ChangeShapes Go.WideShapes Go.ChangeAt Go.RowKit
open Go.ChangeMaps (open_string shut_string)

set_option linter.unusedVariables false
set_option maxRecDepth 100000 in
theorem walkParts_lifted (os : Os) (started : os.Started) (H : Type) (enc : TypeId × Value → H) :
    ReturnsInHanded {} Try.checked os 6 .any (Rows.walkPartsSpec.pre6 enc Try.prog Try.f6 Rows.walkPartsRow.domain false) (Rows.walkPartsSpec.post enc Try.prog Try.f6 false true false false) := by
  refine returnsInHanded_of_change_sized (C := Try.checked) own started (by kernel_rfl) Try.func6
    (ChangeSpec.witness6 (enc := enc) (C := Try.checked) false ⟨#[], #[.agg #[.slice none 0 0], .int .i64 0, .int .i64 0], []⟩ 8 (by kernel_rfl) (by kernel_rfl) (by kernel_rfl) (by kernel_rfl)) ?_
  intro W base args ds gs before hval0 hW hcnd hzz _
  have hval : ∀ (j : Nat) t v, Try.f6.params[j]? = some t → args[j]? = some v → Value.okWide Try.prog W .any base t v := hval0
  have hW' := hW
  obtain ⟨p, q, hA0, hV, rfl, hfz, hnd⟩ := hW
  have hA : DataW.TrodAll enc Try.prog W 0 (fun _ => true) true Try.f6.params.toList args.toList ds p := hA0
  rw [Try.params6] at hA hval hzz
  obtain ⟨v0, vs0, d0, ds0, p0, q0, hargs, rfl, rfl, h0, r0⟩ := trodAll_cons hA
  obtain ⟨v1, vs1, d1, ds1, p1, q1, rfl, rfl, rfl, h1, r1⟩ := trodAll_cons r0
  obtain ⟨v2, vs2, d2, ds2, p2, q2, rfl, rfl, rfl, h2, r2⟩ := trodAll_cons r1
  obtain ⟨rfl, rfl, rfl⟩ := trodAll_nil r2
  obtain rfl : args = #[v0, v1, v2] := by cases args; simp_all
  obtain ⟨rfl, rfl⟩ := trodVars_none hV
  have k0 := h0
  have lt0 : ∀ x ∈ p0, x.block < W.heap.size := by obtain ⟨m, hm⟩ := k0; exact DataW.trod_lt m _ _ _ hm
  obtain ⟨A0, c0, R0, rfl, rd0, nn0⟩ := open_graph (hval 0 24 v0 rfl rfl) h0 (fun n hn => of_decide_eq_true (List.all_eq_true.1 hzz n (DataW.weights_mem_each (j := 0) (t := 24) (d := d0) rfl rfl n hn)))
  obtain ⟨x1, rfl, rfl, rfl, wx1⟩ := open_int Try.underlying3 (hval 1 3 v1 rfl rfl) h1
  have bd1 := bounds_i64 wx1
  obtain ⟨x2, rfl, rfl, rfl, wx2⟩ := open_int Try.underlying3 (hval 2 3 v2 rfl rfl) h2
  have bd2 := bounds_i64 wx2
  clear hA0 hval0
  refine (walkParts_law A0 c0 R0 x1 x2 W rd0 nn0 bd1 bd2).mono fun e W' ⟨he, bel⟩ => ?_
  subst he
  exact ⟨_, rfl, _, _, _, [], _, [], hW', trodAll_mk1 (shut_bool Try.underlying4 _), (trodAll_cons_mk (Below.trod laidOut (by kernel_rfl) (of_decide_eq_true (by kernel_rfl)) k0 bel lt0) (trodAll_cons_mk (shut_int Try.underlying3 wx1) (trodAll_cons_mk (shut_int Try.underlying3 wx2) trodAll_mk0))), rfl, bel.frame _, fun h => by cases h⟩

theorem WalkParts_holds : Rows.WalkPartsSaid :=
  OpenClaim.holds_of_wide 6 Try.f6 rfl rfl rfl rfl rfl rfl rfl ⟨rfl, rfl, rfl, rfl, rfl⟩ rfl rfl rfl rfl rfl (by kernel_rfl) Try.func6 (by kernel_rfl)
    (of_decide_eq_true (by kernel_rfl)) (by unfold Func.isWrapper; first | (rw [if_pos (by decide +kernel)]; kernel_rfl) | (rw [if_neg (by decide +kernel)]; exact ⟨rfl, rfl⟩))
    (fun os started H enc _ => walkParts_lifted os started H enc)
#print axioms WalkParts_holds
end
end Go.Proofs.Ytffgmjfanpgbbaa
