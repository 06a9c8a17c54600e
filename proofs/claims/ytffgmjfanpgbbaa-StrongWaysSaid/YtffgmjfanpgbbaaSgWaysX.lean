/- The law StrongWays: a way leads from a node to another one just if one leads between what they are shrunk to; for whatever graph and nodes. -/
import Derived.Test.YtffgmjfanpgbbaaSgJ
import Derived.Test.YtffgmjfanpgbbaaOpen
import Derived.Test.YtffgmjfanpgbbaaNMem
import Derived.Test.YtffgmjfanpgbbaaWChk
import Derived.Deep.Matrix
import Derived.Deep.SlicePairs
import Derived.SizedLaws
namespace Go.Proofs.Ytffgmjfanpgbbaa

section
set_option maxRecDepth 100000
set_option linter.unusedVariables false
open Go.RowKit Go.Shelf

set_option maxHeartbeats 8000000 in
theorem strongWays_law (A : Option Addr) (c : Nat) (R : List Rw) (s t : Int) (w : World) (hA : RdG w w.heap.size A R) (hn : R.length ≤ 140737488355328) (hs0 : -9223372036854775808 ≤ s ∧ s ≤ 9223372036854775807) (ht0 : -9223372036854775808 ≤ t ∧ t ≤ 9223372036854775807) :
    Calls Try.prog 11 #[.agg #[.slice A R.length c], .int .i64 s, .int .i64 t] w fun e w' => e = .returned (.bool true) ∧ Below w.heap.size w w' := by
  clear hs0 ht0
  obtain ⟨N, hN⟩ : ∃ N, R.length = N := ⟨_, rfl⟩
  rw [hN] at hn ⊢
  by_cases e0 : grE (gs R) = 0
  · obtain ⟨g, hg, hok⟩ := grE_zero _ e0
    have hgl : g.length = N := by have := congrArg List.length hg; rw [gs_length, List.length_map] at this; omega
    have hN1 : N ≤ 100 := by have := hok.nodes; omega
    have HOk : Hid (GOk g ∧ g.length = N) := ⟨hok, hgl⟩
    have HG0 := Lib.hid hg
    have HSh := Lib.hid (lw_shrink R g hg hok N hgl)
    have HF := Lib.hid (lw_far R g hg hok N hgl)
    have HFo := Lib.hid (lw_far_out R g hg hok N hgl)
    clear e0 hN hn hg hok hgl
    have HB : Hid (Below w.heap.size w w) := Below.refl _ w
    have HR := Lib.hid hA; clear hA
    go_enter Try.func11, Try.ntmps11
    have HBq : Hid (Below w.heap.size w (w.alloc (.cells #[.slice A N c] 24))) := one_below _ _
    replace HB : Hid (Below w.heap.size w (w.alloc (.cells #[.slice A N c] 24))) := HB.out.trans (HBq.out.mono HB.out.size)
    replace HR : Hid (RdG (w.alloc (.cells #[.slice A N c] 24)) ((w.alloc (.cells #[.slice A N c] 24))).heap.size A R) := HR.out.on HBq.out
    clear HBq
    have K0 : Hid (((w.alloc (.cells #[.slice A N c] 24))).cell? ⟨w.heap.size, 0, none⟩ = some (.slice A N c)) := (cell_at (World.alloc_heap_new w _) 0).trans rfl
    have HC := Lib.hid (HSh.out A c _ HR.out)
    have k_K0 := K0.out
    go_wp2_with fail
    clear k_K0
    refine HC.out.mono ?_
    rintro e w1 ⟨p, M, A1, R1, c1, A2, c2, rfl, hM, hp, g1, h1, q2, bq⟩
    clear HC
    have HBc := Lib.hid bq; clear bq
    have HBq : Hid (Below (w.alloc (.cells #[.slice A N c] 24)).heap.size (w.alloc (.cells #[.slice A N c] 24)) w1) := HBc.out
    replace HB : Hid (Below w.heap.size w w1) := HB.out.trans (HBq.out.mono HB.out.size)
    replace HR : Hid (RdG w1 (w1).heap.size A R) := HR.out.on HBq.out
    replace K0 : Hid ((w1).cell? ⟨w.heap.size, 0, none⟩ = some (.slice A N c)) := (HBq.out.cell (World.block_lt_of_cell? _ _ K0.out)).trans K0.out
    clear HBq
    clear HBc
    have HPp := Lib.hid hp; clear hp
    have HM := Lib.hid hM; clear hM
    have HF2 := Lib.hid (lw_far R1 (gsh g p) g1 (HPp.out.gsh_ok HOk.out.1) M HM.out)
    clear g1
    have H1 : Hid (RdG w1 (w1).heap.size A1 R1) := h1
    clear h1
    have Q2 : Hid (RdV w1 (w1).heap.size A2 (zc (ns (ofL p N)))) := q2
    clear q2
    have HBq : Hid (Below w1.heap.size w1 (w1.alloc (.cells #[.slice A1 M c1] 24))) := one_below _ _
    replace HB : Hid (Below w.heap.size w (w1.alloc (.cells #[.slice A1 M c1] 24))) := HB.out.trans (HBq.out.mono HB.out.size)
    replace HR : Hid (RdG (w1.alloc (.cells #[.slice A1 M c1] 24)) ((w1.alloc (.cells #[.slice A1 M c1] 24))).heap.size A R) := HR.out.on HBq.out
    replace K0 : Hid (((w1.alloc (.cells #[.slice A1 M c1] 24))).cell? ⟨w.heap.size, 0, none⟩ = some (.slice A N c)) := (HBq.out.cell (World.block_lt_of_cell? _ _ K0.out)).trans K0.out
    replace H1 : Hid (RdG (w1.alloc (.cells #[.slice A1 M c1] 24)) ((w1.alloc (.cells #[.slice A1 M c1] 24))).heap.size A1 R1) := H1.out.on HBq.out
    replace Q2 : Hid (RdV (w1.alloc (.cells #[.slice A1 M c1] 24)) ((w1.alloc (.cells #[.slice A1 M c1] 24))).heap.size A2 (zc (ns (ofL p N)))) := Q2.out.on HBq.out
    clear HBq
    have K1 : Hid (((w1.alloc (.cells #[.slice A1 M c1] 24))).cell? ⟨w1.heap.size, 0, none⟩ = some (.slice A1 M c1)) := (cell_at (World.alloc_heap_new w1 _) 0).trans rfl
    by_cases hs : 0 ≤ s ∧ s < (N : Int)
    · obtain ⟨k, rfl⟩ := Int.eq_ofNat_of_zero_le hs.1
      have hk : k < N := by omega
      obtain ⟨F, hF⟩ := fa_ex g k
      have HFa : Hid (Fa g k F ∧ F.length = N) := ⟨hF, by rw [hF.len]; exact HOk.out.2⟩
      clear hs hF
      have HC := Lib.hid (HF.out k F hk HFa.out.1 A c _ HR.out)
      have k_K0 := K0.out
      go_wp2_with fail
      clear k_K0
      refine HC.out.mono ?_
      rintro e w2 ⟨b2, rfl, q3, bq⟩
      clear HC
      have HBc := Lib.hid bq; clear bq
      have HBq : Hid (Below (w1.alloc (.cells #[.slice A1 M c1] 24)).heap.size (w1.alloc (.cells #[.slice A1 M c1] 24)) w2) := HBc.out
      replace HB : Hid (Below w.heap.size w w2) := HB.out.trans (HBq.out.mono HB.out.size)
      replace HR : Hid (RdG w2 (w2).heap.size A R) := HR.out.on HBq.out
      replace K0 : Hid ((w2).cell? ⟨w.heap.size, 0, none⟩ = some (.slice A N c)) := (HBq.out.cell (World.block_lt_of_cell? _ _ K0.out)).trans K0.out
      replace H1 : Hid (RdG w2 (w2).heap.size A1 R1) := H1.out.on HBq.out
      replace Q2 : Hid (RdV w2 (w2).heap.size A2 (zc (ns (ofL p N)))) := Q2.out.on HBq.out
      replace K1 : Hid ((w2).cell? ⟨w1.heap.size, 0, none⟩ = some (.slice A1 M c1)) := (HBq.out.cell (World.block_lt_of_cell? _ _ K1.out)).trans K1.out
      clear HBq
      clear HBc
      have Q3 : Hid (RdV w2 (w2).heap.size (some ⟨b2, 0, none⟩) (zc F)) := q3
      clear q3
      have HC := Lib.hid (strongbegun_true w2)
      go_wp2_with fail
      refine HC.out.mono ?_
      rintro e w3 ⟨rfl, bq⟩
      clear HC
      have HBc := Lib.hid bq; clear bq
      have HBq : Hid (Below w2.heap.size w2 w3) := HBc.out
      replace HB : Hid (Below w.heap.size w w3) := HB.out.trans (HBq.out.mono HB.out.size)
      replace HR : Hid (RdG w3 (w3).heap.size A R) := HR.out.on HBq.out
      replace K0 : Hid ((w3).cell? ⟨w.heap.size, 0, none⟩ = some (.slice A N c)) := (HBq.out.cell (World.block_lt_of_cell? _ _ K0.out)).trans K0.out
      replace H1 : Hid (RdG w3 (w3).heap.size A1 R1) := H1.out.on HBq.out
      replace Q2 : Hid (RdV w3 (w3).heap.size A2 (zc (ns (ofL p N)))) := Q2.out.on HBq.out
      replace K1 : Hid ((w3).cell? ⟨w1.heap.size, 0, none⟩ = some (.slice A1 M c1)) := (HBq.out.cell (World.block_lt_of_cell? _ _ K1.out)).trans K1.out
      replace Q3 : Hid (RdV w3 (w3).heap.size (some ⟨b2, 0, none⟩) (zc F)) := Q3.out.on HBq.out
      clear HBq
      clear HBc
      have HC := Lib.hid (walkbegun_true w3)
      go_wp2_with fail
      refine HC.out.mono ?_
      rintro e w4 ⟨rfl, bq⟩
      clear HC
      have HBc := Lib.hid bq; clear bq
      have HBq : Hid (Below w3.heap.size w3 w4) := HBc.out
      replace HB : Hid (Below w.heap.size w w4) := HB.out.trans (HBq.out.mono HB.out.size)
      replace HR : Hid (RdG w4 (w4).heap.size A R) := HR.out.on HBq.out
      replace K0 : Hid ((w4).cell? ⟨w.heap.size, 0, none⟩ = some (.slice A N c)) := (HBq.out.cell (World.block_lt_of_cell? _ _ K0.out)).trans K0.out
      replace H1 : Hid (RdG w4 (w4).heap.size A1 R1) := H1.out.on HBq.out
      replace Q2 : Hid (RdV w4 (w4).heap.size A2 (zc (ns (ofL p N)))) := Q2.out.on HBq.out
      replace K1 : Hid ((w4).cell? ⟨w1.heap.size, 0, none⟩ = some (.slice A1 M c1)) := (HBq.out.cell (World.block_lt_of_cell? _ _ K1.out)).trans K1.out
      replace Q3 : Hid (RdV w4 (w4).heap.size (some ⟨b2, 0, none⟩) (zc F)) := Q3.out.on HBq.out
      clear HBq
      clear HBc
      by_cases ht0 : t < 0
      · have t1 : decide (t < 0) = true := decide_eq_true ht0
        go_wp2
        go_ret
        exact ⟨rfl, HB.out⟩
      · have t1 : decide (t < 0) = false := decide_eq_false ht0
        by_cases ht1 : (N : Int) ≤ t
        · have t2 : decide ((N : Int) ≤ t) = true := decide_eq_true ht1
          go_wp2
          go_ret
          exact ⟨rfl, HB.out⟩
        · obtain ⟨l, rfl⟩ := Int.eq_ofNat_of_zero_le (by omega : 0 ≤ t)
          have hl : l < N := by omega
          have t2 : decide ((N : Int) ≤ (l : Int)) = false := decide_eq_false ht1
          have t2n : decide (N ≤ l) = false := by simp; omega
          have t3 : ((N : Int) != (N : Int)) = false := by simp
          have t4 : (0 : Int) ≤ (l : Int) := by omega
          have t5 : (l : Int) < (N : Int) := by omega
          have t6 : (0 : Int) ≤ (k : Int) := by omega
          have t7 : (k : Int) < (N : Int) := by omega
          clear ht0 ht1
          have hkg : k < g.length := by rw [HOk.out.2]; exact hk
          have hlg : l < g.length := by rw [HOk.out.2]; exact hl
          have hku : ofP p k < M := by have h1 := HPp.out.of_lt hkg; rw [← gsh_length, HM.out] at h1; exact h1
          have hlu : ofP p l < M := by have h1 := HPp.out.of_lt hlg; rw [← gsh_length, HM.out] at h1; exact h1
          obtain ⟨G, hG⟩ := fa_ex (gsh g p) (ofP p k)
          have hGl : G.length = M := by rw [hG.len]; exact HM.out
          have hiff : 0 ≤ fv G (ofP p l) ↔ 0 ≤ fv F l := by
            rw [hG.reach _ (by rw [HM.out]; exact hlu), HFa.out.1.reach l hlg]
            constructor
            · rintro ⟨d, hd⟩; exact HPp.out.gsh_re HOk.out.1 d _ _ hd k l hkg hlg rfl rfl
            · rintro ⟨d, hd⟩; obtain ⟨e, _, he⟩ := HPp.out.gsh_way HOk.out.1 d k l hd; exact ⟨e, he⟩
          have hle : 0 ≤ fv F l → fv G (ofP p l) ≤ fv F l := fun q => by
            obtain ⟨d, h1, h2⟩ := HFa.out.1.way hlg q
            obtain ⟨e, h3, h4⟩ := HPp.out.gsh_way HOk.out.1 d k l h2
            have := (hG.le (by rw [HM.out]; exact hlu) h4).2
            omega
          have HG := Lib.hid (⟨hG, hGl⟩ : _ ∧ _)
          have HIf := Lib.hid (⟨hiff, hle⟩ : _ ∧ _)
          clear hG hGl hiff hle hkg hlg
          obtain ⟨An, on, eA, hAn, k1⟩ := Q2.out.at_ (zc_getN (ofL p N) k (ofP p k) (by rw [qa_eq (by rw [ofL_length]; exact hk), ofL_qa p N k hk]))
          obtain ⟨An2, on2, eA2, hAn2, k2⟩ := Q2.out.at_ (zc_getN (ofL p N) l (ofP p l) (by rw [qa_eq (by rw [ofL_length]; exact hl), ofL_qa p N l hl]))
          rw [eA, Option.some.injEq, Addr.mk.injEq] at eA2
          obtain ⟨rfl, rfl, -⟩ := eA2
          subst eA
          have HU := Lib.hid (HG.out.1)
          obtain ⟨u, hu⟩ : ∃ u, ofP p k = u := ⟨_, rfl⟩
          obtain ⟨v, hv⟩ : ∃ v, ofP p l = v := ⟨_, rfl⟩
          rw [hu] at k1 hku HG
          rw [hv] at k2 hlu HIf
          clear hu hv HU
          have HFc := Lib.hid (fun V hV => HF2.out u G hku HG.out.1 A1 c1 V hV)
          have k0 := K1.out
          have k3 := rdv_at Q3.out (N := N) l (by rw [HFa.out.2]; exact hl)
          have HK : Hid (∀ V, Below w4.heap.size w4 V → V.cell? ⟨w1.heap.size, 0, none⟩ = some (.slice A1 M c1) ∧ V.cell? ⟨An, on + k, none⟩ = some (.int .i64 (u : Int))) := fun V hV => ⟨(hV.cell (World.block_lt_of_cell? _ _ k0)).trans k0, (hV.cell (World.block_lt_of_cell? _ _ k1)).trans k1⟩
          have HK2 : Hid (∀ V, Below w4.heap.size w4 V → V.cell? ⟨An, on + l, none⟩ = some (.int .i64 (v : Int)) ∧ V.cell? ⟨b2, l, none⟩ = some (.int .i64 (fv F l))) := fun V hV => ⟨(hV.cell (World.block_lt_of_cell? _ _ k2)).trans k2, (hV.cell (World.block_lt_of_cell? _ _ k3)).trans k3⟩
          clear hAn hAn2 k0 k1 k2 k3
          go_wp2_with fail
          go_region_held3 (fun w' => w'.cell? ⟨w1.heap.size, 0, none⟩ = some (.slice A1 M c1) ∧ w'.cell? ⟨An, on + k, none⟩ = some (.int .i64 (u : Int)))
            ((first | exact HK.out _ HX.out | exact HK.out _ (Below.refl _ _).drew))
            (first | (go_at_call 30; refine (HFc.out w4.drew (H1.out.on (Below.refl _ _).drew)).mono ?_; rintro e w5 ⟨b5, rfl, q5, bq⟩; have HX : Hid (Below w4.heap.size w4 w5) := (Below.refl _ w4).drew.trans bq; have HQ5 := Lib.hid q5; clear q5 bq))
          all_goals (
            have k4 := rdv_at HQ5.out (N := N) v (by rw [HG.out.2]; exact hlu)
            obtain ⟨k2, k3⟩ := HK2.out w5 HX.out
            have HBn : Hid (Below w.heap.size w w5) := HB.out.trans (HX.out.mono HB.out.size)
            have hif := HIf.out.1
            have hle := HIf.out.2
            generalize fv G v = y at *
            generalize fv F l = z at *
            have t8 : (0 : Int) ≤ (v : Int) := by omega
            have t9 : (v : Int) < (M : Int) := by omega
            have u0 : (true == true) = true := rfl
            have u1 : (false == false) = true := rfl
            by_cases hz : 0 ≤ z
            · have v1 : decide ((0 : Int) ≤ z) = true := decide_eq_true hz
              have v2 : decide ((0 : Int) ≤ y) = true := decide_eq_true (hif.2 hz)
              have v3 : decide (z < 0) = false := by simp; omega
              have v4 : decide (y ≤ z) = true := decide_eq_true (hle hz)
              clear hif hle hz
              go_wp2
              go_quiet (fail)
              go_wp2
              go_ret
              exact ⟨rfl, below_drewN HBn.out _⟩
            · have v1 : decide ((0 : Int) ≤ z) = false := decide_eq_false hz
              have v2 : decide ((0 : Int) ≤ y) = false := decide_eq_false (fun q => hz (hif.1 q))
              have v3 : decide (z < 0) = true := by simp; omega
              clear hif hle hz
              go_wp2
              go_quiet (fail)
              go_wp2
              go_ret
              exact ⟨rfl, below_drewN HBn.out _⟩)
    · have HC := Lib.hid (HFo.out s hs A c _ HR.out)
      have k_K0 := K0.out
      go_wp2_with fail
      clear k_K0
      refine HC.out.mono ?_
      rintro e w2 ⟨rfl, bq⟩
      clear HC
      have HBc := Lib.hid bq; clear bq
      have HBq : Hid (Below (w1.alloc (.cells #[.slice A1 M c1] 24)).heap.size (w1.alloc (.cells #[.slice A1 M c1] 24)) w2) := HBc.out
      replace HB : Hid (Below w.heap.size w w2) := HB.out.trans (HBq.out.mono HB.out.size)
      replace HR : Hid (RdG w2 (w2).heap.size A R) := HR.out.on HBq.out
      replace K0 : Hid ((w2).cell? ⟨w.heap.size, 0, none⟩ = some (.slice A N c)) := (HBq.out.cell (World.block_lt_of_cell? _ _ K0.out)).trans K0.out
      replace H1 : Hid (RdG w2 (w2).heap.size A1 R1) := H1.out.on HBq.out
      replace Q2 : Hid (RdV w2 (w2).heap.size A2 (zc (ns (ofL p N)))) := Q2.out.on HBq.out
      replace K1 : Hid ((w2).cell? ⟨w1.heap.size, 0, none⟩ = some (.slice A1 M c1)) := (HBq.out.cell (World.block_lt_of_cell? _ _ K1.out)).trans K1.out
      clear HBq
      clear HBc
      have HC := Lib.hid (strongbegun_true w2)
      go_wp2_with fail
      refine HC.out.mono ?_
      rintro e w3 ⟨rfl, bq⟩
      clear HC
      have HBc := Lib.hid bq; clear bq
      have HBq : Hid (Below w2.heap.size w2 w3) := HBc.out
      replace HB : Hid (Below w.heap.size w w3) := HB.out.trans (HBq.out.mono HB.out.size)
      replace HR : Hid (RdG w3 (w3).heap.size A R) := HR.out.on HBq.out
      replace K0 : Hid ((w3).cell? ⟨w.heap.size, 0, none⟩ = some (.slice A N c)) := (HBq.out.cell (World.block_lt_of_cell? _ _ K0.out)).trans K0.out
      replace H1 : Hid (RdG w3 (w3).heap.size A1 R1) := H1.out.on HBq.out
      replace Q2 : Hid (RdV w3 (w3).heap.size A2 (zc (ns (ofL p N)))) := Q2.out.on HBq.out
      replace K1 : Hid ((w3).cell? ⟨w1.heap.size, 0, none⟩ = some (.slice A1 M c1)) := (HBq.out.cell (World.block_lt_of_cell? _ _ K1.out)).trans K1.out
      clear HBq
      clear HBc
      have HC := Lib.hid (walkbegun_true w3)
      go_wp2_with fail
      refine HC.out.mono ?_
      rintro e w4 ⟨rfl, bq⟩
      clear HC
      have HBc := Lib.hid bq; clear bq
      have HBq : Hid (Below w3.heap.size w3 w4) := HBc.out
      replace HB : Hid (Below w.heap.size w w4) := HB.out.trans (HBq.out.mono HB.out.size)
      replace HR : Hid (RdG w4 (w4).heap.size A R) := HR.out.on HBq.out
      replace K0 : Hid ((w4).cell? ⟨w.heap.size, 0, none⟩ = some (.slice A N c)) := (HBq.out.cell (World.block_lt_of_cell? _ _ K0.out)).trans K0.out
      replace H1 : Hid (RdG w4 (w4).heap.size A1 R1) := H1.out.on HBq.out
      replace Q2 : Hid (RdV w4 (w4).heap.size A2 (zc (ns (ofL p N)))) := Q2.out.on HBq.out
      replace K1 : Hid ((w4).cell? ⟨w1.heap.size, 0, none⟩ = some (.slice A1 M c1)) := (HBq.out.cell (World.block_lt_of_cell? _ _ K1.out)).trans K1.out
      clear HBq
      clear HBc
      go_wp2
      go_ret
      exact ⟨rfl, HB.out⟩
  · have HSh := Lib.hid (lw_shrink_e R N hN hn _ rfl e0)
    have HF := Lib.hid (lw_far_e R N hN hn _ rfl e0)
    have t1 : (grE (gs R) == 0) = false := by simpa using e0
    have u1 : (grE (gs R) != 0) = true := by simpa using e0
    clear e0 hN hn
    generalize grE (gs R) = e1 at *
    have HB : Hid (Below w.heap.size w w) := Below.refl _ w
    have HR := Lib.hid hA; clear hA
    go_enter Try.func11, Try.ntmps11
    have HBq : Hid (Below w.heap.size w (w.alloc (.cells #[.slice A N c] 24))) := one_below _ _
    replace HB : Hid (Below w.heap.size w (w.alloc (.cells #[.slice A N c] 24))) := HB.out.trans (HBq.out.mono HB.out.size)
    replace HR : Hid (RdG (w.alloc (.cells #[.slice A N c] 24)) ((w.alloc (.cells #[.slice A N c] 24))).heap.size A R) := HR.out.on HBq.out
    clear HBq
    have K0 : Hid (((w.alloc (.cells #[.slice A N c] 24))).cell? ⟨w.heap.size, 0, none⟩ = some (.slice A N c)) := (cell_at (World.alloc_heap_new w _) 0).trans rfl
    have HC := Lib.hid (HSh.out A c _ HR.out)
    have k_K0 := K0.out
    go_wp2_with fail
    clear k_K0
    refine HC.out.mono ?_
    rintro e w1 ⟨A1, R1, c1, A2, c2, rfl, -, -, -, bq⟩
    clear HC
    have HBc := Lib.hid bq; clear bq
    have HBq : Hid (Below (w.alloc (.cells #[.slice A N c] 24)).heap.size (w.alloc (.cells #[.slice A N c] 24)) w1) := HBc.out
    replace HB : Hid (Below w.heap.size w w1) := HB.out.trans (HBq.out.mono HB.out.size)
    replace HR : Hid (RdG w1 (w1).heap.size A R) := HR.out.on HBq.out
    replace K0 : Hid ((w1).cell? ⟨w.heap.size, 0, none⟩ = some (.slice A N c)) := (HBq.out.cell (World.block_lt_of_cell? _ _ K0.out)).trans K0.out
    clear HBq
    clear HBc
    have HBq : Hid (Below w1.heap.size w1 (w1.alloc (.cells #[.slice A1 0 c1] 24))) := one_below _ _
    replace HB : Hid (Below w.heap.size w (w1.alloc (.cells #[.slice A1 0 c1] 24))) := HB.out.trans (HBq.out.mono HB.out.size)
    replace HR : Hid (RdG (w1.alloc (.cells #[.slice A1 0 c1] 24)) ((w1.alloc (.cells #[.slice A1 0 c1] 24))).heap.size A R) := HR.out.on HBq.out
    replace K0 : Hid (((w1.alloc (.cells #[.slice A1 0 c1] 24))).cell? ⟨w.heap.size, 0, none⟩ = some (.slice A N c)) := (HBq.out.cell (World.block_lt_of_cell? _ _ K0.out)).trans K0.out
    clear HBq
    have K1 : Hid (((w1.alloc (.cells #[.slice A1 0 c1] 24))).cell? ⟨w1.heap.size, 0, none⟩ = some (.slice A1 0 c1)) := (cell_at (World.alloc_heap_new w1 _) 0).trans rfl
    have HC := Lib.hid (HF.out s A c _ HR.out)
    have k_K0 := K0.out
    go_wp2_with fail
    clear k_K0
    refine HC.out.mono ?_
    rintro e w2 ⟨rfl, bq⟩
    clear HC
    have HBc := Lib.hid bq; clear bq
    have HBq : Hid (Below (w1.alloc (.cells #[.slice A1 0 c1] 24)).heap.size (w1.alloc (.cells #[.slice A1 0 c1] 24)) w2) := HBc.out
    replace HB : Hid (Below w.heap.size w w2) := HB.out.trans (HBq.out.mono HB.out.size)
    replace HR : Hid (RdG w2 (w2).heap.size A R) := HR.out.on HBq.out
    replace K0 : Hid ((w2).cell? ⟨w.heap.size, 0, none⟩ = some (.slice A N c)) := (HBq.out.cell (World.block_lt_of_cell? _ _ K0.out)).trans K0.out
    replace K1 : Hid ((w2).cell? ⟨w1.heap.size, 0, none⟩ = some (.slice A1 0 c1)) := (HBq.out.cell (World.block_lt_of_cell? _ _ K1.out)).trans K1.out
    clear HBq
    clear HBc
    have HC := Lib.hid (strongbegun_true w2)
    go_wp2_with fail
    refine HC.out.mono ?_
    rintro e w3 ⟨rfl, bq⟩
    clear HC
    have HBc := Lib.hid bq; clear bq
    have HBq : Hid (Below w2.heap.size w2 w3) := HBc.out
    replace HB : Hid (Below w.heap.size w w3) := HB.out.trans (HBq.out.mono HB.out.size)
    replace HR : Hid (RdG w3 (w3).heap.size A R) := HR.out.on HBq.out
    replace K0 : Hid ((w3).cell? ⟨w.heap.size, 0, none⟩ = some (.slice A N c)) := (HBq.out.cell (World.block_lt_of_cell? _ _ K0.out)).trans K0.out
    replace K1 : Hid ((w3).cell? ⟨w1.heap.size, 0, none⟩ = some (.slice A1 0 c1)) := (HBq.out.cell (World.block_lt_of_cell? _ _ K1.out)).trans K1.out
    clear HBq
    clear HBc
    have HC := Lib.hid (walkbegun_true w3)
    go_wp2_with fail
    refine HC.out.mono ?_
    rintro e w4 ⟨rfl, bq⟩
    clear HC
    have HBc := Lib.hid bq; clear bq
    have HBq : Hid (Below w3.heap.size w3 w4) := HBc.out
    replace HB : Hid (Below w.heap.size w w4) := HB.out.trans (HBq.out.mono HB.out.size)
    replace HR : Hid (RdG w4 (w4).heap.size A R) := HR.out.on HBq.out
    replace K0 : Hid ((w4).cell? ⟨w.heap.size, 0, none⟩ = some (.slice A N c)) := (HBq.out.cell (World.block_lt_of_cell? _ _ K0.out)).trans K0.out
    replace K1 : Hid ((w4).cell? ⟨w1.heap.size, 0, none⟩ = some (.slice A1 0 c1)) := (HBq.out.cell (World.block_lt_of_cell? _ _ K1.out)).trans K1.out
    clear HBq
    clear HBc
    go_wp2
    go_ret
    exact ⟨rfl, HB.out⟩
end

section
section
open Go.ChangeShapes Go.WideShapes Go.ChangeAt Go.RowKit Go.Joins

theorem cells3i : Try.prog.cellsOf 3 = 1 := by kernel_rfl

set_option maxRecDepth 100000 in
/-- Numbers that were handed in. -/
theorem open_zs {H : Type} {enc : TypeId × Value → H} {W : World} {base : Nat} {v : Value} {d : DataW H} {p : List MemPlace}
    (hv : Value.okWide Try.prog W .any base 32 v) (h : DataW.Trod enc Try.prog W 0 (fun _ => true) true 32 v d p) :
    ∃ (A : Option Addr) (c : Nat) (xs : List Int), v = .slice A xs.length c ∧ xs.length ≤ c ∧ (A = none → c = 0) ∧ RdV W W.heap.size A (zc xs) ∧ (∀ x ∈ xs, -9223372036854775808 ≤ x ∧ x ≤ 9223372036854775807) ∧ xs.length ≤ 9223372036854775807 := by
  obtain ⟨a0, len0, cap0, rfl⟩ := okWide_slice Try.underlying32 hv
  obtain ⟨fuel, hf⟩ := h
  rcases open_ints Try.underlying32 Try.underlying3 cells3i hf with ⟨hcs, _⟩ | ⟨x, l, c, zs, hcs, _, hl, hm, hz, _, hcell, hwz⟩
  · simp [Value.cells] at hcs
    obtain ⟨rfl, rfl, rfl⟩ := hcs
    exact ⟨none, 0, [], rfl, by simp, fun _ => rfl, .inl rfl, by simp, by simp⟩
  · simp [Value.cells] at hcs
    obtain ⟨rfl, rfl, rfl⟩ := hcs
    have hzc : zs.length = cap0 := by simpa using hz
    have hlen : (zs.take len0).length = len0 := by rw [List.length_take]; omega
    unfold maxLen at hm
    refine ⟨some x, cap0, zs.take len0, by rw [hlen], by rw [hlen]; exact hl, (fun h => by cases h), ?_, ?_, by rw [hlen]; omega⟩
    · rcases Nat.eq_zero_or_pos len0 with h0 | h0
      · left; rw [h0]; rfl
      · obtain ⟨b, off, rfl, hc⟩ := ints_at hcell (by omega)
        refine .inr ⟨b, off, rfl, lt_of_cell (hc 0 (by omega)), fun i v hi => ?_⟩
        have hil : i < len0 := by
          rcases Nat.lt_or_ge i len0 with h | h
          · exact h
          · rw [List.getElem?_eq_none (by rw [zc_length, hlen]; exact h)] at hi; cases hi
        rw [zc_get _ i (by rw [hlen]; exact hil)] at hi
        cases hi
        rw [hc i (by omega)]
        have hz0 : zs.getD i 0 = zs[i]'(by omega) := by rw [List.getD_eq_getElem?_getD, List.getElem?_eq_getElem (by omega)]; rfl
        have e1 : (zs.take len0)[i]?.getD 0 = zs[i]'(by omega) := by
          rw [List.getElem?_take_of_lt hil, List.getElem?_eq_getElem (by omega)]; rfl
        rw [e1, hz0]
    · intro n hn
      exact bounds_i64 (hwz n (List.mem_of_mem_take hn))
end

section
open Go.ChangeShapes Go.WideShapes Go.ChangeAt Go.RowKit Go.Joins Go.Deep

theorem cellsG : Try.prog.cellsOf 24 = 1 := by kernel_rfl
theorem cellsL1 : Try.prog.cellsOf 32 = 1 := by kernel_rfl
theorem cellsL2 : Try.prog.cellsOf 22 = 1 := by kernel_rfl
theorem bytesL1 : Try.prog.bytesOf 32 = 24 := by kernel_rfl
theorem bytesI1 : Try.prog.bytesOf 3 = 8 := by kernel_rfl
theorem weightsAll_mem {H : Type} {P : Program} {e : TypeId} {n : Nat} : ∀ {l : List (DataW H)} {d : DataW H}, d ∈ l → n ∈ d.weights P e → n ∈ DataW.weightsAll P e l
  | x :: t, d, hd, hn => by
    simp only [DataW.weightsAll, List.mem_append]
    rcases List.mem_cons.1 hd with rfl | h
    · exact .inl hn
    · exact .inr (weightsAll_mem h hn)
theorem add_plG (b off k : Nat) : (⟨b, off, none⟩ : Addr).add k = ⟨b, off + k, none⟩ := by unfold Addr.add; split <;> simp_all
theorem zc_mem {l : List Int} {i : Nat} {v : Value} (h : (zc l)[i]? = some v) : ∃ hi : i < l.length, v = .int .i64 l[i] := by
  unfold zc at h
  rw [List.getElem?_map] at h
  obtain ⟨x, hx, rfl⟩ := Option.map_eq_some_iff.1 h
  obtain ⟨hi, rfl⟩ := List.getElem?_eq_some_iff.1 hx
  exact ⟨hi, rfl⟩
set_option maxRecDepth 100000 in
/-- A graph that was handed in. -/
theorem open_graph {H : Type} {enc : TypeId × Value → H} {W : World} {base : Nat} {v : Value} {d : DataW H} {p : List MemPlace}
    (hv : Value.okWide Try.prog W .any base 24 v) (h : DataW.Trod enc Try.prog W 0 (fun _ => true) true 24 v d p)
    (hz : ∀ n ∈ d.weights Try.prog 24, n ≤ reachBytes) :
    ∃ (A : Option Addr) (c : Nat) (R : List Rw), v = .agg #[.slice A R.length c] ∧ RdG W W.heap.size A R ∧ R.length ≤ 140737488355328 := by
  obtain ⟨cs, rfl, hsz⟩ := okWide_struct Try.underlying24 hv
  obtain ⟨c0, rfl⟩ := Array.size_eq_one_iff.1 (hsz.trans cellsG)
  obtain ⟨fuel, hf⟩ := h
  obtain ⟨y0, n, hx, _, h0⟩ := trod_struct1 Try.underlying24 hf
  simp only [Prod.mk.injEq] at hx
  obtain ⟨rfl, rfl⟩ := hx
  simp [Value.cells, cellsL2] at h0
  have hz0 : ∀ n ∈ y0.1.weights Try.prog 22, n ≤ reachBytes := fun n hn => hz n (by
    unfold DataW.weights
    rw [Try.underlying24]
    simp only [List.map_cons, List.map_nil, DataW.weightsEach, List.append_nil]
    exact hn)
  have hrb := reachBytes_lt
  rcases open_int_rows Try.underlying22 Try.underlying32 Try.underlying3 cellsL1 cells3i h0 with ⟨hcs, _⟩ | ⟨a, len, cap, A, L, C, Z, hcs, _, hl, hm, hx, hrow⟩
  · simp at hcs
    subst hcs
    exact ⟨none, 0, [], rfl, ⟨.inl rfl, fun r hr => by simp at hr⟩, by simp⟩
  · simp at hcs
    subst hcs
    rw [hx] at hz0
    have hlen : (len + (cap - len)) * 24 ≤ reachBytes := hz0 _ (by
      simp only [DataW.weights, Try.underlying22, List.length_map, List.length_range, bytesL1]
      exact List.mem_cons_self)
    have hrl : ∀ r, r < len → L r ≤ 140737488355328 := fun r hr => by
      obtain ⟨_, q1, q2, q3, _, q5, _⟩ := hrow r (by omega)
      cases hA : A r with
      | none => rw [q5 hA] at q1; omega
      | some a' =>
        have := hz0 (((Z r).take (L r)).length * 8 + ((Z r).drop (L r)).length * 8) (by
          simp only [DataW.weights, Try.underlying22, List.length_map, List.length_range, bytesL1]
          refine List.mem_cons_of_mem _ (List.mem_append.2 (.inl (weightsAll_mem (List.mem_map.2 ⟨r, List.mem_range.2 hr, rfl⟩) ?_)))
          unfold intRow
          rw [hA]
          simp only [DataW.weights, Try.underlying32, bytesI1, lits, List.length_map]
          refine List.mem_cons.2 (.inl ?_)
          omega)
        rw [List.length_take] at this
        omega
    refine ⟨some a, cap, (List.range len).map fun r => (A r, C r, (Z r).take (L r)), by simp, ⟨?_, ?_⟩, by simp; omega⟩
    · rcases Nat.eq_zero_or_pos len with h0 | h0
      · left; rw [h0]; rfl
      · obtain ⟨b, off, spot⟩ := a
        have hspot : spot = none := by simpa [Addr.add] using World.cell?_spot (hrow 0 (by omega)).1
        subst hspot
        refine .inr ⟨b, off, rfl, ?_, fun i v hi => ?_⟩
        · have := (hrow 0 (by omega)).1
          exact lt_of_cell (p := ⟨b, off + 0, none⟩) (by rw [← add_plG]; exact this)
        · unfold rcl at hi
          rw [List.getElem?_map, List.getElem?_map] at hi
          obtain ⟨y, hy, rfl⟩ := Option.map_eq_some_iff.1 hi
          obtain ⟨j, hj, rfl⟩ := Option.map_eq_some_iff.1 hy
          obtain ⟨hil, rfl⟩ := List.getElem?_eq_some_iff.1 hj
          rw [List.length_range] at hil
          have := hrow i (by omega)
          rw [add_plG] at this
          simp only [List.getElem_range]
          unfold sl
          simp only [List.length_take]
          rw [this.1]
          have e : min (L i) (Z i).length = L i := by have q1 := this.2.1; have q2 := this.2.2.2.1; omega
          rw [e]
    · intro r hr
      obtain ⟨i, hi, rfl⟩ := List.mem_map.1 hr
      have hil := List.mem_range.1 hi
      obtain ⟨q0, q1, q2, q3, q4, q5, q6⟩ := hrow i (by omega)
      refine ⟨?_, by simp only [List.length_take]; have := hrl i hil; omega⟩
      simp only
      rcases Nat.eq_zero_or_pos (L i) with h0 | h0
      · left; rw [h0]; rfl
      · cases hA : A i with
        | none => rw [q5 hA] at q1; omega
        | some a' =>
          obtain ⟨_, q7⟩ := q6 a' hA
          obtain ⟨b, off, spot⟩ := a'
          have hspot : spot = none := by simpa [Addr.add] using World.cell?_spot (q7 0 (by omega))
          subst hspot
          refine .inr ⟨b, off, rfl, ?_, fun j v hj => ?_⟩
          · have := q7 0 (by omega)
            exact lt_of_cell (p := ⟨b, off + 0, none⟩) (by rw [← add_plG]; exact this)
          · obtain ⟨hjl, rfl⟩ := zc_mem hj
            have hjl2 : j < L i := by rw [List.length_take] at hjl; omega
            have := q7 j (by omega)
            rw [add_plG] at this
            rw [this]
            simp [List.getD_eq_getElem?_getD, List.getElem?_eq_getElem (show j < (Z i).length by omega)]
end
end

section
open Go.ChangeShapes Go.WideShapes Go.ChangeAt Go.RowKit
open Go.ChangeMaps (open_string shut_string)

set_option linter.unusedVariables false
set_option maxRecDepth 100000 in
theorem strongWays_lifted (os : Os) (started : os.Started) (H : Type) (enc : TypeId × Value → H) :
    ReturnsInHanded {} Try.checked os 11 .any (Rows.strongWaysSpec.pre6 enc Try.prog Try.f11 Rows.strongWaysRow.domain false) (Rows.strongWaysSpec.post enc Try.prog Try.f11 false true false false) := by
  refine returnsInHanded_of_change_sized (C := Try.checked) own started (by kernel_rfl) Try.func11
    (ChangeSpec.witness6 (enc := enc) (C := Try.checked) false ⟨#[], #[.agg #[.slice none 0 0], .int .i64 0, .int .i64 0], []⟩ 8 (by kernel_rfl) (by kernel_rfl) (by kernel_rfl) (by kernel_rfl)) ?_
  intro W base args ds gs before hval0 hW hcnd hzz _
  have hval : ∀ (j : Nat) t v, Try.f11.params[j]? = some t → args[j]? = some v → Value.okWide Try.prog W .any base t v := hval0
  have hW' := hW
  obtain ⟨p, q, hA0, hV, rfl, hfz, hnd⟩ := hW
  have hA : DataW.TrodAll enc Try.prog W 0 (fun _ => true) true Try.f11.params.toList args.toList ds p := hA0
  rw [Try.params11] at hA hval hzz
  obtain ⟨v0, vs0, d0, ds0, p0, q0, hargs, rfl, rfl, h0, r0⟩ := trodAll_cons hA
  obtain ⟨v1, vs1, d1, ds1, p1, q1, rfl, rfl, rfl, h1, r1⟩ := trodAll_cons r0
  obtain ⟨v2, vs2, d2, ds2, p2, q2, rfl, rfl, rfl, h2, r2⟩ := trodAll_cons r1
  obtain ⟨rfl, rfl, rfl⟩ := trodAll_nil r2
  obtain rfl : args = #[v0, v1, v2] := by cases args; simp_all
  obtain ⟨rfl, rfl⟩ := trodVars_none hV
  have k0 := h0
  have lt0 : ∀ x ∈ p0, x.block < W.heap.size := by obtain ⟨m, hm⟩ := k0; exact DataW.trod_lt m _ _ _ hm
  obtain ⟨A0, c0, R0, rfl, rd0, nn0⟩ := open_graph (hval 0 24 v0 rfl rfl) h0 (fun n hn => of_decide_eq_true (List.all_eq_true.1 hzz n (DataW.weights_mem_each (j := 0) (t := 24) (d := d0) rfl rfl n hn)))
  obtain ⟨x1, rfl, rfl, rfl, wx1⟩ := open_int Try.underlying3 (hval 1 3 v1 rfl rfl) h1
  have bd1 := bounds_i64 wx1
  obtain ⟨x2, rfl, rfl, rfl, wx2⟩ := open_int Try.underlying3 (hval 2 3 v2 rfl rfl) h2
  have bd2 := bounds_i64 wx2
  clear hA0 hval0
  refine (strongWays_law A0 c0 R0 x1 x2 W rd0 nn0 bd1 bd2).mono fun e W' ⟨he, bel⟩ => ?_
  subst he
  exact ⟨_, rfl, _, _, _, [], _, [], hW', trodAll_mk1 (shut_bool Try.underlying4 _), (trodAll_cons_mk (Below.trod laidOut (by kernel_rfl) (of_decide_eq_true (by kernel_rfl)) k0 bel lt0) (trodAll_cons_mk (shut_int Try.underlying3 wx1) (trodAll_cons_mk (shut_int Try.underlying3 wx2) trodAll_mk0))), rfl, bel.frame _, fun h => by cases h⟩

theorem StrongWays_holds : Rows.StrongWaysSaid :=
  OpenClaim.holds_of_wide 11 Try.f11 rfl rfl rfl rfl rfl rfl rfl ⟨rfl, rfl, rfl, rfl, rfl⟩ rfl rfl rfl rfl rfl (by kernel_rfl) Try.func11 (by kernel_rfl)
    (of_decide_eq_true (by kernel_rfl)) (by unfold Func.isWrapper; first | (rw [if_pos (by decide +kernel)]; kernel_rfl) | (rw [if_neg (by decide +kernel)]; exact ⟨rfl, rfl⟩))
    (fun os started H enc _ => strongWays_lifted os started H enc)
#print axioms StrongWays_holds
end
end Go.Proofs.Ytffgmjfanpgbbaa
