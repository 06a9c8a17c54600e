/- The law WalkWay: a way is as long as it is far, goes by arcs, through no node twice, and none that is as long is ahead of it; for whatever graph, nodes and list. -/
import Derived.Test.YtffgmjfanpgbbaaDJB
import Derived.BigRegion
import Derived.Test.YtffgmjfanpgbbaaWOp
namespace Go.Proofs.Ytffgmjfanpgbbaa

section
set_option maxRecDepth 100000
set_option linter.unusedVariables false
open Go.RowKit Go.Shelf

theorem rdv_take {w : World} {B : Nat} {A : Option Addr} {l : List Nat} (h : RdV w B A (zc (ns l))) (i : Nat) : RdV w B A (zc (ns (l.take i))) := by
  have e : zc (ns (l.take i)) = (zc (ns l)).take i := by unfold zc ns; simp
  rw [e]
  rcases h with h | ⟨b, off, q1, q2, q3⟩
  · left; rw [h]; simp
  · refine .inr ⟨b, off, q1, q2, fun j v hj => q3 j v ?_⟩
    have hl := (List.getElem?_eq_some_iff.1 hj).1
    rw [List.length_take] at hl
    rwa [List.getElem?_take_of_lt (by omega)] at hj
theorem ns_memD (l : List Nat) (x : Nat) : ((x : Int) ∈ ns l) ↔ x ∈ l := by
  unfold ns
  rw [List.mem_map]
  constructor
  · rintro ⟨y, hy, e⟩
    obtain rfl : y = x := by omega
    exact hy
  · intro h; exact ⟨x, h, rfl⟩
theorem take_memD {l : List Nat} {i x : Nat} (h : x ∈ l.take i) : ∃ j, j < i ∧ j < l.length ∧ qa l j = x := by
  obtain ⟨j, hj, e⟩ := List.getElem_of_mem h
  rw [List.length_take] at hj
  rw [List.getElem_take] at e
  exact ⟨j, by omega, by omega, by rw [← qa_get (by omega), e]⟩
set_option maxHeartbeats 16000000 in
theorem walkWay_law (A : Option Addr) (c : Nat) (R : List Rw) (s t : Int) (Ao : Option Addr) (co : Nat) (xo : List Int) (w : World) (hA : RdG w w.heap.size A R) (hn : R.length ≤ 140737488355328) (hs0 : -9223372036854775808 ≤ s ∧ s ≤ 9223372036854775807) (ht0 : -9223372036854775808 ≤ t ∧ t ≤ 9223372036854775807)
    (hcp : xo.length ≤ co) (hnl : Ao = none → co = 0) (hby : ∀ x ∈ xo, -9223372036854775808 ≤ x ∧ x ≤ 9223372036854775807) (hO : RdV w w.heap.size Ao (zc xo)) (hsz : xo.length ≤ 9223372036854775807) :
    Calls Try.prog 5 #[.agg #[.slice A R.length c], .int .i64 s, .int .i64 t, .slice Ao xo.length co] w fun e w' => e = .returned (.bool true) ∧ Below w.heap.size w w' := by
  clear hs0 ht0 hcp hnl hby
  obtain ⟨N, hN⟩ : ∃ N, R.length = N := ⟨_, rfl⟩
  obtain ⟨no, hno⟩ : ∃ no, xo.length = no := ⟨_, rfl⟩
  rw [hN] at hn ⊢
  rw [hno] at hsz ⊢
  have HNo := Lib.hid hno; clear hno
  by_cases e0 : grE (gs R) = 0
  · obtain ⟨g, hg, hok⟩ := grE_zero _ e0
    have hgl : g.length = N := by have := congrArg List.length hg; rw [gs_length, List.length_map] at this; omega
    have hN1 : N ≤ 100 := by have := hok.nodes; omega
    have HFt : Hid (∀ (s : Int), ¬ (0 ≤ s ∧ s < (N : Int)) → ∀ A c V, RdG V V.heap.size A R → Calls Try.prog 30 #[.agg #[.slice A N c], .int .i64 s] V fun e w' => ∃ A n c e1, e = .returned (.tuple #[.slice A n c, .int .i64 e1]) ∧ (e1 == 0) = false ∧ Below V.heap.size V w') := fun s hs A c V h => (far_tot R N hN (by omega) s A c V h).mono fun e w' ⟨A, n, c, e1, q1, q2, q3⟩ => ⟨A, n, c, e1, q1, by rw [q2]; exact decide_eq_false (fun q => hs (by have := (cnE_zero q).2 s (by simp); rwa [gs_length, hN] at this)), q3⟩
    have HF : Hid (∀ (k : Nat) F, k < N → Fa g k F → ∀ A c V, RdG V V.heap.size A R → Calls Try.prog 30 #[.agg #[.slice A N c], .int .i64 (k : Int)] V fun e w' => ∃ b, e = .returned (.tuple #[.slice (some ⟨b, 0, none⟩) N N, .int .i64 0]) ∧ RdV w' w'.heap.size (some ⟨b, 0, none⟩) (zc F) ∧ Below V.heap.size V w') := fun k F hk hF A c V h => (far_ok R g hg hok N hN k hk F hF A c V h).mono fun e w' ⟨b, q1, q2⟩ => ⟨b, q1, q2.rd, q2.low⟩
    have HWe : Hid (¬ ((0 ≤ s ∧ s < (N : Int)) ∧ (0 ≤ t ∧ t < (N : Int))) → ∀ A c V, RdG V V.heap.size A R → ∃ e1 : Int, (e1 == 0) = false ∧ Calls Try.prog 31 #[.agg #[.slice A N c], .int .i64 s, .int .i64 t] V fun e w' => e = .returned (.tuple #[.slice none 0 0, .int .i64 e1]) ∧ Below V.heap.size V w') := fun hst A c V h => by
      have hne : cnE (gs R) [s, t] ≠ 0 := fun q => hst (by have h1 := (cnE_zero q).2; have h2 := h1 s (by simp); have h3 := h1 t (by simp); rw [gs_length, hN] at h2 h3; exact ⟨h2, h3⟩)
      exact ⟨cnE (gs R) [s, t], by simpa using hne, way_e R N hN (by omega) s t _ rfl hne A c V h⟩
    have HWo : Hid (∀ (s t : Nat) L, s < N → t < N → Fa (gturn g) t L → ∀ A c V, RdG V V.heap.size A R → Calls Try.prog 31 #[.agg #[.slice A N c], .int .i64 (s : Int), .int .i64 (t : Int)] V fun e w' => (fv L s = -1 ∧ e = .returned (.tuple #[.slice none 0 0, .int .i64 5]) ∧ Below V.heap.size V w') ∨ ∃ (k : Nat) (Av : Option Addr) (cv : Nat), fv L s = (k : Int) ∧ e = .returned (.tuple #[.slice Av (k + 1) cv, .int .i64 0]) ∧ RdV w' w'.heap.size Av (zc (ns (wayL g L k s))) ∧ Below V.heap.size V w' ∧ k + 1 ≤ cv) := fun s t L hs ht hL A c V h => way_ok R g hg hok N hN s t hs ht L hL A c V h
    have HLd : Hid (∀ (i : Nat) (z : Int), i < N → ∀ A c V, RdG V V.heap.size A R → Calls Try.prog 38 #[.agg #[.slice A N c], .int .i64 (i : Int), .int .i64 z] V fun e w' => e = .returned (.bool (decide (z ∈ ns (row g i)))) ∧ Below V.heap.size V w') := fun i z hi A c V h => by
      have := leads_any R N hN A c i hi z V h
      rwa [row_ofD R g hg i (by rw [hgl]; exact hi)] at this
    have HOk : Hid (GOk g ∧ g.length = N) := ⟨hok, hgl⟩
    clear e0 hN hn hg hok hgl
    have HB : Hid (Below w.heap.size w w) := Below.refl _ w
    have HR := Lib.hid hA; clear hA
    have HO := Lib.hid hO; clear hO
    go_enter Try.func5, Try.ntmps5
    have HBq : Hid (Below w.heap.size w (w.alloc (.cells #[.slice A N c] 24))) := one_below _ _
    replace HB : Hid (Below w.heap.size w (w.alloc (.cells #[.slice A N c] 24))) := HB.out.trans (HBq.out.mono HB.out.size)
    replace HR : Hid (RdG (w.alloc (.cells #[.slice A N c] 24)) ((w.alloc (.cells #[.slice A N c] 24))).heap.size A R) := HR.out.on HBq.out
    replace HO : Hid (RdV (w.alloc (.cells #[.slice A N c] 24)) ((w.alloc (.cells #[.slice A N c] 24))).heap.size Ao (zc xo)) := HO.out.on HBq.out
    clear HBq
    have K0 : Hid (((w.alloc (.cells #[.slice A N c] 24))).cell? ⟨w.heap.size, 0, none⟩ = some (.slice A N c)) := (cell_at (World.alloc_heap_new w _) 0).trans rfl
    by_cases hs : 0 ≤ s ∧ s < (N : Int)
    · obtain ⟨k, rfl⟩ := Int.eq_ofNat_of_zero_le hs.1
      have hk : k < N := by omega
      obtain ⟨F, hF⟩ := fa_ex g k
      have HFl : Hid (F.length = N) := by show _ = _; rw [hF.len]; exact HOk.out.2
      have HFa := Lib.hid hF
      have HC := Lib.hid (HF.out k F hk hF A c _ HR.out)
      have k_K0 := K0.out
      go_wp2_with fail
      clear k_K0
      refine HC.out.mono ?_
      rintro e w1 ⟨b9, rfl, q9, bq⟩
      clear HC
      have HBc := Lib.hid bq; clear bq
      have HBq : Hid (Below (w.alloc (.cells #[.slice A N c] 24)).heap.size (w.alloc (.cells #[.slice A N c] 24)) w1) := HBc.out
      replace HB : Hid (Below w.heap.size w w1) := HB.out.trans (HBq.out.mono HB.out.size)
      replace HR : Hid (RdG w1 (w1).heap.size A R) := HR.out.on HBq.out
      replace HO : Hid (RdV w1 (w1).heap.size Ao (zc xo)) := HO.out.on HBq.out
      replace K0 : Hid ((w1).cell? ⟨w.heap.size, 0, none⟩ = some (.slice A N c)) := (HBq.out.cell (World.block_lt_of_cell? _ _ K0.out)).trans K0.out
      clear HBq
      clear HBc
      clear hF
      have Q9 : Hid (RdV w1 (w1).heap.size (some ⟨b9, 0, none⟩) (zc F)) := q9
      clear q9
      by_cases ht : 0 ≤ t ∧ t < (N : Int)
      · obtain ⟨l, rfl⟩ := Int.eq_ofNat_of_zero_le ht.1
        have hl : l < N := by omega
        clear hs ht HFt HWe HF
        obtain ⟨L, hL⟩ := fa_ex (gturn g) l
        have HFL : Hid (fv F l = fv L k) := Fa.turn HOk.out.1 (by rw [HOk.out.2]; exact hk) (by rw [HOk.out.2]; exact hl) HFa.out hL
        have HTo : Hid (To g l L) := To.of (gturn_length g) HOk.out.1.bdd (by rw [HOk.out.2]; exact hl) (fun i x => gturn_memD HOk.out.1 i x) hL
        have HC := Lib.hid (HWo.out k l L hk hl hL A c _ HR.out)
        have k_K0 := K0.out
        go_wp2_with fail
        clear k_K0 hL
        refine HC.out.mono ?_
        rintro e w2 (⟨hq, rfl, bq⟩ | ⟨k', Av, cv, hq, rfl, q2, bq, hcv⟩)
        · clear HC
          have HBc := Lib.hid bq; clear bq
          have HBq : Hid (Below w1.heap.size w1 w2) := HBc.out
          replace HB : Hid (Below w.heap.size w w2) := HB.out.trans (HBq.out.mono HB.out.size)
          replace HR : Hid (RdG w2 (w2).heap.size A R) := HR.out.on HBq.out
          replace HO : Hid (RdV w2 (w2).heap.size Ao (zc xo)) := HO.out.on HBq.out
          replace K0 : Hid ((w2).cell? ⟨w.heap.size, 0, none⟩ = some (.slice A N c)) := (HBq.out.cell (World.block_lt_of_cell? _ _ K0.out)).trans K0.out
          replace Q9 : Hid (RdV w2 (w2).heap.size (some ⟨b9, 0, none⟩) (zc F)) := Q9.out.on HBq.out
          clear HBq
          clear HBc
          have HQ := Lib.hid hq; clear hq
          have HC := Lib.hid (walkbegun_true w2)
          go_wp2_with fail
          refine HC.out.mono ?_
          rintro e w3 ⟨rfl, bq⟩
          clear HC
          have HBc := Lib.hid bq; clear bq
          have HBq : Hid (Below w2.heap.size w2 w3) := HBc.out
          replace HB : Hid (Below w.heap.size w w3) := HB.out.trans (HBq.out.mono HB.out.size)
          replace HR : Hid (RdG w3 (w3).heap.size A R) := HR.out.on HBq.out
          replace HO : Hid (RdV w3 (w3).heap.size Ao (zc xo)) := HO.out.on HBq.out
          replace K0 : Hid ((w3).cell? ⟨w.heap.size, 0, none⟩ = some (.slice A N c)) := (HBq.out.cell (World.block_lt_of_cell? _ _ K0.out)).trans K0.out
          replace Q9 : Hid (RdV w3 (w3).heap.size (some ⟨b9, 0, none⟩) (zc F)) := Q9.out.on HBq.out
          clear HBq
          clear HBc
          have k1 := rdv_at Q9.out (N := N) l (by rw [HFl.out]; exact hl)
          rw [HFL.out, HQ.out] at k1
          have t1 : decide ((l : Int) < 0) = false := by simp
          have t2 : decide ((N : Int) ≤ (l : Int)) = false := by simp; omega
          have t2n : decide (N ≤ l) = false := by simp; omega
          have t3 : (0 : Int) ≤ (l : Int) := by omega
          have t4 : (l : Int) < (N : Int) := by omega
          go_wp2
          go_ret
          exact ⟨rfl, HB.out⟩
        · clear HC
          have HBc := Lib.hid bq; clear bq
          have HBq : Hid (Below w1.heap.size w1 w2) := HBc.out
          replace HB : Hid (Below w.heap.size w w2) := HB.out.trans (HBq.out.mono HB.out.size)
          replace HR : Hid (RdG w2 (w2).heap.size A R) := HR.out.on HBq.out
          replace HO : Hid (RdV w2 (w2).heap.size Ao (zc xo)) := HO.out.on HBq.out
          replace K0 : Hid ((w2).cell? ⟨w.heap.size, 0, none⟩ = some (.slice A N c)) := (HBq.out.cell (World.block_lt_of_cell? _ _ K0.out)).trans K0.out
          replace Q9 : Hid (RdV w2 (w2).heap.size (some ⟨b9, 0, none⟩) (zc F)) := Q9.out.on HBq.out
          clear HBq
          clear HBc
          have Q2 : Hid (RdV w2 (w2).heap.size Av (zc (ns (wayL g L k' k)))) := q2
          clear q2
          have HQ := Lib.hid hq
          have HC := Lib.hid (walkbegun_true w2)
          go_wp2_with fail
          refine HC.out.mono ?_
          rintro e w3 ⟨rfl, bq⟩
          clear HC
          have HBc := Lib.hid bq; clear bq
          have HBq : Hid (Below w2.heap.size w2 w3) := HBc.out
          replace HB : Hid (Below w.heap.size w w3) := HB.out.trans (HBq.out.mono HB.out.size)
          replace HR : Hid (RdG w3 (w3).heap.size A R) := HR.out.on HBq.out
          replace HO : Hid (RdV w3 (w3).heap.size Ao (zc xo)) := HO.out.on HBq.out
          replace K0 : Hid ((w3).cell? ⟨w.heap.size, 0, none⟩ = some (.slice A N c)) := (HBq.out.cell (World.block_lt_of_cell? _ _ K0.out)).trans K0.out
          replace Q9 : Hid (RdV w3 (w3).heap.size (some ⟨b9, 0, none⟩) (zc F)) := Q9.out.on HBq.out
          replace Q2 : Hid (RdV w3 (w3).heap.size Av (zc (ns (wayL g L k' k)))) := Q2.out.on HBq.out
          clear HBq
          clear HBc
          have t1 : decide ((l : Int) < 0) = false := by simp
          have t2 : decide ((N : Int) ≤ (l : Int)) = false := by simp; omega
          have t2n : decide (N ≤ l) = false := by simp; omega
          have t3 : (0 : Int) ≤ (l : Int) := by omega
          have t4 : (l : Int) < (N : Int) := by omega
          have hkk : k' < N := by
            have h1 := HFa.out.lt HOk.out.1.bdd (by rw [HOk.out.2]; exact hk) l (by rw [HOk.out.2]; exact hl)
            rw [HFL.out, hq, HOk.out.2] at h1
            omega
          have HTa := Lib.hid (HTo.out.far_at k' k (by rw [HOk.out.2]; exact hk) hq)
          have HTl := Lib.hid (HTo.out.leads k' k (by rw [HOk.out.2]; exact hk) hq)
          have HTz := Lib.hid (HTo.out.last k' k (by rw [HOk.out.2]; exact hk) hq)
          have HTf := Lib.hid (HTo.out.first (row_ris HOk.out.1) k' k (by rw [HOk.out.2]; exact hk) hq)
          have HWl := Lib.hid (wayL_length g L k' k)
          have HW0 : Hid (qa (wayL g L k' k) 0 = k) := by show _ = _; unfold qa; rw [wayL_head]; rfl
          obtain ⟨Wy, hWy⟩ : ∃ Wy, wayL g L k' k = Wy := ⟨_, rfl⟩
          rw [hWy] at HTa HTl HTz HTf HWl HW0 Q2
          clear hWy
          have hat : ∀ i, i ≤ k' → ∃ b o, Av = some ⟨b, o, none⟩ ∧ w3.cell? ⟨b, o + i, none⟩ = some (.int .i64 ((qa Wy i : Nat) : Int)) := fun i hi => by
            obtain ⟨b, o, q1, _, q2⟩ := Q2.out.at_ (zc_getN Wy i (qa Wy i) (qa_eq (by rw [HWl.out]; omega)))
            exact ⟨b, o, q1, q2⟩
          obtain ⟨bw, ow, rfl, kw0⟩ := hat 0 (Nat.zero_le _)
          have hat2 : ∀ i, i ≤ k' → w3.cell? ⟨bw, ow + i, none⟩ = some (.int .i64 ((qa Wy i : Nat) : Int)) := fun i hi => by
            obtain ⟨b, o, q1, q2⟩ := hat i hi
            simp only [Option.some.injEq, Addr.mk.injEq, and_true] at q1
            obtain ⟨rfl, rfl⟩ := q1
            exact q2
          have HAt := Lib.hid hat2
          clear hat hat2
          have kwk := HAt.out k' (Nat.le_refl _)
          rw [HW0.out, Nat.add_zero] at kw0
          rw [HTz.out] at kwk
          have k1 := rdv_at Q9.out (N := N) l (by rw [HFl.out]; exact hl)
          rw [HFL.out, HQ.out] at k1
          obtain ⟨m, hm⟩ : ∃ m, k' + 1 = m := ⟨_, rfl⟩
          have HM := Lib.hid hm
          have hm1 : k' + 1 ≤ m := by omega
          have hm2 : m ≤ k' + 1 := by omega
          rw [hm] at hcv ⊢
          have a1 : IntKind.i64.wrap ((k' : Int) + 1) = (m : Int) := by rw [IntKind.wrap_i64]; omega
          have a2 : IntKind.i64.wrap ((m : Int) - 1) = (k' : Int) := by rw [IntKind.wrap_i64]; omega
          have t5 : ((m : Int) != (m : Int)) = false := by simp
          have t6 : ((k : Int) != (k : Int)) = false := by simp
          have t7 : ((l : Int) != (l : Int)) = false := by simp
          have t8 : (0 : Int) < (m : Int) := by omega
          have t9 : (0 : Int) ≤ (k' : Int) := by omega
          have t10 : (k' : Int) < (m : Int) := by omega
          clear hm hq HWo
          go_wp2
          clear kwk kw0 k1
          go_loopw [13] (fun v wr => ∃ i : Nat, 1 ≤ i ∧ i ≤ m ∧ v = .int .i64 (i : Int) ∧ Below w3.heap.size w3 wr) (fun v _ => m - (intOf v).toNat)
          case atStart => exact ⟨1, Nat.le_refl _, by omega, rfl, Below.refl _ _⟩
          case round =>
           as_aux_lemma =>
            obtain ⟨i, hi1, hi2, rfl, hbel⟩ := hrel
            by_cases hlt : i < m
            · obtain ⟨i', hi'⟩ : ∃ i', i = i' + 1 := ⟨i - 1, by omega⟩
              have hl2 := HTl.out i' (by omega)
              have hfa := HTa.out i' (by omega)
              rw [← hi'] at hl2
              obtain ⟨x, hx⟩ : ∃ x, qa Wy i' = x := ⟨_, rfl⟩
              obtain ⟨y, hy⟩ : ∃ y, qa Wy i = y := ⟨_, rfl⟩
              have ky : wr.cell? ⟨bw, ow + i, none⟩ = some (.int .i64 (y : Int)) := by rw [← hy]; exact (hbel.cell (World.block_lt_of_cell? _ _ (HAt.out i (by omega)))).trans (HAt.out i (by omega))
              have kx : wr.cell? ⟨bw, ow + i', none⟩ = some (.int .i64 (x : Int)) := by rw [← hx]; exact (hbel.cell (World.block_lt_of_cell? _ _ (HAt.out i' (by omega)))).trans (HAt.out i' (by omega))
              have hnot : y ∉ Wy.take i := fun q => by
                obtain ⟨j, r1, r2, r3⟩ := take_memD q
                have f1 := (HTa.out j (by omega)).2
                have f2 := (HTa.out i (by omega)).2
                rw [r3] at f1
                rw [hy] at f2
                rw [f1] at f2
                omega
              have HLx : Hid (∀ V, Below w3.heap.size w3 V → Calls Try.prog 38 #[.agg #[.slice A N c], .int .i64 (x : Int), .int .i64 (y : Int)] V fun e w' => e = .returned (.bool true) ∧ Below V.heap.size V w') := fun V hV => by
                have := HLd.out x (y : Int) (by rw [← HOk.out.2, ← hx]; exact hfa.1) A c V (HR.out.on hV)
                rw [decide_eq_true ((ns_memD _ _).2 (by rw [← hx, ← hy]; exact hl2.2))] at this
                exact this
              have HIx : Hid (∀ V, Below w3.heap.size w3 V → Calls Try.prog 39 #[.slice (some ⟨bw, ow, none⟩) i cv, .int .i64 (y : Int)] V fun e w' => e = .returned (.bool false) ∧ w' = V) := fun V hV =>
                hasInt_any (ns (Wy.take i)) i (by rw [ns_length, List.length_take, HWl.out]; omega) (by omega) (y : Int) false (.inr ⟨rfl, fun q => hnot ((ns_memD _ _).1 q)⟩) _ cv V (rdv_take (Q2.out.on hV) i)
              have HKs : Hid (∀ V, Below w3.heap.size w3 V → V.cell? ⟨w.heap.size, 0, none⟩ = some (.slice A N c) ∧ V.cell? ⟨bw, ow + i', none⟩ = some (.int .i64 (x : Int)) ∧ V.cell? ⟨bw, ow + i, none⟩ = some (.int .i64 (y : Int))) := fun V hV =>
                ⟨(hV.cell (World.block_lt_of_cell? _ _ K0.out)).trans K0.out, by rw [← hx]; exact (hV.cell (World.block_lt_of_cell? _ _ (HAt.out i' (by omega)))).trans (HAt.out i' (by omega)), by rw [← hy]; exact (hV.cell (World.block_lt_of_cell? _ _ (HAt.out i (by omega)))).trans (HAt.out i (by omega))⟩
              have b1 : IntKind.i64.wrap ((i : Int) - 1) = (i' : Int) := by rw [IntKind.wrap_i64]; omega
              have b2 : (0 : Int) ≤ (i' : Int) := by omega
              have b3 : (i' : Int) < (m : Int) := by omega
              have b4 : (0 : Int) ≤ (i : Int) := by omega
              have b5 : (i : Int) < (m : Int) := by omega
              have b6 : (i : Int) ≤ (cv : Int) := by omega
              have HBl := Lib.hid hbel
              have hia : i ≤ i' + 1 := by omega
              have hib : i' + 1 ≤ i := by omega
              clear hl2 hfa hx hy hnot hbel kx ky hi'
              go_wp2
              go_region_held3 (fun w' => w'.cell? ⟨w.heap.size, 0, none⟩ = some (.slice A N c) ∧ w'.cell? ⟨bw, ow + i', none⟩ = some (.int .i64 (x : Int)) ∧ w'.cell? ⟨bw, ow + i, none⟩ = some (.int .i64 (y : Int)))
                ((first | exact HKs.out _ HB5.out | exact HKs.out _ HBl.out.drew))
                (first
                  | (go_at_call 38; refine (HLx.out wr.drew HBl.out.drew).mono ?_; rintro e w5 ⟨rfl, q1⟩; have HB5 : Hid (Below w3.heap.size w3 w5) := HBl.out.drew.trans (q1.mono HBl.out.size); clear q1)
                  | (go_at_call 39; refine (HIx.out _ HB5.out).mono ?_; rintro e w6 ⟨rfl, rfl⟩)
                  | fail)
              all_goals (
                go_wp2
                go_roundw
                case rel => exact ⟨i + 1, by omega, by omega, by go_num, HB5.out⟩
                case measure => simp [intOf]; omega)
            · obtain rfl : i = m := by omega
              have HBl := Lib.hid hbel
              clear hbel hlt
              generalize wr = V0 at *
              have hB3 : Hid (Below w.heap.size w V0) := HB.out.trans (HBl.out.mono HB.out.size)
              have HOw := Lib.hid (HO.out.on HBl.out)
              have HAw : Hid (∀ j, j ≤ k' → V0.cell? ⟨bw, ow + j, none⟩ = some (.int .i64 ((qa Wy j : Nat) : Int))) := fun j hj => (HBl.out.cell (World.block_lt_of_cell? _ _ (HAt.out j hj))).trans (HAt.out j hj)
              by_cases hnm : no = i
              · subst hnm
                have hg0 : ∀ j, j < no → ∃ b o, Ao = some ⟨b, o, none⟩ ∧ V0.cell? ⟨b, o + j, none⟩ = some (.int .i64 (xo[j]?.getD 0)) := fun j hj => by
                  obtain ⟨b, o, q1, _, q2⟩ := HOw.out.at_ (zc_get xo j (by rw [HNo.out]; exact hj))
                  exact ⟨b, o, q1, q2⟩
                obtain ⟨bo, oo, rfl, ko0⟩ := hg0 0 (by omega)
                have HOc : Hid (∀ j, j < no → V0.cell? ⟨bo, oo + j, none⟩ = some (.int .i64 (xo[j]?.getD 0))) := fun j hj => by
                  obtain ⟨b, o, q1, q2⟩ := hg0 j hj
                  simp only [Option.some.injEq, Addr.mk.injEq, and_true] at q1
                  obtain ⟨rfl, rfl⟩ := q1
                  exact q2
                have kok := HOc.out k' (by omega)
                rw [Nat.add_zero] at ko0
                clear hg0
                have u5 : ((no : Int) != (no : Int)) = false := by simp
                by_cases hz0 : xo[0]?.getD 0 = (k : Int)
                · have u1 : (xo[0]?.getD 0 != (k : Int)) = false := by rw [hz0]; simp
                  have HZ0 := Lib.hid hz0
                  rw [hz0] at ko0 u1
                  clear hz0
                  by_cases hz1 : xo[k']?.getD 0 = (l : Int)
                  · have u2 : (xo[k']?.getD 0 != (l : Int)) = false := by rw [hz1]; simp
                    have HZ1 := Lib.hid hz1
                    rw [hz1] at kok u2
                    clear hz1
                    go_wp2
                    clear ko0 kok u1 u2
                    have HKg : Hid (∀ V, Below V0.heap.size V0 V → V.cell? ⟨w.heap.size, 0, none⟩ = some (.slice A N c) ∧ (∀ j, j < no → V.cell? ⟨bo, oo + j, none⟩ = some (.int .i64 (xo[j]?.getD 0))) ∧ RdG V V.heap.size A R ∧ (∀ j, j ≤ k' → V.cell? ⟨bw, ow + j, none⟩ = some (.int .i64 ((qa Wy j : Nat) : Int)))) := fun V hV =>
                      ⟨(hV.cell (World.block_lt_of_cell? _ _ ((HBl.out.cell (World.block_lt_of_cell? _ _ K0.out)).trans K0.out))).trans ((HBl.out.cell (World.block_lt_of_cell? _ _ K0.out)).trans K0.out), fun j hj => (hV.cell (World.block_lt_of_cell? _ _ (HOc.out j hj))).trans (HOc.out j hj), (HR.out.on HBl.out).on hV, fun j hj => (hV.cell (World.block_lt_of_cell? _ _ (HAw.out j hj))).trans (HAw.out j hj)⟩
                    go_loopw [14] (fun v wq => ∃ i : Nat, 1 ≤ i ∧ i ≤ no ∧ v = .int .i64 (i : Int) ∧ (∀ j, j < i → 0 ≤ xo[j]?.getD 0 ∧ xo[j]?.getD 0 < (N : Int)) ∧ (∀ j, j + 1 < i → (xo[j + 1]?.getD 0).toNat ∈ row g (xo[j]?.getD 0).toNat) ∧ Below V0.heap.size V0 wq) (fun v _ => no - (intOf v).toNat)
                    case atStart =>
                      have h00 : ∀ j, j < 1 → 0 ≤ xo[j]?.getD 0 ∧ xo[j]?.getD 0 < (N : Int) := fun j hj => by
                        have e : j = 0 := by omega
                        rw [e, HZ0.out]; omega
                      exact ⟨1, Nat.le_refl _, by omega, rfl, h00, fun j hj => by omega, Below.refl _ _⟩
                    case round =>
                     as_aux_lemma =>
                      obtain ⟨i, hi1, hi2, rfl, hin, hld, hbel⟩ := hrel
                      have HIn := Lib.hid (⟨hin, hld⟩ : _ ∧ _)
                      have HB2 := Lib.hid hbel
                      obtain ⟨kg, ko, -, -⟩ := HKg.out _ hbel
                      by_cases hlt : i < no
                      · obtain ⟨i', hi'⟩ : ∃ i', i = i' + 1 := ⟨i - 1, by omega⟩
                        have hp := hin i' (by omega)
                        obtain ⟨z, hz⟩ : ∃ z, xo[i]?.getD 0 = z := ⟨_, rfl⟩
                        obtain ⟨p, hpe⟩ := Int.eq_ofNat_of_zero_le hp.1
                        have kz := ko i hlt
                        have kp := ko i' (by omega)
                        rw [hz] at kz
                        rw [hpe] at kp hp
                        have hpN : p < N := by omega
                        have b1 : IntKind.i64.wrap ((i : Int) - 1) = (i' : Int) := by rw [IntKind.wrap_i64]; omega
                        have b2 : (0 : Int) ≤ (i' : Int) := by omega
                        have b3 : (i' : Int) < (no : Int) := by omega
                        have b4 : (0 : Int) ≤ (i : Int) := by omega
                        have b5 : (i : Int) < (no : Int) := by omega
                        have HZz := Lib.hid (⟨hz, hpe, hi'⟩ : _ ∧ _ ∧ _)
                        have hia : i ≤ i' + 1 := by omega
                        have hib : i' + 1 ≤ i := by omega
                        clear hin hld hbel hp hz hpe ko hi'
                        by_cases hz0 : z < 0
                        · have u1 : decide (z < 0) = true := decide_eq_true hz0
                          go_wp2
                          go_quiet (fail)
                          go_wp2
                          go_ret
                          exact ⟨rfl, below_drewN (hB3.out.trans (HB2.out.mono hB3.out.size)) _⟩
                        · have u1 : decide (z < 0) = false := decide_eq_false hz0
                          by_cases hzN : (N : Int) ≤ z
                          · have u2 : decide ((N : Int) ≤ z) = true := decide_eq_true hzN
                            go_wp2
                            go_quiet (fail)
                            go_wp2
                            go_ret
                            exact ⟨rfl, below_drewN (hB3.out.trans (HB2.out.mono hB3.out.size)) _⟩
                          · have u2 : decide ((N : Int) ≤ z) = false := decide_eq_false hzN
                            have HLx : Hid (∀ V, Below V0.heap.size V0 V → Calls Try.prog 38 #[.agg #[.slice A N c], .int .i64 (p : Int), .int .i64 z] V fun e w' => e = .returned (.bool (decide (z ∈ ns (row g p)))) ∧ Below V.heap.size V w') := fun V hV => HLd.out p z hpN A c V ((HKg.out V hV).2.2.1)
                            have HKs : Hid (∀ V, Below V0.heap.size V0 V → V.cell? ⟨w.heap.size, 0, none⟩ = some (.slice A N c) ∧ V.cell? ⟨bo, oo + i', none⟩ = some (.int .i64 (p : Int)) ∧ V.cell? ⟨bo, oo + i, none⟩ = some (.int .i64 z)) := fun V hV => by
                              obtain ⟨r1, r2, _, _⟩ := HKg.out V hV
                              have r3 := r2 i' (by omega)
                              have r4 := r2 i hlt
                              rw [HZz.out.1] at r4
                              rw [HZz.out.2.1] at r3
                              exact ⟨r1, r3, r4⟩
                            obtain ⟨q, hq⟩ : ∃ q, decide (z ∈ ns (row g p)) = q := ⟨_, rfl⟩
                            rw [hq] at HLx
                            have HQq := Lib.hid hq
                            clear hq kg kz kp
                            cases q with
                            | true =>
                              have HNx : Hid ((∀ j, j < i + 1 → 0 ≤ xo[j]?.getD 0 ∧ xo[j]?.getD 0 < (N : Int)) ∧ (∀ j, j + 1 < i + 1 → (xo[j + 1]?.getD 0).toNat ∈ row g (xo[j]?.getD 0).toNat)) := by
                                refine ⟨fun j hj => ?_, fun j hj => ?_⟩
                                · by_cases e : j = i
                                  · subst e; rw [HZz.out.1]; omega
                                  · exact HIn.out.1 j (by omega)
                                · by_cases e : j + 1 = i
                                  · obtain rfl : j = i' := by omega
                                    rw [e, HZz.out.1, HZz.out.2.1, Int.toNat_natCast]
                                    have hm := of_decide_eq_true HQq.out
                                    obtain ⟨zz, rfl⟩ := Int.eq_ofNat_of_zero_le (show 0 ≤ z by omega)
                                    exact (ns_memD _ _).1 hm
                                  · exact HIn.out.2 j (by omega)
                              go_wp2
                              go_region_held3 (fun w' => w'.cell? ⟨w.heap.size, 0, none⟩ = some (.slice A N c) ∧ w'.cell? ⟨bo, oo + i', none⟩ = some (.int .i64 (p : Int)) ∧ w'.cell? ⟨bo, oo + i, none⟩ = some (.int .i64 z))
                                ((first | exact HKs.out _ HB5.out | exact HKs.out _ HB2.out.drew))
                                (first
                                  | (go_at_call 38; refine (HLx.out wr.drew HB2.out.drew).mono ?_; rintro e w5 ⟨rfl, q1⟩; have HB5 := Lib.hid (HB2.out.drew.trans (q1.mono HB2.out.size)); clear q1)
                                  | fail)
                              all_goals (
                                go_wp2
                                go_roundw
                                case rel => exact ⟨i + 1, by omega, by omega, by go_num, HNx.out.1, HNx.out.2, HB5.out⟩
                                case measure => simp [intOf]; omega)
                            | false =>
                              go_wp2
                              go_region_held3 (fun w' => w'.cell? ⟨w.heap.size, 0, none⟩ = some (.slice A N c) ∧ w'.cell? ⟨bo, oo + i', none⟩ = some (.int .i64 (p : Int)) ∧ w'.cell? ⟨bo, oo + i, none⟩ = some (.int .i64 z))
                                ((first | exact HKs.out _ HB5.out | exact HKs.out _ HB2.out.drew))
                                (first
                                  | (go_at_call 38; refine (HLx.out wr.drew HB2.out.drew).mono ?_; rintro e w5 ⟨rfl, q1⟩; have HB5 := Lib.hid (HB2.out.drew.trans (q1.mono HB2.out.size)); clear q1)
                                  | fail)
                              all_goals (
                                go_wp2
                                go_ret
                                exact ⟨rfl, hB3.out.trans (HB5.out.mono hB3.out.size)⟩)
                      · obtain rfl : i = no := by omega
                        have HFs : Hid (∀ j, j ≤ k' → (∀ u, u < j → ((qa Wy u : Nat) : Int) = xo[u]?.getD 0) → ((qa Wy j : Nat) : Int) ≤ xo[j]?.getD 0) := fun j hj heq => by
                          have hqa : ∀ u, u < i → qa (xo.map Int.toNat) u = (xo[u]?.getD 0).toNat := fun u hu => by
                            unfold qa
                            rw [List.getElem?_map, List.getElem?_eq_getElem (by rw [HNo.out]; exact hu)]; rfl
                          have h1 := HTf.out (xo.map Int.toNat) (by rw [List.length_map, HNo.out]; omega) (by rw [hqa 0 (by omega), HZ0.out]; rfl) (by rw [hqa k' (by omega), HZ1.out]; rfl) (fun u hu => by rw [hqa _ (by omega), hqa _ (by omega)]; exact HIn.out.2 u (by omega)) j hj (fun u hu => by
                            rw [hqa u (by omega), ← heq u hu]; rfl)
                          rw [hqa j (by omega)] at h1
                          have h2 := (HIn.out.1 j (by omega)).1
                          omega
                        clear hin hld hbel hlt kg ko
                        go_wp2
                        go_loopw [15] (fun v wq => ∃ j : Nat, j ≤ i ∧ v = .int .i64 (j : Int) ∧ (∀ u, u < j → ((qa Wy u : Nat) : Int) = xo[u]?.getD 0) ∧ Below wr.heap.size wr wq) (fun v _ => i - (intOf v).toNat)
                        case atStart => exact ⟨0, Nat.zero_le _, rfl, fun u hu => absurd hu (Nat.not_lt_zero _), Below.refl _ _⟩
                        case round =>
                         as_aux_lemma =>
                          obtain ⟨j, hj, rfl, heq, hbel⟩ := hrel
                          have HB4 : Hid (Below w.heap.size w wr) := hB3.out.trans ((HB2.out.trans (hbel.mono HB2.out.size)).mono hB3.out.size)
                          by_cases hji : j < i
                          · obtain ⟨-, ko, -, kw⟩ := HKg.out _ (HB2.out.trans (hbel.mono HB2.out.size))
                            have k1 := ko j hji
                            have k2 := kw j (by omega)
                            have hle := HFs.out j (by omega) heq
                            have HEq := Lib.hid heq
                            have HBb := Lib.hid hbel
                            obtain ⟨a, ha⟩ : ∃ a, qa Wy j = a := ⟨_, rfl⟩
                            obtain ⟨z, hz⟩ : ∃ z, xo[j]?.getD 0 = z := ⟨_, rfl⟩
                            have HAz := Lib.hid (⟨ha, hz⟩ : _ ∧ _)
                            rw [ha] at k2 hle
                            rw [hz] at k1 hle
                            have b4 : (0 : Int) ≤ (j : Int) := by omega
                            have b5 : (j : Int) < (i : Int) := by omega
                            clear heq hbel ha hz ko kw
                            by_cases hne : (a : Int) = z
                            · have u1 : ((a : Int) != z) = false := by rw [hne]; simp
                              have HNe : Hid (∀ u, u < j + 1 → ((qa Wy u : Nat) : Int) = xo[u]?.getD 0) := fun u hu => by
                                by_cases e : u = j
                                · subst e; rw [HAz.out.1, HAz.out.2]; exact hne
                                · exact HEq.out u (by omega)
                              clear hne
                              go_wp2
                              go_quiet (fail)
                              go_wp2
                              go_roundw
                              case rel => exact ⟨j + 1, by omega, by go_num, HNe.out, below_drewN HBb.out _⟩
                              case measure => simp [intOf]; omega
                            · have u1 : ((a : Int) != z) = true := by simpa using hne
                              have u2 : decide ((a : Int) < z) = true := by simp; omega
                              clear hne
                              go_wp2
                              go_quiet (fail)
                              go_wp2
                              go_quiet (fail)
                              go_wp2
                              go_ret
                              exact ⟨rfl, below_drewN (below_drewN HB4.out _) _⟩
                          · obtain rfl : j = i := by omega
                            clear heq hbel
                            go_wp2
                            go_ret
                            exact ⟨rfl, HB4.out⟩
                  · have u2 : (xo[k']?.getD 0 != (l : Int)) = true := by simpa using hz1
                    generalize xo[k']?.getD 0 = z1 at *
                    clear hz1
                    go_wp2
                    go_ret
                    exact ⟨rfl, hB3.out⟩
                · have u1 : (xo[0]?.getD 0 != (k : Int)) = true := by simpa using hz0
                  generalize xo[0]?.getD 0 = z1 at *
                  clear hz0
                  go_wp2
                  go_ret
                  exact ⟨rfl, hB3.out⟩
              · have u5 : ((no : Int) != (i : Int)) = true := by simp; omega
                go_wp2
                go_ret
                exact ⟨rfl, hB3.out⟩
      · obtain ⟨e1, t1, hc1⟩ := HWe.out (fun q => ht q.2) A c _ HR.out
        have HC1 := Lib.hid hc1; clear hc1
        have HC := Lib.hid (HC1.out)
        have k_K0 := K0.out
        go_wp2_with fail
        clear k_K0
        refine HC.out.mono ?_
        rintro e w2 ⟨rfl, bq⟩
        clear HC
        have HBc := Lib.hid bq; clear bq
        have HBq : Hid (Below w1.heap.size w1 w2) := HBc.out
        replace HB : Hid (Below w.heap.size w w2) := HB.out.trans (HBq.out.mono HB.out.size)
        replace HR : Hid (RdG w2 (w2).heap.size A R) := HR.out.on HBq.out
        replace HO : Hid (RdV w2 (w2).heap.size Ao (zc xo)) := HO.out.on HBq.out
        replace K0 : Hid ((w2).cell? ⟨w.heap.size, 0, none⟩ = some (.slice A N c)) := (HBq.out.cell (World.block_lt_of_cell? _ _ K0.out)).trans K0.out
        replace Q9 : Hid (RdV w2 (w2).heap.size (some ⟨b9, 0, none⟩) (zc F)) := Q9.out.on HBq.out
        clear HBq
        clear HBc
        have HC := Lib.hid (walkbegun_true w2)
        go_wp2_with fail
        refine HC.out.mono ?_
        rintro e w3 ⟨rfl, bq⟩
        clear HC
        have HBc := Lib.hid bq; clear bq
        have HBq : Hid (Below w2.heap.size w2 w3) := HBc.out
        replace HB : Hid (Below w.heap.size w w3) := HB.out.trans (HBq.out.mono HB.out.size)
        replace HR : Hid (RdG w3 (w3).heap.size A R) := HR.out.on HBq.out
        replace HO : Hid (RdV w3 (w3).heap.size Ao (zc xo)) := HO.out.on HBq.out
        replace K0 : Hid ((w3).cell? ⟨w.heap.size, 0, none⟩ = some (.slice A N c)) := (HBq.out.cell (World.block_lt_of_cell? _ _ K0.out)).trans K0.out
        replace Q9 : Hid (RdV w3 (w3).heap.size (some ⟨b9, 0, none⟩) (zc F)) := Q9.out.on HBq.out
        clear HBq
        clear HBc
        have u1 : (e1 != 0) = true := by simpa using t1
        by_cases hz : t < 0
        · have t2 : decide (t < 0) = true := decide_eq_true hz
          go_wp2
          go_ret
          exact ⟨rfl, HB.out⟩
        · have t2 : decide (t < 0) = false := decide_eq_false hz
          have t3 : decide ((N : Int) ≤ t) = true := by simp; omega
          go_wp2
          go_ret
          exact ⟨rfl, HB.out⟩
    · have HC := Lib.hid (HFt.out s hs A c _ HR.out)
      have k_K0 := K0.out
      go_wp2_with fail
      clear k_K0
      refine HC.out.mono ?_
      rintro e w1 ⟨A9, n9, c9, e9, rfl, t9, bq⟩
      clear HC
      have HBc := Lib.hid bq; clear bq
      have HBq : Hid (Below (w.alloc (.cells #[.slice A N c] 24)).heap.size (w.alloc (.cells #[.slice A N c] 24)) w1) := HBc.out
      replace HB : Hid (Below w.heap.size w w1) := HB.out.trans (HBq.out.mono HB.out.size)
      replace HR : Hid (RdG w1 (w1).heap.size A R) := HR.out.on HBq.out
      replace HO : Hid (RdV w1 (w1).heap.size Ao (zc xo)) := HO.out.on HBq.out
      replace K0 : Hid ((w1).cell? ⟨w.heap.size, 0, none⟩ = some (.slice A N c)) := (HBq.out.cell (World.block_lt_of_cell? _ _ K0.out)).trans K0.out
      clear HBq
      clear HBc
      obtain ⟨e1, t1, hc1⟩ := HWe.out (fun q => hs q.1) A c _ HR.out
      have HC1 := Lib.hid hc1; clear hc1
      have HC := Lib.hid (HC1.out)
      have k_K0 := K0.out
      go_wp2_with fail
      clear k_K0
      refine HC.out.mono ?_
      rintro e w2 ⟨rfl, bq⟩
      clear HC
      have HBc := Lib.hid bq; clear bq
      have HBq : Hid (Below w1.heap.size w1 w2) := HBc.out
      replace HB : Hid (Below w.heap.size w w2) := HB.out.trans (HBq.out.mono HB.out.size)
      replace HR : Hid (RdG w2 (w2).heap.size A R) := HR.out.on HBq.out
      replace HO : Hid (RdV w2 (w2).heap.size Ao (zc xo)) := HO.out.on HBq.out
      replace K0 : Hid ((w2).cell? ⟨w.heap.size, 0, none⟩ = some (.slice A N c)) := (HBq.out.cell (World.block_lt_of_cell? _ _ K0.out)).trans K0.out
      clear HBq
      clear HBc
      have HC := Lib.hid (walkbegun_true w2)
      go_wp2_with fail
      refine HC.out.mono ?_
      rintro e w3 ⟨rfl, bq⟩
      clear HC
      have HBc := Lib.hid bq; clear bq
      have HBq : Hid (Below w2.heap.size w2 w3) := HBc.out
      replace HB : Hid (Below w.heap.size w w3) := HB.out.trans (HBq.out.mono HB.out.size)
      replace HR : Hid (RdG w3 (w3).heap.size A R) := HR.out.on HBq.out
      replace HO : Hid (RdV w3 (w3).heap.size Ao (zc xo)) := HO.out.on HBq.out
      replace K0 : Hid ((w3).cell? ⟨w.heap.size, 0, none⟩ = some (.slice A N c)) := (HBq.out.cell (World.block_lt_of_cell? _ _ K0.out)).trans K0.out
      clear HBq
      clear HBc
      have u1 : (e1 != 0) = true := by simpa using t1
      have u9 : (e9 != 0) = true := by simpa using t9
      go_wp2
      go_ret
      exact ⟨rfl, HB.out⟩
  · have HFe : Hid (∀ A c V, RdG V V.heap.size A R → Calls Try.prog 30 #[.agg #[.slice A N c], .int .i64 s] V fun e w' => e = .returned (.tuple #[.slice none 0 0, .int .i64 (grE (gs R))]) ∧ Below V.heap.size V w') := fun A c V h => far_e R N hN hn s _ (cnE_bad e0) e0 A c V h
    have HWe : Hid (∀ A c V, RdG V V.heap.size A R → Calls Try.prog 31 #[.agg #[.slice A N c], .int .i64 s, .int .i64 t] V fun e w' => e = .returned (.tuple #[.slice none 0 0, .int .i64 (grE (gs R))]) ∧ Below V.heap.size V w') := fun A c V h => way_e R N hN hn s t _ (cnE_bad e0) e0 A c V h
    have t1 : (grE (gs R) == 0) = false := by simpa using e0
    clear e0 hN hn
    generalize grE (gs R) = e1 at *
    have HB : Hid (Below w.heap.size w w) := Below.refl _ w
    have HR := Lib.hid hA; clear hA
    have HO := Lib.hid hO; clear hO
    go_enter Try.func5, Try.ntmps5
    have HBq : Hid (Below w.heap.size w (w.alloc (.cells #[.slice A N c] 24))) := one_below _ _
    replace HB : Hid (Below w.heap.size w (w.alloc (.cells #[.slice A N c] 24))) := HB.out.trans (HBq.out.mono HB.out.size)
    replace HR : Hid (RdG (w.alloc (.cells #[.slice A N c] 24)) ((w.alloc (.cells #[.slice A N c] 24))).heap.size A R) := HR.out.on HBq.out
    replace HO : Hid (RdV (w.alloc (.cells #[.slice A N c] 24)) ((w.alloc (.cells #[.slice A N c] 24))).heap.size Ao (zc xo)) := HO.out.on HBq.out
    clear HBq
    have K0 : Hid (((w.alloc (.cells #[.slice A N c] 24))).cell? ⟨w.heap.size, 0, none⟩ = some (.slice A N c)) := (cell_at (World.alloc_heap_new w _) 0).trans rfl
    have HC := Lib.hid (HFe.out A c _ HR.out)
    have k_K0 := K0.out
    go_wp2_with fail
    clear k_K0
    refine HC.out.mono ?_
    rintro e w1 ⟨rfl, bq⟩
    clear HC
    have HBc := Lib.hid bq; clear bq
    have HBq : Hid (Below (w.alloc (.cells #[.slice A N c] 24)).heap.size (w.alloc (.cells #[.slice A N c] 24)) w1) := HBc.out
    replace HB : Hid (Below w.heap.size w w1) := HB.out.trans (HBq.out.mono HB.out.size)
    replace HR : Hid (RdG w1 (w1).heap.size A R) := HR.out.on HBq.out
    replace HO : Hid (RdV w1 (w1).heap.size Ao (zc xo)) := HO.out.on HBq.out
    replace K0 : Hid ((w1).cell? ⟨w.heap.size, 0, none⟩ = some (.slice A N c)) := (HBq.out.cell (World.block_lt_of_cell? _ _ K0.out)).trans K0.out
    clear HBq
    clear HBc
    have HC := Lib.hid (HWe.out A c _ HR.out)
    have k_K0 := K0.out
    go_wp2_with fail
    clear k_K0
    refine HC.out.mono ?_
    rintro e w2 ⟨rfl, bq⟩
    clear HC
    have HBc := Lib.hid bq; clear bq
    have HBq : Hid (Below w1.heap.size w1 w2) := HBc.out
    replace HB : Hid (Below w.heap.size w w2) := HB.out.trans (HBq.out.mono HB.out.size)
    replace HR : Hid (RdG w2 (w2).heap.size A R) := HR.out.on HBq.out
    replace HO : Hid (RdV w2 (w2).heap.size Ao (zc xo)) := HO.out.on HBq.out
    replace K0 : Hid ((w2).cell? ⟨w.heap.size, 0, none⟩ = some (.slice A N c)) := (HBq.out.cell (World.block_lt_of_cell? _ _ K0.out)).trans K0.out
    clear HBq
    clear HBc
    have HC := Lib.hid (walkbegun_true w2)
    go_wp2_with fail
    refine HC.out.mono ?_
    rintro e w3 ⟨rfl, bq⟩
    clear HC
    have HBc := Lib.hid bq; clear bq
    have HBq : Hid (Below w2.heap.size w2 w3) := HBc.out
    replace HB : Hid (Below w.heap.size w w3) := HB.out.trans (HBq.out.mono HB.out.size)
    replace HR : Hid (RdG w3 (w3).heap.size A R) := HR.out.on HBq.out
    replace HO : Hid (RdV w3 (w3).heap.size Ao (zc xo)) := HO.out.on HBq.out
    replace K0 : Hid ((w3).cell? ⟨w.heap.size, 0, none⟩ = some (.slice A N c)) := (HBq.out.cell (World.block_lt_of_cell? _ _ K0.out)).trans K0.out
    clear HBq
    clear HBc
    have u1 : (e1 != 0) = true := by simpa using t1
    go_wp2
    go_ret
    exact ⟨rfl, HB.out⟩
end

section
open Go.ChangeShapes Go.WideShapes Go.ChangeAt Go.RowKit
open Go.ChangeMaps (open_string shut_string)

set_option linter.unusedVariables false
set_option maxRecDepth 100000 in
theorem walkWay_lifted (os : Os) (started : os.Started) (H : Type) (enc : TypeId × Value → H) :
    ReturnsInHanded {} Try.checked os 5 .any (Rows.walkWaySpec.pre6 enc Try.prog Try.f5 Rows.walkWayRow.domain false) (Rows.walkWaySpec.post enc Try.prog Try.f5 false true false false) := by
  refine returnsInHanded_of_change_sized (C := Try.checked) own started (by kernel_rfl) Try.func5
    (ChangeSpec.witness6 (enc := enc) (C := Try.checked) false ⟨#[], #[.agg #[.slice none 0 0], .int .i64 0, .int .i64 0, .slice none 0 0], []⟩ 8 (by kernel_rfl) (by kernel_rfl) (by kernel_rfl) (by kernel_rfl)) ?_
  intro W base args ds gs before hval0 hW hcnd hzz _
  have hval : ∀ (j : Nat) t v, Try.f5.params[j]? = some t → args[j]? = some v → Value.okWide Try.prog W .any base t v := hval0
  have hW' := hW
  obtain ⟨p, q, hA0, hV, rfl, hfz, hnd⟩ := hW
  have hA : DataW.TrodAll enc Try.prog W 0 (fun _ => true) true Try.f5.params.toList args.toList ds p := hA0
  rw [Try.params5] at hA hval hzz
  obtain ⟨v0, vs0, d0, ds0, p0, q0, hargs, rfl, rfl, h0, r0⟩ := trodAll_cons hA
  obtain ⟨v1, vs1, d1, ds1, p1, q1, rfl, rfl, rfl, h1, r1⟩ := trodAll_cons r0
  obtain ⟨v2, vs2, d2, ds2, p2, q2, rfl, rfl, rfl, h2, r2⟩ := trodAll_cons r1
  obtain ⟨v3, vs3, d3, ds3, p3, q3, rfl, rfl, rfl, h3, r3⟩ := trodAll_cons r2
  obtain ⟨rfl, rfl, rfl⟩ := trodAll_nil r3
  obtain rfl : args = #[v0, v1, v2, v3] := by cases args; simp_all
  obtain ⟨rfl, rfl⟩ := trodVars_none hV
  have k0 := h0
  have lt0 : ∀ x ∈ p0, x.block < W.heap.size := by obtain ⟨m, hm⟩ := k0; exact DataW.trod_lt m _ _ _ hm
  obtain ⟨A0, c0, R0, rfl, rd0, nn0⟩ := open_graph (hval 0 24 v0 rfl rfl) h0 (fun n hn => of_decide_eq_true (List.all_eq_true.1 hzz n (DataW.weights_mem_each (j := 0) (t := 24) (d := d0) rfl rfl n hn)))
  obtain ⟨x1, rfl, rfl, rfl, wx1⟩ := open_int Try.underlying3 (hval 1 3 v1 rfl rfl) h1
  have bd1 := bounds_i64 wx1
  obtain ⟨x2, rfl, rfl, rfl, wx2⟩ := open_int Try.underlying3 (hval 2 3 v2 rfl rfl) h2
  have bd2 := bounds_i64 wx2
  have k3 := h3
  have lt3 : ∀ x ∈ p3, x.block < W.heap.size := by obtain ⟨m, hm⟩ := k3; exact DataW.trod_lt m _ _ _ hm
  obtain ⟨A3, c3, xs3, rfl, cp3, nl3, rd3, by3, sz3⟩ := open_zs (hval 3 32 v3 rfl rfl) h3
  clear hA0 hval0
  refine (walkWay_law A0 c0 R0 x1 x2 A3 c3 xs3 W rd0 nn0 bd1 bd2 cp3 nl3 by3 rd3 sz3).mono fun e W' ⟨he, bel⟩ => ?_
  subst he
  exact ⟨_, rfl, _, _, _, [], _, [], hW', trodAll_mk1 (shut_bool Try.underlying4 _), (trodAll_cons_mk (Below.trod laidOut (by kernel_rfl) (of_decide_eq_true (by kernel_rfl)) k0 bel lt0) (trodAll_cons_mk (shut_int Try.underlying3 wx1) (trodAll_cons_mk (shut_int Try.underlying3 wx2) (trodAll_cons_mk (Below.trod laidOut (by kernel_rfl) (of_decide_eq_true (by kernel_rfl)) k3 bel lt3) trodAll_mk0)))), rfl, bel.frame _, fun h => by cases h⟩

theorem WalkWay_holds : Rows.WalkWaySaid :=
  OpenClaim.holds_of_wide 5 Try.f5 rfl rfl rfl rfl rfl rfl rfl ⟨rfl, rfl, rfl, rfl, rfl⟩ rfl rfl rfl rfl rfl (by kernel_rfl) Try.func5 (by kernel_rfl)
    (of_decide_eq_true (by kernel_rfl)) (by unfold Func.isWrapper; first | (rw [if_pos (by decide +kernel)]; kernel_rfl) | (rw [if_neg (by decide +kernel)]; exact ⟨rfl, rfl⟩))
    (fun os started H enc _ => walkWay_lifted os started H enc)
#print axioms WalkWay_holds
end
end Go.Proofs.Ytffgmjfanpgbbaa
