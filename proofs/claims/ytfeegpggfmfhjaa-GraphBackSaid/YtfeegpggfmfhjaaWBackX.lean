/- The law GraphBack: the arcs of a graph, in whatever order, make it again; for whatever graph and number. -/
import Derived.Test.YtfeegpggfmfhjaaWEnd
import Derived.Test.YtfeegpggfmfhjaaWOp
namespace Go.Proofs.Ytfeegpggfmfhjaa

section
set_option maxRecDepth 100000
set_option linter.unusedVariables false
open Go.RowKit Go.Shelf

/-- A list, the last first, from a place on and round. -/
def turnd (L : List Ar) (s : Nat) : List Ar := L.reverse.drop (s % L.length) ++ L.reverse.take (s % L.length)
theorem turnd_perm (L : List Ar) (s : Nat) : (turnd L s).Perm L := by
  unfold turnd
  refine List.perm_append_comm.trans ?_
  rw [List.take_append_drop]
  exact List.reverse_perm L
theorem turnd_length (L : List Ar) (s : Nat) : (turnd L s).length = L.length := (turnd_perm L s).length_eq
theorem turnd_at (L : List Ar) (s i : Nat) (hi : i < L.length) : (turnd L s)[i]? = L[L.length - 1 - (i + s) % L.length]? := by
  have h0 : 0 < L.length := by omega
  have hs := Nat.mod_lt s h0
  have e : (i + s) % L.length = if i + s % L.length < L.length then i + s % L.length else i + s % L.length - L.length := by
    rw [← Nat.add_mod_mod]
    split
    · rename_i h; exact Nat.mod_eq_of_lt h
    · rename_i h
      rw [Nat.mod_eq_sub_mod (by omega), Nat.mod_eq_of_lt (by omega)]
  rw [e]
  unfold turnd
  generalize s % L.length = t at *
  rw [List.getElem?_append]
  simp only [List.length_drop, List.length_reverse]
  by_cases h : i < L.length - t
  · rw [if_pos h, if_pos (by omega), List.getElem?_drop, List.getElem?_reverse (by omega)]
    congr 1; omega
  · rw [if_neg h, if_neg (by omega), List.getElem?_take_of_lt (by omega), List.getElem?_reverse (by omega)]
    congr 1; omega
theorem turnd_take (L : List Ar) (s i : Nat) (hi : i < L.length) : (turnd L s).take (i + 1) = (turnd L s).take i ++ [L[L.length - 1 - (i + s) % L.length]?.getD (0, 0)] := by
  rw [List.take_succ_eq_append_getElem (by rw [turnd_length]; exact hi)]
  have := turnd_at L s i hi
  rw [List.getElem?_eq_getElem (by rw [turnd_length]; exact hi)] at this
  rw [← this]; rfl
set_option maxHeartbeats 8000000 in
theorem graphBack_law (A : Option Addr) (c : Nat) (R : List Rw) (k : Int) (w : World) (hA : RdG w w.heap.size A R) (hn : R.length ≤ 140737488355328) (hk : -9223372036854775808 ≤ k ∧ k ≤ 9223372036854775807) :
    Calls Try.prog 4 #[.agg #[.slice A R.length c], .int .i64 k] w fun e w' => e = .returned (.bool true) ∧ Below w.heap.size w w' := by
  obtain ⟨N, hN⟩ : ∃ N, R.length = N := ⟨_, rfl⟩
  rw [hN] at hn ⊢
  by_cases e0 : grE (gs R) = 0
  · obtain ⟨i0, hi, hz0, hz1, hz2⟩ := info_parts info_arc
    obtain ⟨g, hg, hok⟩ := grE_zero _ e0
    have hgl : g.length = N := by have := congrArg List.length hg; rw [gs_length, List.length_map] at this; omega
    have hN1 : N ≤ 100 := by have := hok.nodes; omega
    have h600 := hok.many
    have hnd := arcs_nodup g 0 hok.ris
    have hbd := arcs_bd hok
    have hself := wa_self hok
    have HT : Hid (∀ A c V, RdG V V.heap.size A R → Calls Try.prog 9 #[.agg #[.slice A N c]] V (ArcsP V (arcs 0 g) 0)) := fun A c V h => garcs_ok R g hg hok N hN e0 A c V h
    obtain ⟨L, hL⟩ : ∃ L, arcs 0 g = L := ⟨_, rfl⟩
    rw [hL] at h600 hnd hbd hself HT
    obtain ⟨n, hln⟩ : ∃ n, L.length = n := ⟨_, rfl⟩
    unfold ArcsP at HT
    rw [hln] at HT h600
    have HO : Hid (∀ s A c V, RdV V V.heap.size A (acs (turnd L s)) → Calls Try.prog 10 #[.int .i64 (N : Int), .slice A n c] V fun e w' => ∃ A R c, e = .returned (.tuple #[.agg #[.slice A N c], .int .i64 0]) ∧ gs R = g.map ns ∧ RdG w' w'.heap.size A R ∧ Below V.heap.size V w') := fun s A c V h => by
      have hp := turnd_perm L s
      have hw : wa N (turnd L s) = g := by rw [wa_perm hp ((hp.nodup_iff).2 hnd), ← hgl]; exact hself
      have := gof_ok N hN1 (turnd L s) ((hp.nodup_iff).2 hnd) (fun a ha => by have := hbd a (hp.mem_iff.1 ha); rw [hgl] at this; exact this) n (by rw [turnd_length]; exact hln) h600 A c V h
      unfold GrP at this; rw [hw, hgl] at this; exact this
    have HS : Hid (∀ R2 A2 c2 V, gs R2 = g.map ns → RdG V V.heap.size A2 R2 → RdG V V.heap.size A R → Calls Try.prog 22 #[.agg #[.slice A2 N c2], .agg #[.slice A N c]] V fun e w' => e = .returned (.bool true) ∧ Below V.heap.size V w') := fun R2 A2 c2 V h h1 h2 => sg_true g R2 R h hg N N hgl hgl hN1 A2 A c2 c V h1 h2
    have HLn := Lib.hid hln
    clear e0 hg hok hgl hN hn hnd hbd hself hL hln
    have HB : Hid (Below w.heap.size w w) := Below.refl _ w
    have HR := Lib.hid hA; clear hA
    go_enter Try.func4, Try.ntmps4
    have HBq : Hid (Below w.heap.size w (w.alloc (.cells #[.slice A N c] 24))) := one_below _ _
    replace HB : Hid (Below w.heap.size w (w.alloc (.cells #[.slice A N c] 24))) := HB.out.trans (HBq.out.mono HB.out.size)
    replace HR : Hid (RdG (w.alloc (.cells #[.slice A N c] 24)) ((w.alloc (.cells #[.slice A N c] 24))).heap.size A R) := HR.out.on HBq.out
    clear HBq
    have K0 : Hid (((w.alloc (.cells #[.slice A N c] 24))).cell? ⟨w.heap.size, 0, none⟩ = some (.slice A N c)) := (cell_at (World.alloc_heap_new w _) 0).trans rfl
    have HC := Lib.hid (HT.out A c _ HR.out)
    go_wp2_with fail
    refine HC.out.mono ?_
    rintro e w1 ⟨A1, c1, rfl, -, h1, bq⟩
    clear HC
    have HBc := Lib.hid bq; clear bq
    have HBq : Hid (Below (w.alloc (.cells #[.slice A N c] 24)).heap.size (w.alloc (.cells #[.slice A N c] 24)) w1) := HBc.out
    replace HB : Hid (Below w.heap.size w w1) := HB.out.trans (HBq.out.mono HB.out.size)
    replace HR : Hid (RdG w1 (w1).heap.size A R) := HR.out.on HBq.out
    replace K0 : Hid ((w1).cell? ⟨w.heap.size, 0, none⟩ = some (.slice A N c)) := (HBq.out.cell (World.block_lt_of_cell? _ _ K0.out)).trans K0.out
    clear HBq
    clear HBc
    have H1 : Hid (RdV w1 (w1).heap.size A1 (acs L)) := h1
    clear h1
    have HC := Lib.hid (graphbegun_true w1)
    go_wp2_with fail
    refine HC.out.mono ?_
    rintro e w2 ⟨rfl, bq⟩
    clear HC
    have HBc := Lib.hid bq; clear bq
    have HBq : Hid (Below w1.heap.size w1 w2) := HBc.out
    replace HB : Hid (Below w.heap.size w w2) := HB.out.trans (HBq.out.mono HB.out.size)
    replace HR : Hid (RdG w2 (w2).heap.size A R) := HR.out.on HBq.out
    replace K0 : Hid ((w2).cell? ⟨w.heap.size, 0, none⟩ = some (.slice A N c)) := (HBq.out.cell (World.block_lt_of_cell? _ _ K0.out)).trans K0.out
    replace H1 : Hid (RdV w2 (w2).heap.size A1 (acs L)) := H1.out.on HBq.out
    clear HBq
    clear HBc
    obtain ⟨s, hs⟩ : ∃ s : Nat, ((k.tmod 1000 + 1000).tmod 1000 : Int) = (s : Int) := ⟨((k.tmod 1000 + 1000).tmod 1000).toNat, by
      have h1 := Int.tmod_lt_of_pos k (show (0 : Int) < 1000 by omega)
      have h2 : -1000 < k.tmod 1000 := Int.lt_tmod_of_pos k (by omega)
      have h3 : 0 ≤ (k.tmod 1000 + 1000).tmod 1000 := Int.tmod_nonneg _ (by omega)
      omega⟩
    have hs2 : s < 1000 := by have := Int.tmod_lt_of_pos (k.tmod 1000 + 1000) (show (0 : Int) < 1000 by omega); omega
    have a1 : IntKind.i64.wrap (k.tmod 1000 + 1000) = k.tmod 1000 + 1000 := IntWalk.i64_in _ (by have h1 := Int.tmod_lt_of_pos k (show (0 : Int) < 1000 by omega); have h2 : -1000 < k.tmod 1000 := Int.lt_tmod_of_pos k (by omega); omega)
    go_wp2
    go_loopw [7, 8] (fun v p wr => ∃ i : Nat, i ≤ n ∧ p = .int .i64 (i : Int) ∧ wr.ownsRow w2.heap.size 44 2 v i (acs ((turnd L s).take i)) ∧ Below w2.heap.size w2 wr) (fun _ p _ => n - (intOf p).toNat)
    case atStart => exact ⟨0, Nat.zero_le _, rfl, ⟨rfl, .inl ⟨rfl, rfl⟩⟩, Below.refl _ _⟩
    case round =>
      obtain ⟨i, hi2, rfl, hrow, hbel⟩ := hrel
      obtain ⟨Av, cv, rfl⟩ := own_sliceT hrow
      by_cases hlt : i < n
      · obtain ⟨j, hj⟩ : ∃ j, (i + s) % n = j := ⟨_, rfl⟩
        have hjn : j < n := hj ▸ Nat.mod_lt _ (by omega)
        have hjl : n - 1 - j < L.length := by rw [HLn.out]; omega
        obtain ⟨q0, q1⟩ := acs_at L (n - 1 - j) hjl
        obtain ⟨b, off, rfl, hb, k0⟩ := (H1.out.on hbel).at_ q0
        obtain ⟨b2, off2, hA2, hb2, k1⟩ := (H1.out.on hbel).at_ q1
        simp only [Option.some.injEq, Addr.mk.injEq, and_true] at hA2
        obtain ⟨rfl, rfl⟩ := hA2
        rw [← Nat.add_assoc] at k1
        have htk := turnd_take L s i (by rw [HLn.out]; exact hlt)
        rw [HLn.out, hj] at htk
        have HTk := Lib.hid htk; clear htk
        generalize L[n - 1 - j]?.getD (0, 0) = a at *
        have b1 : IntKind.i64.wrap ((i : Int) + (s : Int)) = (i : Int) + (s : Int) := IntWalk.i64_in _ (by omega)
        have b3 : ((i : Int) + (s : Int)).tmod (n : Int) = (j : Int) := by rw [← hj, Int.tmod_eq_emod_of_nonneg (by omega), Int.natCast_emod, Int.natCast_add]
        have b4 : IntKind.i64.wrap ((n : Int) - 1) = (n : Int) - 1 := IntWalk.i64_in _ (by omega)
        have b5 : IntKind.i64.wrap ((n : Int) - 1 - (j : Int)) = ((n - 1 - j : Nat) : Int) := by rw [IntWalk.i64_in _ (by omega)]; omega
        have d1 : ((n : Int) == 0) = false := by simp; omega
        have d2 : (0 : Int) ≤ ((n - 1 - j : Nat) : Int) := by omega
        have d3 : ((n - 1 - j : Nat) : Int) < (n : Int) := by omega
        have HBl := Lib.hid hbel
        generalize hu : n - 1 - j = u at *
        go_wp2_with (at_builtin; refine wpList_append_own _ rfl _ _ 25 rfl w2.heap.size 44 i0 (.agg #[.int .i64 0, .int .i64 0]) 2 16 Try.underlying25 hi hz0 hz1 hz2 rfl (by decide) _ _ _ rfl (hrow.alloc _) ⟨wr.heap.size, 0, none⟩ 1 1 [.int .i64 (a.1 : Int), .int .i64 (a.2 : Int)] rfl rfl (news_row wr [.int .i64 (a.1 : Int), .int .i64 (a.2 : Int)] _) (by simp [Value.oneCell']) (by unfold maxLen; omega) (by omega) (by have := HBl.out.size; simp; omega) ?_; intro v' w3 hown' hgrow _)
        refine ⟨⟨i + 1, by omega, by go_num, ?_, ?_⟩, by simp [intOf]; omega⟩
        · rw [HTk.out, acs_snoc]; exact hown'
        · exact HBl.out.trans (((Below.refl w2.heap.size wr).alloc HBl.out.size _).trans (grown_low hgrow (hrow.alloc _) (by have := HBl.out.size; simp; omega)))
      · obtain rfl : i = n := by omega
        have hrd : RdV wr wr.heap.size Av (acs (turnd L s)) := by
          have := own_rdvA hrow
          rwa [List.take_of_length_le (by rw [turnd_length, HLn.out]; omega)] at this
        have HBl := Lib.hid hbel
        have HBq : Hid (Below w2.heap.size w2 wr) := HBl.out
        replace HB : Hid (Below w.heap.size w wr) := HB.out.trans (HBq.out.mono HB.out.size)
        replace HR : Hid (RdG wr (wr).heap.size A R) := HR.out.on HBq.out
        replace K0 : Hid ((wr).cell? ⟨w.heap.size, 0, none⟩ = some (.slice A N c)) := (HBq.out.cell (World.block_lt_of_cell? _ _ K0.out)).trans K0.out
        replace H1 : Hid (RdV wr (wr).heap.size A1 (acs L)) := H1.out.on HBq.out
        clear HBq
        have H2 : Hid (RdV wr (wr).heap.size Av (acs (turnd L s))) := hrd
        clear hrd hrow hbel HBl
        have HC := Lib.hid (HO.out s Av cv _ H2.out)
        have k_K0 := K0.out
        go_wp2_with fail
        clear k_K0
        refine HC.out.mono ?_
        rintro e w4 ⟨A3, R3, c3, rfl, g3, h3, bq⟩
        clear HC
        have HBc := Lib.hid bq; clear bq
        have HBq : Hid (Below wr.heap.size wr w4) := HBc.out
        replace HB : Hid (Below w.heap.size w w4) := HB.out.trans (HBq.out.mono HB.out.size)
        replace HR : Hid (RdG w4 (w4).heap.size A R) := HR.out.on HBq.out
        replace K0 : Hid ((w4).cell? ⟨w.heap.size, 0, none⟩ = some (.slice A N c)) := (HBq.out.cell (World.block_lt_of_cell? _ _ K0.out)).trans K0.out
        replace H1 : Hid (RdV w4 (w4).heap.size A1 (acs L)) := H1.out.on HBq.out
        replace H2 : Hid (RdV w4 (w4).heap.size Av (acs (turnd L s))) := H2.out.on HBq.out
        clear HBq
        clear HBc
        have G3 := Lib.hid g3; clear g3
        have H3 : Hid (RdG w4 (w4).heap.size A3 R3) := h3
        clear h3
        have HBq : Hid (Below w4.heap.size w4 (w4.alloc (.cells #[.slice A3 N c3] 24))) := one_below _ _
        replace HB : Hid (Below w.heap.size w (w4.alloc (.cells #[.slice A3 N c3] 24))) := HB.out.trans (HBq.out.mono HB.out.size)
        replace HR : Hid (RdG (w4.alloc (.cells #[.slice A3 N c3] 24)) ((w4.alloc (.cells #[.slice A3 N c3] 24))).heap.size A R) := HR.out.on HBq.out
        replace K0 : Hid (((w4.alloc (.cells #[.slice A3 N c3] 24))).cell? ⟨w.heap.size, 0, none⟩ = some (.slice A N c)) := (HBq.out.cell (World.block_lt_of_cell? _ _ K0.out)).trans K0.out
        replace H1 : Hid (RdV (w4.alloc (.cells #[.slice A3 N c3] 24)) ((w4.alloc (.cells #[.slice A3 N c3] 24))).heap.size A1 (acs L)) := H1.out.on HBq.out
        replace H2 : Hid (RdV (w4.alloc (.cells #[.slice A3 N c3] 24)) ((w4.alloc (.cells #[.slice A3 N c3] 24))).heap.size Av (acs (turnd L s))) := H2.out.on HBq.out
        replace H3 : Hid (RdG (w4.alloc (.cells #[.slice A3 N c3] 24)) ((w4.alloc (.cells #[.slice A3 N c3] 24))).heap.size A3 R3) := H3.out.on HBq.out
        clear HBq
        have K3 : Hid (((w4.alloc (.cells #[.slice A3 N c3] 24))).cell? ⟨w4.heap.size, 0, none⟩ = some (.slice A3 N c3)) := (cell_at (World.alloc_heap_new w4 _) 0).trans rfl
        have HC := Lib.hid (HS.out R3 A3 c3 _ G3.out H3.out HR.out)
        have k_K3 := K3.out
        have k_K0 := K0.out
        go_wp2_with fail
        clear k_K3
        clear k_K0
        refine HC.out.mono ?_
        rintro e w5 ⟨rfl, bq⟩
        clear HC
        have HBc := Lib.hid bq; clear bq
        have HBq : Hid (Below (w4.alloc (.cells #[.slice A3 N c3] 24)).heap.size (w4.alloc (.cells #[.slice A3 N c3] 24)) w5) := HBc.out
        replace HB : Hid (Below w.heap.size w w5) := HB.out.trans (HBq.out.mono HB.out.size)
        replace HR : Hid (RdG w5 (w5).heap.size A R) := HR.out.on HBq.out
        replace K0 : Hid ((w5).cell? ⟨w.heap.size, 0, none⟩ = some (.slice A N c)) := (HBq.out.cell (World.block_lt_of_cell? _ _ K0.out)).trans K0.out
        replace H1 : Hid (RdV w5 (w5).heap.size A1 (acs L)) := H1.out.on HBq.out
        replace H2 : Hid (RdV w5 (w5).heap.size Av (acs (turnd L s))) := H2.out.on HBq.out
        replace H3 : Hid (RdG w5 (w5).heap.size A3 R3) := H3.out.on HBq.out
        replace K3 : Hid ((w5).cell? ⟨w4.heap.size, 0, none⟩ = some (.slice A3 N c3)) := (HBq.out.cell (World.block_lt_of_cell? _ _ K3.out)).trans K3.out
        clear HBq
        clear HBc
        go_wp2
        go_ret
        exact ⟨rfl, HB.out⟩
  · have HT : Hid (∀ A c V, RdG V V.heap.size A R → ∃ e1 : Int, (e1 == 0) = false ∧ Calls Try.prog 9 #[.agg #[.slice A N c]] V fun e w' => ∃ A c, e = .returned (.tuple #[.slice A 0 c, .int .i64 e1]) ∧ Below V.heap.size V w') := fun A c V h => ⟨grE (gs R), by simpa using e0, (garcs_e R N hN hn _ rfl e0 A c V h).mono fun e w' ⟨A, c, h1, _, _, h4⟩ => ⟨A, c, h1, h4⟩⟩
    clear e0 hN hn
    have HB : Hid (Below w.heap.size w w) := Below.refl _ w
    have HR := Lib.hid hA; clear hA
    go_enter Try.func4, Try.ntmps4
    have HBq : Hid (Below w.heap.size w (w.alloc (.cells #[.slice A N c] 24))) := one_below _ _
    replace HB : Hid (Below w.heap.size w (w.alloc (.cells #[.slice A N c] 24))) := HB.out.trans (HBq.out.mono HB.out.size)
    replace HR : Hid (RdG (w.alloc (.cells #[.slice A N c] 24)) ((w.alloc (.cells #[.slice A N c] 24))).heap.size A R) := HR.out.on HBq.out
    clear HBq
    have K0 : Hid (((w.alloc (.cells #[.slice A N c] 24))).cell? ⟨w.heap.size, 0, none⟩ = some (.slice A N c)) := (cell_at (World.alloc_heap_new w _) 0).trans rfl
    obtain ⟨e1, t1, hc1⟩ := HT.out A c _ HR.out
    have HC1 := Lib.hid hc1; clear hc1
    have HC := Lib.hid (HC1.out)
    go_wp2_with fail
    refine HC.out.mono ?_
    rintro e w1 ⟨A1, c1, rfl, bq⟩
    clear HC
    have HBc := Lib.hid bq; clear bq
    have HBq : Hid (Below (w.alloc (.cells #[.slice A N c] 24)).heap.size (w.alloc (.cells #[.slice A N c] 24)) w1) := HBc.out
    replace HB : Hid (Below w.heap.size w w1) := HB.out.trans (HBq.out.mono HB.out.size)
    replace HR : Hid (RdG w1 (w1).heap.size A R) := HR.out.on HBq.out
    replace K0 : Hid ((w1).cell? ⟨w.heap.size, 0, none⟩ = some (.slice A N c)) := (HBq.out.cell (World.block_lt_of_cell? _ _ K0.out)).trans K0.out
    clear HBq
    clear HBc
    have HC := Lib.hid (graphbegun_true w1)
    go_wp2_with fail
    refine HC.out.mono ?_
    rintro e w2 ⟨rfl, bq⟩
    clear HC
    have HBc := Lib.hid bq; clear bq
    have HBq : Hid (Below w1.heap.size w1 w2) := HBc.out
    replace HB : Hid (Below w.heap.size w w2) := HB.out.trans (HBq.out.mono HB.out.size)
    replace HR : Hid (RdG w2 (w2).heap.size A R) := HR.out.on HBq.out
    replace K0 : Hid ((w2).cell? ⟨w.heap.size, 0, none⟩ = some (.slice A N c)) := (HBq.out.cell (World.block_lt_of_cell? _ _ K0.out)).trans K0.out
    clear HBq
    clear HBc
    go_wp2
    go_ret
    exact ⟨rfl, HB.out⟩
end

section
open Go.ChangeShapes Go.WideShapes Go.ChangeAt Go.RowKit
open Go.ChangeMaps (open_string shut_string)

set_option linter.unusedVariables false
set_option maxRecDepth 100000 in
theorem graphBack_lifted (os : Os) (started : os.Started) (H : Type) (enc : TypeId × Value → H) :
    ReturnsInHanded {} Try.checked os 4 .any (Rows.graphBackSpec.pre6 enc Try.prog Try.f4 Rows.graphBackRow.domain false) (Rows.graphBackSpec.post enc Try.prog Try.f4 false true false false) := by
  refine returnsInHanded_of_change_sized (C := Try.checked) own started (by kernel_rfl) Try.func4
    (ChangeSpec.witness6 (enc := enc) (C := Try.checked) false ⟨#[], #[.agg #[.slice none 0 0], .int .i64 0], []⟩ 8 (by kernel_rfl) (by kernel_rfl) (by kernel_rfl) (by kernel_rfl)) ?_
  intro W base args ds gs before hval0 hW hcnd hzz _
  have hval : ∀ (j : Nat) t v, Try.f4.params[j]? = some t → args[j]? = some v → Value.okWide Try.prog W .any base t v := hval0
  have hW' := hW
  obtain ⟨p, q, hA0, hV, rfl, hfz, hnd⟩ := hW
  have hA : DataW.TrodAll enc Try.prog W 0 (fun _ => true) true Try.f4.params.toList args.toList ds p := hA0
  rw [Try.params4] at hA hval hzz
  obtain ⟨v0, vs0, d0, ds0, p0, q0, hargs, rfl, rfl, h0, r0⟩ := trodAll_cons hA
  obtain ⟨v1, vs1, d1, ds1, p1, q1, rfl, rfl, rfl, h1, r1⟩ := trodAll_cons r0
  obtain ⟨rfl, rfl, rfl⟩ := trodAll_nil r1
  obtain rfl : args = #[v0, v1] := by cases args; simp_all
  obtain ⟨rfl, rfl⟩ := trodVars_none hV
  have k0 := h0
  have lt0 : ∀ x ∈ p0, x.block < W.heap.size := by obtain ⟨m, hm⟩ := k0; exact DataW.trod_lt m _ _ _ hm
  obtain ⟨A0, c0, R0, rfl, rd0, nn0⟩ := open_graph (hval 0 24 v0 rfl rfl) h0 (fun n hn => of_decide_eq_true (List.all_eq_true.1 hzz n (DataW.weights_mem_each (j := 0) (t := 24) (d := d0) rfl rfl n hn)))
  obtain ⟨x1, rfl, rfl, rfl, wx1⟩ := open_int Try.underlying3 (hval 1 3 v1 rfl rfl) h1
  have bd1 := bounds_i64 wx1
  clear hA0 hval0
  refine (graphBack_law A0 c0 R0 x1 W rd0 nn0 bd1).mono fun e W' ⟨he, bel⟩ => ?_
  subst he
  exact ⟨_, rfl, _, _, _, [], _, [], hW', trodAll_mk1 (shut_bool Try.underlying4 _), (trodAll_cons_mk (Below.trod laidOut (by kernel_rfl) (of_decide_eq_true (by kernel_rfl)) k0 bel lt0) (trodAll_cons_mk (shut_int Try.underlying3 wx1) trodAll_mk0)), rfl, bel.frame _, fun h => by cases h⟩

theorem GraphBack_holds : Rows.GraphBackSaid :=
  OpenClaim.holds_of_wide 4 Try.f4 rfl rfl rfl rfl rfl rfl rfl ⟨rfl, rfl, rfl, rfl, rfl⟩ rfl rfl rfl rfl rfl (by kernel_rfl) Try.func4 (by kernel_rfl)
    (of_decide_eq_true (by kernel_rfl)) (by unfold Func.isWrapper; first | (rw [if_pos (by decide +kernel)]; kernel_rfl) | (rw [if_neg (by decide +kernel)]; exact ⟨rfl, rfl⟩))
    (fun os started H enc _ => graphBack_lifted os started H enc)
#print axioms GraphBack_holds
end
end Go.Proofs.Ytfeegpggfmfhjaa
