/- The law CoreDegree: no number is more than a node has neighbours, and some node has no more neighbours than the greatest number; for whatever graph. -/
import Derived.Test.YtnbjhldpadjgfaaCoJ
import Derived.Test.YtnbjhldpadjgfaaOpen
import Derived.Test.YtnbjhldpadjgfaaNMem
import Derived.Test.YtnbjhldpadjgfaaWChk
import Derived.Deep.Matrix
import Derived.Deep.SlicePairs
import Derived.SizedLaws
namespace Go.Proofs.Ytnbjhldpadjgfaa

section
set_option maxRecDepth 100000
set_option linter.unusedVariables false
open Go.RowKit Go.Shelf

set_option maxHeartbeats 8000000 in
theorem coreDegree_law (A : Option Addr) (c : Nat) (R : List Rw) (w : World) (hA : RdG w w.heap.size A R) (hn : R.length ≤ 140737488355328) :
    Calls Try.prog 13 #[.agg #[.slice A R.length c]] w fun e w' => e = .returned (.bool true) ∧ Below w.heap.size w w' := by
  obtain ⟨N, hN⟩ : ∃ N, R.length = N := ⟨_, rfl⟩
  rw [hN] at hn ⊢
  by_cases e0 : grE (gs R) = 0
  · obtain ⟨g, hg, hok⟩ := grE_zero _ e0
    have hgl : g.length = N := by have := congrArg List.length hg; rw [gs_length, List.length_map] at this; omega
    have hN1 : N ≤ 100 := by have := hok.nodes; omega
    have HOk : Hid (GOk g ∧ g.length = N) := ⟨hok, hgl⟩
    have HG0 := Lib.hid hg
    obtain ⟨l, hl⟩ := cn_list (near g) N
    have HL := Lib.hid hl
    have HNu := Lib.hid (lw_num R g hg hok N hgl l hl)
    have HNe : Hid (∀ i j, i < N → j < N → ∀ V, RdG V V.heap.size A R → Calls Try.prog 32 #[.agg #[.slice A N c], .int .i64 (i : Int), .int .i64 (j : Int)] V fun e w' => e = .returned (.bool (near g i j)) ∧ Below V.heap.size V w') := fun i j hi hj V hV => lw_near R g hg N hgl A c i j hi hj V hV
    clear e0 hN hn hg hok hgl hl
    obtain ⟨f, hf⟩ : ∃ f, near g = f := ⟨_, rfl⟩
    rw [hf] at HL HNe
    clear hf
    have HB : Hid (Below w.heap.size w w) := Below.refl _ w
    have HR := Lib.hid hA; clear hA
    go_enter Try.func13, Try.ntmps13
    have HBq : Hid (Below w.heap.size w (w.alloc (.cells #[.slice A N c] 24))) := one_below _ _
    replace HB : Hid (Below w.heap.size w (w.alloc (.cells #[.slice A N c] 24))) := HB.out.trans (HBq.out.mono HB.out.size)
    replace HR : Hid (RdG (w.alloc (.cells #[.slice A N c] 24)) ((w.alloc (.cells #[.slice A N c] 24))).heap.size A R) := HR.out.on HBq.out
    clear HBq
    have K0 : Hid (((w.alloc (.cells #[.slice A N c] 24))).cell? ⟨w.heap.size, 0, none⟩ = some (.slice A N c)) := (cell_at (World.alloc_heap_new w _) 0).trans rfl
    have HC := Lib.hid (HNu.out A c _ HR.out)
    have k_K0 := K0.out
    go_wp2_with fail
    clear k_K0
    refine HC.out.mono ?_
    rintro e w1 ⟨b1, rfl, q1, bq⟩
    clear HC
    have HBc := Lib.hid bq; clear bq
    have HBq : Hid (Below (w.alloc (.cells #[.slice A N c] 24)).heap.size (w.alloc (.cells #[.slice A N c] 24)) w1) := HBc.out
    replace HB : Hid (Below w.heap.size w w1) := HB.out.trans (HBq.out.mono HB.out.size)
    replace HR : Hid (RdG w1 (w1).heap.size A R) := HR.out.on HBq.out
    replace K0 : Hid ((w1).cell? ⟨w.heap.size, 0, none⟩ = some (.slice A N c)) := (HBq.out.cell (World.block_lt_of_cell? _ _ K0.out)).trans K0.out
    clear HBq
    clear HBc
    have Q1 : Hid (RdV w1 (w1).heap.size (some ⟨b1, 0, none⟩) (zc (ns l))) := q1
    clear q1
    have HC := Lib.hid (corebegun_true w1)
    go_wp2_with fail
    refine HC.out.mono ?_
    rintro e w2 ⟨rfl, bq⟩
    clear HC
    have HBc := Lib.hid bq; clear bq
    have HBq : Hid (Below w1.heap.size w1 w2) := HBc.out
    replace HB : Hid (Below w.heap.size w w2) := HB.out.trans (HBq.out.mono HB.out.size)
    replace HR : Hid (RdG w2 (w2).heap.size A R) := HR.out.on HBq.out
    replace K0 : Hid ((w2).cell? ⟨w.heap.size, 0, none⟩ = some (.slice A N c)) := (HBq.out.cell (World.block_lt_of_cell? _ _ K0.out)).trans K0.out
    replace Q1 : Hid (RdV w2 (w2).heap.size (some ⟨b1, 0, none⟩) (zc (ns l))) := Q1.out.on HBq.out
    clear HBq
    clear HBc
    obtain ⟨Ba, hBa⟩ : ∃ Ba, w.heap.size = Ba := ⟨_, rfl⟩
    have HV : Hid (∀ V, Below w2.heap.size w2 V → V.cell? ⟨Ba, 0, none⟩ = some (.slice A N c) ∧ RdG V V.heap.size A R ∧ RdV V V.heap.size (some ⟨b1, 0, none⟩) (zc (ns l)) ∧ Below w.heap.size w V) := fun V hV => ⟨by rw [← hBa]; exact (hV.cell (World.block_lt_of_cell? _ _ K0.out)).trans K0.out, HR.out.on hV, Q1.out.on hV, HB.out.trans (hV.mono HB.out.size)⟩
    by_cases hN0 : N = 0
    · subst hN0
      go_wp2
      go_ret
      exact ⟨rfl, HB.out⟩
    · have hN1' : 1 ≤ N := by omega
      have t0 : ((N : Int) == 0) = false := by simp; omega
      have t0n : (N == 0) = false := by simp; omega
      clear hN0 K0 HR Q1 HNu
      go_wp2
      clear hBa
      go_loopw [5, 6, 7] (fun s5 s6 p wr => ∃ i high low : Nat, i ≤ N ∧ s5 = .int .i64 (high : Int) ∧ s6 = .int .i64 (low : Int) ∧ p = .int .i64 (i : Int) ∧ Below w2.heap.size w2 wr ∧ (∀ j, j < i → l[j]?.getD 0 ≤ high ∧ low ≤ dg f N (fun _ => true) j) ∧ low ≤ N ∧ high ≤ N) (fun _ _ p _ => N - (intOf p).toNat)
      case atStart => exact ⟨0, 0, N, Nat.zero_le _, rfl, rfl, rfl, Below.refl _ _, fun j hj => absurd hj (Nat.not_lt_zero _), Nat.le_refl _, Nat.zero_le _⟩
      case round =>
       as_aux_lemma =>
        obtain ⟨i, high, low, hi, rfl, rfl, rfl, hb, hj, hlo, hhi⟩ := hrel
        by_cases hlt : i < N
        · have HJ := Lib.hid hj
          have HBi := Lib.hid hb
          have t1 : (0 : Int) ≤ (i : Int) := by omega
          have t2 : (i : Int) < (N : Int) := by omega
          clear hj hb
          go_wp2
          go_loopw [8, 9] (fun s p wq => ∃ k : Nat, k ≤ N ∧ s = .int .i64 ((dg f k (fun _ => true) i : Nat) : Int) ∧ p = .int .i64 (k : Int) ∧ Below w2.heap.size w2 wq) (fun _ p _ => N - (intOf p).toNat)
          case atStart => exact ⟨0, Nat.zero_le _, rfl, rfl, HBi.out⟩
          case round =>
           as_aux_lemma =>
            obtain ⟨k, hk, rfl, rfl, hb⟩ := hrel
            have hdk := dg_le f k (fun _ => true) i
            by_cases hkt : k < N
            · obtain ⟨k0, hr, -, -⟩ := HV.out _ hb
              have HC := Lib.hid (HNe.out i k hlt hkt _ hr)
              have HSu : Hid (dg f (k + 1) (fun _ => true) i = dg f k (fun _ => true) i + (if f i k = true then 1 else 0)) := by show _ = _; rw [dg_succ]; simp
              have HBk := Lib.hid hb
              have t3 : (0 : Int) ≤ (k : Int) := by omega
              have t4 : (k : Int) < (N : Int) := by omega
              clear hr hb
              generalize dg f k (fun _ => true) i = m at *
              generalize f i k = z at *
              go_wp2_with fail
              refine HC.out.mono ?_
              rintro e w4 ⟨rfl, b4⟩
              have HB4 : Hid (Below w2.heap.size w2 w4) := HBk.out.trans (b4.mono HBk.out.size)
              clear b4 HC k0
              cases z with
              | false =>
                have HE : Hid (dg f (k + 1) (fun _ => true) i = m) := by show _ = _; rw [HSu.out]; simp
                go_wp2
                go_roundw
                case rel => exact ⟨k + 1, by omega, by rw [HE.out], by go_num, HB4.out⟩
                case measure => simp [intOf]; omega
              | true =>
                have HE : Hid (dg f (k + 1) (fun _ => true) i = m + 1) := by show _ = _; rw [HSu.out]; simp
                go_wp2
                go_roundw
                case rel => exact ⟨k + 1, by omega, by rw [HE.out]; go_num, by go_num, HB4.out⟩
                case measure => simp [intOf]; omega
            · obtain rfl : k = N := by omega
              obtain ⟨k0, -, hq, -⟩ := HV.out _ hb
              have k1 := rd_at0 hq HL.out.1 hlt
              have hcd := cn_deg (HL.out.2 i hlt) hlt
              have HBk := Lib.hid hb
              clear hq hb
              have HU : Hid (∀ u, l[i]?.getD 0 = u → ∀ j, j < i + 1 → l[j]?.getD 0 ≤ max high u ∧ min low (dg f k (fun _ => true) i) ≤ dg f k (fun _ => true) j) := fun u hu j hj => by
                rcases Nat.lt_or_ge j i with h | h
                · have := HJ.out j h; omega
                · obtain rfl : j = i := by omega
                  omega
              obtain ⟨u, hu⟩ : ∃ u, l[i]?.getD 0 = u := ⟨_, rfl⟩
              have HU2 := Lib.hid (HU.out u hu)
              rw [hu] at k1 hcd
              clear HU hu
              generalize dg f k (fun _ => true) i = m at *
              obtain ⟨h2, hh2⟩ : ∃ h2, max high u = h2 := ⟨_, rfl⟩
              obtain ⟨l2, hl2⟩ : ∃ l2, min low m = l2 := ⟨_, rfl⟩
              rw [hh2, hl2] at HU2
              have e1 : max (high : Int) (u : Int) = (h2 : Int) := by omega
              have e2 : min (low : Int) (m : Int) = (l2 : Int) := by omega
              have b1 : l2 ≤ k := by omega
              have b2 : h2 ≤ k := by omega
              have t3 : decide ((u : Int) < 0) = false := by simp
              have t4 : decide ((m : Int) < (u : Int)) = false := by simp; omega
              have t4n : decide (m < u) = false := by simp; omega
              clear hh2 hl2 k0
              go_wp2
              go_roundw
              case rel => exact ⟨i + 1, h2, l2, by omega, rfl, rfl, by go_num, HBk.out, HU2.out, b1, b2⟩
              case measure => simp [intOf]; omega
        · obtain rfl : i = N := by omega
          have h1 : low ≤ high := by
            have h2 := low_high HL.out.2 (fun j q => (hj j q).2) 0 (by omega)
            have h3 := (hj 0 (by omega)).1
            omega
          have t3 : decide ((low : Int) ≤ (high : Int)) = true := by simp; omega
          have t3n : decide (low ≤ high) = true := by simp; omega
          have HF := Lib.hid (HV.out _ hb).2.2.2
          clear hj hb
          go_wp2
          go_ret
          exact ⟨rfl, HF.out⟩
  · have HNu := Lib.hid (lw_num_e R N hN hn _ rfl e0)
    have t1 : (grE (gs R) == 0) = false := by simpa using e0
    have u1 : (grE (gs R) != 0) = true := by simpa using e0
    clear e0 hN hn
    generalize grE (gs R) = e1 at *
    have HB : Hid (Below w.heap.size w w) := Below.refl _ w
    have HR := Lib.hid hA; clear hA
    go_enter Try.func13, Try.ntmps13
    have HBq : Hid (Below w.heap.size w (w.alloc (.cells #[.slice A N c] 24))) := one_below _ _
    replace HB : Hid (Below w.heap.size w (w.alloc (.cells #[.slice A N c] 24))) := HB.out.trans (HBq.out.mono HB.out.size)
    replace HR : Hid (RdG (w.alloc (.cells #[.slice A N c] 24)) ((w.alloc (.cells #[.slice A N c] 24))).heap.size A R) := HR.out.on HBq.out
    clear HBq
    have K0 : Hid (((w.alloc (.cells #[.slice A N c] 24))).cell? ⟨w.heap.size, 0, none⟩ = some (.slice A N c)) := (cell_at (World.alloc_heap_new w _) 0).trans rfl
    have HC := Lib.hid (HNu.out A c _ HR.out)
    have k_K0 := K0.out
    go_wp2_with fail
    clear k_K0
    refine HC.out.mono ?_
    rintro e w1 ⟨rfl, bq⟩
    clear HC
    have HBc := Lib.hid bq; clear bq
    have HBq : Hid (Below (w.alloc (.cells #[.slice A N c] 24)).heap.size (w.alloc (.cells #[.slice A N c] 24)) w1) := HBc.out
    replace HB : Hid (Below w.heap.size w w1) := HB.out.trans (HBq.out.mono HB.out.size)
    replace HR : Hid (RdG w1 (w1).heap.size A R) := HR.out.on HBq.out
    replace K0 : Hid ((w1).cell? ⟨w.heap.size, 0, none⟩ = some (.slice A N c)) := (HBq.out.cell (World.block_lt_of_cell? _ _ K0.out)).trans K0.out
    clear HBq
    clear HBc
    have HC := Lib.hid (corebegun_true w1)
    go_wp2_with fail
    refine HC.out.mono ?_
    rintro e w2 ⟨rfl, bq⟩
    clear HC
    have HBc := Lib.hid bq; clear bq
    have HBq : Hid (Below w1.heap.size w1 w2) := HBc.out
    replace HB : Hid (Below w.heap.size w w2) := HB.out.trans (HBq.out.mono HB.out.size)
    replace HR : Hid (RdG w2 (w2).heap.size A R) := HR.out.on HBq.out
    replace K0 : Hid ((w2).cell? ⟨w.heap.size, 0, none⟩ = some (.slice A N c)) := (HBq.out.cell (World.block_lt_of_cell? _ _ K0.out)).trans K0.out
    clear HBq
    clear HBc
    go_wp2
    go_ret
    exact ⟨rfl, HB.out⟩
end

section
section
open Go.ChangeShapes Go.WideShapes Go.ChangeAt Go.RowKit Go.Joins

theorem cells3i : Try.prog.cellsOf 3 = 1 := by kernel_rfl

set_option maxRecDepth 100000 in
/-- Numbers that were handed in. -/
theorem open_zs {H : Type} {enc : TypeId × Value → H} {W : World} {base : Nat} {v : Value} {d : DataW H} {p : List MemPlace}
    (hv : Value.okWide Try.prog W .any base 25 v) (h : DataW.Trod enc Try.prog W 0 (fun _ => true) true 25 v d p) :
    ∃ (A : Option Addr) (c : Nat) (xs : List Int), v = .slice A xs.length c ∧ xs.length ≤ c ∧ (A = none → c = 0) ∧ RdV W W.heap.size A (zc xs) ∧ (∀ x ∈ xs, -9223372036854775808 ≤ x ∧ x ≤ 9223372036854775807) ∧ xs.length ≤ 9223372036854775807 := by
  obtain ⟨a0, len0, cap0, rfl⟩ := okWide_slice Try.underlying25 hv
  obtain ⟨fuel, hf⟩ := h
  rcases open_ints Try.underlying25 Try.underlying3 cells3i hf with ⟨hcs, _⟩ | ⟨x, l, c, zs, hcs, _, hl, hm, hz, _, hcell, hwz⟩
  · simp [Value.cells] at hcs
    obtain ⟨rfl, rfl, rfl⟩ := hcs
    exact ⟨none, 0, [], rfl, by simp, fun _ => rfl, .inl rfl, by simp, by simp⟩
  · simp [Value.cells] at hcs
    obtain ⟨rfl, rfl, rfl⟩ := hcs
    have hzc : zs.length = cap0 := by simpa using hz
    have hlen : (zs.take len0).length = len0 := by rw [List.length_take]; omega
    unfold maxLen at hm
    refine ⟨some x, cap0, zs.take len0, by rw [hlen], by rw [hlen]; exact hl, (fun h => by cases h), ?_, ?_, by rw [hlen]; omega⟩
    · rcases Nat.eq_zero_or_pos len0 with h0 | h0
      · left; rw [h0]; rfl
      · obtain ⟨b, off, rfl, hc⟩ := ints_at hcell (by omega)
        refine .inr ⟨b, off, rfl, lt_of_cell (hc 0 (by omega)), fun i v hi => ?_⟩
        have hil : i < len0 := by
          rcases Nat.lt_or_ge i len0 with h | h
          · exact h
          · rw [List.getElem?_eq_none (by rw [zc_length, hlen]; exact h)] at hi; cases hi
        rw [zc_get _ i (by rw [hlen]; exact hil)] at hi
        cases hi
        rw [hc i (by omega)]
        have hz0 : zs.getD i 0 = zs[i]'(by omega) := by rw [List.getD_eq_getElem?_getD, List.getElem?_eq_getElem (by omega)]; rfl
        have e1 : (zs.take len0)[i]?.getD 0 = zs[i]'(by omega) := by
          rw [List.getElem?_take_of_lt hil, List.getElem?_eq_getElem (by omega)]; rfl
        rw [e1, hz0]
    · intro n hn
      exact bounds_i64 (hwz n (List.mem_of_mem_take hn))
end

section
open Go.ChangeShapes Go.WideShapes Go.ChangeAt Go.RowKit Go.Joins Go.Deep

theorem cellsG : Try.prog.cellsOf 24 = 1 := by kernel_rfl
theorem cellsL1 : Try.prog.cellsOf 25 = 1 := by kernel_rfl
theorem cellsL2 : Try.prog.cellsOf 22 = 1 := by kernel_rfl
theorem bytesL1 : Try.prog.bytesOf 25 = 24 := by kernel_rfl
theorem bytesI1 : Try.prog.bytesOf 3 = 8 := by kernel_rfl
theorem weightsAll_mem {H : Type} {P : Program} {e : TypeId} {n : Nat} : ∀ {l : List (DataW H)} {d : DataW H}, d ∈ l → n ∈ d.weights P e → n ∈ DataW.weightsAll P e l
  | x :: t, d, hd, hn => by
    simp only [DataW.weightsAll, List.mem_append]
    rcases List.mem_cons.1 hd with rfl | h
    · exact .inl hn
    · exact .inr (weightsAll_mem h hn)
theorem add_plG (b off k : Nat) : (⟨b, off, none⟩ : Addr).add k = ⟨b, off + k, none⟩ := by unfold Addr.add; split <;> simp_all
theorem zc_mem {l : List Int} {i : Nat} {v : Value} (h : (zc l)[i]? = some v) : ∃ hi : i < l.length, v = .int .i64 l[i] := by
  unfold zc at h
  rw [List.getElem?_map] at h
  obtain ⟨x, hx, rfl⟩ := Option.map_eq_some_iff.1 h
  obtain ⟨hi, rfl⟩ := List.getElem?_eq_some_iff.1 hx
  exact ⟨hi, rfl⟩
set_option maxRecDepth 100000 in
/-- A graph that was handed in. -/
theorem open_graph {H : Type} {enc : TypeId × Value → H} {W : World} {base : Nat} {v : Value} {d : DataW H} {p : List MemPlace}
    (hv : Value.okWide Try.prog W .any base 24 v) (h : DataW.Trod enc Try.prog W 0 (fun _ => true) true 24 v d p)
    (hz : ∀ n ∈ d.weights Try.prog 24, n ≤ reachBytes) :
    ∃ (A : Option Addr) (c : Nat) (R : List Rw), v = .agg #[.slice A R.length c] ∧ RdG W W.heap.size A R ∧ R.length ≤ 140737488355328 := by
  obtain ⟨cs, rfl, hsz⟩ := okWide_struct Try.underlying24 hv
  obtain ⟨c0, rfl⟩ := Array.size_eq_one_iff.1 (hsz.trans cellsG)
  obtain ⟨fuel, hf⟩ := h
  obtain ⟨y0, n, hx, _, h0⟩ := trod_struct1 Try.underlying24 hf
  simp only [Prod.mk.injEq] at hx
  obtain ⟨rfl, rfl⟩ := hx
  simp [Value.cells, cellsL2] at h0
  have hz0 : ∀ n ∈ y0.1.weights Try.prog 22, n ≤ reachBytes := fun n hn => hz n (by
    unfold DataW.weights
    rw [Try.underlying24]
    simp only [List.map_cons, List.map_nil, DataW.weightsEach, List.append_nil]
    exact hn)
  have hrb := reachBytes_lt
  rcases open_int_rows Try.underlying22 Try.underlying25 Try.underlying3 cellsL1 cells3i h0 with ⟨hcs, _⟩ | ⟨a, len, cap, A, L, C, Z, hcs, _, hl, hm, hx, hrow⟩
  · simp at hcs
    subst hcs
    exact ⟨none, 0, [], rfl, ⟨.inl rfl, fun r hr => by simp at hr⟩, by simp⟩
  · simp at hcs
    subst hcs
    rw [hx] at hz0
    have hlen : (len + (cap - len)) * 24 ≤ reachBytes := hz0 _ (by
      simp only [DataW.weights, Try.underlying22, List.length_map, List.length_range, bytesL1]
      exact List.mem_cons_self)
    have hrl : ∀ r, r < len → L r ≤ 140737488355328 := fun r hr => by
      obtain ⟨_, q1, q2, q3, _, q5, _⟩ := hrow r (by omega)
      cases hA : A r with
      | none => rw [q5 hA] at q1; omega
      | some a' =>
        have := hz0 (((Z r).take (L r)).length * 8 + ((Z r).drop (L r)).length * 8) (by
          simp only [DataW.weights, Try.underlying22, List.length_map, List.length_range, bytesL1]
          refine List.mem_cons_of_mem _ (List.mem_append.2 (.inl (weightsAll_mem (List.mem_map.2 ⟨r, List.mem_range.2 hr, rfl⟩) ?_)))
          unfold intRow
          rw [hA]
          simp only [DataW.weights, Try.underlying25, bytesI1, lits, List.length_map]
          refine List.mem_cons.2 (.inl ?_)
          omega)
        rw [List.length_take] at this
        omega
    refine ⟨some a, cap, (List.range len).map fun r => (A r, C r, (Z r).take (L r)), by simp, ⟨?_, ?_⟩, by simp; omega⟩
    · rcases Nat.eq_zero_or_pos len with h0 | h0
      · left; rw [h0]; rfl
      · obtain ⟨b, off, spot⟩ := a
        have hspot : spot = none := by simpa [Addr.add] using World.cell?_spot (hrow 0 (by omega)).1
        subst hspot
        refine .inr ⟨b, off, rfl, ?_, fun i v hi => ?_⟩
        · have := (hrow 0 (by omega)).1
          exact lt_of_cell (p := ⟨b, off + 0, none⟩) (by rw [← add_plG]; exact this)
        · unfold rcl at hi
          rw [List.getElem?_map, List.getElem?_map] at hi
          obtain ⟨y, hy, rfl⟩ := Option.map_eq_some_iff.1 hi
          obtain ⟨j, hj, rfl⟩ := Option.map_eq_some_iff.1 hy
          obtain ⟨hil, rfl⟩ := List.getElem?_eq_some_iff.1 hj
          rw [List.length_range] at hil
          have := hrow i (by omega)
          rw [add_plG] at this
          simp only [List.getElem_range]
          unfold sl
          simp only [List.length_take]
          rw [this.1]
          have e : min (L i) (Z i).length = L i := by have q1 := this.2.1; have q2 := this.2.2.2.1; omega
          rw [e]
    · intro r hr
      obtain ⟨i, hi, rfl⟩ := List.mem_map.1 hr
      have hil := List.mem_range.1 hi
      obtain ⟨q0, q1, q2, q3, q4, q5, q6⟩ := hrow i (by omega)
      refine ⟨?_, by simp only [List.length_take]; have := hrl i hil; omega⟩
      simp only
      rcases Nat.eq_zero_or_pos (L i) with h0 | h0
      · left; rw [h0]; rfl
      · cases hA : A i with
        | none => rw [q5 hA] at q1; omega
        | some a' =>
          obtain ⟨_, q7⟩ := q6 a' hA
          obtain ⟨b, off, spot⟩ := a'
          have hspot : spot = none := by simpa [Addr.add] using World.cell?_spot (q7 0 (by omega))
          subst hspot
          refine .inr ⟨b, off, rfl, ?_, fun j v hj => ?_⟩
          · have := q7 0 (by omega)
            exact lt_of_cell (p := ⟨b, off + 0, none⟩) (by rw [← add_plG]; exact this)
          · obtain ⟨hjl, rfl⟩ := zc_mem hj
            have hjl2 : j < L i := by rw [List.length_take] at hjl; omega
            have := q7 j (by omega)
            rw [add_plG] at this
            rw [this]
            simp [List.getD_eq_getElem?_getD, List.getElem?_eq_getElem (show j < (Z i).length by omega)]
end
end

section
open Go.ChangeShapes Go.WideShapes Go.ChangeAt Go.RowKit
open Go.ChangeMaps (open_string shut_string)

set_option linter.unusedVariables false
set_option maxRecDepth 100000 in
theorem coreDegree_lifted (os : Os) (started : os.Started) (H : Type) (enc : TypeId × Value → H) :
    ReturnsInHanded {} Try.checked os 13 .any (Rows.coreDegreeSpec.pre6 enc Try.prog Try.f13 Rows.coreDegreeRow.domain false) (Rows.coreDegreeSpec.post enc Try.prog Try.f13 false true false false) := by
  refine returnsInHanded_of_change_sized (C := Try.checked) own started (by kernel_rfl) Try.func13
    (ChangeSpec.witness6 (enc := enc) (C := Try.checked) false ⟨#[], #[.agg #[.slice none 0 0]], []⟩ 8 (by kernel_rfl) (by kernel_rfl) (by kernel_rfl) (by kernel_rfl)) ?_
  intro W base args ds gs before hval0 hW hcnd hzz _
  have hval : ∀ (j : Nat) t v, Try.f13.params[j]? = some t → args[j]? = some v → Value.okWide Try.prog W .any base t v := hval0
  have hW' := hW
  obtain ⟨p, q, hA0, hV, rfl, hfz, hnd⟩ := hW
  have hA : DataW.TrodAll enc Try.prog W 0 (fun _ => true) true Try.f13.params.toList args.toList ds p := hA0
  rw [Try.params13] at hA hval hzz
  obtain ⟨v0, vs0, d0, ds0, p0, q0, hargs, rfl, rfl, h0, r0⟩ := trodAll_cons hA
  obtain ⟨rfl, rfl, rfl⟩ := trodAll_nil r0
  obtain rfl : args = #[v0] := by cases args; simp_all
  obtain ⟨rfl, rfl⟩ := trodVars_none hV
  have k0 := h0
  have lt0 : ∀ x ∈ p0, x.block < W.heap.size := by obtain ⟨m, hm⟩ := k0; exact DataW.trod_lt m _ _ _ hm
  obtain ⟨A0, c0, R0, rfl, rd0, nn0⟩ := open_graph (hval 0 24 v0 rfl rfl) h0 (fun n hn => of_decide_eq_true (List.all_eq_true.1 hzz n (DataW.weights_mem_each (j := 0) (t := 24) (d := d0) rfl rfl n hn)))
  clear hA0 hval0
  refine (coreDegree_law A0 c0 R0 W rd0 nn0).mono fun e W' ⟨he, bel⟩ => ?_
  subst he
  exact ⟨_, rfl, _, _, _, [], _, [], hW', trodAll_mk1 (shut_bool Try.underlying4 _), (trodAll_cons_mk (Below.trod laidOut (by kernel_rfl) (of_decide_eq_true (by kernel_rfl)) k0 bel lt0) trodAll_mk0), rfl, bel.frame _, fun h => by cases h⟩

theorem CoreDegree_holds : Rows.CoreDegreeSaid :=
  OpenClaim.holds_of_wide 13 Try.f13 rfl rfl rfl rfl rfl rfl rfl ⟨rfl, rfl, rfl, rfl, rfl⟩ rfl rfl rfl rfl rfl (by kernel_rfl) Try.func13 (by kernel_rfl)
    (of_decide_eq_true (by kernel_rfl)) (by unfold Func.isWrapper; first | (rw [if_pos (by decide +kernel)]; kernel_rfl) | (rw [if_neg (by decide +kernel)]; exact ⟨rfl, rfl⟩))
    (fun os started H enc _ => coreDegree_lifted os started H enc)
#print axioms CoreDegree_holds
end
end Go.Proofs.Ytnbjhldpadjgfaa
