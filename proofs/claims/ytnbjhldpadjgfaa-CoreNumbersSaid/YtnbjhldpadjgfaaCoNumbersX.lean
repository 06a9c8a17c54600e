/- Is a node of the set that a number tells (CoreNumbers' closure)? -/
import Derived.Test.YtnbjhldpadjgfaaCoJ
import Derived.Test.YtnbjhldpadjgfaaOpen
import Derived.Test.YtnbjhldpadjgfaaNMem
import Derived.Test.YtnbjhldpadjgfaaWChk
import Derived.Deep.Matrix
import Derived.Deep.SlicePairs
import Derived.SizedLaws
namespace Go.Proofs.Ytnbjhldpadjgfaa

section
set_option maxRecDepth 100000
set_option linter.unusedVariables false
open Go.RowKit Go.Shelf

def setB (s i : Nat) : Bool := decide (s / 2 ^ (i % 64) % 2 = 1)
set_option maxHeartbeats 1000000 in
theorem cnu1_any (i s Bs : Nat) (hi : i ≤ 1000) (hs : s < 18446744073709551616) (W : World) (h : W.cell? ⟨Bs, 0, none⟩ = some (.int .u64 (s : Int))) :
    Calls Try.prog 31 (#[.int .i64 (i : Int)] ++ #[.pointer (some ⟨Bs, 0, none⟩)]) W fun e w' => e = .returned (.bool (setB s i)) ∧ w' = W := by
  show Calls Try.prog 31 #[.int .i64 (i : Int), .pointer (some ⟨Bs, 0, none⟩)] W _
  obtain ⟨r, hr⟩ : ∃ r, setB s i = r := ⟨_, rfl⟩
  rw [hr]
  obtain ⟨k, hk⟩ : ∃ k, i % 64 = k := ⟨_, rfl⟩
  have hk64 : k < 64 := by omega
  have e1 : (i : Int) % 64 = (k : Int) := by omega
  obtain ⟨q, hq⟩ : ∃ q, s / 2 ^ k = q := ⟨_, rfl⟩
  have hq2 : q ≤ s := by rw [← hq]; exact Nat.div_le_self _ _
  have e2 : (s : Int) / 2 ^ k = (q : Int) := by
    rw [← hq]; push_cast; rfl
  have e3 : ((q : Int) % 2 == 1) = r := by
    rw [← hr]; unfold setB; rw [hk, hq]
    rw [Bool.eq_iff_iff]; simp; omega
  have hi0 : (0 : Int) ≤ (i : Int) := by omega
  have hq0 : (0 : Int) ≤ (q : Int) := by omega
  have hq3 : (q : Int) < 18446744073709551616 := by omega
  have hs3 : (s : Int) < 18446744073709551616 := by omega
  have hs0 : (0 : Int) ≤ (s : Int) := by omega
  have hk0 : (0 : Int) ≤ (k : Int) := by omega
  have hk3 : (k : Int) < 64 := by omega
  clear hr hk hq
  go_enter Try.func31, Try.ntmps31
  go_wp2
  go_ret
  exact ⟨rfl, rfl⟩
end

section
set_option maxRecDepth 100000
set_option linter.unusedVariables false
open Go.RowKit Go.Shelf

theorem gskipC {P : Program} {md : Region.Mode} {l : List Oper} {Q : Exit → Act → World → Prop} {S : World → Prop} {i : Nat} {oi : Oper} {rest : List Oper} {fuel : Nat} {listed : Array Bool} {a : Act} {w : World} (hi : l.drop i = oi :: rest)
    (hs : Region.noSelect l.toArray = true) (hf : Region.free md l.toArray listed i = true) (hr : (Region.ready md l.toArray listed).contains i = true) (hS : S w) (hw : Region.wanted oi (yielded l.toArray a.tmps) = false)
    (h : wpAnyH P md l.toArray (OnlyN Q) S fuel (listed.setIfInBounds i true) (a.put oi.dst undef) w) : wpAnyH P md l.toArray (OnlyN Q) S (fuel + 1) listed a w :=
  wpAnyH_take (gof_drop hi) hs hf hr (fun c a w q => by cases q.1) (.inr ⟨hw, rfl⟩) hS h
/-- The least of those of the set so far, or none. -/
def LeastI (f : Nat → Nat → Bool) (N : Nat) (S : Nat → Bool) (i : Nat) (v : Int) : Prop := (v = -1 ∧ ∀ j, j < i → S j = false) ∨ ∃ m : Nat, v = (m : Int) ∧ m ≤ N ∧ ∀ j, j < i → S j = true → m ≤ dg f N S j
theorem LeastI.zero (f : Nat → Nat → Bool) (N : Nat) (S : Nat → Bool) : LeastI f N S 0 (-1) := .inl ⟨rfl, fun j hj => absurd hj (Nat.not_lt_zero _)⟩
theorem LeastI.no {f : Nat → Nat → Bool} {N : Nat} {S : Nat → Bool} {i : Nat} {v : Int} (h : LeastI f N S i v) (hi : S i = false) : LeastI f N S (i + 1) v := by
  rcases h with ⟨h1, h2⟩ | ⟨m, h1, h3, h2⟩
  · exact .inl ⟨h1, fun j hj => by
      rcases Nat.lt_or_ge j i with q | q
      · exact h2 j q
      · obtain rfl : j = i := by omega
        exact hi⟩
  · exact .inr ⟨m, h1, h3, fun j hj hs => by
      rcases Nat.lt_or_ge j i with q | q
      · exact h2 j q hs
      · obtain rfl : j = i := by omega
        rw [hi] at hs; cases hs⟩
theorem LeastI.stay {f : Nat → Nat → Bool} {N : Nat} {S : Nat → Bool} {i : Nat} {v : Int} (h : LeastI f N S i v) (h0 : ¬ v < 0) (h1 : ¬ (dg f N S i : Int) < v) : LeastI f N S (i + 1) v := by
  rcases h with ⟨h2, _⟩ | ⟨m, h2, h3, h4⟩
  · omega
  · exact .inr ⟨m, h2, h3, fun j hj hs => by
      rcases Nat.lt_or_ge j i with q | q
      · exact h4 j q hs
      · obtain rfl : j = i := by omega
        omega⟩
theorem LeastI.go {f : Nat → Nat → Bool} {N : Nat} {S : Nat → Bool} {i : Nat} {v : Int} (h : LeastI f N S i v) (h0 : v < 0 ∨ (dg f N S i : Int) < v) : LeastI f N S (i + 1) ((dg f N S i : Nat) : Int) := by
  refine .inr ⟨dg f N S i, rfl, dg_le _ _ _ _, fun j hj hs => ?_⟩
  rcases Nat.lt_or_ge j i with q | q
  · rcases h with ⟨h2, h4⟩ | ⟨m, h2, h3, h4⟩
    · rw [h4 j q] at hs; cases hs
    · have := h4 j q hs
      omega
  · obtain rfl : j = i := by omega
    exact Nat.le_refl _
theorem LeastI.fin {f : Nat → Nat → Bool} {N : Nat} {S : Nat → Bool} {v : Int} {c : Nat → Nat} (hc : ∀ i, i < N → Cn f N i (c i)) (h : LeastI f N S N v) {i : Nat} (hi : i < N) (hs : S i = true) : ¬ (c i : Int) < v := by
  rcases h with ⟨h2, _⟩ | ⟨m, h2, h3, h4⟩
  · omega
  · have := seid_set hc (S := S) (l := m) h4 hi hs
    omega
set_option maxHeartbeats 8000000 in
theorem coreNumbers_law (A : Option Addr) (c : Nat) (R : List Rw) (set : Nat) (w : World) (hA : RdG w w.heap.size A R) (hn : R.length ≤ 140737488355328) (hs : set < 18446744073709551616) :
    Calls Try.prog 8 #[.agg #[.slice A R.length c], .int .u64 (set : Int)] w fun e w' => e = .returned (.bool true) ∧ Below w.heap.size w w' := by
  obtain ⟨N, hN⟩ : ∃ N, R.length = N := ⟨_, rfl⟩
  rw [hN] at hn ⊢
  by_cases e0 : grE (gs R) = 0
  · obtain ⟨g, hg, hok⟩ := grE_zero _ e0
    have hgl : g.length = N := by have := congrArg List.length hg; rw [gs_length, List.length_map] at this; omega
    have hN1 : N ≤ 100 := by have := hok.nodes; omega
    have HOk : Hid (GOk g ∧ g.length = N) := ⟨hok, hgl⟩
    have HG0 := Lib.hid hg
    obtain ⟨l, hl⟩ := cn_list (near g) N
    have HL := Lib.hid hl
    have HNu := Lib.hid (lw_num R g hg hok N hgl l hl)
    have HNe : Hid (∀ i j, i < N → j < N → ∀ V, RdG V V.heap.size A R → Calls Try.prog 32 #[.agg #[.slice A N c], .int .i64 (i : Int), .int .i64 (j : Int)] V fun e w' => e = .returned (.bool (near g i j)) ∧ Below V.heap.size V w') := fun i j hi hj V hV => lw_near R g hg N hgl A c i j hi hj V hV
    clear e0 hN hn hg hok hgl hl
    obtain ⟨f, hf⟩ : ∃ f, near g = f := ⟨_, rfl⟩
    rw [hf] at HL HNe
    clear hf
    have HB : Hid (Below w.heap.size w w) := Below.refl _ w
    have HR := Lib.hid hA; clear hA
    go_enter Try.func8, Try.ntmps8
    have HBq : Hid (Below w.heap.size w (w.alloc (.cells #[.slice A N c] 24))) := one_below _ _
    replace HB : Hid (Below w.heap.size w (w.alloc (.cells #[.slice A N c] 24))) := HB.out.trans (HBq.out.mono HB.out.size)
    replace HR : Hid (RdG (w.alloc (.cells #[.slice A N c] 24)) ((w.alloc (.cells #[.slice A N c] 24))).heap.size A R) := HR.out.on HBq.out
    clear HBq
    have K0 : Hid (((w.alloc (.cells #[.slice A N c] 24))).cell? ⟨w.heap.size, 0, none⟩ = some (.slice A N c)) := (cell_at (World.alloc_heap_new w _) 0).trans rfl
    have HBq : Hid (Below (w.alloc (.cells #[.slice A N c] 24)).heap.size (w.alloc (.cells #[.slice A N c] 24)) ((w.alloc (.cells #[.slice A N c] 24)).alloc (.cells #[.int .u64 (set : Int)] 53))) := one_below _ _
    replace HB : Hid (Below w.heap.size w ((w.alloc (.cells #[.slice A N c] 24)).alloc (.cells #[.int .u64 (set : Int)] 53))) := HB.out.trans (HBq.out.mono HB.out.size)
    replace HR : Hid (RdG ((w.alloc (.cells #[.slice A N c] 24)).alloc (.cells #[.int .u64 (set : Int)] 53)) (((w.alloc (.cells #[.slice A N c] 24)).alloc (.cells #[.int .u64 (set : Int)] 53))).heap.size A R) := HR.out.on HBq.out
    replace K0 : Hid ((((w.alloc (.cells #[.slice A N c] 24)).alloc (.cells #[.int .u64 (set : Int)] 53))).cell? ⟨w.heap.size, 0, none⟩ = some (.slice A N c)) := (HBq.out.cell (World.block_lt_of_cell? _ _ K0.out)).trans K0.out
    clear HBq
    have K1 : Hid ((((w.alloc (.cells #[.slice A N c] 24)).alloc (.cells #[.int .u64 (set : Int)] 53))).cell? ⟨(w.alloc (.cells #[.slice A N c] 24)).heap.size, 0, none⟩ = some (.int .u64 (set : Int))) := (cell_at (World.alloc_heap_new (w.alloc (.cells #[.slice A N c] 24)) _) 0).trans rfl
    have HC := Lib.hid (HNu.out A c _ HR.out)
    have k_K0 := K0.out
    go_wp2_with fail
    clear k_K0
    refine HC.out.mono ?_
    rintro e w1 ⟨b1, rfl, q1, bq⟩
    clear HC
    have HBc := Lib.hid bq; clear bq
    have HBq : Hid (Below ((w.alloc (.cells #[.slice A N c] 24)).alloc (.cells #[.int .u64 (set : Int)] 53)).heap.size ((w.alloc (.cells #[.slice A N c] 24)).alloc (.cells #[.int .u64 (set : Int)] 53)) w1) := HBc.out
    replace HB : Hid (Below w.heap.size w w1) := HB.out.trans (HBq.out.mono HB.out.size)
    replace HR : Hid (RdG w1 (w1).heap.size A R) := HR.out.on HBq.out
    replace K0 : Hid ((w1).cell? ⟨w.heap.size, 0, none⟩ = some (.slice A N c)) := (HBq.out.cell (World.block_lt_of_cell? _ _ K0.out)).trans K0.out
    replace K1 : Hid ((w1).cell? ⟨(w.alloc (.cells #[.slice A N c] 24)).heap.size, 0, none⟩ = some (.int .u64 (set : Int))) := (HBq.out.cell (World.block_lt_of_cell? _ _ K1.out)).trans K1.out
    clear HBq
    clear HBc
    have Q1 : Hid (RdV w1 (w1).heap.size (some ⟨b1, 0, none⟩) (zc (ns l))) := q1
    clear q1
    have HC := Lib.hid (corebegun_true w1)
    go_wp2_with fail
    refine HC.out.mono ?_
    rintro e w2 ⟨rfl, bq⟩
    clear HC
    have HBc := Lib.hid bq; clear bq
    have HBq : Hid (Below w1.heap.size w1 w2) := HBc.out
    replace HB : Hid (Below w.heap.size w w2) := HB.out.trans (HBq.out.mono HB.out.size)
    replace HR : Hid (RdG w2 (w2).heap.size A R) := HR.out.on HBq.out
    replace K0 : Hid ((w2).cell? ⟨w.heap.size, 0, none⟩ = some (.slice A N c)) := (HBq.out.cell (World.block_lt_of_cell? _ _ K0.out)).trans K0.out
    replace K1 : Hid ((w2).cell? ⟨(w.alloc (.cells #[.slice A N c] 24)).heap.size, 0, none⟩ = some (.int .u64 (set : Int))) := (HBq.out.cell (World.block_lt_of_cell? _ _ K1.out)).trans K1.out
    replace Q1 : Hid (RdV w2 (w2).heap.size (some ⟨b1, 0, none⟩) (zc (ns l))) := Q1.out.on HBq.out
    clear HBq
    clear HBc
    obtain ⟨Bs, hBs⟩ : ∃ Bs, (w.alloc (.cells #[.slice A N c] 24)).heap.size = Bs := ⟨_, rfl⟩
    rw [hBs] at K1
    rw [World.size_alloc] at hBs
    obtain ⟨Ba, hBa⟩ : ∃ Ba, w.heap.size = Ba := ⟨_, rfl⟩
    rw [hBa] at hBs
    subst hBs
    have HV : Hid (∀ V, Below w2.heap.size w2 V → V.cell? ⟨Ba, 0, none⟩ = some (.slice A N c) ∧ V.cell? ⟨Ba + 1, 0, none⟩ = some (.int .u64 (set : Int)) ∧ RdG V V.heap.size A R ∧ RdV V V.heap.size (some ⟨b1, 0, none⟩) (zc (ns l)) ∧ Below w.heap.size w V) := fun V hV => ⟨by rw [← hBa]; exact (hV.cell (World.block_lt_of_cell? _ _ K0.out)).trans K0.out, (hV.cell (World.block_lt_of_cell? _ _ K1.out)).trans K1.out, HR.out.on hV, Q1.out.on hV, HB.out.trans (hV.mono HB.out.size)⟩
    clear K0 K1 HR Q1 HB HNu
    go_wp2
    clear hBa
    have HIn : Hid (∀ i, i < N → ∀ V, Below w2.heap.size w2 V → Calls Try.prog 31 #[.int .i64 (i : Int), .pointer (some ⟨Ba + 1, 0, none⟩)] V fun e w' => e = .returned (.bool (setB set i)) ∧ w' = V) := fun i hi V hV => cnu1_any i set (Ba + 1) (by omega) hs V (HV.out V hV).2.1
    clear hs
    obtain ⟨S, hS⟩ : ∃ S, setB set = S := ⟨_, rfl⟩
    rw [hS] at HIn
    clear hS
    go_loopw [8, 9] (fun v p wr => ∃ (i : Nat) (v' : Int), i ≤ N ∧ v = .int .i64 v' ∧ p = .int .i64 (i : Int) ∧ Below w2.heap.size w2 wr ∧ LeastI f N S i v') (fun _ p _ => N - (intOf p).toNat)
    case atStart => exact ⟨0, -1, Nat.zero_le _, rfl, rfl, Below.refl _ _, LeastI.zero f N S⟩
    case round =>
     as_aux_lemma =>
      obtain ⟨i, lv, hi, rfl, rfl, hb, hle⟩ := hrel
      by_cases hlt : i < N
      · have HLe := Lib.hid hle
        have HBi := Lib.hid hb
        obtain ⟨ci, hci⟩ : ∃ ci, l[i]?.getD 0 = ci := ⟨_, rfl⟩
        have HCi := Lib.hid hci
        have t1 : (0 : Int) ≤ (i : Int) := by omega
        have t2 : (i : Int) < (N : Int) := by omega
        clear hle hb hci
        go_wp2
        go_loopw [10, 11, 12] (fun o s p wq => ∃ k : Nat, k ≤ N ∧ o = .int .i64 ((dg f k (fun m => decide (ci ≤ l[m]?.getD 0)) i : Nat) : Int) ∧ s = .int .i64 ((dg f k S i : Nat) : Int) ∧ p = .int .i64 (k : Int) ∧ Below w2.heap.size w2 wq) (fun _ _ p _ => N - (intOf p).toNat)
        case atStart => exact ⟨0, Nat.zero_le _, rfl, rfl, rfl, HBi.out⟩
        case round =>
         as_aux_lemma =>
          obtain ⟨k, hk, rfl, rfl, rfl, hb⟩ := hrel
          by_cases hkt : k < N
          · have HO := dg_succ f k (fun m => decide (ci ≤ l[m]?.getD 0)) i
            have HS := dg_succ f k S i
            have hd1 := dg_le f k (fun m => decide (ci ≤ l[m]?.getD 0)) i
            have hd2 := dg_le f k S i
            obtain ⟨ck, hck⟩ : ∃ ck, l[k]?.getD 0 = ck := ⟨_, rfl⟩
            simp only [hck] at HO
            have HOs := Lib.hid HO
            have HSs := Lib.hid HS
            clear HO HS
            have HCn : Hid (∀ V, Below w2.heap.size w2 V → Calls Try.prog 32 #[.agg #[.slice A N c], .int .i64 (i : Int), .int .i64 (k : Int)] V fun e w' => e = .returned (.bool (f i k)) ∧ Below V.heap.size V w') := fun V hV => HNe.out i k hlt hkt V (HV.out V hV).2.2.1
            have HKc : Hid (∀ V, Below w2.heap.size w2 V → V.cell? ⟨Ba, 0, none⟩ = some (.slice A N c) ∧ V.cell? ⟨b1, k, none⟩ = some (.int .i64 (ck : Int)) ∧ V.cell? ⟨b1, i, none⟩ = some (.int .i64 (ci : Int))) := fun V hV => by
              obtain ⟨a1, -, -, a3, -⟩ := HV.out V hV
              have a4 := rd_at0 a3 HL.out.1 hkt
              have a5 := rd_at0 a3 HL.out.1 hlt
              rw [hck] at a4
              rw [HCi.out] at a5
              exact ⟨a1, a4, a5⟩
            have HCs := Lib.hid (fun V hV => HIn.out k hkt V hV)
            have HBk := Lib.hid hb
            have t3 : (0 : Int) ≤ (k : Int) := by omega
            have t4 : (k : Int) < (N : Int) := by omega
            have b1' : dg f k (fun m => decide (ci ≤ l[m]?.getD 0)) i ≤ 100 := by omega
            have b2' : dg f k S i ≤ 100 := by omega
            clear hb hck hd1 hd2
            generalize dg f k (fun m => decide (ci ≤ l[m]?.getD 0)) i = own at *
            generalize dg f k S i = some' at *
            generalize f i k = z at *
            cases z with
            | false =>
              have HO2 : Hid (dg f (k + 1) (fun m => decide (ci ≤ l[m]?.getD 0)) i = own) := by show _ = _; rw [HOs.out]; simp
              have HS2 : Hid (dg f (k + 1) S i = some') := by show _ = _; rw [HSs.out]; simp
              clear HOs HSs HCs
              go_wp2_with fail
              refine Code.wp_mono OnlyN.imp (wp_region_held_drew (S := fun w' => Below w2.heap.size w2 w') (by kernel_rfl) (HBk.out.drew) (fun hHeld => ?_))
              (refine gheld_val (i := 0) rfl (by kernel_rfl) (by kernel_rfl) (by kernel_rfl) hHeld (by rfl) ?_; apply Exists.intro; refine ⟨fun wq hSw => ?_, ?_⟩; ((try dsimp only at hSw); have c1 := (HKc.out _ hSw).1; go_simp; try rfl); try simp only [Act.put, List.setIfInBounds_toArray, List.set_cons_zero, List.set_cons_succ])
              (refine gheld_val (i := 1) rfl (by kernel_rfl) (by kernel_rfl) (by kernel_rfl) hHeld (by rfl) ?_; apply Exists.intro; refine ⟨fun wq hSw => ?_, ?_⟩; ((try dsimp only at hSw); go_simp; try rfl); try simp only [Act.put, List.setIfInBounds_toArray, List.set_cons_zero, List.set_cons_succ])
              (refine gheld_val (i := 2) rfl (by kernel_rfl) (by kernel_rfl) (by kernel_rfl) hHeld (by rfl) ?_; apply Exists.intro; refine ⟨fun wq hSw => ?_, ?_⟩; ((try dsimp only at hSw); go_simp; try rfl); try simp only [Act.put, List.setIfInBounds_toArray, List.set_cons_zero, List.set_cons_succ])
              refine wpAnyH_ready (rs := [3]) (by kernel_rfl) (by simp) ?_
              refine AllReadyH.cons (gof_drop rfl) (fun K hK => ?_) AllReadyH.nil
              go_simp
              refine (HCn.out _ hHeld).mono ?_
              rintro e wq4 ⟨rfl, b4⟩
              have hSq := hHeld.trans (b4.mono hHeld.size)
              refine hK.out _ _ (hSq) (fun hHeld => ?_)
              clear hK K
              try simp only [Act.put, List.setIfInBounds_toArray, List.set_cons_zero, List.set_cons_succ]
              (refine gheld_val (i := 4) rfl (by kernel_rfl) (by kernel_rfl) (by kernel_rfl) hHeld (by rfl) ?_; apply Exists.intro; refine ⟨fun wq hSw => ?_, ?_⟩; ((try dsimp only at hSw); go_simp; try rfl); try simp only [Act.put, List.setIfInBounds_toArray, List.set_cons_zero, List.set_cons_succ])
              (refine gskipC (i := 5) rfl (by kernel_rfl) (by kernel_rfl) (by kernel_rfl) hHeld (by rfl) ?_; try simp only [Act.put, List.setIfInBounds_toArray, List.set_cons_zero, List.set_cons_succ])
              (refine gskipC (i := 6) rfl (by kernel_rfl) (by kernel_rfl) (by kernel_rfl) hHeld (by rfl) ?_; try simp only [Act.put, List.setIfInBounds_toArray, List.set_cons_zero, List.set_cons_succ])
              (refine gskipC (i := 7) rfl (by kernel_rfl) (by kernel_rfl) (by kernel_rfl) hHeld (by rfl) ?_; try simp only [Act.put, List.setIfInBounds_toArray, List.set_cons_zero, List.set_cons_succ])
              (refine gskipC (i := 8) rfl (by kernel_rfl) (by kernel_rfl) (by kernel_rfl) hHeld (by rfl) ?_; try simp only [Act.put, List.setIfInBounds_toArray, List.set_cons_zero, List.set_cons_succ])
              (refine gskipC (i := 9) rfl (by kernel_rfl) (by kernel_rfl) (by kernel_rfl) hHeld (by rfl) ?_; try simp only [Act.put, List.setIfInBounds_toArray, List.set_cons_zero, List.set_cons_succ])
              (refine gskipC (i := 10) rfl (by kernel_rfl) (by kernel_rfl) (by kernel_rfl) hHeld (by rfl) ?_; try simp only [Act.put, List.setIfInBounds_toArray, List.set_cons_zero, List.set_cons_succ])
              (refine gskipC (i := 11) rfl (by kernel_rfl) (by kernel_rfl) (by kernel_rfl) hHeld (by rfl) ?_; try simp only [Act.put, List.setIfInBounds_toArray, List.set_cons_zero, List.set_cons_succ])
              (refine gskipC (i := 12) rfl (by kernel_rfl) (by kernel_rfl) (by kernel_rfl) hHeld (by rfl) ?_; try simp only [Act.put, List.setIfInBounds_toArray, List.set_cons_zero, List.set_cons_succ])
              (refine gskipC (i := 13) rfl (by kernel_rfl) (by kernel_rfl) (by kernel_rfl) hHeld (by rfl) ?_; try simp only [Act.put, List.setIfInBounds_toArray, List.set_cons_zero, List.set_cons_succ])
              (refine gheld_val (i := 14) rfl (by kernel_rfl) (by kernel_rfl) (by kernel_rfl) hHeld (by rfl) ?_; apply Exists.intro; refine ⟨fun wq hSw => ?_, ?_⟩; ((try dsimp only at hSw); go_simp; try rfl); try simp only [Act.put, List.setIfInBounds_toArray, List.set_cons_zero, List.set_cons_succ])
              refine wpAnyH_done (by kernel_rfl) ⟨rfl, ?_⟩ _
              have HB4 := Lib.hid hHeld
              have HC2 := Lib.hid (HCn.out _ hHeld)
              have k4 := (HKc.out _ hHeld).1
              clear hHeld HCn HKc
              go_wp2_with fail
              refine HC2.out.mono ?_
              rintro e w5 ⟨rfl, b5⟩
              have HB5 := Lib.hid (HB4.out.trans (b5.mono HB4.out.size))
              clear b5 HC2 k4
              go_wp2
              go_roundw
              case rel => exact ⟨k + 1, by omega, by rw [HO2.out], by rw [HS2.out], by go_num, HB5.out⟩
              case measure => simp [intOf]; omega
            | true =>
              have HS2 : Hid (S k = false → dg f (k + 1) S i = some') := fun q => by rw [HSs.out, q]; simp
              have HS3 : Hid (S k = true → dg f (k + 1) S i = some' + 1) := fun q => by rw [HSs.out, q]; simp
              clear HSs
              go_wp2_with fail
              rename_i hKK
              have HKK := Lib.hid hKK; clear hKK
              go_region_held3 (fun w' => w'.cell? ⟨Ba, 0, none⟩ = some (.slice A N c) ∧ w'.cell? ⟨b1, k, none⟩ = some (.int .i64 (ck : Int)) ∧ w'.cell? ⟨b1, i, none⟩ = some (.int .i64 (ci : Int)))
                ((first | exact HKc.out _ HBk.out.drew | exact HKc.out _ HB4.out))
                ((first | (go_at_call 32; refine (HCn.out _ HBk.out.drew).mono ?_; rintro e w4 ⟨rfl, b4⟩; have HB4 : Hid (Below w2.heap.size w2 w4) := HBk.out.drew.trans (b4.mono HBk.out.size); clear b4)))
              refine HKK.out _ _ ?_
              clear HKK
              have HC2 := Lib.hid (HCn.out _ HB4.out)
              have k4 := (HKc.out _ HB4.out).1
              clear HCn HKc
              by_cases hcc : ci ≤ ck
              · skip
                have t5 : decide ((ci : Int) ≤ (ck : Int)) = true := by simp; omega
                have t5n : decide (ci ≤ ck) = true := by simp; omega
                have HO2 : Hid (dg f (k + 1) (fun m => decide (ci ≤ l[m]?.getD 0)) i = own + 1) := by show _ = _; rw [HOs.out, t5n]; simp
                clear HOs
                go_wp2_with fail
                refine HC2.out.mono ?_
                rintro e w5 ⟨rfl, b5⟩
                have HB5 := Lib.hid (HB4.out.trans (b5.mono HB4.out.size))
                clear b5 HC2 k4
                have HC3 := Lib.hid (HCs.out _ HB5.out)
                generalize S k = q at *
                go_wp2_with fail
                refine HC3.out.mono ?_
                rintro e w6 ⟨rfl, rfl⟩
                clear HC3 HCs
                cases q with
                | false =>
                  have HS4 := Lib.hid (HS2.out rfl)
                  go_wp2
                  go_roundw
                  case rel => exact ⟨k + 1, by omega, by rw [HO2.out]; go_num, by rw [HS4.out], by go_num, HB5.out⟩
                  case measure => simp [intOf]; omega
                | true =>
                  have HS4 := Lib.hid (HS3.out rfl)
                  go_wp2
                  go_roundw
                  case rel => exact ⟨k + 1, by omega, by rw [HO2.out]; go_num, by rw [HS4.out]; go_num, by go_num, HB5.out⟩
                  case measure => simp [intOf]; omega
              · skip
                have t5 : decide ((ci : Int) ≤ (ck : Int)) = false := by simp; omega
                have t5n : decide (ci ≤ ck) = false := by simp; omega
                have HO2 : Hid (dg f (k + 1) (fun m => decide (ci ≤ l[m]?.getD 0)) i = own) := by show _ = _; rw [HOs.out, t5n]; simp
                clear HOs
                go_wp2_with fail
                refine HC2.out.mono ?_
                rintro e w5 ⟨rfl, b5⟩
                have HB5 := Lib.hid (HB4.out.trans (b5.mono HB4.out.size))
                clear b5 HC2 k4
                have HC3 := Lib.hid (HCs.out _ HB5.out)
                generalize S k = q at *
                go_wp2_with fail
                refine HC3.out.mono ?_
                rintro e w6 ⟨rfl, rfl⟩
                clear HC3 HCs
                cases q with
                | false =>
                  have HS4 := Lib.hid (HS2.out rfl)
                  go_wp2
                  go_roundw
                  case rel => exact ⟨k + 1, by omega, by rw [HO2.out], by rw [HS4.out], by go_num, HB5.out⟩
                  case measure => simp [intOf]; omega
                | true =>
                  have HS4 := Lib.hid (HS3.out rfl)
                  go_wp2
                  go_roundw
                  case rel => exact ⟨k + 1, by omega, by rw [HO2.out], by rw [HS4.out]; go_num, by go_num, HB5.out⟩
                  case measure => simp [intOf]; omega
          · obtain rfl : k = N := by omega
            have hso := seid_own HL.out.2 hlt
            rw [HCi.out] at hso
            obtain ⟨k0, -, -, hq, -⟩ := HV.out _ hb
            have k1 := rd_at0 hq HL.out.1 hlt
            rw [HCi.out] at k1
            have HC := Lib.hid (HIn.out i hlt _ hb)
            have HNo := Lib.hid (fun q => HLe.out.no (i := i) q)
            have HSt := Lib.hid (fun p q => HLe.out.stay (i := i) p q)
            have HGo := Lib.hid (fun p => HLe.out.go (i := i) p)
            have HBk := Lib.hid hb
            have hd1 := dg_le f k (fun m => decide (ci ≤ l[m]?.getD 0)) i
            have hd2 := dg_le f k S i
            clear hq hb
            generalize dg f k (fun m => decide (ci ≤ l[m]?.getD 0)) i = own at *
            generalize dg f k S i = some' at *
            have t5 : decide ((own : Int) < (ci : Int)) = false := by simp; omega
            have t5n : decide (own < ci) = false := by simp; omega
            generalize S i = q at *
            go_wp2_with fail
            refine HC.out.mono ?_
            rintro e w6 ⟨rfl, rfl⟩
            clear HC k0
            cases q with
            | false =>
              have HE := Lib.hid (HNo.out rfl)
              go_wp2
              go_roundw
              case rel => exact ⟨i + 1, lv, by omega, rfl, by go_num, HBk.out, HE.out⟩
              case measure => simp [intOf]; omega
            | true =>
              by_cases h1 : lv < 0
              · have HE := Lib.hid (HGo.out (.inl h1))
                have u1 : decide (lv < 0) = true := decide_eq_true h1
                clear h1
                go_wp2
                go_roundw
                case rel => exact ⟨i + 1, _, by omega, rfl, by go_num, HBk.out, HE.out⟩
                case measure => simp [intOf]; omega
              · have u1 : decide (lv < 0) = false := decide_eq_false h1
                by_cases h2 : (some' : Int) < lv
                · have HE := Lib.hid (HGo.out (.inr h2))
                  have u2 : decide ((some' : Int) < lv) = true := decide_eq_true h2
                  clear h1 h2
                  go_wp2
                  go_roundw
                  case rel => exact ⟨i + 1, _, by omega, rfl, by go_num, HBk.out, HE.out⟩
                  case measure => simp [intOf]; omega
                · have HE := Lib.hid (HSt.out (by omega) (by omega))
                  have u2 : decide ((some' : Int) < lv) = false := decide_eq_false h2
                  clear h1 h2
                  go_wp2
                  go_roundw
                  case rel => exact ⟨i + 1, lv, by omega, rfl, by go_num, HBk.out, HE.out⟩
                  case measure => simp [intOf]; omega
      · obtain rfl : i = N := by omega
        have HFin : Hid (∀ j, j < i → S j = true → ¬ ((l[j]?.getD 0 : Nat) : Int) < lv) := fun j hj hs => hle.fin HL.out.2 hj hs
        have HBi := Lib.hid hb
        clear hle hb
        go_wp2
        go_loopw [13] (fun p wr => ∃ k : Nat, k ≤ i ∧ p = .int .i64 (k : Int) ∧ Below w2.heap.size w2 wr) (fun p _ => i - (intOf p).toNat)
        case atStart => exact ⟨0, Nat.zero_le _, rfl, HBi.out⟩
        case round =>
         as_aux_lemma =>
          obtain ⟨k, hk, rfl, hb⟩ := hrel
          by_cases hkt : k < i
          · have HC := Lib.hid (HIn.out k hkt _ hb)
            have HF := Lib.hid (HFin.out k hkt)
            have k1 := rd_at0 (HV.out _ hb).2.2.2.1 HL.out.1 hkt
            have HBk := Lib.hid hb
            have t1 : (0 : Int) ≤ (k : Int) := by omega
            have t2 : (k : Int) < (i : Int) := by omega
            clear hb
            generalize l[k]?.getD 0 = ck at *
            generalize S k = q at *
            go_wp2_with fail
            refine HC.out.mono ?_
            rintro e w6 ⟨rfl, rfl⟩
            clear HC
            cases q with
            | false =>
              go_wp2
              go_roundw
              case rel => exact ⟨k + 1, by omega, by go_num, HBk.out⟩
              case measure => simp [intOf]; omega
            | true =>
              have u2 : decide ((ck : Int) < lv) = false := decide_eq_false (by have := HF.out rfl; omega)
              go_wp2
              go_roundw
              case rel => exact ⟨k + 1, by omega, by go_num, HBk.out⟩
              case measure => simp [intOf]; omega
          · have HF := Lib.hid (HV.out _ hb).2.2.2.2
            have t2 : decide ((k : Int) < (i : Int)) = false := by simp; omega
            have t2n : decide (k < i) = false := by simpa using hkt
            clear hb
            go_wp2
            go_ret
            exact ⟨rfl, HF.out⟩
  · have HNu := Lib.hid (lw_num_e R N hN hn _ rfl e0)
    have t1 : (grE (gs R) == 0) = false := by simpa using e0
    have u1 : (grE (gs R) != 0) = true := by simpa using e0
    clear e0 hN hn hs
    generalize grE (gs R) = e1 at *
    have HB : Hid (Below w.heap.size w w) := Below.refl _ w
    have HR := Lib.hid hA; clear hA
    go_enter Try.func8, Try.ntmps8
    have HBq : Hid (Below w.heap.size w (w.alloc (.cells #[.slice A N c] 24))) := one_below _ _
    replace HB : Hid (Below w.heap.size w (w.alloc (.cells #[.slice A N c] 24))) := HB.out.trans (HBq.out.mono HB.out.size)
    replace HR : Hid (RdG (w.alloc (.cells #[.slice A N c] 24)) ((w.alloc (.cells #[.slice A N c] 24))).heap.size A R) := HR.out.on HBq.out
    clear HBq
    have K0 : Hid (((w.alloc (.cells #[.slice A N c] 24))).cell? ⟨w.heap.size, 0, none⟩ = some (.slice A N c)) := (cell_at (World.alloc_heap_new w _) 0).trans rfl
    have HBq : Hid (Below (w.alloc (.cells #[.slice A N c] 24)).heap.size (w.alloc (.cells #[.slice A N c] 24)) ((w.alloc (.cells #[.slice A N c] 24)).alloc (.cells #[.int .u64 (set : Int)] 53))) := one_below _ _
    replace HB : Hid (Below w.heap.size w ((w.alloc (.cells #[.slice A N c] 24)).alloc (.cells #[.int .u64 (set : Int)] 53))) := HB.out.trans (HBq.out.mono HB.out.size)
    replace HR : Hid (RdG ((w.alloc (.cells #[.slice A N c] 24)).alloc (.cells #[.int .u64 (set : Int)] 53)) (((w.alloc (.cells #[.slice A N c] 24)).alloc (.cells #[.int .u64 (set : Int)] 53))).heap.size A R) := HR.out.on HBq.out
    replace K0 : Hid ((((w.alloc (.cells #[.slice A N c] 24)).alloc (.cells #[.int .u64 (set : Int)] 53))).cell? ⟨w.heap.size, 0, none⟩ = some (.slice A N c)) := (HBq.out.cell (World.block_lt_of_cell? _ _ K0.out)).trans K0.out
    clear HBq
    have K1 : Hid ((((w.alloc (.cells #[.slice A N c] 24)).alloc (.cells #[.int .u64 (set : Int)] 53))).cell? ⟨(w.alloc (.cells #[.slice A N c] 24)).heap.size, 0, none⟩ = some (.int .u64 (set : Int))) := (cell_at (World.alloc_heap_new (w.alloc (.cells #[.slice A N c] 24)) _) 0).trans rfl
    have HC := Lib.hid (HNu.out A c _ HR.out)
    have k_K0 := K0.out
    go_wp2_with fail
    clear k_K0
    refine HC.out.mono ?_
    rintro e w1 ⟨rfl, bq⟩
    clear HC
    have HBc := Lib.hid bq; clear bq
    have HBq : Hid (Below ((w.alloc (.cells #[.slice A N c] 24)).alloc (.cells #[.int .u64 (set : Int)] 53)).heap.size ((w.alloc (.cells #[.slice A N c] 24)).alloc (.cells #[.int .u64 (set : Int)] 53)) w1) := HBc.out
    replace HB : Hid (Below w.heap.size w w1) := HB.out.trans (HBq.out.mono HB.out.size)
    replace HR : Hid (RdG w1 (w1).heap.size A R) := HR.out.on HBq.out
    replace K0 : Hid ((w1).cell? ⟨w.heap.size, 0, none⟩ = some (.slice A N c)) := (HBq.out.cell (World.block_lt_of_cell? _ _ K0.out)).trans K0.out
    replace K1 : Hid ((w1).cell? ⟨(w.alloc (.cells #[.slice A N c] 24)).heap.size, 0, none⟩ = some (.int .u64 (set : Int))) := (HBq.out.cell (World.block_lt_of_cell? _ _ K1.out)).trans K1.out
    clear HBq
    clear HBc
    have HC := Lib.hid (corebegun_true w1)
    go_wp2_with fail
    refine HC.out.mono ?_
    rintro e w2 ⟨rfl, bq⟩
    clear HC
    have HBc := Lib.hid bq; clear bq
    have HBq : Hid (Below w1.heap.size w1 w2) := HBc.out
    replace HB : Hid (Below w.heap.size w w2) := HB.out.trans (HBq.out.mono HB.out.size)
    replace HR : Hid (RdG w2 (w2).heap.size A R) := HR.out.on HBq.out
    replace K0 : Hid ((w2).cell? ⟨w.heap.size, 0, none⟩ = some (.slice A N c)) := (HBq.out.cell (World.block_lt_of_cell? _ _ K0.out)).trans K0.out
    replace K1 : Hid ((w2).cell? ⟨(w.alloc (.cells #[.slice A N c] 24)).heap.size, 0, none⟩ = some (.int .u64 (set : Int))) := (HBq.out.cell (World.block_lt_of_cell? _ _ K1.out)).trans K1.out
    clear HBq
    clear HBc
    go_wp2
    go_ret
    exact ⟨rfl, HB.out⟩
end

section
section
open Go.ChangeShapes Go.WideShapes Go.ChangeAt Go.RowKit Go.Joins

theorem cells3i : Try.prog.cellsOf 3 = 1 := by kernel_rfl

set_option maxRecDepth 100000 in
/-- Numbers that were handed in. -/
theorem open_zs {H : Type} {enc : TypeId × Value → H} {W : World} {base : Nat} {v : Value} {d : DataW H} {p : List MemPlace}
    (hv : Value.okWide Try.prog W .any base 25 v) (h : DataW.Trod enc Try.prog W 0 (fun _ => true) true 25 v d p) :
    ∃ (A : Option Addr) (c : Nat) (xs : List Int), v = .slice A xs.length c ∧ xs.length ≤ c ∧ (A = none → c = 0) ∧ RdV W W.heap.size A (zc xs) ∧ (∀ x ∈ xs, -9223372036854775808 ≤ x ∧ x ≤ 9223372036854775807) ∧ xs.length ≤ 9223372036854775807 := by
  obtain ⟨a0, len0, cap0, rfl⟩ := okWide_slice Try.underlying25 hv
  obtain ⟨fuel, hf⟩ := h
  rcases open_ints Try.underlying25 Try.underlying3 cells3i hf with ⟨hcs, _⟩ | ⟨x, l, c, zs, hcs, _, hl, hm, hz, _, hcell, hwz⟩
  · simp [Value.cells] at hcs
    obtain ⟨rfl, rfl, rfl⟩ := hcs
    exact ⟨none, 0, [], rfl, by simp, fun _ => rfl, .inl rfl, by simp, by simp⟩
  · simp [Value.cells] at hcs
    obtain ⟨rfl, rfl, rfl⟩ := hcs
    have hzc : zs.length = cap0 := by simpa using hz
    have hlen : (zs.take len0).length = len0 := by rw [List.length_take]; omega
    unfold maxLen at hm
    refine ⟨some x, cap0, zs.take len0, by rw [hlen], by rw [hlen]; exact hl, (fun h => by cases h), ?_, ?_, by rw [hlen]; omega⟩
    · rcases Nat.eq_zero_or_pos len0 with h0 | h0
      · left; rw [h0]; rfl
      · obtain ⟨b, off, rfl, hc⟩ := ints_at hcell (by omega)
        refine .inr ⟨b, off, rfl, lt_of_cell (hc 0 (by omega)), fun i v hi => ?_⟩
        have hil : i < len0 := by
          rcases Nat.lt_or_ge i len0 with h | h
          · exact h
          · rw [List.getElem?_eq_none (by rw [zc_length, hlen]; exact h)] at hi; cases hi
        rw [zc_get _ i (by rw [hlen]; exact hil)] at hi
        cases hi
        rw [hc i (by omega)]
        have hz0 : zs.getD i 0 = zs[i]'(by omega) := by rw [List.getD_eq_getElem?_getD, List.getElem?_eq_getElem (by omega)]; rfl
        have e1 : (zs.take len0)[i]?.getD 0 = zs[i]'(by omega) := by
          rw [List.getElem?_take_of_lt hil, List.getElem?_eq_getElem (by omega)]; rfl
        rw [e1, hz0]
    · intro n hn
      exact bounds_i64 (hwz n (List.mem_of_mem_take hn))
end

section
open Go.ChangeShapes Go.WideShapes Go.ChangeAt Go.RowKit Go.Joins Go.Deep

theorem cellsG : Try.prog.cellsOf 24 = 1 := by kernel_rfl
theorem cellsL1 : Try.prog.cellsOf 25 = 1 := by kernel_rfl
theorem cellsL2 : Try.prog.cellsOf 22 = 1 := by kernel_rfl
theorem bytesL1 : Try.prog.bytesOf 25 = 24 := by kernel_rfl
theorem bytesI1 : Try.prog.bytesOf 3 = 8 := by kernel_rfl
theorem weightsAll_mem {H : Type} {P : Program} {e : TypeId} {n : Nat} : ∀ {l : List (DataW H)} {d : DataW H}, d ∈ l → n ∈ d.weights P e → n ∈ DataW.weightsAll P e l
  | x :: t, d, hd, hn => by
    simp only [DataW.weightsAll, List.mem_append]
    rcases List.mem_cons.1 hd with rfl | h
    · exact .inl hn
    · exact .inr (weightsAll_mem h hn)
theorem add_plG (b off k : Nat) : (⟨b, off, none⟩ : Addr).add k = ⟨b, off + k, none⟩ := by unfold Addr.add; split <;> simp_all
theorem zc_mem {l : List Int} {i : Nat} {v : Value} (h : (zc l)[i]? = some v) : ∃ hi : i < l.length, v = .int .i64 l[i] := by
  unfold zc at h
  rw [List.getElem?_map] at h
  obtain ⟨x, hx, rfl⟩ := Option.map_eq_some_iff.1 h
  obtain ⟨hi, rfl⟩ := List.getElem?_eq_some_iff.1 hx
  exact ⟨hi, rfl⟩
set_option maxRecDepth 100000 in
/-- A graph that was handed in. -/
theorem open_graph {H : Type} {enc : TypeId × Value → H} {W : World} {base : Nat} {v : Value} {d : DataW H} {p : List MemPlace}
    (hv : Value.okWide Try.prog W .any base 24 v) (h : DataW.Trod enc Try.prog W 0 (fun _ => true) true 24 v d p)
    (hz : ∀ n ∈ d.weights Try.prog 24, n ≤ reachBytes) :
    ∃ (A : Option Addr) (c : Nat) (R : List Rw), v = .agg #[.slice A R.length c] ∧ RdG W W.heap.size A R ∧ R.length ≤ 140737488355328 := by
  obtain ⟨cs, rfl, hsz⟩ := okWide_struct Try.underlying24 hv
  obtain ⟨c0, rfl⟩ := Array.size_eq_one_iff.1 (hsz.trans cellsG)
  obtain ⟨fuel, hf⟩ := h
  obtain ⟨y0, n, hx, _, h0⟩ := trod_struct1 Try.underlying24 hf
  simp only [Prod.mk.injEq] at hx
  obtain ⟨rfl, rfl⟩ := hx
  simp [Value.cells, cellsL2] at h0
  have hz0 : ∀ n ∈ y0.1.weights Try.prog 22, n ≤ reachBytes := fun n hn => hz n (by
    unfold DataW.weights
    rw [Try.underlying24]
    simp only [List.map_cons, List.map_nil, DataW.weightsEach, List.append_nil]
    exact hn)
  have hrb := reachBytes_lt
  rcases open_int_rows Try.underlying22 Try.underlying25 Try.underlying3 cellsL1 cells3i h0 with ⟨hcs, _⟩ | ⟨a, len, cap, A, L, C, Z, hcs, _, hl, hm, hx, hrow⟩
  · simp at hcs
    subst hcs
    exact ⟨none, 0, [], rfl, ⟨.inl rfl, fun r hr => by simp at hr⟩, by simp⟩
  · simp at hcs
    subst hcs
    rw [hx] at hz0
    have hlen : (len + (cap - len)) * 24 ≤ reachBytes := hz0 _ (by
      simp only [DataW.weights, Try.underlying22, List.length_map, List.length_range, bytesL1]
      exact List.mem_cons_self)
    have hrl : ∀ r, r < len → L r ≤ 140737488355328 := fun r hr => by
      obtain ⟨_, q1, q2, q3, _, q5, _⟩ := hrow r (by omega)
      cases hA : A r with
      | none => rw [q5 hA] at q1; omega
      | some a' =>
        have := hz0 (((Z r).take (L r)).length * 8 + ((Z r).drop (L r)).length * 8) (by
          simp only [DataW.weights, Try.underlying22, List.length_map, List.length_range, bytesL1]
          refine List.mem_cons_of_mem _ (List.mem_append.2 (.inl (weightsAll_mem (List.mem_map.2 ⟨r, List.mem_range.2 hr, rfl⟩) ?_)))
          unfold intRow
          rw [hA]
          simp only [DataW.weights, Try.underlying25, bytesI1, lits, List.length_map]
          refine List.mem_cons.2 (.inl ?_)
          omega)
        rw [List.length_take] at this
        omega
    refine ⟨some a, cap, (List.range len).map fun r => (A r, C r, (Z r).take (L r)), by simp, ⟨?_, ?_⟩, by simp; omega⟩
    · rcases Nat.eq_zero_or_pos len with h0 | h0
      · left; rw [h0]; rfl
      · obtain ⟨b, off, spot⟩ := a
        have hspot : spot = none := by simpa [Addr.add] using World.cell?_spot (hrow 0 (by omega)).1
        subst hspot
        refine .inr ⟨b, off, rfl, ?_, fun i v hi => ?_⟩
        · have := (hrow 0 (by omega)).1
          exact lt_of_cell (p := ⟨b, off + 0, none⟩) (by rw [← add_plG]; exact this)
        · unfold rcl at hi
          rw [List.getElem?_map, List.getElem?_map] at hi
          obtain ⟨y, hy, rfl⟩ := Option.map_eq_some_iff.1 hi
          obtain ⟨j, hj, rfl⟩ := Option.map_eq_some_iff.1 hy
          obtain ⟨hil, rfl⟩ := List.getElem?_eq_some_iff.1 hj
          rw [List.length_range] at hil
          have := hrow i (by omega)
          rw [add_plG] at this
          simp only [List.getElem_range]
          unfold sl
          simp only [List.length_take]
          rw [this.1]
          have e : min (L i) (Z i).length = L i := by have q1 := this.2.1; have q2 := this.2.2.2.1; omega
          rw [e]
    · intro r hr
      obtain ⟨i, hi, rfl⟩ := List.mem_map.1 hr
      have hil := List.mem_range.1 hi
      obtain ⟨q0, q1, q2, q3, q4, q5, q6⟩ := hrow i (by omega)
      refine ⟨?_, by simp only [List.length_take]; have := hrl i hil; omega⟩
      simp only
      rcases Nat.eq_zero_or_pos (L i) with h0 | h0
      · left; rw [h0]; rfl
      · cases hA : A i with
        | none => rw [q5 hA] at q1; omega
        | some a' =>
          obtain ⟨_, q7⟩ := q6 a' hA
          obtain ⟨b, off, spot⟩ := a'
          have hspot : spot = none := by simpa [Addr.add] using World.cell?_spot (q7 0 (by omega))
          subst hspot
          refine .inr ⟨b, off, rfl, ?_, fun j v hj => ?_⟩
          · have := q7 0 (by omega)
            exact lt_of_cell (p := ⟨b, off + 0, none⟩) (by rw [← add_plG]; exact this)
          · obtain ⟨hjl, rfl⟩ := zc_mem hj
            have hjl2 : j < L i := by rw [List.length_take] at hjl; omega
            have := q7 j (by omega)
            rw [add_plG] at this
            rw [this]
            simp [List.getD_eq_getElem?_getD, List.getElem?_eq_getElem (show j < (Z i).length by omega)]
end
end

section
open Go.ChangeShapes Go.WideShapes Go.ChangeAt Go.RowKit
open Go.ChangeMaps (open_string shut_string)

set_option linter.unusedVariables false
set_option maxRecDepth 100000 in
theorem coreNumbers_lifted (os : Os) (started : os.Started) (H : Type) (enc : TypeId × Value → H) :
    ReturnsInHanded {} Try.checked os 8 .any (Rows.coreNumbersSpec.pre6 enc Try.prog Try.f8 Rows.coreNumbersRow.domain false) (Rows.coreNumbersSpec.post enc Try.prog Try.f8 false true false false) := by
  refine returnsInHanded_of_change_sized (C := Try.checked) own started (by kernel_rfl) Try.func8
    (ChangeSpec.witness6 (enc := enc) (C := Try.checked) false ⟨#[], #[.agg #[.slice none 0 0], .int .u64 0], []⟩ 8 (by kernel_rfl) (by kernel_rfl) (by kernel_rfl) (by kernel_rfl)) ?_
  intro W base args ds gs before hval0 hW hcnd hzz _
  have hval : ∀ (j : Nat) t v, Try.f8.params[j]? = some t → args[j]? = some v → Value.okWide Try.prog W .any base t v := hval0
  have hW' := hW
  obtain ⟨p, q, hA0, hV, rfl, hfz, hnd⟩ := hW
  have hA : DataW.TrodAll enc Try.prog W 0 (fun _ => true) true Try.f8.params.toList args.toList ds p := hA0
  rw [Try.params8] at hA hval hzz
  obtain ⟨v0, vs0, d0, ds0, p0, q0, hargs, rfl, rfl, h0, r0⟩ := trodAll_cons hA
  obtain ⟨v1, vs1, d1, ds1, p1, q1, rfl, rfl, rfl, h1, r1⟩ := trodAll_cons r0
  obtain ⟨rfl, rfl, rfl⟩ := trodAll_nil r1
  obtain rfl : args = #[v0, v1] := by cases args; simp_all
  obtain ⟨rfl, rfl⟩ := trodVars_none hV
  have k0 := h0
  have lt0 : ∀ x ∈ p0, x.block < W.heap.size := by obtain ⟨m, hm⟩ := k0; exact DataW.trod_lt m _ _ _ hm
  obtain ⟨A0, c0, R0, rfl, rd0, nn0⟩ := open_graph (hval 0 24 v0 rfl rfl) h0 (fun n hn => of_decide_eq_true (List.all_eq_true.1 hzz n (DataW.weights_mem_each (j := 0) (t := 24) (d := d0) rfl rfl n hn)))
  obtain ⟨x1, rfl, rfl, rfl, wx1⟩ := open_int Try.underlying53 (hval 1 53 v1 rfl rfl) h1
  have bd1 := bounds_u64 wx1
  obtain ⟨n1, rfl⟩ := Int.eq_ofNat_of_zero_le bd1.1
  clear hA0 hval0
  refine (coreNumbers_law A0 c0 R0 n1 W rd0 nn0 (by omega)).mono fun e W' ⟨he, bel⟩ => ?_
  subst he
  exact ⟨_, rfl, _, _, _, [], _, [], hW', trodAll_mk1 (shut_bool Try.underlying4 _), (trodAll_cons_mk (Below.trod laidOut (by kernel_rfl) (of_decide_eq_true (by kernel_rfl)) k0 bel lt0) (trodAll_cons_mk (shut_int Try.underlying53 wx1) trodAll_mk0)), rfl, bel.frame _, fun h => by cases h⟩

theorem CoreNumbers_holds : Rows.CoreNumbersSaid :=
  OpenClaim.holds_of_wide 8 Try.f8 rfl rfl rfl rfl rfl rfl rfl ⟨rfl, rfl, rfl, rfl, rfl⟩ rfl rfl rfl rfl rfl (by kernel_rfl) Try.func8 (by kernel_rfl)
    (of_decide_eq_true (by kernel_rfl)) (by unfold Func.isWrapper; first | (rw [if_pos (by decide +kernel)]; kernel_rfl) | (rw [if_neg (by decide +kernel)]; exact ⟨rfl, rfl⟩))
    (fun os started H enc _ => coreNumbers_lifted os started H enc)
#print axioms CoreNumbers_holds
end
end Go.Proofs.Ytnbjhldpadjgfaa
