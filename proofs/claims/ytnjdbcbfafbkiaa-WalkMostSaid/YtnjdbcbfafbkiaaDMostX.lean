/- The law WalkMost: the farthest is no farther than there are other nodes, nobody's more, and some way's steps; for whatever graph. -/
import Derived.Test.YtnjdbcbfafbkiaaDJB
import Derived.Test.YtnjdbcbfafbkiaaWOp
namespace Go.Proofs.Ytnjdbcbfafbkiaa

section
set_option maxRecDepth 100000
set_option linter.unusedVariables false
open Go.RowKit Go.Shelf

/-- Is it hit by one of the first nodes? -/
def HitM (g : List (List Nat)) (m : Int) (i : Nat) : Prop := ∃ s, s < i ∧ ∃ x, x < g.length ∧ ∀ F, Fa g s F → fv F x = m
theorem hitM_next {g : List (List Nat)} {m : Int} {i : Nat} {F : List Int} (hF : Fa g i F) (hi : i < g.length) : HitM g m (i + 1) ↔ (HitM g m i ∨ ∃ x, x < g.length ∧ fv F x = m) := by
  constructor
  · rintro ⟨s, hs, x, hx, h⟩
    by_cases e : s = i
    · subst e; exact .inr ⟨x, hx, h F hF⟩
    · exact .inl ⟨s, by omega, x, hx, h⟩
  · rintro (⟨s, hs, x, hx, h⟩ | ⟨x, hx, h⟩)
    · exact ⟨s, by omega, x, hx, h⟩
    · exact ⟨i, by omega, x, hx, fun F' hF' => by rw [hF'.uniq hF]; exact h⟩
theorem MoG.lt {g : List (List Nat)} (hb : Bdd g) {m : Int} (h : MoG g m) (h0 : g.length ≠ 0) : m < (g.length : Int) := by
  rcases h.2.2 with ⟨q, _⟩ | ⟨s, hs, x, hx, hq⟩
  · exact absurd q h0
  · obtain ⟨F, hF⟩ := fa_ex g s
    rw [← hq F hF]
    exact hF.lt hb hs x hx
set_option maxHeartbeats 8000000 in
theorem walkMost_law (A : Option Addr) (c : Nat) (R : List Rw) (w : World) (hA : RdG w w.heap.size A R) (hn : R.length ≤ 140737488355328) :
    Calls Try.prog 6 #[.agg #[.slice A R.length c]] w fun e w' => e = .returned (.bool true) ∧ Below w.heap.size w w' := by
  obtain ⟨N, hN⟩ : ∃ N, R.length = N := ⟨_, rfl⟩
  rw [hN] at hn ⊢
  by_cases e0 : grE (gs R) = 0
  · obtain ⟨g, hg, hok⟩ := grE_zero _ e0
    have hgl : g.length = N := by have := congrArg List.length hg; rw [gs_length, List.length_map] at this; omega
    have hN1 : N ≤ 100 := by have := hok.nodes; omega
    have HM : Hid (∀ A c V, RdG V V.heap.size A R → Calls Try.prog 21 #[.agg #[.slice A N c]] V fun e w' => ∃ r, e = .returned (.tuple #[.int .i64 r, .int .i64 0]) ∧ MoG g r ∧ Below V.heap.size V w') := fun A c V h => most_ok R g hg hok N hN A c V h
    have HF : Hid (∀ (k : Nat) F, k < N → Fa g k F → ∀ A c V, RdG V V.heap.size A R → Calls Try.prog 14 #[.agg #[.slice A N c], .int .i64 (k : Int)] V fun e w' => ∃ b, e = .returned (.tuple #[.slice (some ⟨b, 0, none⟩) N N, .int .i64 0]) ∧ RdV w' w'.heap.size (some ⟨b, 0, none⟩) (zc F) ∧ Below V.heap.size V w') := fun k F hk hF A c V h => (far_ok R g hg hok N hN k hk F hF A c V h).mono fun e w' ⟨b, q1, q2⟩ => ⟨b, q1, q2.rd, q2.low⟩
    have HOk : Hid (GOk g ∧ g.length = N) := ⟨hok, hgl⟩
    clear e0 hN hn hg hok hgl
    have HB : Hid (Below w.heap.size w w) := Below.refl _ w
    have HR := Lib.hid hA; clear hA
    go_enter Try.func6, Try.ntmps6
    have HBq : Hid (Below w.heap.size w (w.alloc (.cells #[.slice A N c] 24))) := one_below _ _
    replace HB : Hid (Below w.heap.size w (w.alloc (.cells #[.slice A N c] 24))) := HB.out.trans (HBq.out.mono HB.out.size)
    replace HR : Hid (RdG (w.alloc (.cells #[.slice A N c] 24)) ((w.alloc (.cells #[.slice A N c] 24))).heap.size A R) := HR.out.on HBq.out
    clear HBq
    have K0 : Hid (((w.alloc (.cells #[.slice A N c] 24))).cell? ⟨w.heap.size, 0, none⟩ = some (.slice A N c)) := (cell_at (World.alloc_heap_new w _) 0).trans rfl
    have HC := Lib.hid (HM.out A c _ HR.out)
    go_wp2_with fail
    refine HC.out.mono ?_
    rintro e w1 ⟨m, rfl, mh, bq⟩
    clear HC
    have HBc := Lib.hid bq; clear bq
    have HBq : Hid (Below (w.alloc (.cells #[.slice A N c] 24)).heap.size (w.alloc (.cells #[.slice A N c] 24)) w1) := HBc.out
    replace HB : Hid (Below w.heap.size w w1) := HB.out.trans (HBq.out.mono HB.out.size)
    replace HR : Hid (RdG w1 (w1).heap.size A R) := HR.out.on HBq.out
    replace K0 : Hid ((w1).cell? ⟨w.heap.size, 0, none⟩ = some (.slice A N c)) := (HBq.out.cell (World.block_lt_of_cell? _ _ K0.out)).trans K0.out
    clear HBq
    clear HBc
    have HMo := Lib.hid mh; clear mh
    have HC := Lib.hid (walkbegun_true w1)
    go_wp2_with fail
    refine HC.out.mono ?_
    rintro e w2 ⟨rfl, bq⟩
    clear HC
    have HBc := Lib.hid bq; clear bq
    have HBq : Hid (Below w1.heap.size w1 w2) := HBc.out
    replace HB : Hid (Below w.heap.size w w2) := HB.out.trans (HBq.out.mono HB.out.size)
    replace HR : Hid (RdG w2 (w2).heap.size A R) := HR.out.on HBq.out
    replace K0 : Hid ((w2).cell? ⟨w.heap.size, 0, none⟩ = some (.slice A N c)) := (HBq.out.cell (World.block_lt_of_cell? _ _ K0.out)).trans K0.out
    clear HBq
    clear HBc
    have k0 := K0.out
    obtain ⟨h0, hh0⟩ : ∃ h0, ((N : Int) == 0) = h0 := ⟨_, rfl⟩
    have HH0 : Hid (h0 = true ↔ (N = 0 ∨ HitM g m 0)) := by
      have hz : ¬ HitM g m 0 := fun ⟨s, hs, _⟩ => absurd hs (Nat.not_lt_zero _)
      show _ ↔ _
      rw [← hh0]; simp [hz]
    have hm0 := HMo.out.1
    have t0 : decide ((0 : Int) ≤ m) = true := decide_eq_true hm0
    go_wp2
    clear k0 hh0
    go_loopw [6, 7] (fun u v wr => ∃ (i : Nat) (h : Bool), i ≤ N ∧ u = .bool h ∧ v = .int .i64 (i : Int) ∧ (h = true ↔ (N = 0 ∨ HitM g m i)) ∧ Below w2.heap.size w2 wr) (fun _ v _ => N - (intOf v).toNat)
    case atStart => exact ⟨0, h0, Nat.zero_le _, rfl, rfl, HH0.out, Below.refl _ _⟩
    case round =>
     as_aux_lemma =>
      obtain ⟨i, h, hi, rfl, rfl, hh, hbel⟩ := hrel
      have HHi := Lib.hid hh; clear hh HH0
      by_cases hlt : i < N
      · obtain ⟨F, hF⟩ := fa_ex g i
        have HFl : Hid (F.length = N) := by show _ = _; rw [hF.len]; exact HOk.out.2
        have HFa := Lib.hid hF
        have HC := Lib.hid (HF.out i F hlt hF A c wr (HR.out.on hbel))
        have HBl := Lib.hid hbel
        have kg : wr.cell? ⟨w.heap.size, 0, none⟩ = some (.slice A N c) := (hbel.cell (World.block_lt_of_cell? _ _ K0.out)).trans K0.out
        clear hF hbel
        go_wp2_with fail
        refine HC.out.mono ?_
        rintro e w3 ⟨b, rfl, q3, b3⟩
        have HQ := Lib.hid q3
        have HB3 : Hid (Below w2.heap.size w2 w3) := HBl.out.trans (b3.mono HBl.out.size)
        clear q3 b3 kg HC
        go_wp2
        go_loopw [6, 10] (fun u v wq => ∃ (k : Nat) (h' : Bool), k ≤ N ∧ u = .bool h' ∧ v = .int .i64 (k : Int) ∧ (h' = true ↔ (h = true ∨ ∃ x, x < k ∧ fv F x = m)) ∧ Below w3.heap.size w3 wq) (fun _ v _ => N - (intOf v).toNat)
        case atStart => exact ⟨0, h, Nat.zero_le _, rfl, rfl, ⟨fun q => .inl q, fun q => q.elim id (fun ⟨x, hx, _⟩ => absurd hx (Nat.not_lt_zero _))⟩, Below.refl _ _⟩
        case round =>
         as_aux_lemma =>
          obtain ⟨k, h', hk, rfl, rfl, hh, hbel⟩ := hrel
          by_cases hkl : k < N
          · have k1 := rdv_at (HQ.out.on hbel) (N := N) k (by rw [HFl.out]; exact hkl)
            have hle : fv F k ≤ m := HMo.out.2.1 i (by rw [HOk.out.2]; exact hlt) F HFa.out k (by rw [HOk.out.2]; exact hkl)
            have t1 : decide (m < fv F k) = false := by simp; omega
            have t2 : (0 : Int) ≤ (k : Int) := by omega
            have t3 : (k : Int) < (N : Int) := by omega
            obtain ⟨q, hq⟩ : ∃ q, (fv F k == m) = q := ⟨_, rfl⟩
            have HS : Hid (((h' || q) = true) ↔ (h = true ∨ ∃ x, x < k + 1 ∧ fv F x = m)) := by
              show _ ↔ _
              rw [Bool.or_eq_true, hh, ← hq, beq_iff_eq]
              constructor
              · rintro ((r | ⟨x, r1, r2⟩) | r)
                · exact .inl r
                · exact .inr ⟨x, by omega, r2⟩
                · exact .inr ⟨k, by omega, r⟩
              · rintro (r | ⟨x, r1, r2⟩)
                · exact .inl (.inl r)
                · by_cases e : x = k
                  · subst e; exact .inr r2
                  · exact .inl (.inr ⟨x, by omega, r2⟩)
            have HBk := Lib.hid hbel
            generalize fv F k = u at *
            clear hh hbel hle
            cases h' with
            | true =>
              go_wp2
              go_roundw
              case rel => exact ⟨k + 1, true, by omega, rfl, by go_num, by simpa using HS.out, HBk.out⟩
              case measure => simp [intOf]; omega
            | false =>
              go_wp2
              go_roundw
              case rel => exact ⟨k + 1, q, by omega, by simp, by go_num, by simpa using HS.out, HBk.out⟩
              case measure => simp [intOf]; omega
          · obtain rfl : k = N := by omega
            have HS : Hid (h' = true ↔ (k = 0 ∨ HitM g m (i + 1))) := by
              show _ ↔ _
              rw [hh, HHi.out, hitM_next HFa.out (by rw [HOk.out.2]; exact hlt), HOk.out.2]
              exact or_assoc
            have HBk := Lib.hid hbel
            clear hh hbel
            go_wp2
            go_roundw
            case rel => exact ⟨i + 1, h', by omega, rfl, by go_num, HS.out, HB3.out.trans (HBk.out.mono HB3.out.size)⟩
            case measure => simp [intOf]; omega
      · obtain rfl : i = N := by omega
        have HBl := Lib.hid hbel
        have hht : h = true := by
          rw [HHi.out]
          rcases HMo.out.2.2 with ⟨q, _⟩ | ⟨s, hs, x, hx, hq⟩
          · left; rw [← HOk.out.2]; exact q
          · right; exact ⟨s, by rw [← HOk.out.2]; exact hs, x, hx, hq⟩
        subst hht
        have hz : i = 0 → m = 0 := fun e => by
          rcases HMo.out.2.2 with ⟨_, q⟩ | ⟨s, hs, _⟩
          · exact q
          · rw [HOk.out.2] at hs; omega
        clear hbel
        by_cases h0 : i = 0
        · obtain rfl := hz h0
          have t1 : ((i : Int) == 0) = true := by simp [h0]
          clear hz h0
          go_wp2
          go_ret
          exact ⟨rfl, HB.out.trans (HBl.out.mono HB.out.size)⟩
        · have t1 : ((i : Int) == 0) = false := by simp [h0]
          have hml := HMo.out.lt HOk.out.1.bdd (by rw [HOk.out.2]; exact h0)
          rw [HOk.out.2] at hml
          have t2 : decide (m < (i : Int)) = true := decide_eq_true hml
          clear hz h0
          go_wp2
          go_ret
          exact ⟨rfl, HB.out.trans (HBl.out.mono HB.out.size)⟩
  · have HM : Hid (∀ A c V, RdG V V.heap.size A R → ∃ e1 : Int, (e1 == 0) = false ∧ Calls Try.prog 21 #[.agg #[.slice A N c]] V fun e w' => e = .returned (.tuple #[.int .i64 0, .int .i64 e1]) ∧ Below V.heap.size V w') := fun A c V h => ⟨grE (gs R), by simpa using e0, most_e R N hN hn _ rfl e0 A c V h⟩
    clear e0 hN hn
    have HB : Hid (Below w.heap.size w w) := Below.refl _ w
    have HR := Lib.hid hA; clear hA
    go_enter Try.func6, Try.ntmps6
    have HBq : Hid (Below w.heap.size w (w.alloc (.cells #[.slice A N c] 24))) := one_below _ _
    replace HB : Hid (Below w.heap.size w (w.alloc (.cells #[.slice A N c] 24))) := HB.out.trans (HBq.out.mono HB.out.size)
    replace HR : Hid (RdG (w.alloc (.cells #[.slice A N c] 24)) ((w.alloc (.cells #[.slice A N c] 24))).heap.size A R) := HR.out.on HBq.out
    clear HBq
    have K0 : Hid (((w.alloc (.cells #[.slice A N c] 24))).cell? ⟨w.heap.size, 0, none⟩ = some (.slice A N c)) := (cell_at (World.alloc_heap_new w _) 0).trans rfl
    obtain ⟨e1, t1, hc1⟩ := HM.out A c _ HR.out
    have HC1 := Lib.hid hc1; clear hc1
    have HC := Lib.hid (HC1.out)
    go_wp2_with fail
    refine HC.out.mono ?_
    rintro e w1 ⟨rfl, bq⟩
    clear HC
    have HBc := Lib.hid bq; clear bq
    have HBq : Hid (Below (w.alloc (.cells #[.slice A N c] 24)).heap.size (w.alloc (.cells #[.slice A N c] 24)) w1) := HBc.out
    replace HB : Hid (Below w.heap.size w w1) := HB.out.trans (HBq.out.mono HB.out.size)
    replace HR : Hid (RdG w1 (w1).heap.size A R) := HR.out.on HBq.out
    replace K0 : Hid ((w1).cell? ⟨w.heap.size, 0, none⟩ = some (.slice A N c)) := (HBq.out.cell (World.block_lt_of_cell? _ _ K0.out)).trans K0.out
    clear HBq
    clear HBc
    have HC := Lib.hid (walkbegun_true w1)
    go_wp2_with fail
    refine HC.out.mono ?_
    rintro e w2 ⟨rfl, bq⟩
    clear HC
    have HBc := Lib.hid bq; clear bq
    have HBq : Hid (Below w1.heap.size w1 w2) := HBc.out
    replace HB : Hid (Below w.heap.size w w2) := HB.out.trans (HBq.out.mono HB.out.size)
    replace HR : Hid (RdG w2 (w2).heap.size A R) := HR.out.on HBq.out
    replace K0 : Hid ((w2).cell? ⟨w.heap.size, 0, none⟩ = some (.slice A N c)) := (HBq.out.cell (World.block_lt_of_cell? _ _ K0.out)).trans K0.out
    clear HBq
    clear HBc
    go_wp2
    go_ret
    exact ⟨rfl, HB.out⟩
end

section
open Go.ChangeShapes Go.WideShapes Go.ChangeAt Go.RowKit
open Go.ChangeMaps (open_string shut_string)

set_option linter.unusedVariables false
set_option maxRecDepth 100000 in
theorem walkMost_lifted (os : Os) (started : os.Started) (H : Type) (enc : TypeId × Value → H) :
    ReturnsInHanded {} Try.checked os 6 .any (Rows.walkMostSpec.pre6 enc Try.prog Try.f6 Rows.walkMostRow.domain false) (Rows.walkMostSpec.post enc Try.prog Try.f6 false true false false) := by
  refine returnsInHanded_of_change_sized (C := Try.checked) own started (by kernel_rfl) Try.func6
    (ChangeSpec.witness6 (enc := enc) (C := Try.checked) false ⟨#[], #[.agg #[.slice none 0 0]], []⟩ 8 (by kernel_rfl) (by kernel_rfl) (by kernel_rfl) (by kernel_rfl)) ?_
  intro W base args ds gs before hval0 hW hcnd hzz _
  have hval : ∀ (j : Nat) t v, Try.f6.params[j]? = some t → args[j]? = some v → Value.okWide Try.prog W .any base t v := hval0
  have hW' := hW
  obtain ⟨p, q, hA0, hV, rfl, hfz, hnd⟩ := hW
  have hA : DataW.TrodAll enc Try.prog W 0 (fun _ => true) true Try.f6.params.toList args.toList ds p := hA0
  rw [Try.params6] at hA hval hzz
  obtain ⟨v0, vs0, d0, ds0, p0, q0, hargs, rfl, rfl, h0, r0⟩ := trodAll_cons hA
  obtain ⟨rfl, rfl, rfl⟩ := trodAll_nil r0
  obtain rfl : args = #[v0] := by cases args; simp_all
  obtain ⟨rfl, rfl⟩ := trodVars_none hV
  have k0 := h0
  have lt0 : ∀ x ∈ p0, x.block < W.heap.size := by obtain ⟨m, hm⟩ := k0; exact DataW.trod_lt m _ _ _ hm
  obtain ⟨A0, c0, R0, rfl, rd0, nn0⟩ := open_graph (hval 0 24 v0 rfl rfl) h0 (fun n hn => of_decide_eq_true (List.all_eq_true.1 hzz n (DataW.weights_mem_each (j := 0) (t := 24) (d := d0) rfl rfl n hn)))
  clear hA0 hval0
  refine (walkMost_law A0 c0 R0 W rd0 nn0).mono fun e W' ⟨he, bel⟩ => ?_
  subst he
  exact ⟨_, rfl, _, _, _, [], _, [], hW', trodAll_mk1 (shut_bool Try.underlying4 _), (trodAll_cons_mk (Below.trod laidOut (by kernel_rfl) (of_decide_eq_true (by kernel_rfl)) k0 bel lt0) trodAll_mk0), rfl, bel.frame _, fun h => by cases h⟩

theorem WalkMost_holds : Rows.WalkMostSaid :=
  OpenClaim.holds_of_wide 6 Try.f6 rfl rfl rfl rfl rfl rfl rfl ⟨rfl, rfl, rfl, rfl, rfl⟩ rfl rfl rfl rfl rfl (by kernel_rfl) Try.func6 (by kernel_rfl)
    (of_decide_eq_true (by kernel_rfl)) (by unfold Func.isWrapper; first | (rw [if_pos (by decide +kernel)]; kernel_rfl) | (rw [if_neg (by decide +kernel)]; exact ⟨rfl, rfl⟩))
    (fun os started H enc _ => walkMost_lifted os started H enc)
#print axioms WalkMost_holds
end
end Go.Proofs.Ytnjdbcbfafbkiaa
