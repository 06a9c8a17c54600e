/- What join answers of two groups; conditions: groups that are allowed. -/
import Derived.Test.YtndiocehkdbjkaaGreatJL3
import Derived.Deep.RegionHeld3
namespace Go.Proofs.YtndiocehkdbjkaaGreat
set_option maxRecDepth 100000
set_option linter.unusedVariables false
open Go.RowKit Go.Shelf

theorem frz_atC {w : World} {W : Nat} {t : TypeId} {cs : Array Value} (h : w.heap[W]? = some (.cells cs t (0, 0))) (i : Nat) : w.frozen? ⟨W, i, none⟩ = false := by simp [World.frozen?, h]
theorem own_sameC {w W' : World} {base : Nat} {e : TypeId} {size n : Nat} {v : Value} {xs : List Value} (h : w.ownsRow base e size v n xs) (hk : ∀ g, base ≤ g → v.ownBlock = some g → W'.heap[g]? = w.heap[g]?) : W'.ownsRow base e size v n xs := by
  refine ⟨h.1, ?_⟩
  rcases h.2 with hn | ⟨g, cap, cur, rfl, hb, hg, hr⟩
  · exact .inl hn
  · exact .inr ⟨g, cap, cur, rfl, hb, (hk g hb rfl).trans hg, hr⟩
set_option maxHeartbeats 4000000 in
theorem gjoin_any (wa la wb lb ws lm : Nat) (hwa : wa ≤ 67108864) (hwb : wb ≤ 67108864) (hla : la ≤ 64) (hlb : lb ≤ 64) (hws : wa + wb = ws) (hlm : min la lb = lm) (Sa Sb : List Nat) (na nb : Nat) (hna : Sa.length = na) (hnb : Sb.length = nb) (h1 : na ≤ 64) (h2 : nb ≤ 64) (Aa Ab : Option Addr) (ca cb : Nat) (hAa : Aa = none → ca = 0) (hAb : Ab = none → cb = 0) (w : World) (ra : RdV w w.heap.size Aa (zc (ns Sa))) (rb : RdV w w.heap.size Ab (zc (ns Sb))) :
    Calls Tryz.prog 90 #[.agg #[.int .i64 (wa : Int), .int .i64 (la : Int), .slice Aa na ca], .agg #[.int .i64 (wb : Int), .int .i64 (lb : Int), .slice Ab nb cb]] w fun e w' => ∃ A c, e = .returned (.agg #[.int .i64 (ws : Int), .int .i64 (lm : Int), .slice A (na + nb) c]) ∧ w'.ownsRow w.heap.size 3 1 (.slice A (na + nb) c) (na + nb) (zc (ns (Sa ++ Sb))) ∧ Below w.heap.size w w' := by
  have u1 : IntKind.i64.wrap ((wa : Int) + (wb : Int)) = (ws : Int) := by rw [← Int.natCast_add, hws]; exact IntWalk.i64_in _ (by omega)
  have HC : Hid (∀ (V : World) (S : Nat), Below w.heap.size w V → V.heap[S]? = some (.cells #[.slice Aa na ca, .slice Ab nb cb] 22 (0, 0)) → Calls Tryz.prog 130 #[.slice (some ⟨S, 0, none⟩) 2 2] V fun e w' => ∃ A c, e = .returned (.slice A (na + nb) c) ∧ w'.ownsRow V.heap.size 3 1 (.slice A (na + nb) c) (na + nb) (zc (ns (Sa ++ Sb))) ∧ Below V.heap.size V w') :=
    fun V S hV hS => concat_two Sa Sb na nb hna hnb (by omega) (by omega) Aa Ab ca cb hAa hAb S V hS (ra.on hV) (rb.on hV)
  clear ra rb hna hnb
  rcases (show (lb < la ∧ lb = lm) ∨ (¬ lb < la ∧ la = lm) by omega) with ⟨hll, rfl⟩ | ⟨hll, rfl⟩
  all_goals (
    clear hlm
    go_enter Tryz.func90, Tryz.ntmps90
    go_wp2_with fail
    generalize hV : ((w.alloc (.cells #[.int .i64 (wa : Int), .int .i64 (la : Int), .slice Aa na ca] 128)).alloc (.cells #[.int .i64 (wb : Int), .int .i64 (lb : Int), .slice Ab nb cb] 128)).alloc (.cells #[.int .i64 0, .int .i64 0, .slice none 0 0] 128) = V0
    have HV : Hid (Below w.heap.size w V0 ∧ V0.heap.size = w.heap.size + 1 + 1 + 1 ∧ V0.heap[w.heap.size]? = some (.cells #[.int .i64 (wa : Int), .int .i64 (la : Int), .slice Aa na ca] 128 (0, 0)) ∧ V0.heap[w.heap.size + 1]? = some (.cells #[.int .i64 (wb : Int), .int .i64 (lb : Int), .slice Ab nb cb] 128 (0, 0)) ∧ V0.heap[w.heap.size + 1 + 1]? = some (.cells #[.int .i64 0, .int .i64 0, .slice none 0 0] 128 (0, 0))) := by
      subst hV
      refine ⟨(((Below.refl _ w).alloc (Nat.le_refl _) _).alloc (by simp) _).alloc (by simp; omega) _, by simp, ?_, ?_, ?_⟩
      · rw [Below.heap_alloc _ _ _ (by simp; omega), Below.heap_alloc _ _ _ (by simp)]; exact World.alloc_heap_new w _
      · rw [Below.heap_alloc _ _ _ (by simp)]
        have := World.alloc_heap_new (w.alloc (.cells #[.int .i64 (wa : Int), .int .i64 (la : Int), .slice Aa na ca] 128)) (.cells #[.int .i64 (wb : Int), .int .i64 (lb : Int), .slice Ab nb cb] 128)
        rwa [World.size_alloc] at this
      · have := World.alloc_heap_new ((w.alloc (.cells #[.int .i64 (wa : Int), .int .i64 (la : Int), .slice Aa na ca] 128)).alloc (.cells #[.int .i64 (wb : Int), .int .i64 (lb : Int), .slice Ab nb cb] 128)) (.cells #[.int .i64 0, .int .i64 0, .slice none 0 0] 128)
        rwa [World.size_alloc, World.size_alloc] at this
    clear hV
    have HK : Hid (∀ w' : World, Below V0.heap.size V0 w' → w'.cell? ⟨w.heap.size, 0, none⟩ = some (.int .i64 (wa : Int)) ∧ w'.cell? ⟨w.heap.size + 1, 0, none⟩ = some (.int .i64 (wb : Int)) ∧ w'.cell? ⟨w.heap.size, 1, none⟩ = some (.int .i64 (la : Int)) ∧ w'.cell? ⟨w.heap.size + 1, 1, none⟩ = some (.int .i64 (lb : Int)) ∧ w'.cell? ⟨w.heap.size, 2, none⟩ = some (.slice Aa na ca) ∧ w'.cell? ⟨w.heap.size + 1, 2, none⟩ = some (.slice Ab nb cb)) := by
      intro w' h
      have k0 := (h.block w.heap.size (by have := HV.out.2.1; omega)).trans HV.out.2.2.1
      have k1 := (h.block (w.heap.size + 1) (by have := HV.out.2.1; omega)).trans HV.out.2.2.2.1
      exact ⟨(cell_atC k0 _).trans rfl, (cell_atC k1 _).trans rfl, (cell_atC k0 _).trans rfl, (cell_atC k1 _).trans rfl, (cell_atC k0 _).trans rfl, (cell_atC k1 _).trans rfl⟩
    have HK3 : Hid (∀ (w5 : World), Below V0.heap.size V0 w5 → ∀ (u0 u1 u2 : Value) (w' : World), w' = ((w5.setCell ⟨w.heap.size + 1 + 1, 0, none⟩ u0).setCell ⟨w.heap.size + 1 + 1, 1, none⟩ u1).setCell ⟨w.heap.size + 1 + 1, 2, none⟩ u2 → w'.cell? ⟨w.heap.size, 0, none⟩ = some (.int .i64 (wa : Int)) ∧ w'.cell? ⟨w.heap.size + 1, 0, none⟩ = some (.int .i64 (wb : Int)) ∧ w'.cell? ⟨w.heap.size, 1, none⟩ = some (.int .i64 (la : Int)) ∧ w'.cell? ⟨w.heap.size + 1, 1, none⟩ = some (.int .i64 (lb : Int)) ∧ w'.cell? ⟨w.heap.size, 2, none⟩ = some (.slice Aa na ca) ∧ w'.cell? ⟨w.heap.size + 1, 2, none⟩ = some (.slice Ab nb cb)) := by
      rintro w5 h u0 u1 u2 w' rfl
      obtain ⟨k0, k1, k2, k3, k4, k5⟩ := HK.out w5 h
      have key : ∀ (b j : Nat), b < w.heap.size + 1 + 1 → (((w5.setCell ⟨w.heap.size + 1 + 1, 0, none⟩ u0).setCell ⟨w.heap.size + 1 + 1, 1, none⟩ u1).setCell ⟨w.heap.size + 1 + 1, 2, none⟩ u2).cell? ⟨b, j, none⟩ = w5.cell? ⟨b, j, none⟩ := fun b j hb => World.cell?_of_block (a := ⟨b, j, none⟩) (by
        have hne : b ≠ w.heap.size + 1 + 1 := by omega
        rw [Below.heap_setCell _ _ _ _ hne, Below.heap_setCell _ _ _ _ hne, Below.heap_setCell _ _ _ _ hne])
      exact ⟨(key _ _ (by omega)).trans k0, (key _ _ (by omega)).trans k1, (key _ _ (by omega)).trans k2, (key _ _ (by omega)).trans k3, (key _ _ (by omega)).trans k4, (key _ _ (by omega)).trans k5⟩
    have hk0 := HK.out V0 (Below.refl _ _)
    go_region_held3 (fun w' => w'.cell? ⟨w.heap.size, 0, none⟩ = some (.int .i64 (wa : Int)) ∧ w'.cell? ⟨w.heap.size + 1, 0, none⟩ = some (.int .i64 (wb : Int)) ∧ w'.cell? ⟨w.heap.size, 1, none⟩ = some (.int .i64 (la : Int)) ∧ w'.cell? ⟨w.heap.size + 1, 1, none⟩ = some (.int .i64 (lb : Int)) ∧ w'.cell? ⟨w.heap.size, 2, none⟩ = some (.slice Aa na ca) ∧ w'.cell? ⟨w.heap.size + 1, 2, none⟩ = some (.slice Ab nb cb))
      ((first | exact HK3.out w5 hk5.out _ _ _ _ rfl | (refine HK.out _ ?_; first | exact hk5.out | exact (Below.refl _ _).drew | exact ((Below.refl _ _).drew).alloc (Nat.le_refl _) _ | exact ((Below.refl _ _).alloc (Nat.le_refl _) _).drew)))
      (first
        | (go_at_call 130; refine (HC.out (V0.alloc (.cells #[.slice Aa na ca, .slice Ab nb cb] 22)).drew V0.heap.size ((HV.out.1.alloc HV.out.1.size _).drew) (World.alloc_heap_new V0 (.cells #[.slice Aa na ca, .slice Ab nb cb] 22))).mono ?_; rintro e w5 ⟨A5, c5, rfl, r5, B5⟩; have hk5 : Hid (Below V0.heap.size V0 w5) := ((one_below V0 _).drew).trans (B5.mono (by simp)); have HR5 := Lib.hid r5; have hb7 := (hk5.out.block (w.heap.size + 1 + 1) (by have := HV.out.2.1; omega)).trans HV.out.2.2.2.2; have d0 : w5.cell? ⟨w.heap.size + 1 + 1, 0, none⟩ = some (.int .i64 0) := (cell_atC hb7 _).trans rfl; have d1 : w5.cell? ⟨w.heap.size + 1 + 1, 1, none⟩ = some (.int .i64 0) := (cell_atC hb7 _).trans rfl; have d2 : w5.cell? ⟨w.heap.size + 1 + 1, 2, none⟩ = some (.slice none 0 0) := (cell_atC hb7 _).trans rfl; have f0 := frz_atC hb7 0; have f1 := frz_atC hb7 1; have f2 := frz_atC hb7 2; have Hb7 := Lib.hid hb7; clear B5 r5 hb7))
    all_goals (
      have e0 : (w5.setCell ⟨w.heap.size + 1 + 1, 0, none⟩ (.int .i64 (ws : Int))).heap[w.heap.size + 1 + 1]? = some (.cells #[.int .i64 (ws : Int), .int .i64 0, .slice none 0 0] 128 (0, 0)) := by rw [heap_set_same _ _ _ _ _ _ Hb7.out]; rfl
      have e1 : ∀ u1, ((w5.setCell ⟨w.heap.size + 1 + 1, 0, none⟩ (.int .i64 (ws : Int))).setCell ⟨w.heap.size + 1 + 1, 1, none⟩ u1).heap[w.heap.size + 1 + 1]? = some (.cells #[.int .i64 (ws : Int), u1, .slice none 0 0] 128 (0, 0)) := fun u1 => by rw [heap_set_same _ _ _ _ _ _ e0]; rfl
      have e2 : ∀ u1 u2, (((w5.setCell ⟨w.heap.size + 1 + 1, 0, none⟩ (.int .i64 (ws : Int))).setCell ⟨w.heap.size + 1 + 1, 1, none⟩ u1).setCell ⟨w.heap.size + 1 + 1, 2, none⟩ u2).heap[w.heap.size + 1 + 1]? = some (.cells #[.int .i64 (ws : Int), u1, u2] 128 (0, 0)) := fun u1 u2 => by rw [heap_set_same _ _ _ _ _ _ (e1 u1)]; rfl
      have HR8 : Hid (∀ u1 u2, (((w5.setCell ⟨w.heap.size + 1 + 1, 0, none⟩ (.int .i64 (ws : Int))).setCell ⟨w.heap.size + 1 + 1, 1, none⟩ u1).setCell ⟨w.heap.size + 1 + 1, 2, none⟩ u2).ownsRow w.heap.size 3 1 (.slice A5 (na + nb) c5) (na + nb) (zc (ns (Sa ++ Sb))) ∧ Below w.heap.size w (((w5.setCell ⟨w.heap.size + 1 + 1, 0, none⟩ (.int .i64 (ws : Int))).setCell ⟨w.heap.size + 1 + 1, 1, none⟩ u1).setCell ⟨w.heap.size + 1 + 1, 2, none⟩ u2)) := by
        intro u1 u2
        refine ⟨own_base (own_sameC HR5.out fun g hg _ => ?_) (by have := HV.out.1.size; simp; omega), ((HV.out.1.trans (hk5.out.mono HV.out.1.size)).setCell (p := ⟨w.heap.size + 1 + 1, 0, none⟩) (by show w.heap.size ≤ w.heap.size + 1 + 1; omega) _ |>.setCell (p := ⟨w.heap.size + 1 + 1, 1, none⟩) (by show w.heap.size ≤ w.heap.size + 1 + 1; omega) _).setCell (p := ⟨w.heap.size + 1 + 1, 2, none⟩) (by show w.heap.size ≤ w.heap.size + 1 + 1; omega) _⟩
        have hne : g ≠ w.heap.size + 1 + 1 := by have := HV.out.2.1; simp at hg; omega
        rw [Below.heap_setCell _ _ _ _ hne, Below.heap_setCell _ _ _ _ hne, Below.heap_setCell _ _ _ _ hne]
      have r0 := fun u1 u2 => (cell_atC (e2 u1 u2) 0).trans rfl
      have r1 := fun u1 u2 => (cell_atC (e2 u1 u2) 1).trans rfl
      have r2 := fun u1 u2 => (cell_atC (e2 u1 u2) 2).trans rfl
      clear e0 e1 e2 d0 d1 d2 f0 f1 f2 hk0 HK HK3
      go_wp2
      exact bodyPost_ret (v := .agg #[.int .i64 (ws : Int), _, .slice A5 (na + nb) c5]) (by simp [results, Tryz.results90, go_sem, r0, r1, r2]) rfl ⟨A5, c5, rfl, (HR8.out _ _).1, (HR8.out _ _).2⟩))
end Go.Proofs.YtndiocehkdbjkaaGreat
