/- What graph.Turn answers, for whatever it is handed. -/
import Derived.Test.YtnbjhldpadjgfaaWOf
import Derived.Test.YtnbjhldpadjgfaaWRev
namespace Go.Proofs.Ytnbjhldpadjgfaa
set_option maxRecDepth 100000
set_option linter.unusedVariables false
open Go.RowKit Go.Shelf

/-- The graph that came in, boxed; and the cell of the result. -/
def G2 (w : World) (A : Option Addr) (N c : Nat) : World := (w.alloc (.cells #[.slice A N c] 24)).alloc (.cells #[.slice none 0 0] 24)
theorem g2_size (w : World) (A : Option Addr) (N c : Nat) : (G2 w A N c).heap.size = w.heap.size + 2 := by unfold G2; rw [World.size_alloc, World.size_alloc]
theorem g2_below (w : World) (A : Option Addr) (N c : Nat) : Below w.heap.size w (G2 w A N c) := (one_below w _).trans ((one_below _ _).mono (by simp))
/-- What a world behind has of the two. -/
structure G2At (w V : World) (A : Option Addr) (N c : Nat) : Prop where
  low : Below w.heap.size w V
  box : V.heap[w.heap.size]? = some (.cells #[.slice A N c] 24 (0, 0))
  res : V.heap[w.heap.size + 1]? = some (.cells #[.slice none 0 0] 24 (0, 0))
  sz : w.heap.size + 2 ≤ V.heap.size
theorem G2At.start (w : World) (A : Option Addr) (N c : Nat) : G2At w (G2 w A N c) A N c where
  low := g2_below w A N c
  box := by unfold G2; rw [Below.heap_alloc _ _ _ (by simp)]; exact World.alloc_heap_new w _
  res := by have := World.alloc_heap_new (w.alloc (.cells #[.slice A N c] 24)) (.cells #[.slice none 0 0] 24); rw [World.size_alloc] at this; exact this
  sz := by rw [g2_size]; exact Nat.le_refl _
theorem G2At.on {w V X : World} {A : Option Addr} {N c : Nat} (h : G2At w V A N c) (hb : Below V.heap.size V X) : G2At w X A N c where
  low := h.low.trans (hb.mono h.low.size)
  box := (hb.block _ (by have := h.sz; omega)).trans h.box
  res := (hb.block _ (by have := h.sz; omega)).trans h.res
  sz := Nat.le_trans h.sz hb.size
theorem G2At.drew {w V : World} {A : Option Addr} {N c : Nat} (h : G2At w V A N c) : G2At w V.drew A N c := ⟨h.low.drew, h.box, h.res, h.sz⟩
theorem G2At.cells {w V : World} {A : Option Addr} {N c : Nat} (h : G2At w V A N c) : V.cell? ⟨w.heap.size, 0, none⟩ = some (.slice A N c) ∧ V.cell? ⟨w.heap.size + 1, 0, none⟩ = some (.slice none 0 0) ∧ V.frozen? ⟨w.heap.size + 1, 0, none⟩ = false :=
  ⟨(cell_at h.box 0).trans rfl, (cell_at h.res 0).trans rfl, frz_at h.res 0⟩
/-- The result, stored. -/
theorem G2At.set {w V : World} {A : Option Addr} {N c : Nat} (h : G2At w V A N c) (x : Value) : (V.setCell ⟨w.heap.size + 1, 0, none⟩ x).cell? ⟨w.heap.size + 1, 0, none⟩ = some x ∧ (V.setCell ⟨w.heap.size + 1, 0, none⟩ x).cell? ⟨w.heap.size, 0, none⟩ = some (.slice A N c) ∧ Below w.heap.size w (V.setCell ⟨w.heap.size + 1, 0, none⟩ x) := by
  refine ⟨?_, ?_, h.low.setCell (p := ⟨w.heap.size + 1, 0, none⟩) (by simp) x⟩
  · rw [cell_at (heap_set_same _ _ _ _ _ _ h.res)]; simp
  · exact (cell_at ((Below.heap_setCell _ _ _ _ (by simp)).trans h.box) 0).trans rfl

set_option maxHeartbeats 1000000 in
theorem gturn_e (R : List Rw) (N : Nat) (hN : R.length = N) (hN2 : N ≤ 140737488355328) (e0 : Int) (he : grE (gs R) = e0) (h0 : e0 ≠ 0) (A : Option Addr) (c : Nat) (w : World) (h : RdG w w.heap.size A R) :
    Calls Try.prog 18 #[.agg #[.slice A N c]] w (GrP w [] e0) := by
  have HC : Hid (∀ V, Below w.heap.size w V → Calls Try.prog 38 #[.agg #[.slice A N c]] V fun e w' => e = .returned (.int .i64 e0) ∧ Below V.heap.size V w') := fun V hV => by
    have := gchk_any R N hN hN2 A c V (h.on hV)
    rwa [he] at this
  have t0 : (e0 == 0) = false := by simpa using h0
  have HG := Lib.hid (G2At.start w A N c)
  clear he h hN h0
  go_enter Try.func18, Try.ntmps18
  go_wp2_with fail
  refine (HC.out (G2 w A N c) HG.out.low).mono ?_
  rintro e w1 ⟨rfl, b1⟩
  have HG1 := Lib.hid (HG.out.on b1)
  obtain ⟨k1, k2, k3⟩ := HG1.out.cells
  have HS := Lib.hid (HG1.out.set (.slice none 0 0))
  have kr2 := HS.out.1
  clear b1
  go_wp2
  refine bodyPost_ret (v := .tuple #[.agg #[.slice none 0 0], .int .i64 e0]) (by simp [results, Try.results18, go_sem, kr2]) rfl ?_
  exact ⟨none, [], 0, rfl, rfl, rdg_nil _, HS.out.2.2⟩
set_option maxHeartbeats 2000000 in
theorem gturn_okW (R : List Rw) (g : List (List Nat)) (hg : gs R = g.map ns) (hok : GOk g) (N : Nat) (hN : R.length = N) (A : Option Addr) (c : Nat) (w : World) (h : RdG w w.heap.size A R) :
    Calls Try.prog 18 #[.agg #[.slice A N c]] w (GrP w (gturn g) 0) := by
  have hgl : g.length = N := by have := congrArg List.length hg; rw [gs_length, List.length_map] at this; omega
  have hN1 : N ≤ 100 := by have := hok.nodes; omega
  have h600 := hok.many
  have HC : Hid (∀ V, Below w.heap.size w V → Calls Try.prog 38 #[.agg #[.slice A N c]] V fun e w' => e = .returned (.int .i64 0) ∧ Below V.heap.size V w') := fun V hV => by
    have := gchk_any R N hN (by omega) A c V (h.on hV)
    rwa [hg, grE_ok g hok] at this
  have HW : Hid (∀ V, Below w.heap.size w V → Calls Try.prog 44 #[.int .i64 (N : Int), .func (.func 83) #[] #[.pointer (some ⟨V.heap.size + 1, 0, none⟩)]] ((V.alloc (.cells #[.slice A N c] 24)).alloc (.cells #[.func (.func 76) #[] #[.pointer (some ⟨V.heap.size, 0, none⟩)]] 64)) fun e w' => ∃ A2 R c2, e = .returned (.agg #[.slice A2 N c2]) ∧ gs R = (gturn g).map ns ∧ RdH (V.heap.size + 2) w' A2 R ∧ Below V.heap.size V w') := fun V hV => by
    obtain ⟨V2, hV2⟩ : ∃ V2, (V.alloc (.cells #[.slice A N c] 24)).alloc (.cells #[.func (.func 76) #[] #[.pointer (some ⟨V.heap.size, 0, none⟩)]] 64) = V2 := ⟨_, rfl⟩
    have s2 : V2.heap.size = V.heap.size + 2 := by rw [← hV2, World.size_alloc, World.size_alloc]
    have b2 : Below V.heap.size V V2 := by rw [← hV2]; exact (one_below V _).trans ((one_below _ _).mono (by simp))
    have n1 : V2.heap[V.heap.size]? = some (.cells #[.slice A N c] 24 (0, 0)) := by rw [← hV2, Below.heap_alloc _ _ _ (by simp)]; exact World.alloc_heap_new V _
    have n2 : V2.heap[V.heap.size + 1]? = some (.cells #[.func (.func 76) #[] #[.pointer (some ⟨V.heap.size, 0, none⟩)]] 64 (0, 0)) := by
      have := World.alloc_heap_new (V.alloc (.cells #[.slice A N c] 24)) (.cells #[.func (.func 76) #[] #[.pointer (some ⟨V.heap.size, 0, none⟩)]] 64)
      rw [hV2, World.size_alloc] at this; exact this
    rw [hV2]
    have hbd : ∀ a ∈ (arcs 0 g).map rev, a.1 < N := fun a ha => by have := (arcs_bd hok _ ((rev_mem _ a).1 ha)).2; rw [hgl] at this; exact this
    refine (witharcs_in 83 #[.pointer (some ⟨V.heap.size + 1, 0, none⟩)] ((arcs 0 g).map rev) (by rw [List.length_map]; omega) (fun ys => ys = (arcs 0 g).map rev) (fun M hM => by rw [hM]) N hN1 hbd (rev_nodup (arcs_nodup g 0 hok.ris)) V2 entersRev1 (fun _ => True) (fun X hX => ?_)).mono ?_
    · have hr := rev_stops (V.heap.size + 1) V2.heap.size 76 #[.pointer (some ⟨V.heap.size, 0, none⟩)] (arcs 0 g) (fun pre => pre <+: arcs 0 g) entersArcs1 X hX.size ((hX.block _ (by omega)).trans n2) (fun Y hY =>
        arcs_stops 3 (by omega) V.heap.size V2.heap.size N c A R g hg hN hN1 Y (Nat.le_trans hX.size hY.size) (by omega) ((hY.block _ (by have := hX.size; omega)).trans ((hX.block _ (by omega)).trans n1)) (((h.on hV).below (b2.trans ((hX.mono b2.size).trans (hY.mono (Nat.le_trans b2.size hX.size)))) (by omega))))
      exact fun l J Jx W hW hJ hJx hY h0 => hr l J Jx W hW hJ hJx (fun pre x U hj hl => (hY pre x U hj hl).mono fun e U' q => ⟨q.1, q.2.imp (fun r => ⟨r.1, r.2.1, r.2.2.1⟩) id⟩) h0
    · rintro e w' ⟨A2, R2, c2, rfl, q1, q2, q3⟩
      rw [wa_length]
      rw [s2] at q2
      exact ⟨A2, R2, c2, rfl, by rw [q1]; unfold gturn; rw [hgl], q2, b2.trans (q3.mono b2.size)⟩
  have HL : Hid ((gturn g).length = N) := by show _ = _; rw [gturn_length, hgl]
  have HG := Lib.hid (G2At.start w A N c)
  clear hg hok hN h hgl h600
  go_enter Try.func18, Try.ntmps18
  go_wp2_with fail
  refine (HC.out (G2 w A N c) HG.out.low).mono ?_
  rintro e w1 ⟨rfl, b1⟩
  have HG1 := Lib.hid (HG.out.on b1)
  obtain ⟨k1, k2, k3⟩ := HG1.out.cells
  clear b1
  go_wp2_with fail
  go_region_held3 (fun w' => w'.cell? ⟨w.heap.size, 0, none⟩ = some (.slice A N c))
    ((first | exact HS.out.2.1 | exact hkz.out.cells.1 | exact (hk2.out.cells).1 | exact (hk1.out.cells).1 | exact HG1.out.drew.cells.1))
    (first
      | (go_at_call 40; refine (callsIn_wide.1 (arcsOf_in 3 A N c _)).mono ?_; rintro e wq ⟨rfl, rfl⟩; have hk1 : Hid (G2At w (w1.drew.alloc (.cells #[.slice A N c] 24)) A N c) := HG1.out.drew.on (one_below _ _))
      | (go_at_call 46; refine (reversed_in _ _ _).mono ?_; rintro e wq ⟨rfl, rfl⟩; have hk2 : Hid (G2At w ((w1.drew.alloc (.cells #[.slice A N c] 24)).alloc (.cells #[.func (.func 76) #[] #[.pointer (some ⟨w1.drew.heap.size, 0, none⟩)]] 64)) A N c) := hk1.out.on (one_below _ _))
      | (go_at_call 44; refine (HW.out w1.drew HG1.out.drew.low).mono ?_; rintro e w5 ⟨A2, R2, c2, rfl, q1, q2, q3⟩; have hkz : Hid (G2At w w5 A N c) := HG1.out.drew.on q3; have HQ := Lib.hid (⟨q1, q2⟩ : _ ∧ _); obtain ⟨z1, z2, z3⟩ := hkz.out.cells; have HS := Lib.hid (hkz.out.set (.slice A2 N c2)); clear q1 q2 q3))
  all_goals (
    have kr2 := HS.out.1
    have HQ2 : Hid (RdG (w5.setCell ⟨w.heap.size + 1, 0, none⟩ (.slice A2 N c2)) (w5.setCell ⟨w.heap.size + 1, 0, none⟩ (.slice A2 N c2)).heap.size A2 R2) := HQ.out.2 _ (fun k hk _ => Below.heap_setCell _ _ _ _ (by have := HG1.out.sz; show k ≠ w.heap.size + 1; have e : w1.drew.heap.size = w1.heap.size := rfl; omega)) (by simp [World.setCell])
    go_wp2
    refine bodyPost_ret (v := .tuple #[.agg #[.slice A2 N c2], .int .i64 0]) (by simp [results, Try.results18, go_sem, kr2]) rfl ?_
    exact ⟨A2, R2, c2, by rw [HL.out], HQ.out.1, HQ2.out, HS.out.2.2⟩)
end Go.Proofs.Ytnbjhldpadjgfaa
