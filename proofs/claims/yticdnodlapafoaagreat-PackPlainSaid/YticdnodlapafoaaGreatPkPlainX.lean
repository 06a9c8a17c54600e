/- What is read of a list of numbers with signs that is handed in (for seats without kraft). -/
import Derived.Test.YticdnodlapafoaaGreatJS2
import Derived.Test.YticdnodlapafoaaGreatJSNMem
import Derived.Test.YticdnodlapafoaaGreatJS8
import Derived.Test.YticdnodlapafoaaGreatJS9
import Derived.Test.YticdnodlapafoaaGreatPkBg
import Derived.Deep.RegionHeld3
import Derived.Laws.MakeOwn
namespace Go.Proofs.YticdnodlapafoaaGreat

section
open Go.ChangeShapes Go.WideShapes Go.ChangeAt Go.RowKit Go.Joins

theorem cells3i : Tryz.prog.cellsOf 3 = 1 := by kernel_rfl

set_option maxRecDepth 100000 in
/-- Numbers that were handed in. -/
theorem open_zs {H : Type} {enc : TypeId × Value → H} {W : World} {base : Nat} {v : Value} {d : DataW H} {p : List MemPlace}
    (hv : Value.okWide Tryz.prog W .any base 22 v) (h : DataW.Trod enc Tryz.prog W 0 (fun _ => true) true 22 v d p) :
    ∃ (A : Option Addr) (c : Nat) (xs : List Int), v = .slice A xs.length c ∧ xs.length ≤ c ∧ (A = none → c = 0) ∧ RdV W W.heap.size A (zc xs) ∧ (∀ x ∈ xs, -9223372036854775808 ≤ x ∧ x ≤ 9223372036854775807) ∧ xs.length ≤ 9223372036854775807 := by
  obtain ⟨a0, len0, cap0, rfl⟩ := okWide_slice Tryz.underlying22 hv
  obtain ⟨fuel, hf⟩ := h
  rcases open_ints Tryz.underlying22 Tryz.underlying3 cells3i hf with ⟨hcs, _⟩ | ⟨x, l, c, zs, hcs, _, hl, hm, hz, _, hcell, hwz⟩
  · simp [Value.cells] at hcs
    obtain ⟨rfl, rfl, rfl⟩ := hcs
    exact ⟨none, 0, [], rfl, by simp, fun _ => rfl, .inl rfl, by simp, by simp⟩
  · simp [Value.cells] at hcs
    obtain ⟨rfl, rfl, rfl⟩ := hcs
    have hzc : zs.length = cap0 := by simpa using hz
    have hlen : (zs.take len0).length = len0 := by rw [List.length_take]; omega
    unfold maxLen at hm
    refine ⟨some x, cap0, zs.take len0, by rw [hlen], by rw [hlen]; exact hl, (fun h => by cases h), ?_, ?_, by rw [hlen]; omega⟩
    · rcases Nat.eq_zero_or_pos len0 with h0 | h0
      · left; rw [h0]; rfl
      · obtain ⟨b, off, rfl, hc⟩ := ints_at hcell (by omega)
        refine .inr ⟨b, off, rfl, lt_of_cell (hc 0 (by omega)), fun i v hi => ?_⟩
        have hil : i < len0 := by
          rcases Nat.lt_or_ge i len0 with h | h
          · exact h
          · rw [List.getElem?_eq_none (by rw [zc_length, hlen]; exact h)] at hi; cases hi
        rw [zc_get _ i (by rw [hlen]; exact hil)] at hi
        cases hi
        rw [hc i (by omega)]
        have hz0 : zs.getD i 0 = zs[i]'(by omega) := by rw [List.getD_eq_getElem?_getD, List.getElem?_eq_getElem (by omega)]; rfl
        have e1 : (zs.take len0)[i]?.getD 0 = zs[i]'(by omega) := by
          rw [List.getElem?_take_of_lt hil, List.getElem?_eq_getElem (by omega)]; rfl
        rw [e1, hz0]
    · intro n hn
      exact bounds_i64 (hwz n (List.mem_of_mem_take hn))
end

section
set_option linter.unusedVariables false
open Go.ChangeShapes Go.WideShapes Go.ChangeAt Go.RowKit Go.Joins Go.Shelf

theorem al1 {w V : World} {c0 : Array Value} {t0 : TypeId} (h : Below (w.alloc (.cells c0 t0)).heap.size (w.alloc (.cells c0 t0)) V) :
    Below w.heap.size w V ∧ w.heap.size < V.heap.size ∧ V.heap[w.heap.size]? = some (.cells c0 t0 (0, 0)) := by
  have h1 : (w.alloc (.cells c0 t0)).heap.size = w.heap.size + 1 := World.size_alloc _ _
  have hb : Below w.heap.size w (w.alloc (.cells c0 t0)) := one_below w _
  refine ⟨hb.trans (h.mono (by omega)), by have := h.size; omega, ?_⟩
  rw [h.block _ (by omega)]; exact World.alloc_heap_new w _
theorem low2 (w : World) (o p : Obj) : Below w.heap.size w ((w.alloc o).alloc p) := ((Below.refl _ w).alloc (Nat.le_refl _) _).alloc (by simp) _
theorem low3 (w : World) (o p q : Obj) : Below w.heap.size w (((w.alloc o).alloc p).alloc q) := (((Below.refl _ w).alloc (Nat.le_refl _) _).alloc (by simp) _).alloc (by simp; omega) _
theorem al2 {w V : World} {c0 c1 : Array Value} {t0 t1 : TypeId} (h : Below ((w.alloc (.cells c0 t0)).alloc (.cells c1 t1)).heap.size ((w.alloc (.cells c0 t0)).alloc (.cells c1 t1)) V) :
    Below w.heap.size w V ∧ w.heap.size + 1 < V.heap.size ∧ V.heap[w.heap.size]? = some (.cells c0 t0 (0, 0)) ∧ V.heap[w.heap.size + 1]? = some (.cells c1 t1 (0, 0)) := by
  have h1 : (w.alloc (.cells c0 t0)).heap.size = w.heap.size + 1 := World.size_alloc _ _
  have h2 : ((w.alloc (.cells c0 t0)).alloc (.cells c1 t1)).heap.size = w.heap.size + 2 := by rw [World.size_alloc, h1]
  obtain ⟨g1, g2, g3⟩ := al1 h
  refine ⟨(one_below w _).trans (g1.mono (by omega)), by omega, ?_, by rw [h1] at g3; exact g3⟩
  rw [g1.block _ (by omega)]; exact World.alloc_heap_new w _
theorem al3 {w V : World} {c0 c1 c2 : Array Value} {t0 t1 t2 : TypeId} (h : Below (((w.alloc (.cells c0 t0)).alloc (.cells c1 t1)).alloc (.cells c2 t2)).heap.size (((w.alloc (.cells c0 t0)).alloc (.cells c1 t1)).alloc (.cells c2 t2)) V) :
    Below w.heap.size w V ∧ w.heap.size + 1 + 1 < V.heap.size ∧ V.heap[w.heap.size]? = some (.cells c0 t0 (0, 0)) ∧ V.heap[w.heap.size + 1]? = some (.cells c1 t1 (0, 0)) ∧ V.heap[w.heap.size + 1 + 1]? = some (.cells c2 t2 (0, 0)) := by
  have h1 : (w.alloc (.cells c0 t0)).heap.size = w.heap.size + 1 := World.size_alloc _ _
  have h2 : ((w.alloc (.cells c0 t0)).alloc (.cells c1 t1)).heap.size = w.heap.size + 1 + 1 := by rw [World.size_alloc, h1]
  obtain ⟨g1, g2, g3⟩ := al1 h
  obtain ⟨k1, k2, k3, k4⟩ := al2 g1
  rw [h2] at g2 g3
  exact ⟨k1, g2, k3, k4, g3⟩

theorem cellsHow : Tryz.prog.cellsOf 24 = 3 := by kernel_rfl
set_option maxRecDepth 100000 in
/-- A way to tell lists that was handed in. -/
theorem open_how {H : Type} {enc : TypeId × Value → H} {W : World} {base : Nat} {v : Value} {d : DataW H} {p : List MemPlace}
    (hv : Value.okWide Tryz.prog W .any base 24 v) (h : DataW.Trod enc Tryz.prog W 0 (fun _ => true) true 24 v d p) :
    ∃ (b s k : Int), v = .agg #[.int .i64 b, .int .i64 s, .int .i64 k] ∧ (-9223372036854775808 ≤ b ∧ b ≤ 9223372036854775807) ∧ (-9223372036854775808 ≤ s ∧ s ≤ 9223372036854775807) ∧ (-9223372036854775808 ≤ k ∧ k ≤ 9223372036854775807) := by
  obtain ⟨c0, c1, c2, y0, y1, y2, m, rfl, rfl, rfl, hy0, hy1, hy2⟩ := open_agg3 Tryz.underlying24 (by kernel_rfl) cellsHow hv h
  obtain ⟨a, e0, _, wa⟩ := DataW.trod_int Tryz.underlying3 hy0
  obtain ⟨b, e1, _, wb⟩ := DataW.trod_int Tryz.underlying3 hy1
  obtain ⟨c, e2, _, wc⟩ := DataW.trod_int Tryz.underlying3 hy2
  simp at e0 e1 e2
  subst e0; subst e1; subst e2
  exact ⟨a, b, c, rfl, bounds_i64 wa, bounds_i64 wb, bounds_i64 wc⟩
end

section
set_option maxRecDepth 100000
set_option linter.unusedVariables false
open Go.RowKit Go.Shelf

theorem run_build_pd0 (w : World) : (Instr.build 54 #[]).run Tryz.prog w = .ok (.agg #[.int .i64 0, .int .i64 0, .int .i64 0, .int .i64 0, .int .i64 0, .slice none 0 0]) w := by kernel_rfl
theorem info_rowK : (Tryz.prog.info? 22).map (fun i => (i.zero, i.size, i.bytes)) = some (some (.slice none 0 0), 1, 24) := by kernel_rfl
theorem made_one (z : Value) (N : Nat) : madeCells #[z] (N * 1) = (List.replicate N z).toArray := by
  apply Array.ext
  · simp [madeCells]
  · intro i h1 h2
    simp [madeCells, Nat.mod_one]
theorem rcl_none (N : Nat) : rcl (List.replicate N (none, 0, [])) = List.replicate N (.slice none 0 0) := by simp [rcl, sl]
theorem make_lists (N : Nat) (hN : N ≤ 100) (W : World) : (Instr.makeSlice 50 (.int .i64 (N : Int)) (.int .i64 (N : Int))).run Tryz.prog W = .ok (.slice (some ⟨W.heap.size, 0, none⟩) N N) (W.alloc (.cells (rcl (List.replicate N (none, 0, []))).toArray 22)) := by
  obtain ⟨i0, hi0, hz0, hz1, hz2⟩ := info_parts info_rowK
  have h := run_makeSlice (P := Tryz.prog) W 50 22 i0 (.slice none 0 0) Tryz.underlying50 hi0 hz0 .i64 .i64 (N : Int) (N : Int) (by omega) (by omega) (by rw [hz1]; simp; omega) (by rw [hz2]; omega) (by omega)
  rw [hz1, Int.toNat_natCast, show (Value.slice none 0 0).cells = #[Value.slice none 0 0] from rfl, made_one] at h
  rw [rcl_none]
  exact h
theorem rdg_made {W : World} {b N : Nat} {t : TypeId} (h : W.heap[b]? = some (.cells (rcl (List.replicate N (none, 0, []))).toArray t (0, 0))) : RdG W W.heap.size (some ⟨b, 0, none⟩) (List.replicate N (none, 0, [])) :=
  ⟨.inr ⟨b, 0, rfl, (Array.getElem?_eq_some_iff.1 h).1, fun i v hi => by rw [Nat.zero_add, cell_at h]; simpa using hi⟩, fun r hr => by
    obtain rfl := (List.mem_replicate.1 hr).2
    exact ⟨.inl rfl, by simp⟩⟩
set_option maxHeartbeats 8000000 in
theorem packplain_w (w : World) (N : Nat) (hN : N ≤ 100) (B ls k : Int)
    (N1 B1 ls1 k1 len1 : Int) (n1 : Nat) (bs1 : List Nat) (e1 : Int)
    (HBg : Hid (∀ V, Calls Tryz.prog 36 #[] V fun e w' => e = .returned (.bool true) ∧ Below V.heap.size V w'))
    (HW : Hid (∀ A V, RdG V V.heap.size A (List.replicate N (none, 0, [])) → Calls Tryz.prog 30 #[.agg #[.slice A N N], .agg #[.int .i64 B, .int .i64 ls, .int .i64 k]] V (PwP V N1 B1 ls1 k1 len1 n1 bs1 e1)))
    (H1 : Hid (e1 = 0 → 0 ≤ B ∧ len1 = (N : Int) * (1 + min B 1)))
    (H0 : Hid (e1 ≠ 0 → N1 = 0 ∧ B1 = 0 ∧ ls1 = 0 ∧ k1 = 0 ∧ len1 = 0 ∧ n1 = 0)) :
    Calls Tryz.prog 14 #[.int .i64 (N : Int), .agg #[.int .i64 B, .int .i64 ls, .int .i64 k]] w fun e w' => e = .returned (.bool true) ∧ Below w.heap.size w w' := by
  obtain ⟨V1, hV1⟩ : ∃ V1, w.alloc (.cells #[.int .i64 B, .int .i64 ls, .int .i64 k] 24) = V1 := ⟨_, rfl⟩
  have hh := World.alloc_heap_new w (.cells #[.int .i64 B, .int .i64 ls, .int .i64 k] 24)
  rw [hV1] at hh
  have hw1 : Below w.heap.size w V1 := by rw [← hV1]; exact one_below w _
  have t1 : ¬ (N : Int) < 0 := by omega
  have t2 : ¬ (100 : Int) < (N : Int) := by omega
  go_enter Tryz.func14, Tryz.ntmps14
  go_wp2_with fail
  try rw [hV1]
  refine (HBg.out V1).mono ?_
  rintro e V2 ⟨rfl, q2⟩
  have hh2 := (q2.block _ (Array.getElem?_eq_some_iff.1 hh).1).trans hh
  have HW2 : Hid (Below w.heap.size w V2) := hw1.trans (q2.mono hw1.size)
  have HLt : Hid (w.heap.size < V1.heap.size) := (Array.getElem?_eq_some_iff.1 hh).1
  have HHb : Hid (∀ V, Below V2.heap.size V2 V → V.heap[w.heap.size]? = some (.cells #[.int .i64 B, .int .i64 ls, .int .i64 k] 24 (0, 0))) := fun V hV => (hV.block _ (Array.getElem?_eq_some_iff.1 hh2).1).trans hh2
  clear hV1 hw1 q2 hh hh2
  go_wp2_with fail
  have HH : Hid (∀ V, Below V2.heap.size V2 V → V.cell? ⟨w.heap.size, 0, none⟩ = some (.int .i64 B) ∧ V.cell? ⟨w.heap.size, 1, none⟩ = some (.int .i64 ls) ∧ V.cell? ⟨w.heap.size, 2, none⟩ = some (.int .i64 k)) := fun V hV => how_at (HHb.out V hV)
  have hmk := make_lists N hN
  obtain ⟨cs, hcs⟩ : ∃ cs, (rcl (List.replicate N (none, 0, []))).toArray = cs := ⟨_, rfl⟩
  rw [hcs] at hmk
  have HD : Hid (Below V2.heap.size V2 V2.drew) := (Below.refl _ _).drew
  obtain ⟨Wc, hWc⟩ : ∃ W, (V2.alloc (.cells cs 22)).drew = W := ⟨_, rfl⟩
  obtain ⟨Wz, hWz⟩ : ∃ W, (V2.alloc (.cells #[.int .i64 0, .int .i64 0, .int .i64 0, .int .i64 0, .int .i64 0, .slice none 0 0] 54)).drew = W := ⟨_, rfl⟩
  have Hc : Hid (Below V2.heap.size V2 Wc) := by { rw [← hWc]; exact (one_below V2 _).drew }
  have Hz : Hid (Below V2.heap.size V2 Wz) := by { rw [← hWz]; exact (one_below V2 _).drew }
  have KC : Hid (Wc.heap[V2.heap.size]? = some (.cells cs 22 (0, 0))) := by { rw [← hWc]; exact World.alloc_heap_new V2 _ }
  have KZ : Hid (Wz.heap[V2.heap.size]? = some (.cells #[.int .i64 0, .int .i64 0, .int .i64 0, .int .i64 0, .int .i64 0, .slice none 0 0] 54 (0, 0))) := by { rw [← hWz]; exact World.alloc_heap_new V2 _ }
  obtain ⟨Wcz, hWcz⟩ : ∃ W, Wc.alloc (.cells #[.int .i64 0, .int .i64 0, .int .i64 0, .int .i64 0, .int .i64 0, .slice none 0 0] 54) = W := ⟨_, rfl⟩
  obtain ⟨Wzc, hWzc⟩ : ∃ W, Wz.alloc (.cells cs 22) = W := ⟨_, rfl⟩
  have bcz : Below Wc.heap.size Wc Wcz := by { rw [← hWcz]; exact one_below Wc _ }
  have bzc : Below Wz.heap.size Wz Wzc := by { rw [← hWzc]; exact one_below Wz _ }
  have Hcz : Hid (Below V2.heap.size V2 Wcz) := Hc.out.trans (bcz.mono Hc.out.size)
  have Hzc : Hid (Below V2.heap.size V2 Wzc) := Hz.out.trans (bzc.mono Hz.out.size)
  have KCZ : Hid (Wcz.heap[V2.heap.size]? = some (.cells cs 22 (0, 0))) := (bcz.block _ (Array.getElem?_eq_some_iff.1 KC.out).1).trans KC.out
  have KCZ2 : Hid (Wcz.heap[Wc.heap.size]? = some (.cells #[.int .i64 0, .int .i64 0, .int .i64 0, .int .i64 0, .int .i64 0, .slice none 0 0] 54 (0, 0))) := by { rw [← hWcz]; exact World.alloc_heap_new Wc _ }
  have KZC : Hid (Wzc.heap[V2.heap.size]? = some (.cells #[.int .i64 0, .int .i64 0, .int .i64 0, .int .i64 0, .int .i64 0, .slice none 0 0] 54 (0, 0))) := (bzc.block _ (Array.getElem?_eq_some_iff.1 KZ.out).1).trans KZ.out
  have KZC2 : Hid (Wzc.heap[Wz.heap.size]? = some (.cells cs 22 (0, 0))) := by { rw [← hWzc]; exact World.alloc_heap_new Wz _ }
  have HRd : Hid (∀ (W : World) (b : Nat), W.heap[b]? = some (.cells cs 22 (0, 0)) → RdG W W.heap.size (some ⟨b, 0, none⟩) (List.replicate N (none, 0, []))) := fun W b h => rdg_made (by rw [hcs]; exact h)
  clear hcs bcz bzc
  go_region_held3 (fun V => V.cell? ⟨w.heap.size, 0, none⟩ = some (.int .i64 B) ∧ V.cell? ⟨w.heap.size, 1, none⟩ = some (.int .i64 ls) ∧ V.cell? ⟨w.heap.size, 2, none⟩ = some (.int .i64 k))
    ((first | exact HH.out _ HB6.out | exact HH.out _ HBbz.out | exact HH.out _ HBb.out | exact HH.out _ Hcz.out | exact HH.out _ Hzc.out | exact HH.out _ Hc.out | exact HH.out _ Hz.out | exact HH.out _ HD.out))
    ((go_at_call 30; refine (HW.out _ _ (by first | exact HRd.out _ _ KC.out | exact HRd.out _ _ KCZ.out | exact HRd.out _ _ KZC2.out)).mono ?_; rintro e wb ⟨A2, c2, rfl, r2, bq⟩; first
      | (have HBb : Hid (Below V2.heap.size V2 wb) := Hc.out.trans (bq.mono Hc.out.size); have HBbz : Hid (Below V2.heap.size V2 (wb.alloc (.cells #[.int .i64 0, .int .i64 0, .int .i64 0, .int .i64 0, .int .i64 0, .slice none 0 0] 54))) := HBb.out.trans ((one_below wb _).mono HBb.out.size); obtain ⟨W6, hW6⟩ : ∃ W6, wb.alloc (.cells #[.int .i64 N1, .int .i64 B1, .int .i64 ls1, .int .i64 k1, .int .i64 len1, .slice A2 n1 c2] 54) = W6 := ⟨_, rfl⟩; have hb6 : Below wb.heap.size wb W6 := by { rw [← hW6]; exact one_below wb _ }; have HB6 : Hid (Below V2.heap.size V2 W6) := HBb.out.trans (hb6.mono HBb.out.size); have HP6 : Hid (W6.heap[wb.heap.size]? = some (.cells #[.int .i64 N1, .int .i64 B1, .int .i64 ls1, .int .i64 k1, .int .i64 len1, .slice A2 n1 c2] 54 (0, 0))) := by { rw [← hW6]; exact World.alloc_heap_new wb _ }; clear bq r2 hb6)
      | (have HBb : Hid (Below V2.heap.size V2 wb) := Hcz.out.trans (bq.mono Hcz.out.size); have hzb := (bq.block _ (Array.getElem?_eq_some_iff.1 KCZ2.out).1).trans KCZ2.out; obtain ⟨⟨y0, y1, y2, y3, y4, y5⟩, f0, f1, f2, f3, f4, f5⟩ := six_z hzb; obtain ⟨W6, hW6, hp6, r6, b6⟩ := six_put hzb (.int .i64 N1) (.int .i64 B1) (.int .i64 ls1) (.int .i64 k1) (.int .i64 len1) (.slice A2 n1 c2) A2 _ r2; have HB6 : Hid (Below V2.heap.size V2 W6) := HBb.out.trans (b6 _ (Hc.out.size)); have HP6 := Lib.hid hp6; clear bq r2 hzb hp6 r6 b6)
      | (have HBb : Hid (Below V2.heap.size V2 wb) := Hzc.out.trans (bq.mono Hzc.out.size); have hzb := (bq.block _ (Array.getElem?_eq_some_iff.1 KZC.out).1).trans KZC.out; obtain ⟨⟨y0, y1, y2, y3, y4, y5⟩, f0, f1, f2, f3, f4, f5⟩ := six_z hzb; obtain ⟨W6, hW6, hp6, r6, b6⟩ := six_put hzb (.int .i64 N1) (.int .i64 B1) (.int .i64 ls1) (.int .i64 k1) (.int .i64 len1) (.slice A2 n1 c2) A2 _ r2; have HB6 : Hid (Below V2.heap.size V2 W6) := HBb.out.trans (b6 _ (Nat.le_refl _)); have HP6 := Lib.hid hp6; clear bq r2 hzb hp6 r6 b6)
      | (trace_state; fail)))
  all_goals (
    first
      | (obtain ⟨b9, hb9⟩ : ∃ b9, wb.heap.size = b9 := ⟨_, rfl⟩; rw [hb9] at HP6 ⊢)
      | (obtain ⟨b9, hb9⟩ : ∃ b9, Wc.heap.size = b9 := ⟨_, rfl⟩; rw [hb9] at HP6 ⊢)
      | (obtain ⟨b9, hb9⟩ : ∃ b9, V2.heap.size = b9 := ⟨_, rfl⟩; rw [hb9] at HP6 ⊢)
    have HWf : Hid (Below w.heap.size w W6) := HW2.out.trans (HB6.out.mono HW2.out.size)
    have HHw := Lib.hid (HHb.out W6 HB6.out)
    clear hb9 hmk HRd KC KZ KCZ KCZ2 KZC KZC2 Hc Hz Hcz Hzc HD HH HB6 hW6 hWc hWz hWcz hWzc
    by_cases he : e1 = 0
    · have h1 := H1.out he
      obtain ⟨hb0, hl⟩ := h1
      have x4 : W6.cell? ⟨b9, 4, none⟩ = some (.int .i64 len1) := (cell_at HP6.out 4).trans rfl
      have x0 := (how_at HHw.out).1
      subst he
      have hx : wrap64 ((N : Int) * (1 + min B 1)) = (N : Int) * (1 + min B 1) := by
        rcases (show min B 1 = 0 ∨ min B 1 = 1 by omega) with q | q <;> rw [q] <;> unfold wrap64 <;> omega
      have HX : Hid (((N : Int) * (1 + min B 1) == wrap64 ((N : Int) * (1 + min B 1))) = true) := by { rw [hx]; exact beq_self_eq_true _ }
      clear hx
      go_wp2
      go_ret
      exact ⟨ret_bool HX.out, HWf.out⟩
    · obtain ⟨rfl, rfl, rfl, rfl, rfl, rfl⟩ := H0.out he
      have t3 : (e1 != 0) = true := by simpa using he
      clear he
      have hrg := range_all (cs := [.int .i64 0, .int .i64 0, .int .i64 0, .int .i64 0, .int .i64 0, .slice A2 0 c2]) HP6.out
      go_wp2_with (first | (refine wpList_load_mid rfl 54 _ rfl b9 0 rfl [.int .i64 0, .int .i64 0, .int .i64 0, .int .i64 0, .int .i64 0, .slice A2 0 c2] _ hrg Tryz.underlying54 rfl info_pd ?_) | (refine wpList_build rfl _ _ rfl #[] (by kernel_rfl) _ (run_build_pd0 _) ?_))
      refine (samep_true 0 0 0 0 0 A2 none 0 c2 0 W6 (Lib.hid fun V hV => by
        have h := sameBits_any V 0 0 A2 none c2 0 [] [] (by simp) (Rd.nil _ _ _) (Rd.nil _ _ _)
        simpa using h)).mono ?_
      rintro e w10 ⟨rfl, q10⟩
      have HFin := Lib.hid (HWf.out.trans (q10.mono HWf.out.size))
      clear q10 hrg
      go_wp2
      go_ret
      exact ⟨rfl, HFin.out⟩)
end

section
set_option maxRecDepth 100000
set_option linter.unusedVariables false
open Go.RowKit Go.Shelf

theorem row_none (N i : Nat) : row (List.replicate N []) i = [] := by
  unfold row
  rcases Nat.lt_or_ge i N with h | h
  · simp [h]
  · rw [List.getElem?_eq_none (by simpa using h)]; rfl
theorem nd_none (B ls k N i r : Nat) : (ndB B ls k (List.replicate N []) i r).length = (if B = 0 then 0 else 2 * lg r + 1) + 1 := by
  unfold ndB sbits
  rw [row_none]
  simp only [List.length_append, List.length_nil, if_true, gam_length]
  have h0 : lg 0 = 0 := by decide
  rw [h0]
  split <;> simp [gam_length]
theorem pk_none (B ls k N : Nat) : ∀ n, (pkB B ls k (List.replicate N []) n).length = n * (1 + min B 1)
  | 0 => by simp [pkB]
  | n + 1 => by
    rw [pkB_succ, List.length_append, pk_none B ls k N n]
    have h1 := nd_none B ls k N n (bst B ls k (List.replicate N []) n)
    have h2 := bst_min B ls k (List.replicate N []) n 0 (by omega)
    rw [h1] at h2 ⊢
    rw [nd_none] at h2
    have h0 : lg 0 = 0 := by decide
    rw [h0] at h2
    by_cases hB : B = 0
    · subst hB
      simp only [if_true]
      simp [Nat.succ_mul]
    · rw [if_neg hB] at h2 ⊢
      rw [if_neg hB] at h2
      have hm : min B 1 = 1 := by omega
      rw [hm]
      omega
theorem gok_none (N : Nat) (hN : N ≤ 100) : GOk (List.replicate N []) := by
  refine ⟨by simpa using hN, fun l hl => ?_, fun l hl x hx => ?_, ?_⟩
  · rw [(List.mem_replicate.1 hl).2]; exact List.Pairwise.nil
  · rw [(List.mem_replicate.1 hl).2] at hx; simp at hx
  · have : ∀ n b, (arcs b (List.replicate n [])).length = 0 := by
      intro n
      induction n with
      | zero => intro b; simp [arcs]
      | succ n ih => intro b; rw [List.replicate_succ]; simp [arcs]; simpa using ih _
    rw [this]; omega
theorem gr_none (N : Nat) (hN : N ≤ 100) : GrR (List.replicate N []) (List.replicate N (none, 0, [])) :=
  ⟨gok_none N hN, by simp [gs, ns], fun r hr => by rw [(List.mem_replicate.1 hr).2]; simp⟩
set_option maxHeartbeats 1000000 in
theorem packPlain_in (N : Nat) (hN : N ≤ 100) (B ls k : Int) (w : World) : Calls Tryz.prog 14 #[.int .i64 (N : Int), .agg #[.int .i64 B, .int .i64 ls, .int .i64 k]] w fun e w' => e = .returned (.bool true) ∧ Below w.heap.size w w' := by
  have HBg : Hid (∀ V, Calls Tryz.prog 36 #[] V fun e w' => e = .returned (.bool true) ∧ Below V.heap.size V w') := fun V => packbegun_ok V
  have hGr := gr_none N hN
  have hl : (List.replicate N ((none, 0, []) : Rw)).length = N := by simp
  by_cases hh : hck B ls k = 0
  · obtain ⟨B', ls', k', rfl, rfl, rfl, hB, hls, hk, hk2⟩ := hck_nat hh
    have hlen := pk_none B' ls' k' N N
    have hfit : (pkB B' ls' k' (List.replicate N []) N).length ≤ 8192 := by
      rw [hlen]
      rcases (show min B' 1 = 0 ∨ min B' 1 = 1 by omega) with q | q <;> rw [q] <;> omega
    refine packplain_w w N hN _ _ _ (N : Int) (B' : Int) (ls' : Int) (k' : Int) ((pkB B' ls' k' (List.replicate N []) N).length : Int) _ (pack (pkB B' ls' k' (List.replicate N []) N)) 0 HBg (Lib.hid fun A V hV => write_l N _ _ _ A N _ _ _ _ _ _ _ N _ N _ 0 V (Lib.hid fun W hW => (pack_ok hGr N hl B' ls' k' hB hls hk hk2 A N W (hV.on hW)).mono fun e w' q => by
      unfold PakP at q
      rw [if_pos hfit] at q
      exact q)) (Lib.hid fun _ => ⟨by omega, ?_⟩) (Lib.hid fun q => absurd rfl q)
    rw [hlen]
    rcases (show min B' 1 = 0 ∨ min B' 1 = 1 by omega) with q | q
    · have q2 : min (B' : Int) 1 = 0 := by omega
      rw [q, q2]; simp
    · have q2 : min (B' : Int) 1 = 1 := by omega
      rw [q, q2]; simp
  · refine packplain_w w N hN B ls k 0 0 0 0 0 0 [] (hck B ls k) HBg (Lib.hid fun A V hV => write_l N B ls k A N 0 0 0 0 0 0 [] 0 [] 0 [] (hck B ls k) V (Lib.hid fun W hW => ?_)) (Lib.hid fun q => absurd q hh) (Lib.hid fun _ => ⟨rfl, rfl, rfl, rfl, rfl, rfl⟩)
    have hz : grE (gs (List.replicate N ((none, 0, []) : Rw))) = 0 := by
      rw [hGr.eq]; exact grE_ok _ hGr.ok
    exact pack_e (List.replicate N (none, 0, [])) N hl (by omega) B ls k (hck B ls k) (by rw [if_pos hz]) hh A N W (hV.on hW)
theorem packPlain_out (n : Int) (hn : n < 0 ∨ 100 < n) (B ls k : Int) (w : World) : Calls Tryz.prog 14 #[.int .i64 n, .agg #[.int .i64 B, .int .i64 ls, .int .i64 k]] w fun e w' => e = .returned (.bool true) ∧ Below w.heap.size w w' := by
  have HBg : Hid (∀ V, Calls Tryz.prog 36 #[] V fun e w' => e = .returned (.bool true) ∧ Below V.heap.size V w') := fun V => packbegun_ok V
  have hw1 := one_below w (.cells #[.int .i64 B, .int .i64 ls, .int .i64 k] 24)
  obtain ⟨V1, hV1⟩ : ∃ V1, w.alloc (.cells #[.int .i64 B, .int .i64 ls, .int .i64 k] 24) = V1 := ⟨_, rfl⟩
  rw [hV1] at hw1
  have HW1 := Lib.hid hw1
  clear hw1
  rcases hn with hn | hn
  all_goals (
    go_enter Tryz.func14, Tryz.ntmps14
    go_wp2_with fail
    try rw [hV1]
    refine (HBg.out V1).mono ?_
    rintro e V2 ⟨rfl, q2⟩
    have HFin := Lib.hid (HW1.out.trans (q2.mono HW1.out.size))
    clear q2 hV1
    go_wp2
    go_ret
    exact ⟨rfl, HFin.out⟩)
theorem packPlain_law (n : Int) (B ls k : Int) (w : World) : Calls Tryz.prog 14 #[.int .i64 n, .agg #[.int .i64 B, .int .i64 ls, .int .i64 k]] w fun e w' => e = .returned (.bool true) ∧ Below w.heap.size w w' := by
  rcases (show (n < 0 ∨ 100 < n) ∨ (0 ≤ n ∧ n ≤ 100) by omega) with h | ⟨h1, h2⟩
  · exact packPlain_out n h B ls k w
  · obtain ⟨N, rfl⟩ := Int.eq_ofNat_of_zero_le h1
    exact packPlain_in N (by omega) B ls k w
end

section
open Go.ChangeShapes Go.WideShapes Go.ChangeAt Go.RowKit
open Go.ChangeMaps (open_string shut_string)

set_option linter.unusedVariables false
set_option maxRecDepth 100000 in
theorem packPlain_lifted (os : Os) (started : os.Started) (H : Type) (enc : TypeId × Value → H) :
    ReturnsInHanded {} Tryz.checked os 14 .any (Rows.packPlainSpec.pre6 enc Tryz.prog Tryz.f14 Rows.packPlainRow.domain false) (Rows.packPlainSpec.post enc Tryz.prog Tryz.f14 false true false false) := by
  refine returnsInHanded_of_change (C := Tryz.checked) own started (by kernel_rfl) Tryz.func14
    (ChangeSpec.witness6 (enc := enc) (C := Tryz.checked) false ⟨#[], #[.int .i64 0, .agg #[.int .i64 0, .int .i64 0, .int .i64 0]], []⟩ 8 (by kernel_rfl) (by kernel_rfl) (by kernel_rfl) (by kernel_rfl)) ?_
  intro W base args ds gs before hval0 hW hcnd _
  have hval : ∀ (j : Nat) t v, Tryz.f14.params[j]? = some t → args[j]? = some v → Value.okWide Tryz.prog W .any base t v := hval0
  have hW' := hW
  obtain ⟨p, q, hA0, hV, rfl, hfz, hnd⟩ := hW
  have hA : DataW.TrodAll enc Tryz.prog W 0 (fun _ => true) true Tryz.f14.params.toList args.toList ds p := hA0
  rw [Tryz.params14] at hA hval
  obtain ⟨v0, vs0, d0, ds0, p0, q0, hargs, rfl, rfl, h0, r0⟩ := trodAll_cons hA
  obtain ⟨v1, vs1, d1, ds1, p1, q1, rfl, rfl, rfl, h1, r1⟩ := trodAll_cons r0
  obtain ⟨rfl, rfl, rfl⟩ := trodAll_nil r1
  obtain rfl : args = #[v0, v1] := by cases args; simp_all
  obtain ⟨rfl, rfl⟩ := trodVars_none hV
  obtain ⟨x0, rfl, rfl, rfl, wx0⟩ := open_int Tryz.underlying3 (hval 0 3 v0 rfl rfl) h0
  have bd0 := bounds_i64 wx0
  have k1 := h1
  have lt1 : ∀ x ∈ p1, x.block < W.heap.size := by obtain ⟨m, hm⟩ := k1; exact DataW.trod_lt m _ _ _ hm
  obtain ⟨hb1, hs1, hk1, rfl, bb1, bs1, bk1⟩ := open_how (hval 1 24 v1 rfl rfl) h1
  clear hA0 hval0
  refine (packPlain_law x0 hb1 hs1 hk1 W).mono fun e W' ⟨he, bel⟩ => ?_
  subst he
  exact ⟨_, rfl, _, _, _, [], _, [], hW', trodAll_mk1 (shut_bool Tryz.underlying4 _), (trodAll_cons_mk (shut_int Tryz.underlying3 wx0) (trodAll_cons_mk (Below.trod laidOut (by kernel_rfl) (of_decide_eq_true (by kernel_rfl)) k1 bel lt1) trodAll_mk0)), rfl, bel.frame _, fun h => by cases h⟩

theorem PackPlain_holds : Rows.PackPlainSaid :=
  OpenClaim.holds_of_wide 14 Tryz.f14 rfl rfl rfl rfl rfl rfl rfl ⟨rfl, rfl, rfl, rfl, rfl⟩ rfl rfl rfl rfl rfl (by kernel_rfl) Tryz.func14 (by kernel_rfl)
    (of_decide_eq_true (by kernel_rfl)) (by unfold Func.isWrapper; first | (rw [if_pos (by decide +kernel)]; kernel_rfl) | (rw [if_neg (by decide +kernel)]; exact ⟨rfl, rfl⟩))
    (fun os started H enc _ => packPlain_lifted os started H enc)
#print axioms PackPlain_holds
end
end Go.Proofs.YticdnodlapafoaaGreat
