/- Texts of this proof, one behind the other; each fact names its conditions. -/
import Derived.Test.YtbddcokjkdoaaaaGreatSN24
import Derived.Test.YtbddcokjkdoaaaaGreatSN7
import Derived.Laws.StructEq
import Derived.Deep.RegionHeld3
namespace Go.Proofs.YtbddcokjkdoaaaaGreat
section
set_option maxRecDepth 100000
set_option linter.unusedVariables false
open Go.RowKit Go.Shelf
theorem eqh_run (a b c d e f : Int) (w : World) : (binOp .eql 24 (.agg #[.int .i64 a, .int .i64 b, .int .i64 c]) (.agg #[.int .i64 d, .int .i64 e, .int .i64 f])).run Tryz.prog w = .ok (.bool (a == d && (b == e && c == f))) w := by
  have h60 := Tryz.underlying24
  have h3 := Tryz.underlying3
  by_cases h1 : a = d <;> by_cases h2 : b = e <;> by_cases h4 : c = f <;> simp [go_sem, h60, h3, h1, h2, h4]
theorem pd2 (w : World) (a b : List Value) : ∃ w2, (w.alloc (.cells a.toArray 44)).alloc (.cells b.toArray 44) = w2 ∧ Below w.heap.size w w2 ∧ w2.heap.size = w.heap.size + 2 ∧
    (∀ V, Below w2.heap.size w2 V → V.heap[w.heap.size]? = some (.cells a.toArray 44 (0, 0)) ∧ V.heap[w.heap.size + 1]? = some (.cells b.toArray 44 (0, 0))) := by
  have h1 := World.alloc_heap_new w (.cells a.toArray 44)
  have h2 := World.alloc_heap_new (w.alloc (.cells a.toArray 44)) (.cells b.toArray 44)
  have b1 := one_below w (.cells a.toArray 44)
  have b2 := one_below (w.alloc (.cells a.toArray 44)) (.cells b.toArray 44)
  rw [World.size_alloc] at h2 b2
  exact ⟨_, rfl, b1.trans (b2.mono (by omega)), by simp [World.size_alloc], fun V hV => ⟨(hV.block _ (by simp [World.size_alloc]; omega)).trans ((b2.block _ (by omega)).trans h1), (hV.block _ (by simp [World.size_alloc])).trans h2⟩⟩
set_option maxHeartbeats 8000000 in
theorem samep_true (N B ls k len : Int) (A1 A2 : Option Addr) (n c1 c2 : Nat) (w : World)
    (HS : Hid (∀ V, Below w.heap.size w V → Calls Tryz.prog 20 #[.agg #[.int .i64 len, .slice A1 n c1], .agg #[.int .i64 len, .slice A2 n c2]] V fun e w' => e = .returned (.bool true) ∧ Below V.heap.size V w')) :
    Calls Tryz.prog 31 #[.agg #[.int .i64 N, .int .i64 B, .int .i64 ls, .int .i64 k, .int .i64 len, .slice A1 n c1], .agg #[.int .i64 N, .int .i64 B, .int .i64 ls, .int .i64 k, .int .i64 len, .slice A2 n c2]] w fun e w' => e = .returned (.bool true) ∧ Below w.heap.size w w' := by
  obtain ⟨w1, ew1, hb1, hs1, hk1⟩ := pd2 w [.int .i64 N, .int .i64 B, .int .i64 ls, .int .i64 k, .int .i64 len, .slice A1 n c1] [.int .i64 N, .int .i64 B, .int .i64 ls, .int .i64 k, .int .i64 len, .slice A2 n c2]
  have HB1 := Lib.hid hb1
  obtain ⟨ha, hb⟩ := hk1 w1 (Below.refl _ _)
  have a0 : w1.cell? ⟨w.heap.size, 0, none⟩ = some (.int .i64 N) := (cell_at ha 0).trans rfl
  have a1 : w1.cell? ⟨w.heap.size, 1, none⟩ = some (.int .i64 B) := (cell_at ha 1).trans rfl
  have a2 : w1.cell? ⟨w.heap.size, 2, none⟩ = some (.int .i64 ls) := (cell_at ha 2).trans rfl
  have a3 : w1.cell? ⟨w.heap.size, 3, none⟩ = some (.int .i64 k) := (cell_at ha 3).trans rfl
  have a4 : w1.cell? ⟨w.heap.size, 4, none⟩ = some (.int .i64 len) := (cell_at ha 4).trans rfl
  have a5 : w1.cell? ⟨w.heap.size, 5, none⟩ = some (.slice A1 n c1) := (cell_at ha 5).trans rfl
  have b0 : w1.cell? ⟨w.heap.size + 1, 0, none⟩ = some (.int .i64 N) := (cell_at hb 0).trans rfl
  have b1 : w1.cell? ⟨w.heap.size + 1, 1, none⟩ = some (.int .i64 B) := (cell_at hb 1).trans rfl
  have b2 : w1.cell? ⟨w.heap.size + 1, 2, none⟩ = some (.int .i64 ls) := (cell_at hb 2).trans rfl
  have b3 : w1.cell? ⟨w.heap.size + 1, 3, none⟩ = some (.int .i64 k) := (cell_at hb 3).trans rfl
  have b4 : w1.cell? ⟨w.heap.size + 1, 4, none⟩ = some (.int .i64 len) := (cell_at hb 4).trans rfl
  have b5 : w1.cell? ⟨w.heap.size + 1, 5, none⟩ = some (.slice A2 n c2) := (cell_at hb 5).trans rfl
  have he : ∀ w : World, (binOp .eql 24 (.agg #[.int .i64 B, .int .i64 ls, .int .i64 k]) (.agg #[.int .i64 B, .int .i64 ls, .int .i64 k])).run Tryz.prog w = .ok (.bool true) w := fun w => by rw [eqh_run]; simp
  clear hb1 hs1 hk1 ha hb
  go_enter Tryz.func31, Tryz.ntmps31
  go_wp2_with fail
  try rw [ew1]
  refine (HS.out w1 HB1.out).mono ?_
  rintro e w2 ⟨rfl, q2⟩
  have HB2 := Lib.hid q2
  clear q2 ew1 a0 a1 a2 a3 a4 a5 b0 b1 b2 b3 b4 b5
  go_wp2
  go_ret
  exact ⟨rfl, HB1.out.trans (HB2.out.mono HB1.out.size)⟩
def sgG : List (List Nat) := [[1, 2, 3, 5], [1, 2, 3, 5], [0, 1, 2, 3, 5], [], [4], [1, 2, 3]]
def SgP (w : World) (e : Ending) (w' : World) : Prop :=
  ∃ A c R, e = .returned (.agg #[.slice A 6 c]) ∧ gs R = sgG.map ns ∧ (∀ r ∈ R, r.2.2.length ≤ r.2.1) ∧ RdK w.heap.size w' A R ∧ Below w.heap.size w w'
theorem sg_ok : GOk sgG := by
  obtain ⟨g, hg, hok⟩ := grE_zero (sgG.map ns) (by decide +kernel)
  rw [mapns_inj _ _ hg]; exact hok
theorem rdz_at {W : World} {b : Nat} {l : List Nat} {t : TypeId} (h : W.heap[b]? = some (.cells (zc (ns l)).toArray t (0, 0))) : RdV W W.heap.size (some ⟨b, 0, none⟩) (zc (ns l)) :=
  .inr ⟨b, 0, rfl, (Array.getElem?_eq_some_iff.1 h).1, fun i v hi => by rw [Nat.zero_add, cell_at h]; simpa using hi⟩
theorem sg_rd {W : World} {b : Nat} (h1 : W.heap[b + 1]? = some (.cells #[.int .i64 1, .int .i64 2, .int .i64 3, .int .i64 5] 3 (0, 0))) (h2 : W.heap[b + 2]? = some (.cells #[.int .i64 1, .int .i64 2, .int .i64 3, .int .i64 5] 3 (0, 0))) (h3 : W.heap[b + 3]? = some (.cells #[.int .i64 0, .int .i64 1, .int .i64 2, .int .i64 3, .int .i64 5] 3 (0, 0))) (h4 : W.heap[b + 4]? = some (.cells #[.int .i64 4] 3 (0, 0))) (h5 : W.heap[b + 5]? = some (.cells #[.int .i64 1, .int .i64 2, .int .i64 3] 3 (0, 0)))
    (h6 : W.heap[b + 6]? = some (.cells #[.slice (some ⟨b + 1, 0, none⟩) 4 4, .slice (some ⟨b + 2, 0, none⟩) 4 4, .slice (some ⟨b + 3, 0, none⟩) 5 5, .slice none 0 0, .slice (some ⟨b + 4, 0, none⟩) 1 1, .slice (some ⟨b + 5, 0, none⟩) 3 3] 22 (0, 0))) :
    RdG W W.heap.size (some ⟨b + 6, 0, none⟩) [(some ⟨b + 1, 0, none⟩, 4, ns [1, 2, 3, 5]), (some ⟨b + 2, 0, none⟩, 4, ns [1, 2, 3, 5]), (some ⟨b + 3, 0, none⟩, 5, ns [0, 1, 2, 3, 5]), (none, 0, ns []), (some ⟨b + 4, 0, none⟩, 1, ns [4]), (some ⟨b + 5, 0, none⟩, 3, ns [1, 2, 3])] := by
  refine ⟨.inr ⟨b + 6, 0, rfl, (Array.getElem?_eq_some_iff.1 h6).1, fun i v hi => by rw [Nat.zero_add, cell_at h6]; simpa [rcl, sl, ns] using hi⟩, fun r hr => ?_⟩
  simp only [List.mem_cons, List.not_mem_nil, or_false] at hr
  rcases hr with rfl | rfl | rfl | rfl | rfl | rfl
  · exact ⟨rdz_at (l := [1, 2, 3, 5]) h1, by simp [ns]⟩
  · exact ⟨rdz_at (l := [1, 2, 3, 5]) h2, by simp [ns]⟩
  · exact ⟨rdz_at (l := [0, 1, 2, 3, 5]) h3, by simp [ns]⟩
  · exact ⟨.inl rfl, by simp [ns]⟩
  · exact ⟨rdz_at (l := [4]) h4, by simp [ns]⟩
  · exact ⟨rdz_at (l := [1, 2, 3]) h5, by simp [ns]⟩
theorem seven_at (w : World) (o0 o1 o2 o3 o4 o5 o6 : Obj) : ∃ W, (((((((w.alloc o0).alloc o1).alloc o2).alloc o3).alloc o4).alloc o5).alloc o6) = W ∧ Below w.heap.size w W ∧ W.heap[w.heap.size]? = some o0 ∧ W.heap[w.heap.size + 1]? = some o1 ∧ W.heap[w.heap.size + 2]? = some o2 ∧ W.heap[w.heap.size + 3]? = some o3 ∧ W.heap[w.heap.size + 4]? = some o4 ∧ W.heap[w.heap.size + 5]? = some o5 ∧ W.heap[w.heap.size + 6]? = some o6 ∧ W.heap.size = w.heap.size + 7 := by
  have st : ∀ (V : World) (o : Obj) (n : Nat), V.heap.size = n → (V.alloc o).heap.size = n + 1 ∧ (V.alloc o).heap[n]? = some o ∧ ∀ i x, V.heap[i]? = some x → (V.alloc o).heap[i]? = some x := fun V o n hn => ⟨by rw [World.size_alloc, hn], by rw [← hn]; exact World.alloc_heap_new V o, fun i x h => (Below.heap_alloc _ _ _ (Array.getElem?_eq_some_iff.1 h).1).trans h⟩
  obtain ⟨s0, g0, k0⟩ := st w o0 _ rfl
  obtain ⟨s1, g1, k1⟩ := st _ o1 _ s0
  obtain ⟨s2, g2, k2⟩ := st _ o2 _ s1
  obtain ⟨s3, g3, k3⟩ := st _ o3 _ s2
  obtain ⟨s4, g4, k4⟩ := st _ o4 _ s3
  obtain ⟨s5, g5, k5⟩ := st _ o5 _ s4
  obtain ⟨s6, g6, k6⟩ := st _ o6 _ s5
  refine ⟨_, rfl, ?_, k6 _ _ (k5 _ _ (k4 _ _ (k3 _ _ (k2 _ _ (k1 _ _ g0))))), k6 _ _ (k5 _ _ (k4 _ _ (k3 _ _ (k2 _ _ g1)))), k6 _ _ (k5 _ _ (k4 _ _ (k3 _ _ g2))), k6 _ _ (k5 _ _ (k4 _ _ g3)), k6 _ _ (k5 _ _ g4), k6 _ _ g5, g6, s6⟩
  exact (((((((Below.refl _ w).alloc (Nat.le_refl _) _).alloc (by omega) _).alloc (by omega) _).alloc (by omega) _).alloc (by omega) _).alloc (by omega) _).alloc (by omega) _
set_option maxHeartbeats 4000000 in
theorem some_ok (w : World) : Calls Tryz.prog 77 #[] w (SgP w) := by
  go_enter Tryz.func77, Tryz.ntmps77
  go_wp2
  obtain ⟨W, hW, hb, g0, g1, g2, g3, g4, g5, g6, hs⟩ := seven_at w (.cells #[.slice (some ⟨w.heap.size + 6, 0, none⟩) 6 6] 42) (.cells #[.int .i64 1, .int .i64 2, .int .i64 3, .int .i64 5] 3) (.cells #[.int .i64 1, .int .i64 2, .int .i64 3, .int .i64 5] 3) (.cells #[.int .i64 0, .int .i64 1, .int .i64 2, .int .i64 3, .int .i64 5] 3) (.cells #[.int .i64 4] 3) (.cells #[.int .i64 1, .int .i64 2, .int .i64 3] 3)
    (.cells #[.slice (some ⟨w.heap.size + 1, 0, none⟩) 4 4, .slice (some ⟨w.heap.size + 2, 0, none⟩) 4 4, .slice (some ⟨w.heap.size + 3, 0, none⟩) 5 5, .slice none 0 0, .slice (some ⟨w.heap.size + 4, 0, none⟩) 1 1, .slice (some ⟨w.heap.size + 5, 0, none⟩) 3 3] 22)
  simp only [Nat.add_assoc, Nat.reduceAdd]
  rw [hW]
  have m0 : W.cell? ⟨w.heap.size, 0, none⟩ = some (.slice (some ⟨w.heap.size + 6, 0, none⟩) 6 6) := (cell_at g0 0).trans rfl
  refine bodyPost_ret (v := .agg #[.slice (some ⟨w.heap.size + 6, 0, none⟩) 6 6]) (by simp [results, Tryz.results77, go_sem, m0]) rfl ⟨_, _, [(some ⟨w.heap.size + 1, 0, none⟩, 4, ns [1, 2, 3, 5]), (some ⟨w.heap.size + 2, 0, none⟩, 4, ns [1, 2, 3, 5]), (some ⟨w.heap.size + 3, 0, none⟩, 5, ns [0, 1, 2, 3, 5]), (none, 0, ns []), (some ⟨w.heap.size + 4, 0, none⟩, 1, ns [4]), (some ⟨w.heap.size + 5, 0, none⟩, 3, ns [1, 2, 3])], rfl, rfl, fun r hr => ?_, fun X hk hz => ?_, hb⟩
  · simp only [List.mem_cons, List.not_mem_nil, or_false] at hr
    rcases hr with rfl | rfl | rfl | rfl | rfl | rfl <;> simp [ns]
  · exact sg_rd ((hk _ (by omega) (by omega)).trans g1) ((hk _ (by omega) (by omega)).trans g2) ((hk _ (by omega) (by omega)).trans g3) ((hk _ (by omega) (by omega)).trans g4) ((hk _ (by omega) (by omega)).trans g5) ((hk _ (by omega) (by omega)).trans g6)
end
section
set_option maxRecDepth 100000
set_option linter.unusedVariables false
open Go.RowKit Go.Shelf
def sgL : List Bool := pkB 3 3 2 sgG 6
theorem sg_fits : sgL.length ≤ 8192 := by decide +kernel
end
section
set_option maxRecDepth 100000
set_option linter.unusedVariables false
open Go.RowKit Go.Shelf
def BgS (w W : World) (b : Nat) (A : Option Addr) (c : Nat) : Prop :=
  Below w.heap.size w W ∧ W.heap[w.heap.size]? = some (.cells #[.int .i64 3, .int .i64 3, .int .i64 2] 24 (0, 0)) ∧ W.heap[b]? = some (.cells #[.int .i64 6, .int .i64 3, .int .i64 3, .int .i64 2, .int .i64 (sgL.length : Int), .slice A (pack sgL).length c] 44 (0, 0)) ∧ Rd W W.heap.size A (pack sgL)
theorem BgS.on {w W X : World} {b : Nat} {A : Option Addr} {c : Nat} (h : BgS w W b A c) (hb : Below W.heap.size W X) : BgS w X b A c :=
  ⟨h.1.trans (hb.mono h.1.size), (hb.block _ (Array.getElem?_eq_some_iff.1 h.2.1).1).trans h.2.1, (hb.block _ (Array.getElem?_eq_some_iff.1 h.2.2.1).1).trans h.2.2.1, h.2.2.2.on hb⟩
def BgG (W : World) (g : Nat) (A : Option Addr) (c : Nat) (R : List Rw) : Prop := W.heap[g]? = some (.cells #[.slice A 6 c] 42 (0, 0)) ∧ RdG W W.heap.size A R
theorem BgG.on {W X : World} {g : Nat} {A : Option Addr} {c : Nat} {R : List Rw} (h : BgG W g A c R) (hb : Below W.heap.size W X) : BgG X g A c R :=
  ⟨(hb.block _ (Array.getElem?_eq_some_iff.1 h.1).1).trans h.1, h.2.on hb⟩
end
end Go.Proofs.YtbddcokjkdoaaaaGreat
