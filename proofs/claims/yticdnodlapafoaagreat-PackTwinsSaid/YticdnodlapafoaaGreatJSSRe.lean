/- What the reader answers; conditions: bits that can be read, a node, a way that is right. -/
import Derived.Test.YticdnodlapafoaaGreatJSSDf
import Derived.Test.YticdnodlapafoaaGreatJSSWt
namespace Go.Proofs.YticdnodlapafoaaGreat
set_option maxRecDepth 100000
set_option linter.unusedVariables false
open Go.RowKit Go.Shelf

/-- A list, a place and an error come back. -/
def ReP (Q : Nat) (w : World) (l : List Nat) (to : Nat) (err : Int) (e : Ending) (w' : World) : Prop :=
  ∃ A c, e = .returned (.tuple #[.slice A l.length c, .int .i64 (to : Int), .int .i64 err]) ∧ l.length ≤ c ∧ (A = none → c = 0) ∧ RdV w' w'.heap.size A (zc (ns l)) ∧ WB Q w w'
/-- Four new blocks. -/
theorem four_at (w : World) (o0 o1 o2 o3 : Obj) (V : World) (h : (((w.alloc o0).alloc o1).alloc o2).alloc o3 = V) :
    V.heap.size = w.heap.size + 4 ∧ Below w.heap.size w V := by
  subst h
  refine ⟨by simp, ((((Below.refl _ w).alloc (Nat.le_refl _) _).alloc (by simp) _).alloc (by simp; omega) _).alloc (by simp; omega) _⟩
theorem four_get (w : World) (c0 c1 c2 c3 : Array Value) (t0 t1 t2 t3 : TypeId) (V : World) (h : (((w.alloc (.cells c0 t0)).alloc (.cells c1 t1)).alloc (.cells c2 t2)).alloc (.cells c3 t3) = V) :
    V.heap[w.heap.size]? = some (.cells c0 t0 (0, 0)) ∧ V.heap[w.heap.size + 1]? = some (.cells c1 t1 (0, 0)) ∧ V.heap[w.heap.size + 2]? = some (.cells c2 t2 (0, 0)) ∧ V.heap[w.heap.size + 3]? = some (.cells c3 t3 (0, 0)) := by
  subst h
  have s1 := World.size_alloc w (.cells c0 t0)
  have s2 := World.size_alloc (w.alloc (.cells c0 t0)) (.cells c1 t1)
  have s3 := World.size_alloc ((w.alloc (.cells c0 t0)).alloc (.cells c1 t1)) (.cells c2 t2)
  rw [s1] at s2
  rw [s2] at s3
  have g0 := World.alloc_heap_new w (.cells c0 t0)
  have g1 := World.alloc_heap_new (w.alloc (.cells c0 t0)) (.cells c1 t1)
  have g2 := World.alloc_heap_new ((w.alloc (.cells c0 t0)).alloc (.cells c1 t1)) (.cells c2 t2)
  have g3 := World.alloc_heap_new (((w.alloc (.cells c0 t0)).alloc (.cells c1 t1)).alloc (.cells c2 t2)) (.cells c3 t3)
  have b1 := one_below (w.alloc (.cells c0 t0)) (.cells c1 t1)
  have b2 := one_below ((w.alloc (.cells c0 t0)).alloc (.cells c1 t1)) (.cells c2 t2)
  have b3 := one_below (((w.alloc (.cells c0 t0)).alloc (.cells c1 t1)).alloc (.cells c2 t2)) (.cells c3 t3)
  rw [s1] at g1 b1
  rw [s2] at g2 b2
  rw [s3] at g3 b3
  exact ⟨((b3.block _ (by omega)).trans ((b2.block _ (by omega)).trans (b1.block _ (by omega)))).trans g0, ((b3.block _ (by omega)).trans (b2.block _ (by omega))).trans g1, (b3.block _ (by omega)).trans g2, g3⟩
set_option maxHeartbeats 8000000 in
theorem rd_gives_up (L : List Bool) (hL : L.length ≤ 8192) (A : Option Addr) (c Q s : Nat) (a bk ls k : Nat) (F : List Nat) (n : Nat) (A1 : Option Addr) (c1 : Nat) (w : World) (hQ : RB w Q L A c s)
    (HTl : Hid (∀ V, Below w.heap.size w V → Calls Tryz.prog 77 #[.pointer (some ⟨Q, 0, none⟩), .int .i64 (a : Int), .slice A1 n c1, .agg #[.int .i64 (bk : Int), .int .i64 (ls : Int), .int .i64 (k : Int)]] V (TlP Q L A c V none))) :
    Calls Tryz.prog 47 #[.pointer (some ⟨Q, 0, none⟩), .int .i64 (a : Int), .slice A1 n c1, .agg #[.int .i64 (bk : Int), .int .i64 (ls : Int), .int .i64 (k : Int)]] w (ReP Q w [] 0 1) := by
  have hmf : ∀ (fn : Fn) (first cap : Array Value) (w : World), (Instr.makeFunc fn first cap).run Tryz.prog w = .ok (.func fn first cap) w := fun _ _ _ _ => rfl
  have hlt := hQ.lt
  obtain ⟨V0, hV0⟩ : ∃ V0, (((w.alloc (.cells #[.int .i64 (bk : Int), .int .i64 (ls : Int), .int .i64 (k : Int)] 24)).alloc (.cells #[.slice none 0 0] 22)).alloc (.cells #[.int .i64 0] 3)).alloc (.cells #[.int .i64 0] 28) = V0 := ⟨_, rfl⟩
  obtain ⟨hsz, hB0⟩ := four_at w _ _ _ _ V0 hV0
  obtain ⟨g0, g1, g2, g3⟩ := four_get w _ _ _ _ _ _ _ _ V0 hV0
  have p0 : V0.cell? ⟨w.heap.size, 0, none⟩ = some (.int .i64 (bk : Int)) := (cell_at g0 _).trans rfl
  have p1 : V0.cell? ⟨w.heap.size, 1, none⟩ = some (.int .i64 (ls : Int)) := (cell_at g0 _).trans rfl
  have p2 : V0.cell? ⟨w.heap.size, 2, none⟩ = some (.int .i64 (k : Int)) := (cell_at g0 _).trans rfl
  have HG : Hid (V0.heap[w.heap.size + 1]? = some (.cells #[.slice none 0 0] 22 (0, 0)) ∧ V0.heap[w.heap.size + 2]? = some (.cells #[.int .i64 0] 3 (0, 0)) ∧ V0.heap[w.heap.size + 3]? = some (.cells #[.int .i64 0] 28 (0, 0))) := ⟨g1, g2, g3⟩
  have Hsz := Lib.hid hsz
  clear g0 g1 g2 g3 hsz
  have hQ0 := hQ.on hB0
  have k2 : V0.cell? ⟨Q, 2, none⟩ = some (.int .i64 (s : Int)) := (cell_at hQ0 _).trans rfl
  have HB0 := Lib.hid hB0
  have HTl0 := Lib.hid (HTl.out V0 hB0)
  clear hQ hB0 hQ0 HTl
  go_enter_defers Tryz.func47, Tryz.ntmps47
  go_wp2_with fail
  refine HTl0.out.mono ?_
  rintro e v1 ⟨hwb, rfl⟩
  have HW1 := Lib.hid ((wb_below HB0.out).trans hwb)
  have hq1 : v1.heap[w.heap.size + 1]? = some (.cells #[.slice none 0 0] 22 (0, 0)) := (hwb.block _ (by have := Hsz.out; omega) (by simp; omega)).trans HG.out.1
  have hq2 : v1.heap[w.heap.size + 2]? = some (.cells #[.int .i64 0] 3 (0, 0)) := (hwb.block _ (by have := Hsz.out; omega) (by simp; omega)).trans HG.out.2.1
  have hq3 : v1.heap[w.heap.size + 3]? = some (.cells #[.int .i64 0] 28 (0, 0)) := (hwb.block _ (by have := Hsz.out; omega) (by simp; omega)).trans HG.out.2.2
  have j0 : v1.cell? ⟨w.heap.size + 1, 0, none⟩ = some (.slice none 0 0) := (cell_at hq1 _).trans rfl
  have j1 : v1.cell? ⟨w.heap.size + 2, 0, none⟩ = some (.int .i64 0) := (cell_at hq2 _).trans rfl
  have j2 : v1.cell? ⟨w.heap.size + 3, 0, none⟩ = some (.int .i64 0) := (cell_at hq3 _).trans rfl
  have f0 := frz_at hq1 0
  have f1 := frz_at hq2 0
  have f2 := frz_at hq3 0
  have HFin : Hid (WB Q w (((v1.setCell ⟨w.heap.size + 1, 0, none⟩ (.slice none 0 0)).setCell ⟨w.heap.size + 2, 0, none⟩ (.int .i64 0)).setCell ⟨w.heap.size + 3, 0, none⟩ (.int .i64 1))) := HW1.out.then ((((Below.refl w.heap.size v1).setCell (p := ⟨w.heap.size + 1, 0, none⟩) (by simp) _).setCell (p := ⟨w.heap.size + 2, 0, none⟩) (by simp) _).setCell (p := ⟨w.heap.size + 3, 0, none⟩) (by simp) _) (Nat.le_refl _)
  have HDf := Lib.hid (rd_panics (w.heap.size + 1) _ _ _ v1 j0 j1 j2 f0 f1 f2)
  clear hwb p0 p1 p2 k2 hq1 hq2 hq3
  go_wp2
  refine leaves_cons (f := 76) (args := #[.pointer (some ⟨w.heap.size + 1, 0, none⟩), .pointer (some ⟨w.heap.size + 2, 0, none⟩), .pointer (some ⟨w.heap.size + 3, 0, none⟩)]) (by simp) (by simp [go_sem]) ?_
  refine HDf.out.mono ?_
  rintro e u' w'' ⟨rfl, rfl, rfl⟩
  simp [Leaves, settle, results, Tryz.results47, go_sem, j0, j1, j2]
  exact ⟨none, 0, rfl, Nat.le_refl _, fun _ => rfl, .inl rfl, HFin.out⟩
end Go.Proofs.YticdnodlapafoaaGreat
