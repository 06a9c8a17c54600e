/- Texts of this proof, one behind the other; each fact names its conditions. -/
import Derived.Test.YtbddcokjkdoaaaaGreatNA15
import Derived.Test.YtbddcokjkdoaaaaGreatNA12
namespace Go.Proofs.YtbddcokjkdoaaaaGreat
section
set_option maxRecDepth 100000
set_option linter.unusedVariables false
open Go.RowKit Go.Shelf
def ReP (Q : Nat) (w : World) (l : List Nat) (to : Nat) (err : Int) (e : Ending) (w' : World) : Prop :=
  ∃ A c, e = .returned (.tuple #[.slice A l.length c, .int .i64 (to : Int), .int .i64 err]) ∧ l.length ≤ c ∧ (A = none → c = 0) ∧ RdV w' w'.heap.size A (zc (ns l)) ∧ WB Q w w'
theorem four_at (w : World) (o0 o1 o2 o3 : Obj) (V : World) (h : (((w.alloc o0).alloc o1).alloc o2).alloc o3 = V) :
    V.heap.size = w.heap.size + 4 ∧ Below w.heap.size w V := by
  subst h
  refine ⟨by simp, ((((Below.refl _ w).alloc (Nat.le_refl _) _).alloc (by simp) _).alloc (by simp; omega) _).alloc (by simp; omega) _⟩
theorem four_get (w : World) (c0 c1 c2 c3 : Array Value) (t0 t1 t2 t3 : TypeId) (V : World) (h : (((w.alloc (.cells c0 t0)).alloc (.cells c1 t1)).alloc (.cells c2 t2)).alloc (.cells c3 t3) = V) :
    V.heap[w.heap.size]? = some (.cells c0 t0 (0, 0)) ∧ V.heap[w.heap.size + 1]? = some (.cells c1 t1 (0, 0)) ∧ V.heap[w.heap.size + 2]? = some (.cells c2 t2 (0, 0)) ∧ V.heap[w.heap.size + 3]? = some (.cells c3 t3 (0, 0)) := by
  subst h
  have s1 := World.size_alloc w (.cells c0 t0)
  have s2 := World.size_alloc (w.alloc (.cells c0 t0)) (.cells c1 t1)
  have s3 := World.size_alloc ((w.alloc (.cells c0 t0)).alloc (.cells c1 t1)) (.cells c2 t2)
  rw [s1] at s2
  rw [s2] at s3
  have g0 := World.alloc_heap_new w (.cells c0 t0)
  have g1 := World.alloc_heap_new (w.alloc (.cells c0 t0)) (.cells c1 t1)
  have g2 := World.alloc_heap_new ((w.alloc (.cells c0 t0)).alloc (.cells c1 t1)) (.cells c2 t2)
  have g3 := World.alloc_heap_new (((w.alloc (.cells c0 t0)).alloc (.cells c1 t1)).alloc (.cells c2 t2)) (.cells c3 t3)
  have b1 := one_below (w.alloc (.cells c0 t0)) (.cells c1 t1)
  have b2 := one_below ((w.alloc (.cells c0 t0)).alloc (.cells c1 t1)) (.cells c2 t2)
  have b3 := one_below (((w.alloc (.cells c0 t0)).alloc (.cells c1 t1)).alloc (.cells c2 t2)) (.cells c3 t3)
  rw [s1] at g1 b1
  rw [s2] at g2 b2
  rw [s3] at g3 b3
  exact ⟨((b3.block _ (by omega)).trans ((b2.block _ (by omega)).trans (b1.block _ (by omega)))).trans g0, ((b3.block _ (by omega)).trans (b2.block _ (by omega))).trans g1, (b3.block _ (by omega)).trans g2, g3⟩
set_option maxHeartbeats 8000000 in
theorem rd_gives_up (L : List Bool) (hL : L.length ≤ 8192) (A : Option Addr) (c Q s : Nat) (a bk ls k : Nat) (F : List Nat) (n : Nat) (A1 : Option Addr) (c1 : Nat) (w : World) (hQ : RB w Q L A c s)
    (HTl : Hid (∀ V, Below w.heap.size w V → Calls Tryz.prog 101 #[.pointer (some ⟨Q, 0, none⟩), .int .i64 (a : Int), .slice A1 n c1, .agg #[.int .i64 (bk : Int), .int .i64 (ls : Int), .int .i64 (k : Int)]] V (TlP Q L A c V none))) :
    Calls Tryz.prog 54 #[.pointer (some ⟨Q, 0, none⟩), .int .i64 (a : Int), .slice A1 n c1, .agg #[.int .i64 (bk : Int), .int .i64 (ls : Int), .int .i64 (k : Int)]] w (ReP Q w [] 0 1) := by
  have hmf : ∀ (fn : Fn) (first cap : Array Value) (w : World), (Instr.makeFunc fn first cap).run Tryz.prog w = .ok (.func fn first cap) w := fun _ _ _ _ => rfl
  have hlt := hQ.lt
  obtain ⟨V0, hV0⟩ : ∃ V0, (((w.alloc (.cells #[.int .i64 (bk : Int), .int .i64 (ls : Int), .int .i64 (k : Int)] 24)).alloc (.cells #[.slice none 0 0] 22)).alloc (.cells #[.int .i64 0] 3)).alloc (.cells #[.int .i64 0] 28) = V0 := ⟨_, rfl⟩
  obtain ⟨hsz, hB0⟩ := four_at w _ _ _ _ V0 hV0
  obtain ⟨g0, g1, g2, g3⟩ := four_get w _ _ _ _ _ _ _ _ V0 hV0
  have p0 : V0.cell? ⟨w.heap.size, 0, none⟩ = some (.int .i64 (bk : Int)) := (cell_at g0 _).trans rfl
  have p1 : V0.cell? ⟨w.heap.size, 1, none⟩ = some (.int .i64 (ls : Int)) := (cell_at g0 _).trans rfl
  have p2 : V0.cell? ⟨w.heap.size, 2, none⟩ = some (.int .i64 (k : Int)) := (cell_at g0 _).trans rfl
  have HG : Hid (V0.heap[w.heap.size + 1]? = some (.cells #[.slice none 0 0] 22 (0, 0)) ∧ V0.heap[w.heap.size + 2]? = some (.cells #[.int .i64 0] 3 (0, 0)) ∧ V0.heap[w.heap.size + 3]? = some (.cells #[.int .i64 0] 28 (0, 0))) := ⟨g1, g2, g3⟩
  have Hsz := Lib.hid hsz
  clear g0 g1 g2 g3 hsz
  have hQ0 := hQ.on hB0
  have k2 : V0.cell? ⟨Q, 2, none⟩ = some (.int .i64 (s : Int)) := (cell_at hQ0 _).trans rfl
  have HB0 := Lib.hid hB0
  have HTl0 := Lib.hid (HTl.out V0 hB0)
  clear hQ hB0 hQ0 HTl
  go_enter_defers Tryz.func54, Tryz.ntmps54
  go_wp2_with fail
  refine HTl0.out.mono ?_
  rintro e v1 ⟨hwb, rfl⟩
  have HW1 := Lib.hid ((wb_below HB0.out).trans hwb)
  have hq1 : v1.heap[w.heap.size + 1]? = some (.cells #[.slice none 0 0] 22 (0, 0)) := (hwb.block _ (by have := Hsz.out; omega) (by simp; omega)).trans HG.out.1
  have hq2 : v1.heap[w.heap.size + 2]? = some (.cells #[.int .i64 0] 3 (0, 0)) := (hwb.block _ (by have := Hsz.out; omega) (by simp; omega)).trans HG.out.2.1
  have hq3 : v1.heap[w.heap.size + 3]? = some (.cells #[.int .i64 0] 28 (0, 0)) := (hwb.block _ (by have := Hsz.out; omega) (by simp; omega)).trans HG.out.2.2
  have j0 : v1.cell? ⟨w.heap.size + 1, 0, none⟩ = some (.slice none 0 0) := (cell_at hq1 _).trans rfl
  have j1 : v1.cell? ⟨w.heap.size + 2, 0, none⟩ = some (.int .i64 0) := (cell_at hq2 _).trans rfl
  have j2 : v1.cell? ⟨w.heap.size + 3, 0, none⟩ = some (.int .i64 0) := (cell_at hq3 _).trans rfl
  have f0 := frz_at hq1 0
  have f1 := frz_at hq2 0
  have f2 := frz_at hq3 0
  have HFin : Hid (WB Q w (((v1.setCell ⟨w.heap.size + 1, 0, none⟩ (.slice none 0 0)).setCell ⟨w.heap.size + 2, 0, none⟩ (.int .i64 0)).setCell ⟨w.heap.size + 3, 0, none⟩ (.int .i64 1))) := HW1.out.then ((((Below.refl w.heap.size v1).setCell (p := ⟨w.heap.size + 1, 0, none⟩) (by simp) _).setCell (p := ⟨w.heap.size + 2, 0, none⟩) (by simp) _).setCell (p := ⟨w.heap.size + 3, 0, none⟩) (by simp) _) (Nat.le_refl _)
  have HDf := Lib.hid (rd_panics (w.heap.size + 1) _ _ _ v1 j0 j1 j2 f0 f1 f2)
  clear hwb p0 p1 p2 k2 hq1 hq2 hq3
  go_wp2
  refine leaves_cons (f := 100) (args := #[.pointer (some ⟨w.heap.size + 1, 0, none⟩), .pointer (some ⟨w.heap.size + 2, 0, none⟩), .pointer (some ⟨w.heap.size + 3, 0, none⟩)]) (by simp) (by simp [go_sem]) ?_
  refine HDf.out.mono ?_
  rintro e u' w'' ⟨rfl, rfl, rfl⟩
  simp [Leaves, settle, results, Tryz.results54, go_sem, j0, j1, j2]
  exact ⟨none, 0, rfl, Nat.le_refl _, fun _ => rfl, .inl rfl, HFin.out⟩
end
section
set_option maxRecDepth 100000
set_option linter.unusedVariables false
open Go.RowKit Go.Shelf
set_option maxHeartbeats 8000000 in
theorem rd_goes_on (L : List Bool) (hL : L.length ≤ 8192) (A : Option Addr) (c Q s : Nat) (a bk ls k : Nat) (l : List Nat) (s' : Nat) (n : Nat) (A1 : Option Addr) (c1 : Nat) (w : World) (hQ : RB w Q L A c s)
    (HTl : Hid (∀ V, Below w.heap.size w V → Calls Tryz.prog 101 #[.pointer (some ⟨Q, 0, none⟩), .int .i64 (a : Int), .slice A1 n c1, .agg #[.int .i64 (bk : Int), .int .i64 (ls : Int), .int .i64 (k : Int)]] V (TlP Q L A c V (some (l, s')))))
    (hR : Rd w Q A (pack L)) (SB : List Bool) (ok : Bool) (l0 : List Nat) (t0 : Nat) (e0 : Int) (hres : Hid ((ok = true → l0 = l ∧ t0 = s' ∧ e0 = 0) ∧ (ok = false → l0 = [] ∧ t0 = 0 ∧ e0 = 1)))
    (HEn : Hid (∀ A2 c2 V, WB Q w V → RdV V V.heap.size A2 (zc (ns l)) → l.length ≤ c2 → Calls Tryz.prog 52 #[.int .i64 (a : Int), .slice A2 l.length c2, .slice A1 n c1, .agg #[.int .i64 (bk : Int), .int .i64 (ls : Int), .int .i64 (k : Int)]] V (EnP V SB)))
    (HSt : Hid (∀ P V, WC V P SB → Rd V V.heap.size A (pack L) → Calls Tryz.prog 103 #[.pointer (some ⟨P, 0, none⟩), .agg #[.int .i64 (L.length : Int), .slice A (pack L).length c], .int .i64 (s : Int)] V fun e w' => e = .returned (.bool ok) ∧ Below V.heap.size V w')) :
    Calls Tryz.prog 54 #[.pointer (some ⟨Q, 0, none⟩), .int .i64 (a : Int), .slice A1 n c1, .agg #[.int .i64 (bk : Int), .int .i64 (ls : Int), .int .i64 (k : Int)]] w (ReP Q w l0 t0 e0) := by
  have hmf : ∀ (fn : Fn) (first cap : Array Value) (w : World), (Instr.makeFunc fn first cap).run Tryz.prog w = .ok (.func fn first cap) w := fun _ _ _ _ => rfl
  have hlt := hQ.lt
  have HR := Lib.hid hR
  clear hR
  obtain ⟨V0, hV0⟩ : ∃ V0, (((w.alloc (.cells #[.int .i64 (bk : Int), .int .i64 (ls : Int), .int .i64 (k : Int)] 24)).alloc (.cells #[.slice none 0 0] 22)).alloc (.cells #[.int .i64 0] 3)).alloc (.cells #[.int .i64 0] 28) = V0 := ⟨_, rfl⟩
  obtain ⟨hsz, hB0⟩ := four_at w _ _ _ _ V0 hV0
  obtain ⟨g0, g1, g2, g3⟩ := four_get w _ _ _ _ _ _ _ _ V0 hV0
  have p0 : V0.cell? ⟨w.heap.size, 0, none⟩ = some (.int .i64 (bk : Int)) := (cell_at g0 _).trans rfl
  have p1 : V0.cell? ⟨w.heap.size, 1, none⟩ = some (.int .i64 (ls : Int)) := (cell_at g0 _).trans rfl
  have p2 : V0.cell? ⟨w.heap.size, 2, none⟩ = some (.int .i64 (k : Int)) := (cell_at g0 _).trans rfl
  have HG : Hid (V0.heap[w.heap.size + 1]? = some (.cells #[.slice none 0 0] 22 (0, 0)) ∧ V0.heap[w.heap.size + 2]? = some (.cells #[.int .i64 0] 3 (0, 0)) ∧ V0.heap[w.heap.size + 3]? = some (.cells #[.int .i64 0] 28 (0, 0))) := ⟨g1, g2, g3⟩
  have HGb := Lib.hid g0
  have Hsz := Lib.hid hsz
  clear g0 g1 g2 g3 hsz
  have hQ0 := hQ.on hB0
  have k2 : V0.cell? ⟨Q, 2, none⟩ = some (.int .i64 (s : Int)) := (cell_at hQ0 _).trans rfl
  have HB0 := Lib.hid hB0
  have HTl0 := Lib.hid (HTl.out V0 hB0)
  clear hQ hB0 hQ0 HTl
  go_enter_defers Tryz.func54, Tryz.ntmps54
  go_wp2_with fail
  refine HTl0.out.mono ?_
  rintro e v1 ⟨hwb, ⟨A2, c2, rfl, hro⟩, hrb⟩
  have HW1 := Lib.hid ((wb_below HB0.out).trans hwb)
  have HRo1 := Lib.hid hro
  have HRB1 := Lib.hid hrb
  have hq0 : v1.heap[w.heap.size]? = some (.cells #[.int .i64 (bk : Int), .int .i64 (ls : Int), .int .i64 (k : Int)] 24 (0, 0)) := (hwb.block _ (by have := Hsz.out; omega) (by simp; omega)).trans HGb.out
  have hq1 : v1.heap[w.heap.size + 1]? = some (.cells #[.slice none 0 0] 22 (0, 0)) := (hwb.block _ (by have := Hsz.out; omega) (by simp; omega)).trans HG.out.1
  have hq2 : v1.heap[w.heap.size + 2]? = some (.cells #[.int .i64 0] 3 (0, 0)) := (hwb.block _ (by have := Hsz.out; omega) (by simp; omega)).trans HG.out.2.1
  have hq3 : v1.heap[w.heap.size + 3]? = some (.cells #[.int .i64 0] 28 (0, 0)) := (hwb.block _ (by have := Hsz.out; omega) (by simp; omega)).trans HG.out.2.2
  have hs1 : w.heap.size + 4 ≤ v1.heap.size := by have := Hsz.out; have := hwb.size; omega
  have f0 := frz_at hq1 0
  have m0 : v1.cell? ⟨w.heap.size + 1, 0, none⟩ = some (.slice none 0 0) := (cell_at hq1 _).trans rfl
  obtain ⟨v2, hv2⟩ : ∃ v2, v1.setCell ⟨w.heap.size + 1, 0, none⟩ (.slice A2 l.length c2) = v2 := ⟨_, rfl⟩
  have hw2 : WB (w.heap.size + 1) v1 v2 := hv2 ▸ wb_set v1 _ _ _
  have hr1 : v2.heap[w.heap.size + 1]? = some (.cells #[.slice A2 l.length c2] 22 (0, 0)) := by rw [← hv2, heap_set_same _ _ _ _ _ _ hq1]; simp
  have hr0 := (hw2.block w.heap.size (by omega) (by simp)).trans hq0
  have hr2 := (hw2.block (w.heap.size + 2) (by omega) (by simp)).trans hq2
  have hr3 := (hw2.block (w.heap.size + 3) (by omega) (by simp)).trans hq3
  have hrQ : RB v2 Q L A c s' := (hw2.block Q (by omega) (by simp; omega)).trans HRB1.out
  have HRo2 : Hid (v2.ownsRow V0.heap.size 3 1 (.slice A2 l.length c2) l.length (zc (ns l))) := own_wb HRo1.out hw2 (by have := Hsz.out; omega)
  have HW2 : Hid (WB Q w v2) := HW1.out.then ((hv2 ▸ (Below.refl w.heap.size v1).setCell (p := ⟨w.heap.size + 1, 0, none⟩) (by simp) _ : Below w.heap.size v1 v2)) (Nat.le_refl _)
  have HEn2 := Lib.hid (HEn.out A2 c2 v2 HW2.out (own_rdvT HRo2.out) (own_capT HRo2.out).1)
  have p0' : v2.cell? ⟨w.heap.size, 0, none⟩ = some (.int .i64 (bk : Int)) := (cell_at hr0 _).trans rfl
  have p1' : v2.cell? ⟨w.heap.size, 1, none⟩ = some (.int .i64 (ls : Int)) := (cell_at hr0 _).trans rfl
  have p2' : v2.cell? ⟨w.heap.size, 2, none⟩ = some (.int .i64 (k : Int)) := (cell_at hr0 _).trans rfl
  have q1' : v2.cell? ⟨w.heap.size + 1, 0, none⟩ = some (.slice A2 l.length c2) := (cell_at hr1 _).trans rfl
  have HH : Hid (v2.heap[w.heap.size + 1]? = some (.cells #[.slice A2 l.length c2] 22 (0, 0)) ∧ v2.heap[w.heap.size + 2]? = some (.cells #[.int .i64 0] 3 (0, 0)) ∧ v2.heap[w.heap.size + 3]? = some (.cells #[.int .i64 0] 28 (0, 0)) ∧ RB v2 Q L A c s' ∧ w.heap.size + 4 ≤ v2.heap.size) := ⟨hr1, hr2, hr3, hrQ, Nat.le_trans hs1 hw2.size⟩
  clear hwb hro hrb hq0 hq1 hq2 hq3 hr0 hr1 hr2 hr3 hrQ p0 p1 p2 k2 hw2 hs1
  go_wp2_with fail
  refine HEn2.out.mono ?_
  rintro e v5 ⟨bb, Ab, cb, ee, rfl, hRd, hcase, B5⟩
  have HB5 := Lib.hid B5
  have HRd := Lib.hid hRd
  obtain ⟨v6, e6⟩ : ∃ v6, v5.alloc (.cells #[.int .i64 (bb.length : Int), .slice Ab (pack bb).length cb, .int .i64 ee] 88) = v6 := ⟨_, rfl⟩
  have hb6 : Below v5.heap.size v5 v6 := e6 ▸ one_below v5 _
  have hx6 : v6.heap[v5.heap.size]? = some (.cells #[.int .i64 (bb.length : Int), .slice Ab (pack bb).length cb, .int .i64 ee] 88 (0, 0)) := e6 ▸ World.alloc_heap_new v5 _
  have hb26 : Below v2.heap.size v2 v6 := B5.trans (hb6.mono B5.size)
  have HB26 := Lib.hid hb26
  have HWC : Hid (WC v6 v5.heap.size SB) := ⟨bb, Ab, cb, ee, hx6, hRd.on hb6, hcase⟩
  have HW6 := Lib.hid (HW2.out.trans (wb_below hb26))
  have hq6 := HH.out.2.2.2.1.on hb26
  have y0 : v6.cell? ⟨Q, 0, none⟩ = some (.int .i64 (L.length : Int)) := (cell_at hq6 _).trans rfl
  have y1 : v6.cell? ⟨Q, 1, none⟩ = some (.slice A (pack L).length c) := (cell_at hq6 _).trans rfl
  have HSt6 := Lib.hid (HSt.out v5.heap.size v6 HWC.out ((rd_low HR.out HW6.out hlt).below (Below.refl _ _) (Nat.le_of_lt hq6.lt)))
  clear hRd hcase B5 hb6 hx6 hb26 hq6 p0' p1' p2' q1'
  go_wp2_with fail
  refine HSt6.out.mono ?_
  rintro e v7 ⟨rfl, B7⟩
  have HB27 := Lib.hid (HB26.out.trans (B7.mono HB26.out.size))
  clear B7 y0 y1
  have hi := HB27.out
  have z1 : v7.heap[w.heap.size + 1]? = some (.cells #[.slice A2 l.length c2] 22 (0, 0)) := (hi.block _ (by have := HH.out.2.2.2.2; omega)).trans HH.out.1
  have z2 : v7.heap[w.heap.size + 2]? = some (.cells #[.int .i64 0] 3 (0, 0)) := (hi.block _ (by have := HH.out.2.2.2.2; omega)).trans HH.out.2.1
  have z3 : v7.heap[w.heap.size + 3]? = some (.cells #[.int .i64 0] 28 (0, 0)) := (hi.block _ (by have := HH.out.2.2.2.2; omega)).trans HH.out.2.2.1
  have zQ : RB v7 Q L A c s' := HH.out.2.2.2.1.on hi
  have j0 : v7.cell? ⟨w.heap.size + 1, 0, none⟩ = some (.slice A2 l.length c2) := (cell_at z1 _).trans rfl
  have j1 : v7.cell? ⟨w.heap.size + 2, 0, none⟩ = some (.int .i64 0) := (cell_at z2 _).trans rfl
  have j2 : v7.cell? ⟨w.heap.size + 3, 0, none⟩ = some (.int .i64 0) := (cell_at z3 _).trans rfl
  have f0' := frz_at z1 0
  have f1 := frz_at z2 0
  have f2 := frz_at z3 0
  have HW7 := Lib.hid (HW2.out.trans (wb_below hi))
  clear hi
  cases ok with
  | false =>
    obtain ⟨rfl, rfl, rfl⟩ := hres.out.2 rfl
    have HFin : Hid (WB Q w (((v7.setCell ⟨w.heap.size + 1, 0, none⟩ (.slice none 0 0)).setCell ⟨w.heap.size + 2, 0, none⟩ (.int .i64 0)).setCell ⟨w.heap.size + 3, 0, none⟩ (.int .i64 1))) := HW7.out.then ((((Below.refl w.heap.size v7).setCell (p := ⟨w.heap.size + 1, 0, none⟩) (by simp) _).setCell (p := ⟨w.heap.size + 2, 0, none⟩) (by simp) _).setCell (p := ⟨w.heap.size + 3, 0, none⟩) (by simp) _) (Nat.le_refl _)
    have HDf := Lib.hid (rd_panics (w.heap.size + 1) _ _ _ v7 j0 j1 j2 f0' f1 f2)
    clear z1 z2 z3 zQ
    go_wp2_with fail
    refine (insist_f _).mono ?_
    rintro e w' ⟨rfl, rfl⟩
    go_wp2
    refine leaves_cons (f := 100) (args := #[.pointer (some ⟨w.heap.size + 1, 0, none⟩), .pointer (some ⟨w.heap.size + 2, 0, none⟩), .pointer (some ⟨w.heap.size + 3, 0, none⟩)]) (by simp) (by simp [go_sem]) ?_
    refine HDf.out.mono ?_
    rintro e u' w'' ⟨rfl, rfl, rfl⟩
    simp [Leaves, settle, results, Tryz.results54, go_sem, j0, j1, j2]
    exact ⟨none, 0, rfl, Nat.le_refl _, fun _ => rfl, .inl rfl, HFin.out⟩
  | true =>
    obtain ⟨rfl, rfl, rfl⟩ := hres.out.1 rfl
    have x2 : v7.cell? ⟨Q, 2, none⟩ = some (.int .i64 (t0 : Int)) := (cell_at zQ _).trans rfl
    have HDf := Lib.hid (fun V => rd_idle ⟨w.heap.size + 1, 0, none⟩ ⟨w.heap.size + 2, 0, none⟩ ⟨w.heap.size + 3, 0, none⟩ V)
    have HFin : Hid (WB Q w (((v7.setCell ⟨w.heap.size + 1, 0, none⟩ (.slice A2 l0.length c2)).setCell ⟨w.heap.size + 2, 0, none⟩ (.int .i64 (t0 : Int))).setCell ⟨w.heap.size + 3, 0, none⟩ (.int .i64 0))) := HW7.out.then ((((Below.refl w.heap.size v7).setCell (p := ⟨w.heap.size + 1, 0, none⟩) (by simp) _).setCell (p := ⟨w.heap.size + 2, 0, none⟩) (by simp) _).setCell (p := ⟨w.heap.size + 3, 0, none⟩) (by simp) _) (Nat.le_refl _)
    have HRo7 : Hid ((((v7.setCell ⟨w.heap.size + 1, 0, none⟩ (.slice A2 l0.length c2)).setCell ⟨w.heap.size + 2, 0, none⟩ (.int .i64 (t0 : Int))).setCell ⟨w.heap.size + 3, 0, none⟩ (.int .i64 0)).ownsRow V0.heap.size 3 1 (.slice A2 l0.length c2) l0.length (zc (ns l0))) :=
      own_wb (own_wb (own_wb (own_below HRo2.out HB27.out) (wb_set v7 (w.heap.size + 1) 0 (.slice A2 l0.length c2)) (by have := Hsz.out; omega)) (wb_set _ (w.heap.size + 2) 0 (.int .i64 (t0 : Int))) (by have := Hsz.out; omega)) (wb_set _ (w.heap.size + 3) 0 (.int .i64 0)) (by have := Hsz.out; omega)
    clear z1 z2 z3 zQ
    go_wp2_with fail
    refine (insist_t _).mono ?_
    rintro e w' ⟨rfl, rfl⟩
    go_wp2_with fail
    go_region
    all_goals (
      go_wp2
      refine leaves_cons (f := 100) (args := #[.pointer (some ⟨w.heap.size + 1, 0, none⟩), .pointer (some ⟨w.heap.size + 2, 0, none⟩), .pointer (some ⟨w.heap.size + 3, 0, none⟩)]) (by simp) (by simp [go_sem]) ?_
      refine (HDf.out _).mono ?_
      rintro e u' w'' ⟨rfl, rfl, rfl⟩
      simp [Leaves, settle, results, Tryz.results54, go_sem, j0, j1, j2]
      exact ⟨A2, c2, rfl, (own_capT HRo7.out).1, (own_capT HRo7.out).2, own_rdvT HRo7.out, ⟨HFin.out.os, HFin.out.tape, HFin.out.output, HFin.out.size, HFin.out.block⟩⟩)
end
end Go.Proofs.YtbddcokjkdoaaaaGreat
