/- Texts of this proof, one behind the other; each fact names its conditions. -/
import Derived.Test.YtbddcokjkdoaaaaGreatSN30
import Derived.Test.YtbddcokjkdoaaaaGreatSN29
import Derived.Deep.RegionHeld3
namespace Go.Proofs.YtbddcokjkdoaaaaGreat
section
set_option maxRecDepth 100000
set_option linter.unusedVariables false
open Go.RowKit Go.Shelf
theorem info_fn : (Tryz.prog.info? 65).map (·.size) = some 7 := by kernel_rfl
theorem info_sh : (Tryz.prog.info? 67).map (·.size) = some 13 := by kernel_rfl
theorem run_build_fn0 (w : World) : (Instr.build 65 #[]).run Tryz.prog w = .ok (.agg #[.int .i64 0, .int .i64 0, .int .i64 0, .int .i64 0, .slice none 0 0, .int .i64 0, .slice none 0 0]) w := by kernel_rfl
theorem run_build_sh0 (w : World) : (Instr.build 67 #[]).run Tryz.prog w = .ok (.agg #[.int .i64 0, .int .i64 0, .int .i64 0, .int .i64 0, .int .i64 0, .slice none 0 0, .int .i64 0, .int .i64 0, .int .i64 0, .int .i64 0, .slice none 0 0, .int .i64 0, .slice none 0 0]) w := by kernel_rfl
theorem run_build_sh (N B ls k len fN fT fk fl fh : Int) (A A1 A2 : Option Addr) (n c m1 c1 m2 c2 : Nat) (w : World) : (Instr.build 67 #[(0, .agg #[.int .i64 N, .int .i64 B, .int .i64 ls, .int .i64 k, .int .i64 len, .slice A n c]), (1, .agg #[.int .i64 fN, .int .i64 fT, .int .i64 fk, .int .i64 fl, .slice A1 m1 c1, .int .i64 fh, .slice A2 m2 c2])]).run Tryz.prog w = .ok (.agg #[.int .i64 N, .int .i64 B, .int .i64 ls, .int .i64 k, .int .i64 len, .slice A n c, .int .i64 fN, .int .i64 fT, .int .i64 fk, .int .i64 fl, .slice A1 m1 c1, .int .i64 fh, .slice A2 m2 c2]) w := by kernel_rfl
theorem six_of {V : World} {b : Nat} {u0 u1 u2 u3 u4 u5 : Value} {T : TypeId} (h : V.heap[b]? = some (.cells #[u0, u1, u2, u3, u4, u5] T (0, 0))) :
    V.cell? ⟨b, 0, none⟩ = some u0 ∧ V.cell? ⟨b, 1, none⟩ = some u1 ∧ V.cell? ⟨b, 2, none⟩ = some u2 ∧ V.cell? ⟨b, 3, none⟩ = some u3 ∧ V.cell? ⟨b, 4, none⟩ = some u4 ∧ V.cell? ⟨b, 5, none⟩ = some u5 :=
  ⟨(cell_at h 0).trans rfl, (cell_at h 1).trans rfl, (cell_at h 2).trans rfl, (cell_at h 3).trans rfl, (cell_at h 4).trans rfl, (cell_at h 5).trans rfl⟩
set_option maxHeartbeats 4000000 in
theorem starts_w (w : World) (AG : Option Addr) (NG cG : Nat) (N B ls k len : Int) (A : Option Addr) (n c : Nat) (n1 : Nat) (xs1 : List Int) (n2 : Nat) (xs2 : List Int) (e1 fN fT fk fl fh : Int) (m1 m2 : Nat) (b1 b2 : List Nat) (e2 : Int)
    (HTl : Hid (∀ V, Below w.heap.size w V → Calls Tryz.prog 26 #[.agg #[.slice AG NG cG], .agg #[.int .i64 B, .int .i64 ls, .int .i64 k]] V (PtP V n1 xs1 n2 xs2 e1)))
    (HF : Hid (e1 = 0 → ∀ A c V, RdV V V.heap.size A (zc xs2) → Calls Tryz.prog 121 #[.slice A n2 c, .int .i64 len] V (WrP V fN fT fk fl fh m1 m2 b1 b2 e2)))
    (H1 : Hid (e1 ≠ 0 → fN = 0 ∧ fT = 0 ∧ fk = 0 ∧ fl = 0 ∧ fh = 0 ∧ m1 = 0 ∧ m2 = 0 ∧ b1 = [] ∧ b2 = [] ∧ e2 = e1)) :
    Calls Tryz.prog 80 #[.agg #[.slice AG NG cG], .agg #[.int .i64 N, .int .i64 B, .int .i64 ls, .int .i64 k, .int .i64 len, .slice A n c]] w (WrP w fN fT fk fl fh m1 m2 b1 b2 e2) := by
  obtain ⟨w1, ew1, s1, hb1, g1, g2, g3⟩ := shal3 w (.cells #[.slice AG NG cG] 42) (.cells #[.int .i64 N, .int .i64 B, .int .i64 ls, .int .i64 k, .int .i64 len, .slice A n c] 44) (.cells #[.int .i64 0, .int .i64 0, .int .i64 0, .int .i64 0, .slice none 0 0, .int .i64 0, .slice none 0 0] 65)
  have k0 := box_cell g1
  obtain ⟨y0, y1, y2, y3, y4, y5⟩ := six_of g2
  have HB1 := Lib.hid hb1
  have HG : Hid (∀ V, Below w1.heap.size w1 V → V.heap[w.heap.size + 1]? = some (.cells #[.int .i64 N, .int .i64 B, .int .i64 ls, .int .i64 k, .int .i64 len, .slice A n c] 44 (0, 0)) ∧ V.heap[w.heap.size + 1 + 1]? = some (.cells #[.int .i64 0, .int .i64 0, .int .i64 0, .int .i64 0, .slice none 0 0, .int .i64 0, .slice none 0 0] 65 (0, 0))) := fun V hV => ⟨(hV.block _ (by omega)).trans g2, (hV.block _ (by omega)).trans g3⟩
  clear hb1 s1 g1 g2 g3
  go_enter Tryz.func80, Tryz.ntmps80
  go_wp2_with fail
  try rw [ew1]
  refine (HTl.out w1 HB1.out).mono ?_
  rintro e w2 ⟨A3, c3, A4, c4, rfl, r3, r4, q2⟩
  have HB2 := Lib.hid q2
  have HR4 := Lib.hid r4
  obtain ⟨g2, g3⟩ := HG.out w2 q2
  clear y0 y1 y2 y3 y4 y5 k0 ew1 HTl r3 r4 q2
  by_cases he : e1 = 0
  case neg =>
    have t1 : (e1 != 0) = true := by simpa using he
    obtain ⟨rfl, rfl, rfl, rfl, rfl, rfl, rfl, rfl, rfl, rfl⟩ := H1.out he
    clear he H1 HF HG g2
    have hth := there_all (cs := [.int .i64 0, .int .i64 0, .int .i64 0, .int .i64 0, .slice none 0 0, .int .i64 0, .slice none 0 0]) (n := 7) g3 rfl
    obtain ⟨h7, -, -, hB⟩ := stored_all (cs := [.int .i64 0, .int .i64 0, .int .i64 0, .int .i64 0, .slice none 0 0, .int .i64 0, .slice none 0 0]) [.int .i64 0, .int .i64 0, .int .i64 0, .int .i64 0, .slice none 0 0, .int .i64 0, .slice none 0 0] g3 rfl
    have HBf : Hid (Below w.heap.size w (w2.setCells (w.heap.size + 1 + 1) 0 [.int .i64 0, .int .i64 0, .int .i64 0, .int .i64 0, .slice none 0 0, .int .i64 0, .slice none 0 0])) := HB1.out.trans ((HB2.out.mono HB1.out.size).trans (hB w.heap.size (by omega)))
    clear hB g3
    go_wp2_with (first | (refine wpList_build rfl _ _ rfl #[] (by kernel_rfl) _ (run_build_fn0 _) ?_) | (refine wpList_store_mid rfl 65 _ _ rfl (w.heap.size + 1 + 1) 0 #[.int .i64 0, .int .i64 0, .int .i64 0, .int .i64 0, .slice none 0 0, .int .i64 0, .slice none 0 0] rfl rfl hth info_fn (by simp [Value.oneCell']) ?_))
    show bodyPost _ _ _ _ _ (w2.setCells (w.heap.size + 1 + 1) 0 [.int .i64 0, .int .i64 0, .int .i64 0, .int .i64 0, .slice none 0 0, .int .i64 0, .slice none 0 0])
    generalize w2.setCells (w.heap.size + 1 + 1) 0 [.int .i64 0, .int .i64 0, .int .i64 0, .int .i64 0, .slice none 0 0, .int .i64 0, .slice none 0 0] = Wf at *
    obtain ⟨c0, d1, d2, d3, d4, d5, d6⟩ := (cells7 h7).1
    exact bodyPost_ret (v := .tuple #[.agg #[.int .i64 0, .int .i64 0, .int .i64 0, .int .i64 0, .slice none 0 0, .int .i64 0, .slice none 0 0], .int .i64 e2]) (by simp [results, Tryz.results80, go_sem, c0, d1, d2, d3, d4, d5, d6]) rfl ⟨none, 0, none, 0, rfl, .inl rfl, .inl rfl, HBf.out⟩
  subst he
  have HF' := Lib.hid (HF.out rfl)
  obtain ⟨y0, y1, y2, y3, y4, y5⟩ := six_of g2
  clear H1 HF g2 g3
  go_wp2_with fail
  refine (HF'.out A4 c4 w2 HR4.out).mono ?_
  rintro e w5 ⟨A1, c1, A2, c2, rfl, r1, r2, q5⟩
  have HB5 : Hid (Below w1.heap.size w1 w5) := HB2.out.trans (q5.mono HB2.out.size)
  have g3 := (HG.out w5 HB5.out).2
  have hth := there_all (cs := [.int .i64 0, .int .i64 0, .int .i64 0, .int .i64 0, .slice none 0 0, .int .i64 0, .slice none 0 0]) (n := 7) g3 rfl
  obtain ⟨h7, -, -, hB⟩ := stored_all (cs := [.int .i64 0, .int .i64 0, .int .i64 0, .int .i64 0, .slice none 0 0, .int .i64 0, .slice none 0 0]) [.int .i64 fN, .int .i64 fT, .int .i64 fk, .int .i64 fl, .slice A1 m1 c1, .int .i64 fh, .slice A2 m2 c2] g3 rfl
  have HR1 := Lib.hid (rd_stored (cs := [.int .i64 0, .int .i64 0, .int .i64 0, .int .i64 0, .slice none 0 0, .int .i64 0, .slice none 0 0]) (vs := [.int .i64 fN, .int .i64 fT, .int .i64 fk, .int .i64 fl, .slice A1 m1 c1, .int .i64 fh, .slice A2 m2 c2]) g3 rfl (by simp) r1)
  have HR2 := Lib.hid (rd_stored (cs := [.int .i64 0, .int .i64 0, .int .i64 0, .int .i64 0, .slice none 0 0, .int .i64 0, .slice none 0 0]) (vs := [.int .i64 fN, .int .i64 fT, .int .i64 fk, .int .i64 fl, .slice A1 m1 c1, .int .i64 fh, .slice A2 m2 c2]) g3 rfl (by simp) r2)
  have HBf : Hid (Below w.heap.size w (w5.setCells (w.heap.size + 1 + 1) 0 [.int .i64 fN, .int .i64 fT, .int .i64 fk, .int .i64 fl, .slice A1 m1 c1, .int .i64 fh, .slice A2 m2 c2])) := HB1.out.trans ((HB5.out.mono HB1.out.size).trans (hB w.heap.size (by omega)))
  clear hB g3 y0 y1 y2 y3 y4 y5 r1 r2 q5
  go_wp2_with (refine wpList_store_mid rfl 65 _ _ rfl (w.heap.size + 1 + 1) 0 #[.int .i64 fN, .int .i64 fT, .int .i64 fk, .int .i64 fl, .slice A1 m1 c1, .int .i64 fh, .slice A2 m2 c2] rfl rfl hth info_fn (by simp [Value.oneCell']) ?_)
  show bodyPost _ _ _ _ _ (w5.setCells (w.heap.size + 1 + 1) 0 [.int .i64 fN, .int .i64 fT, .int .i64 fk, .int .i64 fl, .slice A1 m1 c1, .int .i64 fh, .slice A2 m2 c2])
  generalize w5.setCells (w.heap.size + 1 + 1) 0 [.int .i64 fN, .int .i64 fT, .int .i64 fk, .int .i64 fl, .slice A1 m1 c1, .int .i64 fh, .slice A2 m2 c2] = Wf at *
  obtain ⟨c0, d1, d2, d3, d4, d5, d6⟩ := (cells7 h7).1
  exact bodyPost_ret (v := .tuple #[.agg #[.int .i64 fN, .int .i64 fT, .int .i64 fk, .int .i64 fl, .slice A1 m1 c1, .int .i64 fh, .slice A2 m2 c2], .int .i64 e2]) (by simp [results, Tryz.results80, go_sem, c0, d1, d2, d3, d4, d5, d6]) rfl ⟨A1, c1, A2, c2, rfl, HR1.out, HR2.out, HBf.out⟩
end
section
set_option maxRecDepth 100000
set_option linter.unusedVariables false
open Go.RowKit Go.Shelf
def BuP (w : World) (pN pB pl pk len : Int) (n : Nat) (bs : List Nat) (fN fT fk fl fh : Int) (m1 m2 : Nat) (b1 b2 : List Nat) (er : Int) (e : Ending) (w' : World) : Prop :=
  ∃ A c A1 c1 A2 c2, e = .returned (.tuple #[.agg #[.int .i64 pN, .int .i64 pB, .int .i64 pl, .int .i64 pk, .int .i64 len, .slice A n c, .int .i64 fN, .int .i64 fT, .int .i64 fk, .int .i64 fl, .slice A1 m1 c1, .int .i64 fh, .slice A2 m2 c2], .int .i64 er]) ∧ Rd w' w'.heap.size A bs ∧ Rd w' w'.heap.size A1 b1 ∧ Rd w' w'.heap.size A2 b2 ∧ Below w.heap.size w w'
theorem cells13 {w : World} {X : Nat} {T : TypeId} {u0 u1 u2 u3 u4 u5 u6 u7 u8 u9 u10 u11 u12 : Value} (h : w.heap[X]? = some (.cells #[u0, u1, u2, u3, u4, u5, u6, u7, u8, u9, u10, u11, u12] T (0, 0))) :
    w.cell? ⟨X, 0, none⟩ = some u0 ∧ w.cell? ⟨X, 1, none⟩ = some u1 ∧ w.cell? ⟨X, 2, none⟩ = some u2 ∧ w.cell? ⟨X, 3, none⟩ = some u3 ∧ w.cell? ⟨X, 4, none⟩ = some u4 ∧ w.cell? ⟨X, 5, none⟩ = some u5 ∧ w.cell? ⟨X, 6, none⟩ = some u6 ∧ w.cell? ⟨X, 7, none⟩ = some u7 ∧ w.cell? ⟨X, 8, none⟩ = some u8 ∧ w.cell? ⟨X, 9, none⟩ = some u9 ∧ w.cell? ⟨X, 10, none⟩ = some u10 ∧ w.cell? ⟨X, 11, none⟩ = some u11 ∧ w.cell? ⟨X, 12, none⟩ = some u12 :=
  ⟨(cell_at h 0).trans rfl, (cell_at h 1).trans rfl, (cell_at h 2).trans rfl, (cell_at h 3).trans rfl, (cell_at h 4).trans rfl, (cell_at h 5).trans rfl, (cell_at h 6).trans rfl, (cell_at h 7).trans rfl, (cell_at h 8).trans rfl, (cell_at h 9).trans rfl, (cell_at h 10).trans rfl, (cell_at h 11).trans rfl, (cell_at h 12).trans rfl⟩
set_option maxHeartbeats 4000000 in
theorem build_e (w : World) (AG : Option Addr) (NG cG : Nat) (B ls k e1 : Int) (he : e1 ≠ 0)
    (HW : Hid (∀ V, Below w.heap.size w V → Calls Tryz.prog 24 #[.agg #[.slice AG NG cG], .agg #[.int .i64 B, .int .i64 ls, .int .i64 k]] V (PwP V 0 0 0 0 0 0 [] e1))) :
    Calls Tryz.prog 36 #[.agg #[.slice AG NG cG], .agg #[.int .i64 B, .int .i64 ls, .int .i64 k]] w (BuP w 0 0 0 0 0 0 [] 0 0 0 0 0 0 0 [] [] e1) := by
  obtain ⟨w1, ew1, s1, hb1, g1, g2, g3⟩ := shal3 w (.cells #[.slice AG NG cG] 42) (.cells #[.int .i64 B, .int .i64 ls, .int .i64 k] 24) (.cells #[.int .i64 0, .int .i64 0, .int .i64 0, .int .i64 0, .int .i64 0, .slice none 0 0, .int .i64 0, .int .i64 0, .int .i64 0, .int .i64 0, .slice none 0 0, .int .i64 0, .slice none 0 0] 67)
  have k0 := box_cell g1
  obtain ⟨y1, y2, y3⟩ := how_at g2
  have HB1 := Lib.hid hb1
  have HG : Hid (∀ V, Below w1.heap.size w1 V → V.heap[w.heap.size + 1 + 1]? = some (.cells #[.int .i64 0, .int .i64 0, .int .i64 0, .int .i64 0, .int .i64 0, .slice none 0 0, .int .i64 0, .int .i64 0, .int .i64 0, .int .i64 0, .slice none 0 0, .int .i64 0, .slice none 0 0] 67 (0, 0))) := fun V hV => (hV.block _ (by omega)).trans g3
  have t1 : (e1 != 0) = true := by simpa using he
  clear hb1 s1 g1 g2 g3 he
  go_enter Tryz.func36, Tryz.ntmps36
  go_wp2_with fail
  try rw [ew1]
  refine (HW.out w1 HB1.out).mono ?_
  rintro e w2 ⟨A, c, rfl, r2, q2⟩
  obtain ⟨X2, hX2, hth2, hx2, hbX2, hzX2⟩ := st_new 44 [.int .i64 0, .int .i64 0, .int .i64 0, .int .i64 0, .int .i64 0, .slice none 0 0] [.int .i64 0, .int .i64 0, .int .i64 0, .int .i64 0, .int .i64 0, .slice A 0 c] 6 rfl rfl w2
  have HB2 : Hid (Below w1.heap.size w1 X2) := q2.trans (hbX2.mono q2.size)
  have g3 := HG.out X2 HB2.out
  have hth := there_all (cs := [.int .i64 0, .int .i64 0, .int .i64 0, .int .i64 0, .int .i64 0, .slice none 0 0, .int .i64 0, .int .i64 0, .int .i64 0, .int .i64 0, .slice none 0 0, .int .i64 0, .slice none 0 0]) (n := 13) g3 rfl
  obtain ⟨h13, -, -, hB⟩ := stored_all (cs := [.int .i64 0, .int .i64 0, .int .i64 0, .int .i64 0, .int .i64 0, .slice none 0 0, .int .i64 0, .int .i64 0, .int .i64 0, .int .i64 0, .slice none 0 0, .int .i64 0, .slice none 0 0]) [.int .i64 0, .int .i64 0, .int .i64 0, .int .i64 0, .int .i64 0, .slice none 0 0, .int .i64 0, .int .i64 0, .int .i64 0, .int .i64 0, .slice none 0 0, .int .i64 0, .slice none 0 0] g3 rfl
  have HBf : Hid (Below w.heap.size w (X2.setCells (w.heap.size + 1 + 1) 0 [.int .i64 0, .int .i64 0, .int .i64 0, .int .i64 0, .int .i64 0, .slice none 0 0, .int .i64 0, .int .i64 0, .int .i64 0, .int .i64 0, .slice none 0 0, .int .i64 0, .slice none 0 0])) := HB1.out.trans ((HB2.out.mono HB1.out.size).trans (hB w.heap.size (by omega)))
  clear hB g3 y1 y2 y3 k0 ew1 r2 q2 hx2 hbX2 hzX2 HW HG
  go_wp2_with (first | (refine wpList_store_mid rfl 44 _ _ rfl w2.heap.size 0 #[.int .i64 0, .int .i64 0, .int .i64 0, .int .i64 0, .int .i64 0, .slice A 0 c] rfl rfl hth2 info_pd (by simp [Value.oneCell']) ?_; rw [hX2]; clear hX2 hth2) | (refine wpList_build rfl _ _ rfl #[] (by kernel_rfl) _ (run_build_sh0 _) ?_) | (refine wpList_store_mid rfl 67 _ _ rfl (w.heap.size + 1 + 1) 0 #[.int .i64 0, .int .i64 0, .int .i64 0, .int .i64 0, .int .i64 0, .slice none 0 0, .int .i64 0, .int .i64 0, .int .i64 0, .int .i64 0, .slice none 0 0, .int .i64 0, .slice none 0 0] rfl rfl hth info_sh (by simp [Value.oneCell']) ?_))
  show bodyPost _ _ _ _ _ (X2.setCells (w.heap.size + 1 + 1) 0 [.int .i64 0, .int .i64 0, .int .i64 0, .int .i64 0, .int .i64 0, .slice none 0 0, .int .i64 0, .int .i64 0, .int .i64 0, .int .i64 0, .slice none 0 0, .int .i64 0, .slice none 0 0])
  generalize X2.setCells (w.heap.size + 1 + 1) 0 [.int .i64 0, .int .i64 0, .int .i64 0, .int .i64 0, .int .i64 0, .slice none 0 0, .int .i64 0, .int .i64 0, .int .i64 0, .int .i64 0, .slice none 0 0, .int .i64 0, .slice none 0 0] = Wf at *
  obtain ⟨d0, d1, d2, d3, d4, d5, d6, d7, d8, d9, d10, d11, d12⟩ := cells13 h13
  exact bodyPost_ret (v := .tuple #[.agg #[.int .i64 0, .int .i64 0, .int .i64 0, .int .i64 0, .int .i64 0, .slice none 0 0, .int .i64 0, .int .i64 0, .int .i64 0, .int .i64 0, .slice none 0 0, .int .i64 0, .slice none 0 0], .int .i64 e1]) (by simp [results, Tryz.results36, go_sem, d0, d1, d2, d3, d4, d5, d6, d7, d8, d9, d10, d11, d12]) rfl ⟨none, 0, none, 0, none, 0, rfl, .inl rfl, .inl rfl, .inl rfl, HBf.out⟩
set_option maxHeartbeats 8000000 in
theorem build_l (w : World) (AG : Option Addr) (NG cG : Nat) (B ls k : Int) (pN pB pl pk len : Int) (n : Nat) (bs : List Nat) (fN fT fk fl fh : Int) (m1 m2 : Nat) (b1 b2 : List Nat)
    (HW : Hid (∀ V, Below w.heap.size w V → Calls Tryz.prog 24 #[.agg #[.slice AG NG cG], .agg #[.int .i64 B, .int .i64 ls, .int .i64 k]] V (PwP V pN pB pl pk len n bs 0)))
    (HS : Hid (∀ A c V, Below w.heap.size w V → Calls Tryz.prog 80 #[.agg #[.slice AG NG cG], .agg #[.int .i64 pN, .int .i64 pB, .int .i64 pl, .int .i64 pk, .int .i64 len, .slice A n c]] V (WrP V fN fT fk fl fh m1 m2 b1 b2 0))) :
    Calls Tryz.prog 36 #[.agg #[.slice AG NG cG], .agg #[.int .i64 B, .int .i64 ls, .int .i64 k]] w (BuP w pN pB pl pk len n bs fN fT fk fl fh m1 m2 b1 b2 0) := by
  obtain ⟨w1, ew1, s1, hb1, g1, g2, g3⟩ := shal3 w (.cells #[.slice AG NG cG] 42) (.cells #[.int .i64 B, .int .i64 ls, .int .i64 k] 24) (.cells #[.int .i64 0, .int .i64 0, .int .i64 0, .int .i64 0, .int .i64 0, .slice none 0 0, .int .i64 0, .int .i64 0, .int .i64 0, .int .i64 0, .slice none 0 0, .int .i64 0, .slice none 0 0] 67)
  have k0 := box_cell g1
  obtain ⟨y1, y2, y3⟩ := how_at g2
  have HB1 := Lib.hid hb1
  have HG : Hid (∀ V, Below w1.heap.size w1 V → V.heap[w.heap.size]? = some (.cells #[.slice AG NG cG] 42 (0, 0)) ∧ V.heap[w.heap.size + 1 + 1]? = some (.cells #[.int .i64 0, .int .i64 0, .int .i64 0, .int .i64 0, .int .i64 0, .slice none 0 0, .int .i64 0, .int .i64 0, .int .i64 0, .int .i64 0, .slice none 0 0, .int .i64 0, .slice none 0 0] 67 (0, 0))) := fun V hV => ⟨(hV.block _ (by omega)).trans g1, (hV.block _ (by omega)).trans g3⟩
  clear hb1 s1 g1 g2 g3
  go_enter Tryz.func36, Tryz.ntmps36
  go_wp2_with fail
  try rw [ew1]
  refine (HW.out w1 HB1.out).mono ?_
  rintro e w2 ⟨A, c, rfl, r2, q2⟩
  obtain ⟨X2, hX2, hth2, hx2, hbX2, hzX2⟩ := st_new 44 [.int .i64 0, .int .i64 0, .int .i64 0, .int .i64 0, .int .i64 0, .slice none 0 0] [.int .i64 pN, .int .i64 pB, .int .i64 pl, .int .i64 pk, .int .i64 len, .slice A n c] 6 rfl rfl w2
  have HR2 := Lib.hid (r2.on hbX2)
  have HB2 : Hid (Below w1.heap.size w1 X2) := q2.trans (hbX2.mono q2.size)
  have HX2 := Lib.hid (And.intro hx2 hzX2)
  have HBw2 : Hid (Below w.heap.size w X2) := HB1.out.trans (HB2.out.mono HB1.out.size)
  have hrg2 : X2.rangeAt w2.heap.size 0 [.int .i64 pN, .int .i64 pB, .int .i64 pl, .int .i64 pk, .int .i64 len, .slice A n c] := range_all (cs := [.int .i64 pN, .int .i64 pB, .int .i64 pl, .int .i64 pk, .int .i64 len, .slice A n c]) hx2
  clear y1 y2 y3 k0 ew1 r2 q2 hx2 hbX2 hzX2 HW
  have k0 := box_cell (HG.out X2 HB2.out).1
  go_wp2_with (first | (refine wpList_store_mid rfl 44 _ _ rfl w2.heap.size 0 #[.int .i64 pN, .int .i64 pB, .int .i64 pl, .int .i64 pk, .int .i64 len, .slice A n c] rfl rfl hth2 info_pd (by simp [Value.oneCell']) ?_; rw [hX2]; clear hX2 hth2) | (refine wpList_load_mid rfl 44 _ rfl w2.heap.size 0 rfl [.int .i64 pN, .int .i64 pB, .int .i64 pl, .int .i64 pk, .int .i64 len, .slice A n c] _ hrg2 Tryz.underlying44 rfl info_pd ?_))
  refine (HS.out A c X2 HBw2.out).mono ?_
  rintro e w5 ⟨A1, c1, A2, c2, rfl, r5, r6, q5⟩
  obtain ⟨X5, hX5, hth5, hx5, hbX5, hzX5⟩ := st_new 65 [.int .i64 0, .int .i64 0, .int .i64 0, .int .i64 0, .slice none 0 0, .int .i64 0, .slice none 0 0] [.int .i64 fN, .int .i64 fT, .int .i64 fk, .int .i64 fl, .slice A1 m1 c1, .int .i64 fh, .slice A2 m2 c2] 7 rfl rfl w5
  have HB5 : Hid (Below X2.heap.size X2 X5) := q5.trans (hbX5.mono q5.size)
  have R5 := r5.on hbX5
  have R6 := r6.on hbX5
  have R2 := HR2.out.on HB5.out
  have g3 := (HG.out X5 (HB2.out.trans (HB5.out.mono HB2.out.size))).2
  have hth := there_all (cs := [.int .i64 0, .int .i64 0, .int .i64 0, .int .i64 0, .int .i64 0, .slice none 0 0, .int .i64 0, .int .i64 0, .int .i64 0, .int .i64 0, .slice none 0 0, .int .i64 0, .slice none 0 0]) (n := 13) g3 rfl
  obtain ⟨h13, -, -, hB⟩ := stored_all (cs := [.int .i64 0, .int .i64 0, .int .i64 0, .int .i64 0, .int .i64 0, .slice none 0 0, .int .i64 0, .int .i64 0, .int .i64 0, .int .i64 0, .slice none 0 0, .int .i64 0, .slice none 0 0]) [.int .i64 pN, .int .i64 pB, .int .i64 pl, .int .i64 pk, .int .i64 len, .slice A n c, .int .i64 fN, .int .i64 fT, .int .i64 fk, .int .i64 fl, .slice A1 m1 c1, .int .i64 fh, .slice A2 m2 c2] g3 rfl
  have HRa := Lib.hid (rd_stored (cs := [.int .i64 0, .int .i64 0, .int .i64 0, .int .i64 0, .int .i64 0, .slice none 0 0, .int .i64 0, .int .i64 0, .int .i64 0, .int .i64 0, .slice none 0 0, .int .i64 0, .slice none 0 0]) (vs := [.int .i64 pN, .int .i64 pB, .int .i64 pl, .int .i64 pk, .int .i64 len, .slice A n c, .int .i64 fN, .int .i64 fT, .int .i64 fk, .int .i64 fl, .slice A1 m1 c1, .int .i64 fh, .slice A2 m2 c2]) g3 rfl (by simp) R2)
  have HRb := Lib.hid (rd_stored (cs := [.int .i64 0, .int .i64 0, .int .i64 0, .int .i64 0, .int .i64 0, .slice none 0 0, .int .i64 0, .int .i64 0, .int .i64 0, .int .i64 0, .slice none 0 0, .int .i64 0, .slice none 0 0]) (vs := [.int .i64 pN, .int .i64 pB, .int .i64 pl, .int .i64 pk, .int .i64 len, .slice A n c, .int .i64 fN, .int .i64 fT, .int .i64 fk, .int .i64 fl, .slice A1 m1 c1, .int .i64 fh, .slice A2 m2 c2]) g3 rfl (by simp) R5)
  have HRc := Lib.hid (rd_stored (cs := [.int .i64 0, .int .i64 0, .int .i64 0, .int .i64 0, .int .i64 0, .slice none 0 0, .int .i64 0, .int .i64 0, .int .i64 0, .int .i64 0, .slice none 0 0, .int .i64 0, .slice none 0 0]) (vs := [.int .i64 pN, .int .i64 pB, .int .i64 pl, .int .i64 pk, .int .i64 len, .slice A n c, .int .i64 fN, .int .i64 fT, .int .i64 fk, .int .i64 fl, .slice A1 m1 c1, .int .i64 fh, .slice A2 m2 c2]) g3 rfl (by simp) R6)
  have HBf : Hid (Below w.heap.size w (X5.setCells (w.heap.size + 1 + 1) 0 [.int .i64 pN, .int .i64 pB, .int .i64 pl, .int .i64 pk, .int .i64 len, .slice A n c, .int .i64 fN, .int .i64 fT, .int .i64 fk, .int .i64 fl, .slice A1 m1 c1, .int .i64 fh, .slice A2 m2 c2])) := HBw2.out.trans ((HB5.out.mono HBw2.out.size).trans (hB w.heap.size (by omega)))
  have hrg5 : X5.rangeAt w2.heap.size 0 [.int .i64 pN, .int .i64 pB, .int .i64 pl, .int .i64 pk, .int .i64 len, .slice A n c] := range_all (cs := [.int .i64 pN, .int .i64 pB, .int .i64 pl, .int .i64 pk, .int .i64 len, .slice A n c]) ((HB5.out.block _ HX2.out.2).trans HX2.out.1)
  have hrg6 : X5.rangeAt w5.heap.size 0 [.int .i64 fN, .int .i64 fT, .int .i64 fk, .int .i64 fl, .slice A1 m1 c1, .int .i64 fh, .slice A2 m2 c2] := range_all (cs := [.int .i64 fN, .int .i64 fT, .int .i64 fk, .int .i64 fl, .slice A1 m1 c1, .int .i64 fh, .slice A2 m2 c2]) hx5
  have H13 := Lib.hid h13
  have HTh := Lib.hid hth
  have HG5 := Lib.hid hrg5
  have HG6 := Lib.hid hrg6
  have HT5 := Lib.hid hth5
  have HX5 := Lib.hid hX5
  clear hB g3 r5 r6 q5 R2 R5 R6 hx5 hbX5 hzX5 k0 hrg2 HS HG h13 hth hrg5 hrg6 hth5 hX5
  go_wp2_with (first | (refine wpList_store_mid rfl 65 _ _ rfl w5.heap.size 0 #[.int .i64 fN, .int .i64 fT, .int .i64 fk, .int .i64 fl, .slice A1 m1 c1, .int .i64 fh, .slice A2 m2 c2] rfl rfl HT5.out info_fn (by simp [Value.oneCell']) ?_; rw [HX5.out]) | (refine wpList_load_mid rfl 44 _ rfl w2.heap.size 0 rfl [.int .i64 pN, .int .i64 pB, .int .i64 pl, .int .i64 pk, .int .i64 len, .slice A n c] _ HG5.out Tryz.underlying44 rfl info_pd ?_) | (refine wpList_load_mid rfl 65 _ rfl w5.heap.size 0 rfl [.int .i64 fN, .int .i64 fT, .int .i64 fk, .int .i64 fl, .slice A1 m1 c1, .int .i64 fh, .slice A2 m2 c2] _ HG6.out Tryz.underlying65 rfl info_fn ?_) | (refine wpList_build rfl _ _ rfl #[(0, .agg #[.int .i64 pN, .int .i64 pB, .int .i64 pl, .int .i64 pk, .int .i64 len, .slice A n c]), (1, .agg #[.int .i64 fN, .int .i64 fT, .int .i64 fk, .int .i64 fl, .slice A1 m1 c1, .int .i64 fh, .slice A2 m2 c2])] (by kernel_rfl) _ (run_build_sh _ _ _ _ _ _ _ _ _ _ _ _ _ _ _ _ _ _ _ _) ?_) | (refine wpList_store_mid rfl 67 _ _ rfl (w.heap.size + 1 + 1) 0 #[.int .i64 pN, .int .i64 pB, .int .i64 pl, .int .i64 pk, .int .i64 len, .slice A n c, .int .i64 fN, .int .i64 fT, .int .i64 fk, .int .i64 fl, .slice A1 m1 c1, .int .i64 fh, .slice A2 m2 c2] rfl rfl HTh.out info_sh (by simp [Value.oneCell']) ?_))
  show bodyPost _ _ _ _ _ (X5.setCells (w.heap.size + 1 + 1) 0 [.int .i64 pN, .int .i64 pB, .int .i64 pl, .int .i64 pk, .int .i64 len, .slice A n c, .int .i64 fN, .int .i64 fT, .int .i64 fk, .int .i64 fl, .slice A1 m1 c1, .int .i64 fh, .slice A2 m2 c2])
  have h13 := H13.out
  clear H13
  generalize X5.setCells (w.heap.size + 1 + 1) 0 [.int .i64 pN, .int .i64 pB, .int .i64 pl, .int .i64 pk, .int .i64 len, .slice A n c, .int .i64 fN, .int .i64 fT, .int .i64 fk, .int .i64 fl, .slice A1 m1 c1, .int .i64 fh, .slice A2 m2 c2] = Wf at *
  obtain ⟨d0, d1, d2, d3, d4, d5, d6, d7, d8, d9, d10, d11, d12⟩ := cells13 h13
  exact bodyPost_ret (v := .tuple #[.agg #[.int .i64 pN, .int .i64 pB, .int .i64 pl, .int .i64 pk, .int .i64 len, .slice A n c, .int .i64 fN, .int .i64 fT, .int .i64 fk, .int .i64 fl, .slice A1 m1 c1, .int .i64 fh, .slice A2 m2 c2], .int .i64 0]) (by simp [results, Tryz.results36, go_sem, d0, d1, d2, d3, d4, d5, d6, d7, d8, d9, d10, d11, d12]) rfl ⟨A, c, A1, c1, A2, c2, rfl, HRa.out, HRb.out, HRc.out, HBf.out⟩
end
section
set_option maxRecDepth 100000
set_option linter.unusedVariables false
open Go.RowKit Go.Shelf
theorem range_mid {W : World} {b : Nat} {t : TypeId} (a cs d : List Value) (h : W.heap[b]? = some (.cells (a ++ (cs ++ d)).toArray t (0, 0))) : W.rangeAt b a.length cs := fun j v hv => by
  rw [cell_at h]
  have hj : j < cs.length := (List.getElem?_eq_some_iff.1 hv).1
  simp [List.getElem?_append_right, List.getElem?_append_left hj, hv]
set_option maxHeartbeats 8000000 in
theorem check_g (pN pB pl pk len fN fT fk fl fh : Int) (A A1 A2 : Option Addr) (n c m1 c1 m2 c2 : Nat) (g : List (List Nat)) (NG : Nat) (gN gT gk gl gh : Int) (s1 s2 : Nat) (b1 b2 : List Nat) (q : Bool) (r : Int) (hr : (if q = true then 0 else 4) = r) (w : World)
    (HR : Hid (∀ V, Below w.heap.size w V → Calls Tryz.prog 25 #[.agg #[.int .i64 pN, .int .i64 pB, .int .i64 pl, .int .i64 pk, .int .i64 len, .slice A n c]] V (PrG V g NG)))
    (HS : Hid (∀ AG cG R V, Below w.heap.size w V → RdG V V.heap.size AG R → gs R = g.map ns → (∀ r ∈ R, r.2.2.length ≤ r.2.1) → Calls Tryz.prog 80 #[.agg #[.slice AG NG cG], .agg #[.int .i64 pN, .int .i64 pB, .int .i64 pl, .int .i64 pk, .int .i64 len, .slice A n c]] V (WrP V gN gT gk gl gh s1 s2 b1 b2 0)))
    (HF : Hid (∀ B1 d1 B2 d2 V, Below w.heap.size w V → Rd V V.heap.size B1 b1 → Rd V V.heap.size B2 b2 → Calls Tryz.prog 86 #[.agg #[.int .i64 fN, .int .i64 fT, .int .i64 fk, .int .i64 fl, .slice A1 m1 c1, .int .i64 fh, .slice A2 m2 c2], .agg #[.int .i64 gN, .int .i64 gT, .int .i64 gk, .int .i64 gl, .slice B1 s1 d1, .int .i64 gh, .slice B2 s2 d2]] V fun e w' => e = .returned (.bool q) ∧ Below V.heap.size V w')) :
    Calls Tryz.prog 44 #[.agg #[.int .i64 pN, .int .i64 pB, .int .i64 pl, .int .i64 pk, .int .i64 len, .slice A n c, .int .i64 fN, .int .i64 fT, .int .i64 fk, .int .i64 fl, .slice A1 m1 c1, .int .i64 fh, .slice A2 m2 c2]] w fun e w' => e = .returned (.int .i64 r) ∧ Below w.heap.size w w' := by
  obtain ⟨w1, ew1⟩ : ∃ w1, w.alloc (.cells #[.int .i64 pN, .int .i64 pB, .int .i64 pl, .int .i64 pk, .int .i64 len, .slice A n c, .int .i64 fN, .int .i64 fT, .int .i64 fk, .int .i64 fl, .slice A1 m1 c1, .int .i64 fh, .slice A2 m2 c2] 67) = w1 := ⟨_, rfl⟩
  have hh : w1.heap[w.heap.size]? = some (.cells #[.int .i64 pN, .int .i64 pB, .int .i64 pl, .int .i64 pk, .int .i64 len, .slice A n c, .int .i64 fN, .int .i64 fT, .int .i64 fk, .int .i64 fl, .slice A1 m1 c1, .int .i64 fh, .slice A2 m2 c2] 67 (0, 0)) := ew1 ▸ World.alloc_heap_new w _
  have HB1 : Hid (Below w.heap.size w w1) := ew1 ▸ one_below w _
  have hlt : w.heap.size < w1.heap.size := by rw [← ew1, World.size_alloc]; omega
  have hrg : w1.rangeAt w.heap.size 0 [.int .i64 pN, .int .i64 pB, .int .i64 pl, .int .i64 pk, .int .i64 len, .slice A n c] := range_mid [] [.int .i64 pN, .int .i64 pB, .int .i64 pl, .int .i64 pk, .int .i64 len, .slice A n c] [.int .i64 fN, .int .i64 fT, .int .i64 fk, .int .i64 fl, .slice A1 m1 c1, .int .i64 fh, .slice A2 m2 c2] hh
  have HH : Hid (∀ V, Below w1.heap.size w1 V → V.heap[w.heap.size]? = some (.cells #[.int .i64 pN, .int .i64 pB, .int .i64 pl, .int .i64 pk, .int .i64 len, .slice A n c, .int .i64 fN, .int .i64 fT, .int .i64 fk, .int .i64 fl, .slice A1 m1 c1, .int .i64 fh, .slice A2 m2 c2] 67 (0, 0))) := fun V hV => (hV.block _ hlt).trans hh
  clear hh hlt
  go_enter Tryz.func44, Tryz.ntmps44
  go_wp2_with (refine wpList_load_mid rfl 44 _ rfl w.heap.size 0 rfl [.int .i64 pN, .int .i64 pB, .int .i64 pl, .int .i64 pk, .int .i64 len, .slice A n c] _ (by first | exact hrg | (rw [ew1]; exact hrg)) Tryz.underlying44 rfl info_pd ?_)
  try rw [ew1]
  refine (HR.out w1 HB1.out).mono ?_
  rintro e w2 ⟨AG, cG, R, rfl, hgs, hcap, hrk, q2⟩
  obtain ⟨X2, hX2⟩ : ∃ X, w2.alloc (.cells #[.slice AG NG cG] 42) = X := ⟨_, rfl⟩
  have hb2 : Below w2.heap.size w2 X2 := hX2 ▸ one_below w2 _
  have k2 : X2.cell? ⟨w2.heap.size, 0, none⟩ = some (.slice AG NG cG) := box_cell (hX2 ▸ World.alloc_heap_new w2 _)
  have HB2 : Hid (Below w1.heap.size w1 X2) := q2.trans (hb2.mono q2.size)
  have HBw : Hid (Below w.heap.size w X2) := HB1.out.trans (HB2.out.mono HB1.out.size)
  have HRg := Lib.hid (And.intro (hrk.on hb2).here (And.intro hgs hcap))
  have hrg2 : X2.rangeAt w.heap.size 0 [.int .i64 pN, .int .i64 pB, .int .i64 pl, .int .i64 pk, .int .i64 len, .slice A n c] := range_mid [] [.int .i64 pN, .int .i64 pB, .int .i64 pl, .int .i64 pk, .int .i64 len, .slice A n c] [.int .i64 fN, .int .i64 fT, .int .i64 fk, .int .i64 fl, .slice A1 m1 c1, .int .i64 fh, .slice A2 m2 c2] (HH.out X2 HB2.out)
  clear hgs hcap hrk q2 hb2 ew1 hrg HR
  go_wp2_with (refine wpList_load_mid rfl 44 _ rfl w.heap.size 0 rfl [.int .i64 pN, .int .i64 pB, .int .i64 pl, .int .i64 pk, .int .i64 len, .slice A n c] _ (by first | exact hrg2 | (rw [hX2]; exact hrg2)) Tryz.underlying44 rfl info_pd ?_)
  try rw [hX2]
  refine (HS.out AG cG R X2 HBw.out HRg.out.1 HRg.out.2.1 HRg.out.2.2).mono ?_
  rintro e w5 ⟨B1, d1, B2, d2, rfl, r5, r6, q5⟩
  obtain ⟨X5, hX5, hth5, hx5, hbX5, hzX5⟩ := st_new 65 [.int .i64 0, .int .i64 0, .int .i64 0, .int .i64 0, .slice none 0 0, .int .i64 0, .slice none 0 0] [.int .i64 gN, .int .i64 gT, .int .i64 gk, .int .i64 gl, .slice B1 s1 d1, .int .i64 gh, .slice B2 s2 d2] 7 rfl rfl w5
  have HB5 : Hid (Below X2.heap.size X2 X5) := q5.trans (hbX5.mono q5.size)
  have HBw5 : Hid (Below w.heap.size w X5) := HBw.out.trans (HB5.out.mono HBw.out.size)
  have HR5 := Lib.hid (And.intro (r5.on hbX5) (r6.on hbX5))
  obtain ⟨x0, x1, x2, x3, x4, x5, x6, x7, x8, x9, x10, x11, x12⟩ := cells13 (HH.out X5 (HB2.out.trans (HB5.out.mono HB2.out.size)))
  obtain ⟨y0, y1, y2, y3, y4, y5, y6⟩ := (cells7 hx5).1
  clear r5 r6 q5 hbX5 hzX5 hx5 k2 hrg2 hX2 HS
  go_wp2_with (first | (refine wpList_store_mid rfl 65 _ _ rfl w5.heap.size 0 #[.int .i64 gN, .int .i64 gT, .int .i64 gk, .int .i64 gl, .slice B1 s1 d1, .int .i64 gh, .slice B2 s2 d2] rfl rfl hth5 info_fn (by simp [Value.oneCell']) ?_; rw [hX5]; clear hX5 hth5) | fail)
  refine (HF.out B1 d1 B2 d2 X5 HBw5.out HR5.out.1 HR5.out.2).mono ?_
  rintro e w6 ⟨rfl, q6⟩
  have HB6 : Hid (Below w.heap.size w w6) := HBw5.out.trans (q6.mono HBw5.out.size)
  clear q6 x0 x1 x2 x3 x4 x5 x6 x7 x8 x9 x10 x11 x12 y0 y1 y2 y3 y4 y5 y6
  subst hr
  cases q with
  | true =>
    go_wp2
    go_ret
    exact ⟨rfl, HB6.out⟩
  | false =>
    go_wp2
    go_ret
    exact ⟨rfl, HB6.out⟩
set_option maxHeartbeats 4000000 in
theorem isnode_l (pN pB pl pk len fN fT fk fl fh : Int) (A A1 A2 : Option Addr) (n c m1 c1 m2 c2 : Nat) (x : Int) (r : Bool) (hr : decide (0 ≤ x ∧ x < pN) = r) (w : World) :
    Calls Tryz.prog 81 #[.agg #[.int .i64 pN, .int .i64 pB, .int .i64 pl, .int .i64 pk, .int .i64 len, .slice A n c, .int .i64 fN, .int .i64 fT, .int .i64 fk, .int .i64 fl, .slice A1 m1 c1, .int .i64 fh, .slice A2 m2 c2], .int .i64 x] w fun e w' => e = .returned (.bool r) ∧ Below w.heap.size w w' := by
  obtain ⟨w1, ew1⟩ : ∃ w1, w.alloc (.cells #[.int .i64 pN, .int .i64 pB, .int .i64 pl, .int .i64 pk, .int .i64 len, .slice A n c, .int .i64 fN, .int .i64 fT, .int .i64 fk, .int .i64 fl, .slice A1 m1 c1, .int .i64 fh, .slice A2 m2 c2] 67) = w1 := ⟨_, rfl⟩
  have hh : w1.heap[w.heap.size]? = some (.cells #[.int .i64 pN, .int .i64 pB, .int .i64 pl, .int .i64 pk, .int .i64 len, .slice A n c, .int .i64 fN, .int .i64 fT, .int .i64 fk, .int .i64 fl, .slice A1 m1 c1, .int .i64 fh, .slice A2 m2 c2] 67 (0, 0)) := ew1 ▸ World.alloc_heap_new w _
  have HB1 : Hid (Below w.heap.size w w1) := ew1 ▸ one_below w _
  have x0 := (cells13 hh).1
  clear hh
  by_cases h1 : 0 ≤ x
  · have t1 : decide ((0 : Int) ≤ x) = true := by simpa using h1
    by_cases h2 : x < pN
    · have t2 : decide (x < pN) = true := by simpa using h2
      obtain rfl : r = true := hr ▸ decide_eq_true ⟨h1, h2⟩
      clear h1 h2 hr
      go_enter Tryz.func81, Tryz.ntmps81
      go_wp2
      go_ret
      exact ⟨rfl, by first | exact HB1.out | (rw [ew1]; exact HB1.out)⟩
    · have t2 : decide (x < pN) = false := by simpa using h2
      obtain rfl : r = false := hr ▸ decide_eq_false (fun q => h2 q.2)
      clear h1 h2 hr
      go_enter Tryz.func81, Tryz.ntmps81
      go_wp2
      go_ret
      exact ⟨rfl, by first | exact HB1.out | (rw [ew1]; exact HB1.out)⟩
  · have t1 : decide ((0 : Int) ≤ x) = false := by simpa using h1
    obtain rfl : r = false := hr ▸ decide_eq_false (fun q => h1 q.1)
    clear h1 hr
    go_enter Tryz.func81, Tryz.ntmps81
    go_wp2
    go_ret
    exact ⟨rfl, by first | exact HB1.out | (rw [ew1]; exact HB1.out)⟩
theorem isnode_any (pN pB pl pk len fN fT fk fl fh : Int) (A A1 A2 : Option Addr) (n c m1 c1 m2 c2 : Nat) (x : Int) (w : World) :
    Calls Tryz.prog 81 #[.agg #[.int .i64 pN, .int .i64 pB, .int .i64 pl, .int .i64 pk, .int .i64 len, .slice A n c, .int .i64 fN, .int .i64 fT, .int .i64 fk, .int .i64 fl, .slice A1 m1 c1, .int .i64 fh, .slice A2 m2 c2], .int .i64 x] w fun e w' => e = .returned (.bool (decide (0 ≤ x ∧ x < pN))) ∧ Below w.heap.size w w' := isnode_l _ _ _ _ _ _ _ _ _ _ _ _ _ _ _ _ _ _ _ _ _ rfl w
end
section
set_option maxRecDepth 100000
set_option linter.unusedVariables false
open Go.RowKit Go.Shelf
structure But (X : Nat) (w w' : World) : Prop where
  os : w'.os = w.os
  tape : w'.tape = w.tape
  output : w'.output = w.output
  size : w.heap.size ≤ w'.heap.size
  block : ∀ j, j < w.heap.size → j ≠ X → w'.heap[j]? = w.heap[j]?
theorem But.refl (X : Nat) (w : World) : But X w w := ⟨rfl, rfl, rfl, Nat.le_refl _, fun _ _ _ => rfl⟩
theorem But.trans {X : Nat} {a b c : World} (h : But X a b) (h2 : But X b c) : But X a c :=
  ⟨h2.os.trans h.os, h2.tape.trans h.tape, h2.output.trans h.output, Nat.le_trans h.size h2.size, fun j hj hx => (h2.block j (Nat.lt_of_lt_of_le hj h.size) hx).trans (h.block j hj hx)⟩
theorem But.of {X : Nat} {a b : World} (h : Below a.heap.size a b) : But X a b := ⟨h.os, h.tape, h.output, h.size, fun j hj _ => h.block j hj⟩
theorem But.low {X : Nat} {a b : World} (h : But X a b) : Below X a b ∨ a.heap.size < X := by
  rcases Nat.lt_or_ge a.heap.size X with q | q
  · exact .inr q
  · exact .inl ⟨h.os, h.tape, h.output, h.size, fun j hj => h.block j (by omega) (by omega)⟩
theorem But.set {X : Nat} {a b : World} (h : But X a b) (i : Nat) (v : Value) : But X a (b.setCell ⟨X, i, none⟩ v) :=
  ⟨h.os, h.tape, h.output, by rw [show (b.setCell ⟨X, i, none⟩ v).heap.size = b.heap.size by simp [World.setCell]]; exact h.size, fun j hj hx => (Below.heap_setCell b ⟨X, i, none⟩ v j hx).trans (h.block j hj hx)⟩
theorem rd_but {a b : World} {X : Nat} {A : Option Addr} {bs : List Nat} (h : Rd a X A bs) (hb : But X a b) (hX : X ≤ a.heap.size) : Rd b b.heap.size A bs := by
  rcases h with h | ⟨g, off, rfl, hg, hc⟩
  · exact .inl h
  · exact .inr ⟨g, off, rfl, by have := hb.size; omega, fun i hi => (World.cell?_of_block (w := a) (a := ⟨g, off + i, none⟩) (hb.block g (by omega) (by omega))).trans (hc i hi)⟩
def LsX (X : Nat) (P : World → Prop) (w : World) (n : Nat) (l : List Nat) (e : Ending) (w' : World) : Prop :=
  ∃ A c, e = .returned (.slice A n c) ∧ n ≤ c ∧ (A = none → c = 0) ∧ RdV w' w'.heap.size A (zc (ns l)) ∧ But X w w' ∧ P w'
def RdX (X : Nat) (P : World → Prop) (w : World) (n : Nat) (l : List Nat) (to er : Int) (e : Ending) (w' : World) : Prop :=
  ∃ A c, e = .returned (.tuple #[.slice A n c, .int .i64 to, .int .i64 er]) ∧ n ≤ c ∧ (A = none → c = 0) ∧ RdV w' w'.heap.size A (zc (ns l)) ∧ But X w w' ∧ P w'
set_option maxHeartbeats 4000000 in
theorem entry_x (X : Nat) (P : World → Prop) (N B ls k len : Int) (n c : Nat) (A : Option Addr) (s : Int) (i r j : Nat) (hj : (i : Int) - (r : Int) = (j : Int)) (hi : i ≤ 1048576) (hr : 0 < r) (g : Nat) (pv : Value) (s1 : Int) (nl : Nat) (l : List Nat) (to er : Int) (m : Nat) (F : List Nat) (w : World) (hX : X < w.heap.size)
    (eg : ∀ args w, (callFunc g args).run Tryz.prog w = .ok (.enter g args) w)
    (HP : Hid (∀ V V', P V → Below V.heap.size V V' → P V'))
    (HRb : Hid (∀ V, Below w.heap.size w V → Calls Tryz.prog 166 #[.agg #[.int .i64 N, .int .i64 B, .int .i64 ls, .int .i64 k, .int .i64 len, .slice A n c], .int .i64 s, .int .i64 (i : Int)] V fun e w' => e = .returned (.tuple #[.int .i64 (r : Int), .int .i64 s1, .int .i64 0]) ∧ Below V.heap.size V w'))
    (HLs : Hid (∀ V, Below w.heap.size w V → Calls Tryz.prog g (#[pv] ++ #[.int .i64 (j : Int)]) V (LsX X P V m F)))
    (HSr : Hid (∀ A2 c2 V, But X w V → m ≤ c2 → (A2 = none → c2 = 0) → RdV V V.heap.size A2 (zc (ns F)) → Calls Tryz.prog 14 #[.agg #[.int .i64 len, .slice A n c], .int .i64 s1, .int .i64 (i : Int), .slice A2 m c2, .agg #[.int .i64 (r : Int), .int .i64 ls, .int .i64 k]] V (RdL V nl l to er))) :
    Calls Tryz.prog 123 #[.agg #[.int .i64 N, .int .i64 B, .int .i64 ls, .int .i64 k, .int .i64 len, .slice A n c], .int .i64 s, .int .i64 (i : Int), .func (.func g) #[pv] #[]] w (RdX X P w nl l to er) := by
  obtain ⟨w1, ew1, hb1, hs1, hk1⟩ := pbox w (.int .i64 N) (.int .i64 B) (.int .i64 ls) (.int .i64 k) (.int .i64 len) (.slice A n c)
  have hb := hk1 w1 (Below.refl _ _)
  have HB1 := Lib.hid hb1
  have HXl : Hid (X < w.heap.size ∧ w1.heap.size = w.heap.size + 1) := ⟨hX, hs1⟩
  have HBx := Lib.hid hb
  have c0 := (cell_at hb 0).trans rfl
  simp only [List.getElem?_toArray, List.getElem?_cons_zero] at c0
  obtain ⟨⟨c1, c2, c3⟩, c4, c5⟩ := six_at hb
  have t1 : decide ((0 : Int) < (r : Int)) = true := by simp; omega
  have t2 : decide (0 < r) = true := by simpa using hr
  have t3 : IntKind.i64.wrap (j : Int) = (j : Int) := by rw [IntKind.wrap_i64]; omega
  clear hb1 hs1 hk1 hb hX
  go_enter Tryz.func123, Tryz.ntmps123
  go_wp2_with fail
  try rw [ew1]
  refine (HRb.out w1 HB1.out).mono ?_
  rintro e w2' ⟨rfl, q2⟩
  have HB2 := Lib.hid q2
  have HL2 : Hid (Below w.heap.size w w2') := HB1.out.trans (HB2.out.mono HB1.out.size)
  clear q2 ew1 c0 c1 c2 c3 c4 c5
  go_wp2_with fail
  refine (HLs.out w2' HL2.out).mono ?_
  rintro e w2 ⟨A2, c2, rfl, g1, g2, g3, q3, hp⟩
  have HG := Lib.hid (And.intro g1 (And.intro g2 g3))
  have HPp := Lib.hid hp
  have HL3 : Hid (But X w w2) := (But.of HL2.out).trans q3
  have HKx : Hid (w2.heap[w.heap.size]? = some (.cells #[.int .i64 N, .int .i64 B, .int .i64 ls, .int .i64 k, .int .i64 len, .slice A n c] 44 (0, 0)) ∧ w.heap.size < w2.heap.size) := by
    have h1 := HXl.out
    have h2 := HB2.out.size
    have h3 := q3.size
    exact ⟨(q3.block _ (by omega) (by omega)).trans ((HB2.out.block _ (by omega)).trans HBx.out), by omega⟩
  have HKc : Hid (∀ V, Below w2.heap.size w2 V → V.cell? ⟨w.heap.size, 1, none⟩ = some (.int .i64 B) ∧ V.cell? ⟨w.heap.size, 2, none⟩ = some (.int .i64 ls) ∧ V.cell? ⟨w.heap.size, 3, none⟩ = some (.int .i64 k) ∧ V.cell? ⟨w.heap.size, 4, none⟩ = some (.int .i64 len) ∧ V.cell? ⟨w.heap.size, 5, none⟩ = some (.slice A n c)) := fun V hV => by
    obtain ⟨⟨c1, c2, c3⟩, c4, c5⟩ := six_at (w := w) ((hV.block _ HKx.out.2).trans HKx.out.1)
    exact ⟨c1, c2, c3, c4, c5⟩
  have HD : Hid (Below w2.heap.size w2 w2.drew) := (Below.refl _ _).drew
  clear q3 g1 g2 g3 hp t1 t2 t3 hj
  go_wp2
  go_region_held3 (fun V => V.cell? ⟨w.heap.size, 1, none⟩ = some (.int .i64 B) ∧ V.cell? ⟨w.heap.size, 2, none⟩ = some (.int .i64 ls) ∧ V.cell? ⟨w.heap.size, 3, none⟩ = some (.int .i64 k) ∧ V.cell? ⟨w.heap.size, 4, none⟩ = some (.int .i64 len) ∧ V.cell? ⟨w.heap.size, 5, none⟩ = some (.slice A n c))
    ((refine HKc.out _ ?_; first | exact hk2.out | exact hk1.out | exact HD.out))
    ((first
      | (go_at_call 14; have hx := hk1.out; refine (HSr.out A2 c2 wa (HL3.out.trans (But.of hx)) HG.out.1 HG.out.2.1 (HG.out.2.2.on hx)).mono ?_; rintro e wb ⟨A5, c5, rfl, g1, g2, g3, bq⟩; have hk2 : Hid (Below w2.heap.size w2 wb) := hx.trans (bq.mono hx.size); have HR := Lib.hid (And.intro g1 (And.intro g2 g3.1)); clear bq hx g1 g2 g3)
      | (go_at_call 167; refine (with_any _ _ _ _ _).mono ?_; rintro e wa ⟨rfl, bq⟩; have hk1 : Hid (Below w2.heap.size w2 wa) := HD.out.trans (bq.mono HD.out.size); clear bq)))
  go_wp2
  go_ret3
  exact ⟨_, _, rfl, HR.out.1, HR.out.2.1, HR.out.2.2, HL3.out.trans (But.of hk2.out), HP.out _ _ HPp.out hk2.out⟩
def Fnd (X : Nat) (pN pB pl pk len fN fT fk fl fh : Int) (A A1 A2 : Option Addr) (n c m1 c1 m2 c2 : Nat) (d : Int) (V : World) : Prop :=
  V.heap[X]? = some (.cells #[.int .i64 pN, .int .i64 pB, .int .i64 pl, .int .i64 pk, .int .i64 len, .slice A n c, .int .i64 fN, .int .i64 fT, .int .i64 fk, .int .i64 fl, .slice A1 m1 c1, .int .i64 fh, .slice A2 m2 c2, .int .i64 d] 126 (0, 0))
set_option maxHeartbeats 8000000 in
theorem find_w (X : Nat) (pN pB pl pk len fN fT fk fl fh : Int) (A A1 A2 : Option Addr) (n c m1 c1 m2 c2 : Nat) (d d' : Int) (i s nl : Nat) (l : List Nat) (to : Int) (w : World) (hd : wrap64 (d + 1) = d + 1)
    (hF : Fnd X pN pB pl pk len fN fT fk fl fh A A1 A2 n c m1 c1 m2 c2 d w)
    (HGt : Hid (∀ V, But X w V → Calls Tryz.prog 122 #[.agg #[.int .i64 fN, .int .i64 fT, .int .i64 fk, .int .i64 fl, .slice A1 m1 c1, .int .i64 fh, .slice A2 m2 c2], .int .i64 (i : Int)] V (RkP V s 0)))
    (HEn : Hid (∀ V, But X w V → Fnd X pN pB pl pk len fN fT fk fl fh A A1 A2 n c m1 c1 m2 c2 (d + 1) V → Calls Tryz.prog 123 #[.agg #[.int .i64 pN, .int .i64 pB, .int .i64 pl, .int .i64 pk, .int .i64 len, .slice A n c], .int .i64 (s : Int), .int .i64 (i : Int), .func (.func 82) #[.pointer (some ⟨X, 0, none⟩)] #[]] V (RdX X (Fnd X pN pB pl pk len fN fT fk fl fh A A1 A2 n c m1 c1 m2 c2 d') V nl l to 0))) :
    Calls Tryz.prog 82 #[.pointer (some ⟨X, 0, none⟩), .int .i64 (i : Int)] w (LsX X (Fnd X pN pB pl pk len fN fT fk fl fh A A1 A2 n c m1 c1 m2 c2 d') w nl l) := by
  have x13 : w.cell? ⟨X, 13, none⟩ = some (.int .i64 d) := (cell_at hF 13).trans rfl
  have f13 := frz_at hF 13
  obtain ⟨W, hW⟩ : ∃ W, w.setCell ⟨X, 13, none⟩ (.int .i64 (d + 1)) = W := ⟨_, rfl⟩
  have hFW : Fnd X pN pB pl pk len fN fT fk fl fh A A1 A2 n c m1 c1 m2 c2 (d + 1) W := by
    rw [← hW]
    unfold Fnd at hF ⊢
    rw [heap_set_same _ _ _ _ _ _ hF]; simp
  have HBW : Hid (But X w W) := by rw [← hW]; exact (But.refl X w).set 13 _
  have hXl : X < W.heap.size := (Array.getElem?_eq_some_iff.1 hFW).1
  have hrgF : W.rangeAt X 6 [.int .i64 fN, .int .i64 fT, .int .i64 fk, .int .i64 fl, .slice A1 m1 c1, .int .i64 fh, .slice A2 m2 c2] := range_mid [.int .i64 pN, .int .i64 pB, .int .i64 pl, .int .i64 pk, .int .i64 len, .slice A n c] [.int .i64 fN, .int .i64 fT, .int .i64 fk, .int .i64 fl, .slice A1 m1 c1, .int .i64 fh, .slice A2 m2 c2] [.int .i64 (d + 1)] hFW
  have HFW := Lib.hid (And.intro hFW hXl)
  clear hF hFW hXl
  go_enter Tryz.func82, Tryz.ntmps82
  go_wp2_with (first | (refine wpList_load_mid rfl 65 _ rfl X 6 rfl [.int .i64 fN, .int .i64 fT, .int .i64 fk, .int .i64 fl, .slice A1 m1 c1, .int .i64 fh, .slice A2 m2 c2] _ hrgF Tryz.underlying65 rfl info_fn ?_))
  refine (HGt.out W HBW.out).mono ?_
  rintro e w3 ⟨rfl, q3⟩
  have HB3 : Hid (But X w w3) := HBW.out.trans (But.of q3)
  have hF3 : Fnd X pN pB pl pk len fN fT fk fl fh A A1 A2 n c m1 c1 m2 c2 (d + 1) w3 := (q3.block _ HFW.out.2).trans HFW.out.1
  have hrgP : w3.rangeAt X 0 [.int .i64 pN, .int .i64 pB, .int .i64 pl, .int .i64 pk, .int .i64 len, .slice A n c] := range_mid [] [.int .i64 pN, .int .i64 pB, .int .i64 pl, .int .i64 pk, .int .i64 len, .slice A n c] [.int .i64 fN, .int .i64 fT, .int .i64 fk, .int .i64 fl, .slice A1 m1 c1, .int .i64 fh, .slice A2 m2 c2, .int .i64 (d + 1)] hF3
  have HF3 := Lib.hid hF3
  clear q3 hF3 hrgF hW x13 f13
  go_wp2_with (first | (refine wpList_load_mid rfl 44 _ rfl X 0 rfl [.int .i64 pN, .int .i64 pB, .int .i64 pl, .int .i64 pk, .int .i64 len, .slice A n c] _ hrgP Tryz.underlying44 rfl info_pd ?_))
  refine (HEn.out w3 HB3.out HF3.out).mono ?_
  rintro e w5 ⟨A5, c5, rfl, g1, g2, g3, q5, hp⟩
  have HFin : Hid (LsX X (Fnd X pN pB pl pk len fN fT fk fl fh A A1 A2 n c m1 c1 m2 c2 d') w nl l (.returned (.slice A5 nl c5)) w5) := ⟨A5, c5, rfl, g1, g2, g3, HB3.out.trans q5, hp⟩
  clear g1 g2 g3 q5 hp hrgP
  go_wp2
  go_ret
  exact HFin.out
end
section
set_option maxRecDepth 100000
set_option linter.unusedVariables false
open Go.RowKit Go.Shelf
theorem up_of : ∀ (l : List Nat) (p : Nat), (∀ x ∈ l, p ≤ x) → l.Pairwise (· ≤ ·) → Up p l
  | [], _, _, _ => trivial
  | x :: t, p, h, hp => ⟨h x List.mem_cons_self, up_of t x (fun y hy => (List.pairwise_cons.1 hp).1 y hy) (List.pairwise_cons.1 hp).2⟩
theorem pkS_up (B ls k : Nat) (g : List (List Nat)) (n : Nat) : Up 0 (pkS B ls k g n) := by
  refine up_of _ 0 (fun _ _ => Nat.zero_le _) ?_
  unfold pkS
  rw [List.pairwise_map]
  exact List.pairwise_lt_range.imp fun h => pkB_le B ls k g (Nat.le_of_lt h)
theorem pkS_le (B ls k : Nat) (g : List (List Nat)) (n : Nat) : ∀ x ∈ pkS B ls k g n, x ≤ (pkB B ls k g n).length := fun x hx => by
  unfold pkS at hx
  obtain ⟨i, hi, rfl⟩ := List.mem_map.1 hx
  exact pkB_le B ls k g (Nat.le_of_lt (List.mem_range.1 hi))
theorem fits_w (n t : Nat) (hn : n ≤ 100) (h0 : n = 0 → t = 0) : n + t / 2 ^ fnw n t + 1 ≤ 8192 := by
  rcases Nat.eq_zero_or_pos n with h | h
  · rw [h0 h, Nat.zero_div]; omega
  · have := fw_high n t h; omega
def stpF (B ls k : Nat) (g : List (List Nat)) : Nat → Nat → Nat
  | 0, _ => 1
  | f + 1, i => if bst B ls k g i = 0 then 1 else 1 + stpF B ls k g f (i - bst B ls k g i)
theorem stpF_eq (B ls k : Nat) (g : List (List Nat)) : ∀ f f' i, i ≤ f → i ≤ f' → stpF B ls k g f i = stpF B ls k g f' i
  | 0, 0, _, _, _ => rfl
  | 0, f' + 1, i, h, _ => by
    have := bst_le B ls k g i
    unfold stpF
    rw [if_pos (by omega)]
  | f + 1, 0, i, _, h => by
    have := bst_le B ls k g i
    unfold stpF
    rw [if_pos (by omega)]
  | f + 1, f' + 1, i, h, h' => by
    unfold stpF
    by_cases q : bst B ls k g i = 0
    · rw [if_pos q, if_pos q]
    · rw [if_neg q, if_neg q, stpF_eq B ls k g f f' _ (by omega) (by omega)]
def stp (B ls k : Nat) (g : List (List Nat)) (i : Nat) : Nat := stpF B ls k g i i
theorem stp_0 (B ls k : Nat) (g : List (List Nat)) (i : Nat) (h : bst B ls k g i = 0) : stp B ls k g i = 1 := by
  unfold stp
  cases i with
  | zero => rfl
  | succ i => unfold stpF; rw [if_pos h]
theorem stp_r (B ls k : Nat) (g : List (List Nat)) (i : Nat) (h : bst B ls k g i ≠ 0) : stp B ls k g i = 1 + stp B ls k g (i - bst B ls k g i) := by
  have := bst_le B ls k g i
  unfold stp
  cases i with
  | zero => omega
  | succ i =>
    rw [stpF, if_neg h, stpF_eq B ls k g i (i + 1 - bst B ls k g (i + 1)) _ (by omega) (Nat.le_refl _)]
theorem stp_le (B ls k : Nat) (g : List (List Nat)) : ∀ f i, stpF B ls k g f i ≤ f + 1
  | 0, _ => Nat.le_refl _
  | f + 1, i => by
    unfold stpF
    split
    · omega
    · have := stp_le B ls k g f (i - bst B ls k g i); omega
theorem entersFind : ∀ args w, (callFunc 82 args).run Tryz.prog w = .ok (.enter 82 args) w := enters_of Tryz.func82 (by kernel_rfl) rfl
theorem fnd_on {X : Nat} {pN pB pl pk len fN fT fk fl fh : Int} {A A1 A2 : Option Addr} {n c m1 c1 m2 c2 : Nat} {d : Int} {V V' : World} (h : Fnd X pN pB pl pk len fN fT fk fl fh A A1 A2 n c m1 c1 m2 c2 d V) (hb : Below V.heap.size V V') : Fnd X pN pB pl pk len fN fT fk fl fh A A1 A2 n c m1 c1 m2 c2 d V' := (hb.block _ (Array.getElem?_eq_some_iff.1 h).1).trans h
theorem find_ok {g : List (List Nat)} (hok : GOk g) (N : Nat) (hN : g.length = N) (B ls k : Nat) (hB : B ≤ 7) (hls : ls = 0 ∨ 2 ≤ ls ∧ ls ≤ 300) (hk : 1 ≤ k) (hk2 : k ≤ 16) (L : List Bool) (hL : pkB B ls k g N = L) (hL8 : L.length ≤ 8192) (kk : Nat) (hkk : fnw N L.length = kk) (lS : List Nat) (hlS : pkS B ls k g N = lS) (A A1 A2 : Option Addr) (c c1 c2 X : Nat) (w0 : World) (hX : X < w0.heap.size)
    (r0 : Rd w0 X A (pack L)) (r1 : Rd w0 X A1 (pack (loP kk lS))) (r2 : Rd w0 X A2 (pack (fhi kk lS L.length))) :
    ∀ i, i < N → ∀ (d : Nat), d + i ≤ 1000 → ∀ V, But X w0 V → Fnd X (N : Int) (B : Int) (ls : Int) (k : Int) (L.length : Int) (N : Int) (L.length : Int) (kk : Int) ((loP kk lS).length : Int) ((fhi kk lS L.length).length : Int) A A1 A2 (pack L).length c (pack (loP kk lS)).length c1 (pack (fhi kk lS L.length)).length c2 (d : Int) V →
      Calls Tryz.prog 82 #[.pointer (some ⟨X, 0, none⟩), .int .i64 (i : Int)] V (LsX X (Fnd X (N : Int) (B : Int) (ls : Int) (k : Int) (L.length : Int) (N : Int) (L.length : Int) (kk : Int) ((loP kk lS).length : Int) ((fhi kk lS L.length).length : Int) A A1 A2 (pack L).length c (pack (loP kk lS)).length c1 (pack (fhi kk lS L.length)).length c2 ((d + stp B ls k g i : Nat) : Int)) V (row g i).length (row g i)) := by
  have hn := hok.nodes
  have hrs := gok_rows hok
  have hlen : lS.length = N := by rw [← hlS]; exact pkS_length _ _ _ _ _
  have hle : ∀ x ∈ lS, x ≤ L.length := by rw [← hlS, ← hL]; exact pkS_le B ls k g N
  have hup : Up 0 lS := by rw [← hlS]; exact pkS_up B ls k g N
  have hfit : N + L.length / 2 ^ kk + 1 ≤ 8192 := by
    rw [← hkk]
    exact fits_w N L.length (by omega) (fun h => by rw [← hL, h]; rfl)
  intro i
  induction i using Nat.strongRecOn with
  | ind i ih =>
    intro hi d hd V hV hF
    obtain ⟨r, hr⟩ : ∃ r, bst B ls k g i = r := ⟨_, rfl⟩
    have hrle := bst_le B ls k g i
    rw [hr] at hrle
    obtain ⟨s, hs⟩ : ∃ s, (pkB B ls k g i).length = s := ⟨_, rfl⟩
    obtain ⟨T, hT⟩ := pkB_pre B ls k g (i + 1) N (by omega)
    have hLs : L = pkB B ls k g i ++ (ndB B ls k g i r ++ T) := by rw [← hL, ← hT, pkB_succ, hr, List.append_assoc]
    have hsL : s ≤ L.length := by rw [← hs, hLs, List.length_append]; omega
    have hget : lS[i]?.getD 0 = s := by rw [← hlS, pkS_get hi, ← hs]; rfl
    have hsp : stp B ls k g i ≤ i + 1 := stp_le B ls k g i i
    -- where the list stands, and what reads it
    have key : ∃ to, rbV L B i s = (r, to, 0) ∧ to ≤ L.length ∧ ∃ to2, sread L i r ls k (ndF g i r) to = (row g i, to2, 0) := by
      by_cases hb0 : B = 0
      · obtain rfl : r = 0 := by omega
        refine ⟨s, by unfold rbV; rw [if_pos hb0], hsL, s + (sbits i 0 ls k (row g i) (ndF g i 0)).length, ?_⟩
        have h2 := sread_bits i 0 ls k (by omega) hk (row g i) (ndF g i 0) (row_rising hrs i) (fun h => absurd rfl h) (pkB B ls k g i) T
        rw [hs] at h2
        rw [hLs]
        unfold ndB
        rw [if_pos hb0, List.nil_append]
        exact h2
      · have hnd : ndB B ls k g i r = gam r ++ sbits i r ls k (row g i) (ndF g i r) := by unfold ndB; rw [if_neg hb0]
        have h1 : gamR L s = (r, s + (gam r).length, 0) := by
          rw [hLs, hnd, List.append_assoc, ← hs]; exact gamR_gam _ _ r (by omega)
        refine ⟨s + (gam r).length, ?_, ?_, s + (gam r).length + (sbits i r ls k (row g i) (ndF g i r)).length, ?_⟩
        · unfold rbV
          rw [if_neg hb0, h1, if_pos ⟨rfl, hrle⟩]
        · rw [hLs, hnd, ← hs]; simp only [List.length_append]; omega
        · have h2 := sread_bits i r ls k (by omega) hk (row g i) (ndF g i r) (row_rising hrs i) (ndF_rising hrs i r) (pkB B ls k g i ++ gam r) T
          rw [List.length_append, hs] at h2
          have e : L = (pkB B ls k g i ++ gam r) ++ (sbits i r ls k (row g i) (ndF g i r) ++ T) := by rw [hLs, hnd]; simp
          rw [e]
          exact h2
    obtain ⟨to, k1, k2, to2, k3⟩ := key
    have hcast : ((d + stp B ls k g i : Nat) : Int) = ((d + stp B ls k g i : Nat) : Int) := rfl
    refine find_w X _ _ _ _ _ _ _ _ _ _ A A1 A2 _ c _ c1 _ c2 (d : Int) ((d + stp B ls k g i : Nat) : Int) i s (row g i).length (row g i) (to2 : Int) V (by unfold wrap64; omega) hF
      (Lib.hid fun V2 hV2 => fget_w lS N L.length kk hlen (by omega) (by omega) hle hup hkk hfit i hi s hget A1 c1 A2 c2 V2 (rd_but r1 (hV.trans hV2) (by omega)) (rd_but r2 (hV.trans hV2) (by omega))) (Lib.hid fun V2 hV2 hF2 => ?_)
    have hA : ∀ V3, But X V2 V3 → Rd V3 V3.heap.size A (pack L) := fun V3 h3 => rd_but r0 ((hV.trans hV2).trans h3) (by omega)
    have hRb := fun V3 (h3 : But X V2 V3) => rb_ok (N : Int) (ls : Int) (k : Int) B hB L hL8 c A s i hsL V3 (hA V3 h3)
    rw [k1] at hRb
    by_cases h2 : r = 0
    · subst h2
      rw [stp_0 B ls k g i hr]
      have hsr := fun V3 (h3 : But X V2 V3) => srd_ok L hL8 A c to i 0 ls k k2 (by omega) (by omega) hls hk hk2 [] (fun q => absurd rfl q) (by simp) none 0 (by simp) (fun _ => rfl) V3 (hA V3 h3) (.inl rfl)
      rw [show ndF g i 0 = [] from rfl] at k3
      rw [k3] at hsr
      refine (entry_0 (N : Int) (B : Int) (ls : Int) (k : Int) (L.length : Int) (pack L).length c A (s : Int) (i : Int) _ (to : Int) (row g i).length (row g i) (to2 : Int) 0 V2 (Lib.hid fun V3 h3 => hRb V3 (But.of h3)) (Lib.hid fun V3 h3 => hsr V3 (But.of h3))).mono fun e w' q => ?_
      obtain ⟨A5, c5, q1, q2, q3, q4, q5⟩ := q
      exact ⟨A5, c5, q1, q2, q3, q4.1, But.of q5, fnd_on hF2 q5⟩
    · have hF0 : ndF g i r = row g (i - r) := by unfold ndF; rw [if_neg h2]
      have hR := row_rising hrs (i - r)
      rw [stp_r B ls k g i (by rw [hr]; exact h2), hr]
      rw [hF0] at k3
      have hX2 : X < V2.heap.size := Nat.lt_of_lt_of_le hX (hV.trans hV2).size
      have hsr := fun A3 c3 V3 (h3 : But X V2 V3) (q1 : (row g (i - r)).length ≤ c3) (q2 : A3 = none → c3 = 0) (q3 : RdV V3 V3.heap.size A3 (zc (ns (row g (i - r))))) => srd_ok L hL8 A c to i r ls k k2 (by omega) (by omega) hls hk hk2 (row g (i - r)) (fun _ => hR) hR.1 A3 c3 q1 q2 V3 (hA V3 h3) q3
      rw [k3] at hsr
      refine entry_x X _ (N : Int) (B : Int) (ls : Int) (k : Int) (L.length : Int) (pack L).length c A (s : Int) i r (i - r) (by omega) (by omega) (by omega) 82 (.pointer (some ⟨X, 0, none⟩)) (to : Int) (row g i).length (row g i) (to2 : Int) 0 (row g (i - r)).length (row g (i - r)) V2 hX2 entersFind (Lib.hid fun V3 V4 h3 h4 => fnd_on h3 h4) (Lib.hid fun V3 h3 => hRb V3 (But.of h3)) (Lib.hid fun V3 h3 => ?_) (Lib.hid fun A3 c3 V3 h3 q1 q2 q3 => hsr A3 c3 V3 h3 q1 q2 q3)
      have hlt : stp B ls k g (i - r) ≤ i - r + 1 := stp_le B ls k g _ _
      have h5 := ih (i - r) (by omega) (by omega) (d + 1) (by omega) V3 ((hV.trans hV2).trans (But.of h3)) (by
        have := fnd_on hF2 h3
        rw [show ((d + 1 : Nat) : Int) = (d : Int) + 1 by omega]
        exact this)
      rw [show d + (1 + stp B ls k g (i - r)) = d + 1 + stp B ls k g (i - r) by omega]
      exact h5
end
section
set_option maxRecDepth 100000
set_option linter.unusedVariables false
open Go.RowKit Go.Shelf
theorem but_below {B X : Nat} {w V V' : World} (h : Below B w V) (hB : B ≤ X) (hs : B ≤ V.heap.size) (hb : But X V V') : Below B w V' :=
  ⟨hb.os.trans h.os, hb.tape.trans h.tape, hb.output.trans h.output, Nat.le_trans h.size hb.size, fun j hj => (hb.block j (by omega) (by omega)).trans (h.block j hj)⟩
def LiP (w : World) (n : Nat) (l : List Nat) (m er : Int) (e : Ending) (w' : World) : Prop :=
  ∃ A c, e = .returned (.tuple #[.slice A n c, .int .i64 m, .int .i64 er]) ∧ RdV w' w'.heap.size A (zc (ns l)) ∧ Below w.heap.size w w'
theorem LiP.drewN {w w' : World} {n : Nat} {l : List Nat} {m er : Int} {e : Ending} (h : LiP w n l m er e w') (q : Nat) : LiP w n l m er e (w'.drewN q) := by
  obtain ⟨A, c, h1, h2, h3⟩ := h
  have hd : Below w'.heap.size w' (w'.drewN q) := ⟨(Below.refl w'.heap.size w').os, (Below.refl w'.heap.size w').tape, (Below.refl w'.heap.size w').output, Nat.le_refl _, fun _ _ => rfl⟩
  exact ⟨A, c, h1, h2.on hd, h3.trans (hd.mono h3.size)⟩
theorem info_fd : (Tryz.prog.info? 126).map (·.size) = some 14 := by kernel_rfl
theorem run_build_fd (pN pB pl pk len fN fT fk fl fh : Int) (A A1 A2 : Option Addr) (n c m1 c1 m2 c2 : Nat) (w : World) : (Instr.build 126 #[(0, .agg #[.int .i64 pN, .int .i64 pB, .int .i64 pl, .int .i64 pk, .int .i64 len, .slice A n c, .int .i64 fN, .int .i64 fT, .int .i64 fk, .int .i64 fl, .slice A1 m1 c1, .int .i64 fh, .slice A2 m2 c2])]).run Tryz.prog w = .ok (.agg #[.int .i64 pN, .int .i64 pB, .int .i64 pl, .int .i64 pk, .int .i64 len, .slice A n c, .int .i64 fN, .int .i64 fT, .int .i64 fk, .int .i64 fl, .slice A1 m1 c1, .int .i64 fh, .slice A2 m2 c2, .int .i64 0]) w := by kernel_rfl
set_option maxHeartbeats 8000000 in
theorem list_e (pN pB pl pk len fN fT fk fl fh : Int) (A A1 A2 : Option Addr) (n c m1 c1 m2 c2 : Nat) (x er r : Int) (b : Bool) (hr : rgE er [b] = r) (h0 : r ≠ 0) (w : World)
    (HC : Hid (∀ V, Below w.heap.size w V → Calls Tryz.prog 44 #[.agg #[.int .i64 pN, .int .i64 pB, .int .i64 pl, .int .i64 pk, .int .i64 len, .slice A n c, .int .i64 fN, .int .i64 fT, .int .i64 fk, .int .i64 fl, .slice A1 m1 c1, .int .i64 fh, .slice A2 m2 c2]] V fun e w' => e = .returned (.int .i64 er) ∧ Below V.heap.size V w'))
    (HNd : Hid (∀ V : World, Calls Tryz.prog 81 #[.agg #[.int .i64 pN, .int .i64 pB, .int .i64 pl, .int .i64 pk, .int .i64 len, .slice A n c, .int .i64 fN, .int .i64 fT, .int .i64 fk, .int .i64 fl, .slice A1 m1 c1, .int .i64 fh, .slice A2 m2 c2], .int .i64 x] V fun e w' => e = .returned (.bool b) ∧ Below V.heap.size V w')) :
    Calls Tryz.prog 37 #[.agg #[.int .i64 pN, .int .i64 pB, .int .i64 pl, .int .i64 pk, .int .i64 len, .slice A n c, .int .i64 fN, .int .i64 fT, .int .i64 fk, .int .i64 fl, .slice A1 m1 c1, .int .i64 fh, .slice A2 m2 c2], .int .i64 x] w (LiP w 0 [] 0 r) := by
  have t0 : (r != 0) = true := by simpa using h0
  clear h0
  have HRr := Lib.hid hr
  clear hr
  go_enter Tryz.func37, Tryz.ntmps37
  go_wp2_with fail
  obtain ⟨V0, hV0⟩ : ∃ V0, V0 = w.alloc (.cells #[.int .i64 pN, .int .i64 pB, .int .i64 pl, .int .i64 pk, .int .i64 len, .slice A n c, .int .i64 fN, .int .i64 fT, .int .i64 fk, .int .i64 fl, .slice A1 m1 c1, .int .i64 fh, .slice A2 m2 c2] 67) := ⟨_, rfl⟩
  have H0 : Hid (Below w.heap.size w V0 ∧ V0.heap[w.heap.size]? = some (.cells #[.int .i64 pN, .int .i64 pB, .int .i64 pl, .int .i64 pk, .int .i64 len, .slice A n c, .int .i64 fN, .int .i64 fT, .int .i64 fk, .int .i64 fl, .slice A1 m1 c1, .int .i64 fh, .slice A2 m2 c2] 67 (0, 0)) ∧ w.heap.size < V0.heap.size) := by rw [hV0]; exact ⟨one_below _ _, World.alloc_heap_new _ _, by rw [World.size_alloc]; omega⟩
  rw [← hV0]
  clear hV0
  have HK : Hid (∀ V : World, Below V0.heap.size V0 V → V.cell? ⟨w.heap.size, 0, none⟩ = some (.int .i64 pN) ∧ V.cell? ⟨w.heap.size, 1, none⟩ = some (.int .i64 pB) ∧ V.cell? ⟨w.heap.size, 2, none⟩ = some (.int .i64 pl) ∧ V.cell? ⟨w.heap.size, 3, none⟩ = some (.int .i64 pk) ∧ V.cell? ⟨w.heap.size, 4, none⟩ = some (.int .i64 len) ∧ V.cell? ⟨w.heap.size, 5, none⟩ = some (.slice A n c) ∧ V.cell? ⟨w.heap.size, 6, none⟩ = some (.int .i64 fN) ∧ V.cell? ⟨w.heap.size, 7, none⟩ = some (.int .i64 fT) ∧ V.cell? ⟨w.heap.size, 8, none⟩ = some (.int .i64 fk) ∧ V.cell? ⟨w.heap.size, 9, none⟩ = some (.int .i64 fl) ∧ V.cell? ⟨w.heap.size, 10, none⟩ = some (.slice A1 m1 c1) ∧ V.cell? ⟨w.heap.size, 11, none⟩ = some (.int .i64 fh) ∧ V.cell? ⟨w.heap.size, 12, none⟩ = some (.slice A2 m2 c2)) := fun V h => cells13 ((h.block _ H0.out.2.2).trans H0.out.2.1)
  have HCk : Hid (∀ V, Below V0.heap.size V0 V → Calls Tryz.prog 44 #[.agg #[.int .i64 pN, .int .i64 pB, .int .i64 pl, .int .i64 pk, .int .i64 len, .slice A n c, .int .i64 fN, .int .i64 fT, .int .i64 fk, .int .i64 fl, .slice A1 m1 c1, .int .i64 fh, .slice A2 m2 c2]] V fun e w' => e = .returned (.int .i64 er) ∧ Below V.heap.size V w') := fun V hV => HC.out V (H0.out.1.trans (hV.mono H0.out.1.size))
  have HD : Hid (Below V0.heap.size V0 V0.drew) := (Below.refl _ _).drew
  go_region_held3 (fun V => V.cell? ⟨w.heap.size, 0, none⟩ = some (.int .i64 pN) ∧ V.cell? ⟨w.heap.size, 1, none⟩ = some (.int .i64 pB) ∧ V.cell? ⟨w.heap.size, 2, none⟩ = some (.int .i64 pl) ∧ V.cell? ⟨w.heap.size, 3, none⟩ = some (.int .i64 pk) ∧ V.cell? ⟨w.heap.size, 4, none⟩ = some (.int .i64 len) ∧ V.cell? ⟨w.heap.size, 5, none⟩ = some (.slice A n c) ∧ V.cell? ⟨w.heap.size, 6, none⟩ = some (.int .i64 fN) ∧ V.cell? ⟨w.heap.size, 7, none⟩ = some (.int .i64 fT) ∧ V.cell? ⟨w.heap.size, 8, none⟩ = some (.int .i64 fk) ∧ V.cell? ⟨w.heap.size, 9, none⟩ = some (.int .i64 fl) ∧ V.cell? ⟨w.heap.size, 10, none⟩ = some (.slice A1 m1 c1) ∧ V.cell? ⟨w.heap.size, 11, none⟩ = some (.int .i64 fh) ∧ V.cell? ⟨w.heap.size, 12, none⟩ = some (.slice A2 m2 c2))
    ((refine HK.out _ ?_; first | exact hk9.out | exact hcz.out | exact hc.out | exact hiz.out | exact hi.out | exact HD.out))
    ((first
      | (go_at_call 48; first
          | (have hs := HSl.out; refine (range_any er [b] 1 rfl (by decide) _ 1 _ hs).mono ?_; rintro e w9 ⟨rfl, rfl⟩; have hk9 := hc; have hr9 := HRr.out; rw [hr9]; clear hr9)
          | (refine (range_on er [b] 1 rfl (by decide) r HRr.out _).mono ?_; rintro e w9 ⟨rfl, q9⟩; have hk9 : Hid (Below V0.heap.size V0 w9) := (by first | exact hc.out.trans (q9.mono hc.out.size) | exact hi.out.trans (q9.mono hi.out.size)); clear q9))
      | (go_at_call 44; refine (HCk.out _ (by first | exact hiz.out | exact hi.out | exact HD.out)).mono ?_; rintro e wc ⟨rfl, qc⟩; have hc : Hid (Below V0.heap.size V0 wc) := (by first | exact hiz.out.trans (qc.mono hiz.out.size) | exact hi.out.trans (qc.mono hi.out.size) | exact HD.out.trans (qc.mono HD.out.size)); (first | (have HSl : Hid (RdV wc wc.heap.size (some ⟨wi.heap.size, 0, none⟩) (cc [b])) := (rdv_cc wi [b]).on qc) | skip); have hcz : Hid (Below V0.heap.size V0 (wc.alloc (.cells #[.bool b] 4))) := hc.out.trans ((one_below wc _).mono hc.out.size); clear qc)
      | (go_at_call 81; refine (HNd.out _).mono ?_; rintro e wi ⟨rfl, qi⟩; have hi : Hid (Below V0.heap.size V0 wi) := (by first | exact hc.out.trans (qi.mono hc.out.size) | exact HD.out.trans (qi.mono HD.out.size)); have hiz : Hid (Below V0.heap.size V0 (wi.alloc (.cells #[.bool b] 4))) := hi.out.trans ((one_below wi _).mono hi.out.size); clear qi)))
  all_goals (
    have HFin : Hid (Below w.heap.size w w9) := H0.out.1.trans (hk9.out.mono H0.out.1.size)
    go_wp2
    go_ret3
    exact ⟨none, 0, rfl, .inl rfl, HFin.out⟩)
set_option maxHeartbeats 8000000 in
theorem list_l (pN pB pl pk len fN fT fk fl fh : Int) (A A1 A2 : Option Addr) (n c m1 c1 m2 c2 : Nat) (x er : Int) (b : Bool) (r : Int) (hr : rgE er [b] = r) (h0 : r = 0) (nl : Nat) (l : List Nat) (m : Int) (w : World)
    (HC : Hid (∀ V, Below w.heap.size w V → Calls Tryz.prog 44 #[.agg #[.int .i64 pN, .int .i64 pB, .int .i64 pl, .int .i64 pk, .int .i64 len, .slice A n c, .int .i64 fN, .int .i64 fT, .int .i64 fk, .int .i64 fl, .slice A1 m1 c1, .int .i64 fh, .slice A2 m2 c2]] V fun e w' => e = .returned (.int .i64 er) ∧ Below V.heap.size V w'))
    (HNd : Hid (∀ V : World, Calls Tryz.prog 81 #[.agg #[.int .i64 pN, .int .i64 pB, .int .i64 pl, .int .i64 pk, .int .i64 len, .slice A n c, .int .i64 fN, .int .i64 fT, .int .i64 fk, .int .i64 fl, .slice A1 m1 c1, .int .i64 fh, .slice A2 m2 c2], .int .i64 x] V fun e w' => e = .returned (.bool b) ∧ Below V.heap.size V w'))
    (HFi : Hid (∀ X w0, Below w.heap.size w w0 → w.heap.size ≤ X → X < w0.heap.size → Fnd X pN pB pl pk len fN fT fk fl fh A A1 A2 n c m1 c1 m2 c2 0 w0 → Calls Tryz.prog 82 #[.pointer (some ⟨X, 0, none⟩), .int .i64 x] w0 (LsX X (Fnd X pN pB pl pk len fN fT fk fl fh A A1 A2 n c m1 c1 m2 c2 m) w0 nl l))) :
    Calls Tryz.prog 37 #[.agg #[.int .i64 pN, .int .i64 pB, .int .i64 pl, .int .i64 pk, .int .i64 len, .slice A n c, .int .i64 fN, .int .i64 fT, .int .i64 fk, .int .i64 fl, .slice A1 m1 c1, .int .i64 fh, .slice A2 m2 c2], .int .i64 x] w (LiP w nl l m 0) := by
  have t0 : (r != 0) = false := by simp [h0]
  have HR0 := Lib.hid h0
  clear h0
  have HRr := Lib.hid hr
  clear hr
  go_enter Tryz.func37, Tryz.ntmps37
  go_wp2_with fail
  obtain ⟨V0, hV0⟩ : ∃ V0, V0 = w.alloc (.cells #[.int .i64 pN, .int .i64 pB, .int .i64 pl, .int .i64 pk, .int .i64 len, .slice A n c, .int .i64 fN, .int .i64 fT, .int .i64 fk, .int .i64 fl, .slice A1 m1 c1, .int .i64 fh, .slice A2 m2 c2] 67) := ⟨_, rfl⟩
  have H0 : Hid (Below w.heap.size w V0 ∧ V0.heap[w.heap.size]? = some (.cells #[.int .i64 pN, .int .i64 pB, .int .i64 pl, .int .i64 pk, .int .i64 len, .slice A n c, .int .i64 fN, .int .i64 fT, .int .i64 fk, .int .i64 fl, .slice A1 m1 c1, .int .i64 fh, .slice A2 m2 c2] 67 (0, 0)) ∧ w.heap.size < V0.heap.size) := by rw [hV0]; exact ⟨one_below _ _, World.alloc_heap_new _ _, by rw [World.size_alloc]; omega⟩
  rw [← hV0]
  clear hV0
  have HK : Hid (∀ V : World, Below V0.heap.size V0 V → V.cell? ⟨w.heap.size, 0, none⟩ = some (.int .i64 pN) ∧ V.cell? ⟨w.heap.size, 1, none⟩ = some (.int .i64 pB) ∧ V.cell? ⟨w.heap.size, 2, none⟩ = some (.int .i64 pl) ∧ V.cell? ⟨w.heap.size, 3, none⟩ = some (.int .i64 pk) ∧ V.cell? ⟨w.heap.size, 4, none⟩ = some (.int .i64 len) ∧ V.cell? ⟨w.heap.size, 5, none⟩ = some (.slice A n c) ∧ V.cell? ⟨w.heap.size, 6, none⟩ = some (.int .i64 fN) ∧ V.cell? ⟨w.heap.size, 7, none⟩ = some (.int .i64 fT) ∧ V.cell? ⟨w.heap.size, 8, none⟩ = some (.int .i64 fk) ∧ V.cell? ⟨w.heap.size, 9, none⟩ = some (.int .i64 fl) ∧ V.cell? ⟨w.heap.size, 10, none⟩ = some (.slice A1 m1 c1) ∧ V.cell? ⟨w.heap.size, 11, none⟩ = some (.int .i64 fh) ∧ V.cell? ⟨w.heap.size, 12, none⟩ = some (.slice A2 m2 c2)) := fun V h => cells13 ((h.block _ H0.out.2.2).trans H0.out.2.1)
  have HCk : Hid (∀ V, Below V0.heap.size V0 V → Calls Tryz.prog 44 #[.agg #[.int .i64 pN, .int .i64 pB, .int .i64 pl, .int .i64 pk, .int .i64 len, .slice A n c, .int .i64 fN, .int .i64 fT, .int .i64 fk, .int .i64 fl, .slice A1 m1 c1, .int .i64 fh, .slice A2 m2 c2]] V fun e w' => e = .returned (.int .i64 er) ∧ Below V.heap.size V w') := fun V hV => HC.out V (H0.out.1.trans (hV.mono H0.out.1.size))
  have HD : Hid (Below V0.heap.size V0 V0.drew) := (Below.refl _ _).drew
  go_region_held3 (fun V => V.cell? ⟨w.heap.size, 0, none⟩ = some (.int .i64 pN) ∧ V.cell? ⟨w.heap.size, 1, none⟩ = some (.int .i64 pB) ∧ V.cell? ⟨w.heap.size, 2, none⟩ = some (.int .i64 pl) ∧ V.cell? ⟨w.heap.size, 3, none⟩ = some (.int .i64 pk) ∧ V.cell? ⟨w.heap.size, 4, none⟩ = some (.int .i64 len) ∧ V.cell? ⟨w.heap.size, 5, none⟩ = some (.slice A n c) ∧ V.cell? ⟨w.heap.size, 6, none⟩ = some (.int .i64 fN) ∧ V.cell? ⟨w.heap.size, 7, none⟩ = some (.int .i64 fT) ∧ V.cell? ⟨w.heap.size, 8, none⟩ = some (.int .i64 fk) ∧ V.cell? ⟨w.heap.size, 9, none⟩ = some (.int .i64 fl) ∧ V.cell? ⟨w.heap.size, 10, none⟩ = some (.slice A1 m1 c1) ∧ V.cell? ⟨w.heap.size, 11, none⟩ = some (.int .i64 fh) ∧ V.cell? ⟨w.heap.size, 12, none⟩ = some (.slice A2 m2 c2))
    ((refine HK.out _ ?_; first | exact hk9.out | exact hcz.out | exact hc.out | exact hiz.out | exact hi.out | exact HD.out))
    ((first
      | (go_at_call 48; first
          | (have hs := HSl.out; refine (range_any er [b] 1 rfl (by decide) _ 1 _ hs).mono ?_; rintro e w9 ⟨rfl, rfl⟩; have hk9 := hc; have hr9 := HRr.out; rw [hr9]; clear hr9)
          | (refine (range_on er [b] 1 rfl (by decide) r HRr.out _).mono ?_; rintro e w9 ⟨rfl, q9⟩; have hk9 : Hid (Below V0.heap.size V0 w9) := (by first | exact hc.out.trans (q9.mono hc.out.size) | exact hi.out.trans (q9.mono hi.out.size)); clear q9))
      | (go_at_call 44; refine (HCk.out _ (by first | exact hiz.out | exact hi.out | exact HD.out)).mono ?_; rintro e wc ⟨rfl, qc⟩; have hc : Hid (Below V0.heap.size V0 wc) := (by first | exact hiz.out.trans (qc.mono hiz.out.size) | exact hi.out.trans (qc.mono hi.out.size) | exact HD.out.trans (qc.mono HD.out.size)); (first | (have HSl : Hid (RdV wc wc.heap.size (some ⟨wi.heap.size, 0, none⟩) (cc [b])) := (rdv_cc wi [b]).on qc) | skip); have hcz : Hid (Below V0.heap.size V0 (wc.alloc (.cells #[.bool b] 4))) := hc.out.trans ((one_below wc _).mono hc.out.size); clear qc)
      | (go_at_call 81; refine (HNd.out _).mono ?_; rintro e wi ⟨rfl, qi⟩; have hi : Hid (Below V0.heap.size V0 wi) := (by first | exact hc.out.trans (qi.mono hc.out.size) | exact HD.out.trans (qi.mono HD.out.size)); have hiz : Hid (Below V0.heap.size V0 (wi.alloc (.cells #[.bool b] 4))) := hi.out.trans ((one_below wi _).mono hi.out.size); clear qi)))
  all_goals (
    have HB9 : Hid (Below w.heap.size w w9) := H0.out.1.trans (hk9.out.mono H0.out.1.size)
    have h13 := (hk9.out.block _ H0.out.2.2).trans H0.out.2.1
    have hrg := Lib.hid (range_all (cs := [.int .i64 pN, .int .i64 pB, .int .i64 pl, .int .i64 pk, .int .i64 len, .slice A n c, .int .i64 fN, .int .i64 fT, .int .i64 fk, .int .i64 fl, .slice A1 m1 c1, .int .i64 fh, .slice A2 m2 c2]) h13)
    obtain ⟨X9, hX9, hth9, hx9, hbX9, hzX9⟩ := st_new 126 [.int .i64 0, .int .i64 0, .int .i64 0, .int .i64 0, .int .i64 0, .slice none 0 0, .int .i64 0, .int .i64 0, .int .i64 0, .int .i64 0, .slice none 0 0, .int .i64 0, .slice none 0 0, .int .i64 0] [.int .i64 pN, .int .i64 pB, .int .i64 pl, .int .i64 pk, .int .i64 len, .slice A n c, .int .i64 fN, .int .i64 fT, .int .i64 fk, .int .i64 fl, .slice A1 m1 c1, .int .i64 fh, .slice A2 m2 c2, .int .i64 0] 14 rfl rfl w9
    have HX9 := Lib.hid hX9
    have HT9 := Lib.hid hth9
    have HF9 : Hid (Fnd w9.heap.size pN pB pl pk len fN fT fk fl fh A A1 A2 n c m1 c1 m2 c2 0 X9 ∧ w9.heap.size < X9.heap.size ∧ Below w.heap.size w X9) := ⟨hx9, hzX9, HB9.out.trans (hbX9.mono HB9.out.size)⟩
    clear h13 hX9 hth9 hx9 hbX9 hzX9 HK HCk HD hk9
    go_wp2_with (first | (refine wpList_load_mid rfl 67 _ rfl w.heap.size 0 rfl [.int .i64 pN, .int .i64 pB, .int .i64 pl, .int .i64 pk, .int .i64 len, .slice A n c, .int .i64 fN, .int .i64 fT, .int .i64 fk, .int .i64 fl, .slice A1 m1 c1, .int .i64 fh, .slice A2 m2 c2] _ hrg.out Tryz.underlying67 rfl info_sh ?_) | (refine wpList_build rfl _ _ rfl #[(0, .agg #[.int .i64 pN, .int .i64 pB, .int .i64 pl, .int .i64 pk, .int .i64 len, .slice A n c, .int .i64 fN, .int .i64 fT, .int .i64 fk, .int .i64 fl, .slice A1 m1 c1, .int .i64 fh, .slice A2 m2 c2])] (by kernel_rfl) _ (run_build_fd _ _ _ _ _ _ _ _ _ _ _ _ _ _ _ _ _ _ _ _) ?_) | (refine wpList_store_mid rfl 126 _ _ rfl w9.heap.size 0 #[.int .i64 pN, .int .i64 pB, .int .i64 pl, .int .i64 pk, .int .i64 len, .slice A n c, .int .i64 fN, .int .i64 fT, .int .i64 fk, .int .i64 fl, .slice A1 m1 c1, .int .i64 fh, .slice A2 m2 c2, .int .i64 0] rfl rfl HT9.out info_fd (by simp [Value.oneCell']) ?_; rw [HX9.out]))
    refine (HFi.out w9.heap.size X9 HF9.out.2.2 HB9.out.size HF9.out.2.1 HF9.out.1).mono ?_
    rintro e w5 ⟨A5, c5, rfl, g1, g2, g3, q5, hp⟩
    have y13 : w5.cell? ⟨w9.heap.size, 13, none⟩ = some (.int .i64 m) := (cell_at hp 13).trans rfl
    have HFin : Hid (LiP w nl l m 0 (.returned (.tuple #[.slice A5 nl c5, .int .i64 m, .int .i64 0])) w5) := ⟨A5, c5, rfl, g3, but_below HF9.out.2.2 HB9.out.size (Nat.le_trans HB9.out.size (Nat.le_of_lt HF9.out.2.1)) q5⟩
    clear g1 g2 g3 q5 hp
    go_wp2
    go_quiet (fail)
    go_wp2
    exact bodyPost_ret (v := .tuple #[.slice A5 nl c5, .int .i64 m, .int .i64 0]) (by simp [results, Tryz.results37, go_sem]) rfl (by first | exact HFin.out | exact HFin.out.drewN _))
end
section
set_option maxRecDepth 100000
set_option linter.unusedVariables false
open Go.RowKit Go.Shelf
def IdxS (p : Int → Bool) (xs : List Int) (r : Int) : Prop := (r = -1 ∧ ∀ x ∈ xs, p x = false) ∨ ∃ i : Nat, i < xs.length ∧ r = (i : Int) ∧ p (xs[i]?.getD 0) = true ∧ ∀ j, j < i → p (xs[j]?.getD 0) = false
theorem IdxS.any {p : Int → Bool} {xs : List Int} {r : Int} (h : IdxS p xs r) : decide (0 ≤ r) = xs.any p := by
  rcases h with ⟨rfl, h⟩ | ⟨i, h1, rfl, h2, _⟩
  · have : xs.any p = false := by rw [List.any_eq_false]; intro x hx; rw [h x hx]; simp
    rw [this]; rfl
  · have : xs.any p = true := by
      rw [List.any_eq_true]
      refine ⟨_, List.getElem_mem h1, ?_⟩
      rwa [List.getElem?_eq_getElem h1] at h2
    rw [this]; simp
set_option maxHeartbeats 1000000 in
theorem idx_any (v : Int) (xs : List Int) (n : Nat) (hn : xs.length = n) (hn2 : n ≤ 140737488355328) (A : Option Addr) (c : Nat) (w : World) (h : RdV w w.heap.size A (zc xs)) :
    Calls Tryz.prog 124 #[.slice A n c, .int .i64 v] w fun e w' => ∃ r, e = .returned (.int .i64 r) ∧ IdxS (fun y => v == y) xs r ∧ w' = w := by
  have HX := Lib.hid h; have HN := Lib.hid hn
  clear h hn
  go_enter Tryz.func124, Tryz.ntmps124
  go_wp2
  go_loopw [8] (fun u wr => ∃ i : Nat, i ≤ n ∧ u = .int .i64 (i : Int) ∧ (∀ j, j < i → (v == (xs[j]?.getD 0)) = false) ∧ wr = w) (fun u _ => n - (intOf u).toNat)
  case atStart => exact ⟨0, Nat.zero_le _, rfl, fun j hj => absurd hj (Nat.not_lt_zero _), rfl⟩
  case round =>
    obtain ⟨i, hi, rfl, hno, hw⟩ := hrel
    subst hw
    by_cases hlt : i < n
    · have hin : i < xs.length := by rw [HN.out]; exact hlt
      obtain ⟨b, off, rfl, hb, k0⟩ := HX.out.at_ (zc_get xs i hin)
      have hfin : ∀ q, (v == (xs[i]?.getD 0)) = q → (q = true → IdxS (fun y => v == y) xs (i : Int)) ∧ (q = false → ∀ j, j < i + 1 → (v == (xs[j]?.getD 0)) = false) := fun q hq => ⟨fun e => .inr ⟨i, hin, rfl, hq.trans e, hno⟩, fun e j hj => by
        rcases Nat.lt_or_ge j i with h | h
        · exact hno j h
        · obtain rfl : j = i := by omega
          exact hq.trans e⟩
      have t1 : (0 : Int) ≤ (i : Int) := by omega
      have t2 : (i : Int) < (n : Int) := by omega
      obtain ⟨q, hq⟩ : ∃ q, (v == (xs[i]?.getD 0)) = q := ⟨_, rfl⟩
      have HF := Lib.hid (hfin q hq)
      clear hno hfin
      generalize xs[i]?.getD 0 = x at *
      cases q with
      | true =>
        go_wp2
        go_ret
        exact ⟨_, rfl, HF.out.1 (by simp), rfl⟩
      | false =>
        go_wp2
        go_roundw
        case rel => exact ⟨i + 1, by omega, by go_num, HF.out.2 (by simp), by simp⟩
        case measure => simp [intOf]; omega
    · obtain rfl : i = n := by omega
      have HF : Hid (IdxS (fun y => v == y) xs (-1)) := .inl ⟨rfl, fun x hx => by
        obtain ⟨j, hj, e⟩ := List.getElem_of_mem hx
        have := hno j (by rw [← HN.out]; exact hj)
        rwa [List.getElem?_eq_getElem hj, e] at this⟩
      clear hno
      go_wp2
      go_ret
      exact ⟨_, rfl, HF.out, rfl⟩
theorem contains_i (v : Int) (xs : List Int) (n : Nat) (hn : xs.length = n) (hn2 : n ≤ 140737488355328) (A : Option Addr) (c : Nat) (w : World) (h : RdV w w.heap.size A (zc xs)) :
    Calls Tryz.prog 83 #[.slice A n c, .int .i64 v] w fun e w' => e = .returned (.bool (xs.any fun y => v == y)) ∧ Below w.heap.size w w' := by
  have HI := Lib.hid (idx_any v xs n hn hn2 A c w h)
  obtain ⟨q, hq⟩ : ∃ q, (xs.any fun y => v == y) = q := ⟨_, rfl⟩
  rw [hq]
  have HQ := Lib.hid hq
  clear h hn hq
  go_enter Tryz.func83, Tryz.ntmps83
  go_wp2_with fail
  refine HI.out.mono ?_
  rintro e w1 ⟨r, rfl, hr, rfl⟩
  have h2 := hr.any
  rw [HQ.out] at h2
  clear hr
  go_wp2
  go_ret
  exact ⟨by first | rfl | (rw [← h2]; rfl) | (simp [h2]), Below.refl _ _⟩
def LeP (w : World) (q : Bool) (er : Int) (e : Ending) (w' : World) : Prop := e = .returned (.tuple #[.bool q, .int .i64 er]) ∧ Below w.heap.size w w'
set_option maxHeartbeats 8000000 in
theorem leads_e (pN pB pl pk len fN fT fk fl fh : Int) (A A1 A2 : Option Addr) (n c m1 c1 m2 c2 : Nat) (x y er r : Int) (b b2 : Bool) (hr : rgE er [b, b2] = r) (h0 : r ≠ 0) (w : World)
    (HC : Hid (∀ V, Below w.heap.size w V → Calls Tryz.prog 44 #[.agg #[.int .i64 pN, .int .i64 pB, .int .i64 pl, .int .i64 pk, .int .i64 len, .slice A n c, .int .i64 fN, .int .i64 fT, .int .i64 fk, .int .i64 fl, .slice A1 m1 c1, .int .i64 fh, .slice A2 m2 c2]] V fun e w' => e = .returned (.int .i64 er) ∧ Below V.heap.size V w'))
    (HNd : Hid (∀ V : World, Calls Tryz.prog 81 #[.agg #[.int .i64 pN, .int .i64 pB, .int .i64 pl, .int .i64 pk, .int .i64 len, .slice A n c, .int .i64 fN, .int .i64 fT, .int .i64 fk, .int .i64 fl, .slice A1 m1 c1, .int .i64 fh, .slice A2 m2 c2], .int .i64 x] V fun e w' => e = .returned (.bool b) ∧ Below V.heap.size V w'))
    (HNe : Hid (∀ V : World, Calls Tryz.prog 81 #[.agg #[.int .i64 pN, .int .i64 pB, .int .i64 pl, .int .i64 pk, .int .i64 len, .slice A n c, .int .i64 fN, .int .i64 fT, .int .i64 fk, .int .i64 fl, .slice A1 m1 c1, .int .i64 fh, .slice A2 m2 c2], .int .i64 y] V fun e w' => e = .returned (.bool b2) ∧ Below V.heap.size V w')) :
    Calls Tryz.prog 38 #[.agg #[.int .i64 pN, .int .i64 pB, .int .i64 pl, .int .i64 pk, .int .i64 len, .slice A n c, .int .i64 fN, .int .i64 fT, .int .i64 fk, .int .i64 fl, .slice A1 m1 c1, .int .i64 fh, .slice A2 m2 c2], .int .i64 x, .int .i64 y] w (LeP w false r) := by
  have t0 : (r != 0) = true := by simpa using h0
  clear h0
  have HRr := Lib.hid hr
  clear hr
  go_enter Tryz.func38, Tryz.ntmps38
  go_wp2_with fail
  obtain ⟨V0, hV0⟩ : ∃ V0, V0 = w.alloc (.cells #[.int .i64 pN, .int .i64 pB, .int .i64 pl, .int .i64 pk, .int .i64 len, .slice A n c, .int .i64 fN, .int .i64 fT, .int .i64 fk, .int .i64 fl, .slice A1 m1 c1, .int .i64 fh, .slice A2 m2 c2] 67) := ⟨_, rfl⟩
  have H0 : Hid (Below w.heap.size w V0 ∧ V0.heap[w.heap.size]? = some (.cells #[.int .i64 pN, .int .i64 pB, .int .i64 pl, .int .i64 pk, .int .i64 len, .slice A n c, .int .i64 fN, .int .i64 fT, .int .i64 fk, .int .i64 fl, .slice A1 m1 c1, .int .i64 fh, .slice A2 m2 c2] 67 (0, 0)) ∧ w.heap.size < V0.heap.size) := by rw [hV0]; exact ⟨one_below _ _, World.alloc_heap_new _ _, by rw [World.size_alloc]; omega⟩
  rw [← hV0]
  clear hV0
  have HK : Hid (∀ V : World, Below V0.heap.size V0 V → V.cell? ⟨w.heap.size, 0, none⟩ = some (.int .i64 pN) ∧ V.cell? ⟨w.heap.size, 1, none⟩ = some (.int .i64 pB) ∧ V.cell? ⟨w.heap.size, 2, none⟩ = some (.int .i64 pl) ∧ V.cell? ⟨w.heap.size, 3, none⟩ = some (.int .i64 pk) ∧ V.cell? ⟨w.heap.size, 4, none⟩ = some (.int .i64 len) ∧ V.cell? ⟨w.heap.size, 5, none⟩ = some (.slice A n c) ∧ V.cell? ⟨w.heap.size, 6, none⟩ = some (.int .i64 fN) ∧ V.cell? ⟨w.heap.size, 7, none⟩ = some (.int .i64 fT) ∧ V.cell? ⟨w.heap.size, 8, none⟩ = some (.int .i64 fk) ∧ V.cell? ⟨w.heap.size, 9, none⟩ = some (.int .i64 fl) ∧ V.cell? ⟨w.heap.size, 10, none⟩ = some (.slice A1 m1 c1) ∧ V.cell? ⟨w.heap.size, 11, none⟩ = some (.int .i64 fh) ∧ V.cell? ⟨w.heap.size, 12, none⟩ = some (.slice A2 m2 c2)) := fun V h => cells13 ((h.block _ H0.out.2.2).trans H0.out.2.1)
  have HCk : Hid (∀ V, Below V0.heap.size V0 V → Calls Tryz.prog 44 #[.agg #[.int .i64 pN, .int .i64 pB, .int .i64 pl, .int .i64 pk, .int .i64 len, .slice A n c, .int .i64 fN, .int .i64 fT, .int .i64 fk, .int .i64 fl, .slice A1 m1 c1, .int .i64 fh, .slice A2 m2 c2]] V fun e w' => e = .returned (.int .i64 er) ∧ Below V.heap.size V w') := fun V hV => HC.out V (H0.out.1.trans (hV.mono H0.out.1.size))
  have HD : Hid (Below V0.heap.size V0 V0.drew) := (Below.refl _ _).drew
  go_region_held3 (fun V => V.cell? ⟨w.heap.size, 0, none⟩ = some (.int .i64 pN) ∧ V.cell? ⟨w.heap.size, 1, none⟩ = some (.int .i64 pB) ∧ V.cell? ⟨w.heap.size, 2, none⟩ = some (.int .i64 pl) ∧ V.cell? ⟨w.heap.size, 3, none⟩ = some (.int .i64 pk) ∧ V.cell? ⟨w.heap.size, 4, none⟩ = some (.int .i64 len) ∧ V.cell? ⟨w.heap.size, 5, none⟩ = some (.slice A n c) ∧ V.cell? ⟨w.heap.size, 6, none⟩ = some (.int .i64 fN) ∧ V.cell? ⟨w.heap.size, 7, none⟩ = some (.int .i64 fT) ∧ V.cell? ⟨w.heap.size, 8, none⟩ = some (.int .i64 fk) ∧ V.cell? ⟨w.heap.size, 9, none⟩ = some (.int .i64 fl) ∧ V.cell? ⟨w.heap.size, 10, none⟩ = some (.slice A1 m1 c1) ∧ V.cell? ⟨w.heap.size, 11, none⟩ = some (.int .i64 fh) ∧ V.cell? ⟨w.heap.size, 12, none⟩ = some (.slice A2 m2 c2))
    ((refine HK.out _ ?_; first | exact hk9.out | exact hj.out | exact hcz.out | exact hc.out | exact hiz.out | exact hi.out | exact HD.out))
    ((first
      | (go_at_call 48; first
          | (have hs := HSl.out; refine (range_any er [b, b2] 2 rfl (by decide) _ 2 _ hs).mono ?_; rintro e w9 ⟨rfl, rfl⟩; have hk9 := hc; have hr9 := HRr.out; rw [hr9]; clear hr9)
          | (refine (range_on er [b, b2] 2 rfl (by decide) r HRr.out _).mono ?_; rintro e w9 ⟨rfl, q9⟩; have hk9 : Hid (Below V0.heap.size V0 w9) := (by first | exact hc.out.trans (q9.mono hc.out.size) | exact hi.out.trans (q9.mono hi.out.size)); clear q9))
      | (go_at_call 44; refine (HCk.out _ (by first | exact hiz.out | exact hi.out | exact hj.out | exact HD.out)).mono ?_; rintro e wc ⟨rfl, qc⟩; have hc : Hid (Below V0.heap.size V0 wc) := (by first | exact hiz.out.trans (qc.mono hiz.out.size) | exact hi.out.trans (qc.mono hi.out.size) | exact HD.out.trans (qc.mono HD.out.size)); (first | (have HSl : Hid (RdV wc wc.heap.size (some ⟨wi.heap.size, 0, none⟩) (cc [b, b2])) := (rdv_cc wi [b, b2]).on qc) | skip); have hcz : Hid (Below V0.heap.size V0 (wc.alloc (.cells #[.bool b, .bool b2] 4))) := hc.out.trans ((one_below wc _).mono hc.out.size); clear qc)
      | (go_at_call 81; first | (have hx := hj.out; refine (HNe.out _).mono ?_; rintro e wi ⟨rfl, qi⟩; have hi : Hid (Below V0.heap.size V0 wi) := hx.trans (qi.mono hx.size); have hiz : Hid (Below V0.heap.size V0 (wi.alloc (.cells #[.bool b, .bool b2] 4))) := hi.out.trans ((one_below wi _).mono hi.out.size); clear qi hx) | (refine (HNd.out _).mono ?_; rintro e wj ⟨rfl, qj⟩; have hj : Hid (Below V0.heap.size V0 wj) := (by first | exact hc.out.trans (qj.mono hc.out.size) | exact HD.out.trans (qj.mono HD.out.size)); clear qj))))
  all_goals (
    have HFin : Hid (Below w.heap.size w w9) := H0.out.1.trans (hk9.out.mono H0.out.1.size)
    go_wp2
    go_ret2
    exact ⟨rfl, HFin.out⟩)
set_option maxHeartbeats 8000000 in
theorem leads_l (pN pB pl pk len fN fT fk fl fh : Int) (A A1 A2 : Option Addr) (n c m1 c1 m2 c2 : Nat) (x y er : Int) (b b2 : Bool) (r : Int) (hr : rgE er [b, b2] = r) (h0 : r = 0) (nl : Nat) (l : List Nat) (hl : l.length = nl) (hl2 : nl ≤ 100) (q : Bool) (hq : ((ns l).any fun z => y == z) = q) (m : Int) (w : World)
    (HC : Hid (∀ V, Below w.heap.size w V → Calls Tryz.prog 44 #[.agg #[.int .i64 pN, .int .i64 pB, .int .i64 pl, .int .i64 pk, .int .i64 len, .slice A n c, .int .i64 fN, .int .i64 fT, .int .i64 fk, .int .i64 fl, .slice A1 m1 c1, .int .i64 fh, .slice A2 m2 c2]] V fun e w' => e = .returned (.int .i64 er) ∧ Below V.heap.size V w'))
    (HNd : Hid (∀ V : World, Calls Tryz.prog 81 #[.agg #[.int .i64 pN, .int .i64 pB, .int .i64 pl, .int .i64 pk, .int .i64 len, .slice A n c, .int .i64 fN, .int .i64 fT, .int .i64 fk, .int .i64 fl, .slice A1 m1 c1, .int .i64 fh, .slice A2 m2 c2], .int .i64 x] V fun e w' => e = .returned (.bool b) ∧ Below V.heap.size V w'))
    (HNe : Hid (∀ V : World, Calls Tryz.prog 81 #[.agg #[.int .i64 pN, .int .i64 pB, .int .i64 pl, .int .i64 pk, .int .i64 len, .slice A n c, .int .i64 fN, .int .i64 fT, .int .i64 fk, .int .i64 fl, .slice A1 m1 c1, .int .i64 fh, .slice A2 m2 c2], .int .i64 y] V fun e w' => e = .returned (.bool b2) ∧ Below V.heap.size V w'))
    (HFi : Hid (∀ X w0, Below w.heap.size w w0 → w.heap.size ≤ X → X < w0.heap.size → Fnd X pN pB pl pk len fN fT fk fl fh A A1 A2 n c m1 c1 m2 c2 0 w0 → Calls Tryz.prog 82 #[.pointer (some ⟨X, 0, none⟩), .int .i64 x] w0 (LsX X (Fnd X pN pB pl pk len fN fT fk fl fh A A1 A2 n c m1 c1 m2 c2 m) w0 nl l))) :
    Calls Tryz.prog 38 #[.agg #[.int .i64 pN, .int .i64 pB, .int .i64 pl, .int .i64 pk, .int .i64 len, .slice A n c, .int .i64 fN, .int .i64 fT, .int .i64 fk, .int .i64 fl, .slice A1 m1 c1, .int .i64 fh, .slice A2 m2 c2], .int .i64 x, .int .i64 y] w (LeP w q 0) := by
  have t0 : (r != 0) = false := by simp [h0]
  have HCo : Hid (∀ A c V, RdV V V.heap.size A (zc (ns l)) → Calls Tryz.prog 83 #[.slice A nl c, .int .i64 y] V fun e w' => e = .returned (.bool q) ∧ Below V.heap.size V w') := fun A c V hV => by
    have := contains_i y (ns l) nl (by rw [ns_length]; exact hl) (by omega) A c V hV
    rwa [hq] at this
  have HR0 := Lib.hid h0
  clear h0 hl hl2 hq
  have HRr := Lib.hid hr
  clear hr
  go_enter Tryz.func38, Tryz.ntmps38
  go_wp2_with fail
  obtain ⟨V0, hV0⟩ : ∃ V0, V0 = w.alloc (.cells #[.int .i64 pN, .int .i64 pB, .int .i64 pl, .int .i64 pk, .int .i64 len, .slice A n c, .int .i64 fN, .int .i64 fT, .int .i64 fk, .int .i64 fl, .slice A1 m1 c1, .int .i64 fh, .slice A2 m2 c2] 67) := ⟨_, rfl⟩
  have H0 : Hid (Below w.heap.size w V0 ∧ V0.heap[w.heap.size]? = some (.cells #[.int .i64 pN, .int .i64 pB, .int .i64 pl, .int .i64 pk, .int .i64 len, .slice A n c, .int .i64 fN, .int .i64 fT, .int .i64 fk, .int .i64 fl, .slice A1 m1 c1, .int .i64 fh, .slice A2 m2 c2] 67 (0, 0)) ∧ w.heap.size < V0.heap.size) := by rw [hV0]; exact ⟨one_below _ _, World.alloc_heap_new _ _, by rw [World.size_alloc]; omega⟩
  rw [← hV0]
  clear hV0
  have HK : Hid (∀ V : World, Below V0.heap.size V0 V → V.cell? ⟨w.heap.size, 0, none⟩ = some (.int .i64 pN) ∧ V.cell? ⟨w.heap.size, 1, none⟩ = some (.int .i64 pB) ∧ V.cell? ⟨w.heap.size, 2, none⟩ = some (.int .i64 pl) ∧ V.cell? ⟨w.heap.size, 3, none⟩ = some (.int .i64 pk) ∧ V.cell? ⟨w.heap.size, 4, none⟩ = some (.int .i64 len) ∧ V.cell? ⟨w.heap.size, 5, none⟩ = some (.slice A n c) ∧ V.cell? ⟨w.heap.size, 6, none⟩ = some (.int .i64 fN) ∧ V.cell? ⟨w.heap.size, 7, none⟩ = some (.int .i64 fT) ∧ V.cell? ⟨w.heap.size, 8, none⟩ = some (.int .i64 fk) ∧ V.cell? ⟨w.heap.size, 9, none⟩ = some (.int .i64 fl) ∧ V.cell? ⟨w.heap.size, 10, none⟩ = some (.slice A1 m1 c1) ∧ V.cell? ⟨w.heap.size, 11, none⟩ = some (.int .i64 fh) ∧ V.cell? ⟨w.heap.size, 12, none⟩ = some (.slice A2 m2 c2)) := fun V h => cells13 ((h.block _ H0.out.2.2).trans H0.out.2.1)
  have HCk : Hid (∀ V, Below V0.heap.size V0 V → Calls Tryz.prog 44 #[.agg #[.int .i64 pN, .int .i64 pB, .int .i64 pl, .int .i64 pk, .int .i64 len, .slice A n c, .int .i64 fN, .int .i64 fT, .int .i64 fk, .int .i64 fl, .slice A1 m1 c1, .int .i64 fh, .slice A2 m2 c2]] V fun e w' => e = .returned (.int .i64 er) ∧ Below V.heap.size V w') := fun V hV => HC.out V (H0.out.1.trans (hV.mono H0.out.1.size))
  have HD : Hid (Below V0.heap.size V0 V0.drew) := (Below.refl _ _).drew
  go_region_held3 (fun V => V.cell? ⟨w.heap.size, 0, none⟩ = some (.int .i64 pN) ∧ V.cell? ⟨w.heap.size, 1, none⟩ = some (.int .i64 pB) ∧ V.cell? ⟨w.heap.size, 2, none⟩ = some (.int .i64 pl) ∧ V.cell? ⟨w.heap.size, 3, none⟩ = some (.int .i64 pk) ∧ V.cell? ⟨w.heap.size, 4, none⟩ = some (.int .i64 len) ∧ V.cell? ⟨w.heap.size, 5, none⟩ = some (.slice A n c) ∧ V.cell? ⟨w.heap.size, 6, none⟩ = some (.int .i64 fN) ∧ V.cell? ⟨w.heap.size, 7, none⟩ = some (.int .i64 fT) ∧ V.cell? ⟨w.heap.size, 8, none⟩ = some (.int .i64 fk) ∧ V.cell? ⟨w.heap.size, 9, none⟩ = some (.int .i64 fl) ∧ V.cell? ⟨w.heap.size, 10, none⟩ = some (.slice A1 m1 c1) ∧ V.cell? ⟨w.heap.size, 11, none⟩ = some (.int .i64 fh) ∧ V.cell? ⟨w.heap.size, 12, none⟩ = some (.slice A2 m2 c2))
    ((refine HK.out _ ?_; first | exact hk9.out | exact hj.out | exact hcz.out | exact hc.out | exact hiz.out | exact hi.out | exact HD.out))
    ((first
      | (go_at_call 48; first
          | (have hs := HSl.out; refine (range_any er [b, b2] 2 rfl (by decide) _ 2 _ hs).mono ?_; rintro e w9 ⟨rfl, rfl⟩; have hk9 := hc; have hr9 := HRr.out; rw [hr9]; clear hr9)
          | (refine (range_on er [b, b2] 2 rfl (by decide) r HRr.out _).mono ?_; rintro e w9 ⟨rfl, q9⟩; have hk9 : Hid (Below V0.heap.size V0 w9) := (by first | exact hc.out.trans (q9.mono hc.out.size) | exact hi.out.trans (q9.mono hi.out.size)); clear q9))
      | (go_at_call 44; refine (HCk.out _ (by first | exact hiz.out | exact hi.out | exact hj.out | exact HD.out)).mono ?_; rintro e wc ⟨rfl, qc⟩; have hc : Hid (Below V0.heap.size V0 wc) := (by first | exact hiz.out.trans (qc.mono hiz.out.size) | exact hi.out.trans (qc.mono hi.out.size) | exact HD.out.trans (qc.mono HD.out.size)); (first | (have HSl : Hid (RdV wc wc.heap.size (some ⟨wi.heap.size, 0, none⟩) (cc [b, b2])) := (rdv_cc wi [b, b2]).on qc) | skip); have hcz : Hid (Below V0.heap.size V0 (wc.alloc (.cells #[.bool b, .bool b2] 4))) := hc.out.trans ((one_below wc _).mono hc.out.size); clear qc)
      | (go_at_call 81; first | (have hx := hj.out; refine (HNe.out _).mono ?_; rintro e wi ⟨rfl, qi⟩; have hi : Hid (Below V0.heap.size V0 wi) := hx.trans (qi.mono hx.size); have hiz : Hid (Below V0.heap.size V0 (wi.alloc (.cells #[.bool b, .bool b2] 4))) := hi.out.trans ((one_below wi _).mono hi.out.size); clear qi hx) | (refine (HNd.out _).mono ?_; rintro e wj ⟨rfl, qj⟩; have hj : Hid (Below V0.heap.size V0 wj) := (by first | exact hc.out.trans (qj.mono hc.out.size) | exact HD.out.trans (qj.mono HD.out.size)); clear qj))))
  all_goals (
    have HB9 : Hid (Below w.heap.size w w9) := H0.out.1.trans (hk9.out.mono H0.out.1.size)
    have h13 := (hk9.out.block _ H0.out.2.2).trans H0.out.2.1
    have hrg := Lib.hid (range_all (cs := [.int .i64 pN, .int .i64 pB, .int .i64 pl, .int .i64 pk, .int .i64 len, .slice A n c, .int .i64 fN, .int .i64 fT, .int .i64 fk, .int .i64 fl, .slice A1 m1 c1, .int .i64 fh, .slice A2 m2 c2]) h13)
    obtain ⟨X9, hX9, hth9, hx9, hbX9, hzX9⟩ := st_new 126 [.int .i64 0, .int .i64 0, .int .i64 0, .int .i64 0, .int .i64 0, .slice none 0 0, .int .i64 0, .int .i64 0, .int .i64 0, .int .i64 0, .slice none 0 0, .int .i64 0, .slice none 0 0, .int .i64 0] [.int .i64 pN, .int .i64 pB, .int .i64 pl, .int .i64 pk, .int .i64 len, .slice A n c, .int .i64 fN, .int .i64 fT, .int .i64 fk, .int .i64 fl, .slice A1 m1 c1, .int .i64 fh, .slice A2 m2 c2, .int .i64 0] 14 rfl rfl w9
    have HX9 := Lib.hid hX9
    have HT9 := Lib.hid hth9
    have HF9 : Hid (Fnd w9.heap.size pN pB pl pk len fN fT fk fl fh A A1 A2 n c m1 c1 m2 c2 0 X9 ∧ w9.heap.size < X9.heap.size ∧ Below w.heap.size w X9) := ⟨hx9, hzX9, HB9.out.trans (hbX9.mono HB9.out.size)⟩
    clear h13 hX9 hth9 hx9 hbX9 hzX9 HK HCk HD hk9
    go_wp2_with (first | (refine wpList_load_mid rfl 67 _ rfl w.heap.size 0 rfl [.int .i64 pN, .int .i64 pB, .int .i64 pl, .int .i64 pk, .int .i64 len, .slice A n c, .int .i64 fN, .int .i64 fT, .int .i64 fk, .int .i64 fl, .slice A1 m1 c1, .int .i64 fh, .slice A2 m2 c2] _ hrg.out Tryz.underlying67 rfl info_sh ?_) | (refine wpList_build rfl _ _ rfl #[(0, .agg #[.int .i64 pN, .int .i64 pB, .int .i64 pl, .int .i64 pk, .int .i64 len, .slice A n c, .int .i64 fN, .int .i64 fT, .int .i64 fk, .int .i64 fl, .slice A1 m1 c1, .int .i64 fh, .slice A2 m2 c2])] (by kernel_rfl) _ (run_build_fd _ _ _ _ _ _ _ _ _ _ _ _ _ _ _ _ _ _ _ _) ?_) | (refine wpList_store_mid rfl 126 _ _ rfl w9.heap.size 0 #[.int .i64 pN, .int .i64 pB, .int .i64 pl, .int .i64 pk, .int .i64 len, .slice A n c, .int .i64 fN, .int .i64 fT, .int .i64 fk, .int .i64 fl, .slice A1 m1 c1, .int .i64 fh, .slice A2 m2 c2, .int .i64 0] rfl rfl HT9.out info_fd (by simp [Value.oneCell']) ?_; rw [HX9.out]))
    refine (HFi.out w9.heap.size X9 HF9.out.2.2 HB9.out.size HF9.out.2.1 HF9.out.1).mono ?_
    rintro e w5 ⟨A5, c5, rfl, g1, g2, g3, q5, hp⟩
    have HB5 : Hid (Below w.heap.size w w5) := but_below HF9.out.2.2 HB9.out.size (Nat.le_trans HB9.out.size (Nat.le_of_lt HF9.out.2.1)) q5
    have HG5 := Lib.hid g3
    clear g1 g2 g3 q5 hp
    go_wp2_with fail
    refine (HCo.out A5 c5 w5 HG5.out).mono ?_
    rintro e w6 ⟨rfl, q6⟩
    have HFin : Hid (Below w.heap.size w w6) := HB5.out.trans (q6.mono HB5.out.size)
    clear q6
    go_wp2
    go_ret2
    exact ⟨rfl, HFin.out⟩)
end
section
set_option maxRecDepth 100000
set_option linter.unusedVariables false
open Go.RowKit Go.Shelf
structure Shl (g : List (List Nat)) (N B ls k : Nat) (L : List Bool) (kk : Nat) (lS : List Nat) : Prop where
  ok : GOk g
  hN : g.length = N
  hB : B ≤ 7
  hls : ls = 0 ∨ 2 ≤ ls ∧ ls ≤ 300
  hk : 1 ≤ k
  hk2 : k ≤ 16
  hL : pkB B ls k g N = L
  hL8 : L.length ≤ 8192
  hkk : fnw N L.length = kk
  hlS : pkS B ls k g N = lS
theorem Shl.n100 {g : List (List Nat)} {N B ls k : Nat} {L : List Bool} {kk : Nat} {lS : List Nat} (h : Shl g N B ls k L kk lS) : N ≤ 100 := by rw [← h.hN]; exact h.ok.nodes
theorem Shl.fit {g : List (List Nat)} {N B ls k : Nat} {L : List Bool} {kk : Nat} {lS : List Nat} (h : Shl g N B ls k L kk lS) : N + L.length / 2 ^ kk + 1 ≤ 8192 := by
  rw [← h.hkk]
  exact fits_w N L.length h.n100 (fun q => by rw [← h.hL, q]; rfl)
theorem shl_pack {g : List (List Nat)} {N B ls k : Nat} {L : List Bool} {kk : Nat} {lS : List Nat} (h : Shl g N B ls k L kk lS) {R : List Rw} (hgs : gs R = g.map ns) (hcap : ∀ r ∈ R, r.2.2.length ≤ r.2.1) (AG : Option Addr) (cG : Nat) (V : World) (hR : RdG V V.heap.size AG R) :
    Calls Tryz.prog 69 #[.agg #[.slice AG N cG], .agg #[.int .i64 (B : Int), .int .i64 (ls : Int), .int .i64 (k : Int)]] V (PaP V (N : Int) (B : Int) (ls : Int) (k : Int) (L.length : Int) (pack L).length (pack L) N (ns (pkA B ls k g N)) N (ns lS) 0) := by
  have hGr : GrR g R := ⟨h.ok, hgs, hcap⟩
  have hRl : R.length = N := by rw [hGr.len]; exact h.hN
  refine (pack_ok hGr N hRl B ls k h.hB h.hls h.hk h.hk2 AG cG V hR).mono fun e w' q => ?_
  unfold PakP at q
  rw [h.hL, if_pos h.hL8, h.hlS] at q
  exact q
theorem starts_ok {g : List (List Nat)} {N B ls k : Nat} {L : List Bool} {kk : Nat} {lS : List Nat} (h : Shl g N B ls k L kk lS) {R : List Rw} (hgs : gs R = g.map ns) (hcap : ∀ r ∈ R, r.2.2.length ≤ r.2.1) (AG : Option Addr) (cG : Nat) (A : Option Addr) (c : Nat) (V : World) (hR : RdG V V.heap.size AG R) :
    Calls Tryz.prog 80 #[.agg #[.slice AG N cG], .agg #[.int .i64 (N : Int), .int .i64 (B : Int), .int .i64 (ls : Int), .int .i64 (k : Int), .int .i64 (L.length : Int), .slice A (pack L).length c]] V (WrP V (N : Int) (L.length : Int) (kk : Int) ((loP kk lS).length : Int) ((fhi kk lS L.length).length : Int) (pack (loP kk lS)).length (pack (fhi kk lS L.length)).length (pack (loP kk lS)) (pack (fhi kk lS L.length)) 0) := by
  have hlen : lS.length = N := by rw [← h.hlS]; exact pkS_length _ _ _ _ _
  have hle : ∀ x ∈ lS, x ≤ L.length := by rw [← h.hlS, ← h.hL]; exact pkS_le B ls k g N
  have hup : Up 0 lS := by rw [← h.hlS]; exact pkS_up B ls k g N
  exact starts_w V AG N cG (N : Int) (B : Int) (ls : Int) (k : Int) (L.length : Int) A (pack L).length c N (ns (pkA B ls k g N)) N (ns lS) 0 _ _ _ _ _ _ _ _ _ 0
    (Lib.hid fun W hW => told_l N _ _ _ AG cG _ _ _ _ _ _ _ N _ N _ 0 W (Lib.hid fun W2 hW2 => shl_pack h hgs hcap AG cG W2 (hR.on (hW.trans (hW2.mono hW.size)))))
    (Lib.hid fun _ A5 c5 W hW => fwrite_ok lS N L.length kk _ hlen (by have := h.n100; omega) (by have := h.hL8; omega) hle hup h.hkk rfl h.fit A5 c5 W hW)
    (Lib.hid fun q => absurd rfl q)
theorem build_ways (R : List Rw) (N : Nat) (hN : R.length = N) (hn : N ≤ 140737488355328) (hcap : ∀ r ∈ R, r.2.2.length ≤ r.2.1) (B0 ls0 k0 : Int) (AG : Option Addr) (cG : Nat) (w : World) (hG : RdG w w.heap.size AG R) :
    (∃ er : Int, er ≠ 0 ∧ (∀ g, GrR g R → hck B0 ls0 k0 ≠ 0 ∨ (∃ B' ls' k' : Nat, B0 = (B' : Int) ∧ ls0 = (ls' : Int) ∧ k0 = (k' : Int) ∧ 8192 < (pkB B' ls' k' g N).length ∧ er = 8)) ∧ Hid (∀ V, Below w.heap.size w V → Calls Tryz.prog 36 #[.agg #[.slice AG N cG], .agg #[.int .i64 B0, .int .i64 ls0, .int .i64 k0]] V (BuP V 0 0 0 0 0 0 [] 0 0 0 0 0 0 0 [] [] er))) ∨
    (∃ (g : List (List Nat)) (B ls k : Nat) (L : List Bool) (kk : Nat) (lS : List Nat), B0 = (B : Int) ∧ ls0 = (ls : Int) ∧ k0 = (k : Int) ∧ Shl g N B ls k L kk lS ∧ GrR g R ∧
      Hid (∀ V, Below w.heap.size w V → Calls Tryz.prog 36 #[.agg #[.slice AG N cG], .agg #[.int .i64 B0, .int .i64 ls0, .int .i64 k0]] V (BuP V (N : Int) (B : Int) (ls : Int) (k : Int) (L.length : Int) (pack L).length (pack L) (N : Int) (L.length : Int) (kk : Int) ((loP kk lS).length : Int) ((fhi kk lS L.length).length : Int) (pack (loP kk lS)).length (pack (fhi kk lS L.length)).length (pack (loP kk lS)) (pack (fhi kk lS L.length)) 0))) := by
  rcases pack_ways R N hN hn hcap B0 ls0 k0 AG cG w hG with ⟨er, her, hwhy, hP⟩ | ⟨g, B, ls, k, rfl, rfl, rfl, hB, hls, hk, hk2, hgr, hgl, hf, hP⟩
  · exact .inl ⟨er, her, hwhy, fun V hV => build_e V AG N cG B0 ls0 k0 er her (Lib.hid fun W hW => write_l N B0 ls0 k0 AG cG 0 0 0 0 0 0 [] 0 [] 0 [] er W (Lib.hid fun W2 hW2 => hP.out W2 (hV.trans ((hW.trans (hW2.mono hW.size)).mono hV.size))))⟩
  · have hs : Shl g N B ls k (pkB B ls k g N) (fnw N (pkB B ls k g N).length) (pkS B ls k g N) := ⟨hgr.ok, hgl, hB, hls, hk, hk2, rfl, hf, rfl, rfl⟩
    refine .inr ⟨g, B, ls, k, _, _, _, rfl, rfl, rfl, hs, hgr, fun V hV => ?_⟩
    exact build_l V AG N cG _ _ _ _ _ _ _ _ _ _ _ _ _ _ _ _ _ _ _
      (Lib.hid fun W hW => write_l N _ _ _ AG cG _ _ _ _ _ _ _ N _ N _ 0 W (Lib.hid fun W2 hW2 => hP.out W2 (hV.trans ((hW.trans (hW2.mono hW.size)).mono hV.size))))
      (Lib.hid fun A c W hW => starts_ok hs hgr.eq hgr.cap AG cG A c W (hG.on (hV.trans (hW.mono hV.size))))
theorem pkB_same {B ls k : Nat} (hk : 1 ≤ k) (hB : B ≤ 7) {g g' : List (List Nat)} (h : GOk g) (h' : GOk g') (hl : g.length = g'.length) (hp : pkB B ls k g g.length = pkB B ls k g' g'.length) : g = g' := by
  have e1 := rdA_all B ls k hk hB g (gok_rows h) (by have := h.nodes; omega)
  have e2 := rdA_all B ls k hk hB g' (gok_rows h') (by have := h'.nodes; omega)
  rw [hp, hl, e2] at e1
  simp only [Option.some.injEq, Prod.mk.injEq] at e1
  exact e1.1.symm
theorem shl_read {g : List (List Nat)} {N B ls k : Nat} {L : List Bool} {kk : Nat} {lS : List Nat} (h : Shl g N B ls k L kk lS) (A : Option Addr) (c : Nat) (w : World) (r : Rd w w.heap.size A (pack L)) :
    Hid (∀ V, Below w.heap.size w V → Calls Tryz.prog 25 #[.agg #[.int .i64 (N : Int), .int .i64 (B : Int), .int .i64 (ls : Int), .int .i64 (k : Int), .int .i64 (L.length : Int), .slice A (pack L).length c]] V (PrG V g N)) := by
  have hL := h.hL
  have hN := h.hN
  rcases read_ways (N : Int) (B : Int) (ls : Int) (k : Int) (L.length : Int) (pack L) (pack L).length rfl (pack_lt L) A c w r with ⟨er, _, _, _, hno, _⟩ | ⟨g', B', ls', k', e1, e2, e3, _, _, _, _, hok', e4, e5, hf', e6, hC⟩
  · exact absurd (by rw [hN, hL]) (hno g B ls k rfl rfl rfl h.hB h.hls h.hk h.hk2 h.ok (by rw [hN]) (by rw [hN, hL]) (by rw [hN, hL]; exact h.hL8))
  · obtain rfl : B = B' := by omega
    obtain rfl : ls = ls' := by omega
    obtain rfl : k = k' := by omega
    have hl : L.length = (pkB B ls k g' g'.length).length := by omega
    have e : L = pkB B ls k g' g'.length := by rw [← unpack_pack L, e6, hl, unpack_pack]
    have hg : g = g' := pkB_same h.hk h.hB h.ok hok' (by omega) (by rw [hN, hL, e])
    subst hg
    rw [hN] at hC
    exact hC
theorem check_ok {g : List (List Nat)} {N B ls k : Nat} {L : List Bool} {kk : Nat} {lS : List Nat} (h : Shl g N B ls k L kk lS) (A A1 A2 : Option Addr) (c c1 c2 : Nat) (w : World) (r0 : Rd w w.heap.size A (pack L)) (r1 : Rd w w.heap.size A1 (pack (loP kk lS))) (r2 : Rd w w.heap.size A2 (pack (fhi kk lS L.length))) :
    Calls Tryz.prog 44 #[.agg #[.int .i64 (N : Int), .int .i64 (B : Int), .int .i64 (ls : Int), .int .i64 (k : Int), .int .i64 (L.length : Int), .slice A (pack L).length c, .int .i64 (N : Int), .int .i64 (L.length : Int), .int .i64 (kk : Int), .int .i64 ((loP kk lS).length : Int), .slice A1 (pack (loP kk lS)).length c1, .int .i64 ((fhi kk lS L.length).length : Int), .slice A2 (pack (fhi kk lS L.length)).length c2]] w fun e w' => e = .returned (.int .i64 0) ∧ Below w.heap.size w w' := by
  refine check_g (N : Int) (B : Int) (ls : Int) (k : Int) (L.length : Int) (N : Int) (L.length : Int) (kk : Int) ((loP kk lS).length : Int) ((fhi kk lS L.length).length : Int) A A1 A2 _ c _ c1 _ c2 g N (N : Int) (L.length : Int) (kk : Int) ((loP kk lS).length : Int) ((fhi kk lS L.length).length : Int) (pack (loP kk lS)).length (pack (fhi kk lS L.length)).length (pack (loP kk lS)) (pack (fhi kk lS L.length)) true 0 rfl w (shl_read h A c w r0)
    (Lib.hid fun AG cG R V hV hR hgs hcap => starts_ok h hgs hcap AG cG A c V hR) (Lib.hid fun B1 d1 B2 d2 V hV q1 q2 => ?_)
  have := sfn_any (N : Int) (L.length : Int) (kk : Int) ((loP kk lS).length : Int) ((fhi kk lS L.length).length : Int) (N : Int) (L.length : Int) (kk : Int) ((loP kk lS).length : Int) ((fhi kk lS L.length).length : Int) A1 A2 B1 B2 c1 c2 d1 d2 (pack (loP kk lS)) (pack (fhi kk lS L.length)) (pack (loP kk lS)) (pack (fhi kk lS L.length)) (pack_lt _) (pack_lt _) (pack_lt _) (pack_lt _) V (r1.on hV) (r2.on hV) q1 q2
  simpa using this
theorem find_at {g : List (List Nat)} {N B ls k : Nat} {L : List Bool} {kk : Nat} {lS : List Nat} (h : Shl g N B ls k L kk lS) (A A1 A2 : Option Addr) (c c1 c2 : Nat) (w : World) (r0 : Rd w w.heap.size A (pack L)) (r1 : Rd w w.heap.size A1 (pack (loP kk lS))) (r2 : Rd w w.heap.size A2 (pack (fhi kk lS L.length))) (i : Nat) (hi : i < N) :
    Hid (∀ X w0, Below w.heap.size w w0 → w.heap.size ≤ X → X < w0.heap.size → Fnd X (N : Int) (B : Int) (ls : Int) (k : Int) (L.length : Int) (N : Int) (L.length : Int) (kk : Int) ((loP kk lS).length : Int) ((fhi kk lS L.length).length : Int) A A1 A2 (pack L).length c (pack (loP kk lS)).length c1 (pack (fhi kk lS L.length)).length c2 0 w0 → Calls Tryz.prog 82 #[.pointer (some ⟨X, 0, none⟩), .int .i64 (i : Int)] w0 (LsX X (Fnd X (N : Int) (B : Int) (ls : Int) (k : Int) (L.length : Int) (N : Int) (L.length : Int) (kk : Int) ((loP kk lS).length : Int) ((fhi kk lS L.length).length : Int) A A1 A2 (pack L).length c (pack (loP kk lS)).length c1 (pack (fhi kk lS L.length)).length c2 ((stp B ls k g i : Nat) : Int)) w0 (row g i).length (row g i))) := fun X w0 hb hX hX2 hF => by
  have hr : ∀ {A : Option Addr} {bs : List Nat}, Rd w w.heap.size A bs → Rd w0 X A bs := fun q => q.keep hX (fun j hj => hb.block j hj)
  have := find_ok h.ok N h.hN B ls k h.hB h.hls h.hk h.hk2 L h.hL h.hL8 kk h.hkk lS h.hlS A A1 A2 c c1 c2 X w0 hX2 (hr r0) (hr r1) (hr r2) i hi 0 (by have := h.n100; omega) w0 (But.refl _ _) hF
  rw [Nat.zero_add] at this
  exact this
theorem list_ok {g : List (List Nat)} {N B ls k : Nat} {L : List Bool} {kk : Nat} {lS : List Nat} (h : Shl g N B ls k L kk lS) (A A1 A2 : Option Addr) (c c1 c2 : Nat) (w : World) (r0 : Rd w w.heap.size A (pack L)) (r1 : Rd w w.heap.size A1 (pack (loP kk lS))) (r2 : Rd w w.heap.size A2 (pack (fhi kk lS L.length))) (i : Nat) (hi : i < N) :
    Calls Tryz.prog 37 #[.agg #[.int .i64 (N : Int), .int .i64 (B : Int), .int .i64 (ls : Int), .int .i64 (k : Int), .int .i64 (L.length : Int), .slice A (pack L).length c, .int .i64 (N : Int), .int .i64 (L.length : Int), .int .i64 (kk : Int), .int .i64 ((loP kk lS).length : Int), .slice A1 (pack (loP kk lS)).length c1, .int .i64 ((fhi kk lS L.length).length : Int), .slice A2 (pack (fhi kk lS L.length)).length c2], .int .i64 (i : Int)] w (LiP w (row g i).length (row g i) ((stp B ls k g i : Nat) : Int) 0) :=
  list_l (N : Int) (B : Int) (ls : Int) (k : Int) (L.length : Int) (N : Int) (L.length : Int) (kk : Int) ((loP kk lS).length : Int) ((fhi kk lS L.length).length : Int) A A1 A2 _ c _ c1 _ c2 (i : Int) 0 true 0 (by decide) rfl _ _ _ w (Lib.hid fun V hV => check_ok h A A1 A2 c c1 c2 V (r0.on hV) (r1.on hV) (r2.on hV)) (Lib.hid fun V => isnode_l (N : Int) (B : Int) (ls : Int) (k : Int) (L.length : Int) (N : Int) (L.length : Int) (kk : Int) ((loP kk lS).length : Int) ((fhi kk lS L.length).length : Int) A A1 A2 _ c _ c1 _ c2 (i : Int) true (decide_eq_true ⟨by omega, by omega⟩) V) (find_at h A A1 A2 c c1 c2 w r0 r1 r2 i hi)
theorem list_no {g : List (List Nat)} {N B ls k : Nat} {L : List Bool} {kk : Nat} {lS : List Nat} (h : Shl g N B ls k L kk lS) (A A1 A2 : Option Addr) (c c1 c2 : Nat) (w : World) (r0 : Rd w w.heap.size A (pack L)) (r1 : Rd w w.heap.size A1 (pack (loP kk lS))) (r2 : Rd w w.heap.size A2 (pack (fhi kk lS L.length))) (x : Int) (hx : ¬ (0 ≤ x ∧ x < (N : Int))) :
    Calls Tryz.prog 37 #[.agg #[.int .i64 (N : Int), .int .i64 (B : Int), .int .i64 (ls : Int), .int .i64 (k : Int), .int .i64 (L.length : Int), .slice A (pack L).length c, .int .i64 (N : Int), .int .i64 (L.length : Int), .int .i64 (kk : Int), .int .i64 ((loP kk lS).length : Int), .slice A1 (pack (loP kk lS)).length c1, .int .i64 ((fhi kk lS L.length).length : Int), .slice A2 (pack (fhi kk lS L.length)).length c2], .int .i64 x] w (LiP w 0 [] 0 3) :=
  list_e (N : Int) (B : Int) (ls : Int) (k : Int) (L.length : Int) (N : Int) (L.length : Int) (kk : Int) ((loP kk lS).length : Int) ((fhi kk lS L.length).length : Int) A A1 A2 _ c _ c1 _ c2 x 0 3 false (by decide) (by decide) w (Lib.hid fun V hV => check_ok h A A1 A2 c c1 c2 V (r0.on hV) (r1.on hV) (r2.on hV)) (Lib.hid fun V => isnode_l (N : Int) (B : Int) (ls : Int) (k : Int) (L.length : Int) (N : Int) (L.length : Int) (kk : Int) ((loP kk lS).length : Int) ((fhi kk lS L.length).length : Int) A A1 A2 _ c _ c1 _ c2 x false (decide_eq_false hx) V)
theorem leads_ok {g : List (List Nat)} {N B ls k : Nat} {L : List Bool} {kk : Nat} {lS : List Nat} (h : Shl g N B ls k L kk lS) (A A1 A2 : Option Addr) (c c1 c2 : Nat) (w : World) (r0 : Rd w w.heap.size A (pack L)) (r1 : Rd w w.heap.size A1 (pack (loP kk lS))) (r2 : Rd w w.heap.size A2 (pack (fhi kk lS L.length))) (i j : Nat) (hi : i < N) (hj : j < N) :
    Calls Tryz.prog 38 #[.agg #[.int .i64 (N : Int), .int .i64 (B : Int), .int .i64 (ls : Int), .int .i64 (k : Int), .int .i64 (L.length : Int), .slice A (pack L).length c, .int .i64 (N : Int), .int .i64 (L.length : Int), .int .i64 (kk : Int), .int .i64 ((loP kk lS).length : Int), .slice A1 (pack (loP kk lS)).length c1, .int .i64 ((fhi kk lS L.length).length : Int), .slice A2 (pack (fhi kk lS L.length)).length c2], .int .i64 (i : Int), .int .i64 (j : Int)] w (LeP w ((ns (row g i)).any fun z => (j : Int) == z) 0) := by
  have hl : (row g i).length ≤ 100 := by
    have hr : row g i ∈ g := by
      unfold row
      rw [List.getElem?_eq_getElem (by rw [h.hN]; exact hi)]
      exact List.getElem_mem _
    exact Nat.le_trans (ris_few (row g i) g.length (h.ok.ris _ hr) (h.ok.bd _ hr)) h.ok.nodes
  exact leads_l (N : Int) (B : Int) (ls : Int) (k : Int) (L.length : Int) (N : Int) (L.length : Int) (kk : Int) ((loP kk lS).length : Int) ((fhi kk lS L.length).length : Int) A A1 A2 _ c _ c1 _ c2 (i : Int) (j : Int) 0 true true 0 (by decide) rfl (row g i).length (row g i) rfl hl _ rfl _ w (Lib.hid fun V hV => check_ok h A A1 A2 c c1 c2 V (r0.on hV) (r1.on hV) (r2.on hV)) (Lib.hid fun V => isnode_l (N : Int) (B : Int) (ls : Int) (k : Int) (L.length : Int) (N : Int) (L.length : Int) (kk : Int) ((loP kk lS).length : Int) ((fhi kk lS L.length).length : Int) A A1 A2 _ c _ c1 _ c2 (i : Int) true (decide_eq_true ⟨by omega, by omega⟩) V) (Lib.hid fun V => isnode_l (N : Int) (B : Int) (ls : Int) (k : Int) (L.length : Int) (N : Int) (L.length : Int) (kk : Int) ((loP kk lS).length : Int) ((fhi kk lS L.length).length : Int) A A1 A2 _ c _ c1 _ c2 (j : Int) true (decide_eq_true ⟨by omega, by omega⟩) V) (find_at h A A1 A2 c c1 c2 w r0 r1 r2 i hi)
theorem leads_no {g : List (List Nat)} {N B ls k : Nat} {L : List Bool} {kk : Nat} {lS : List Nat} (h : Shl g N B ls k L kk lS) (A A1 A2 : Option Addr) (c c1 c2 : Nat) (w : World) (r0 : Rd w w.heap.size A (pack L)) (r1 : Rd w w.heap.size A1 (pack (loP kk lS))) (r2 : Rd w w.heap.size A2 (pack (fhi kk lS L.length))) (x y : Int) (hx : ¬ ((0 ≤ x ∧ x < (N : Int)) ∧ (0 ≤ y ∧ y < (N : Int)))) :
    Calls Tryz.prog 38 #[.agg #[.int .i64 (N : Int), .int .i64 (B : Int), .int .i64 (ls : Int), .int .i64 (k : Int), .int .i64 (L.length : Int), .slice A (pack L).length c, .int .i64 (N : Int), .int .i64 (L.length : Int), .int .i64 (kk : Int), .int .i64 ((loP kk lS).length : Int), .slice A1 (pack (loP kk lS)).length c1, .int .i64 ((fhi kk lS L.length).length : Int), .slice A2 (pack (fhi kk lS L.length)).length c2], .int .i64 x, .int .i64 y] w (LeP w false 3) := by
  have hr : rgE 0 [decide (0 ≤ x ∧ x < (N : Int)), decide (0 ≤ y ∧ y < (N : Int))] = 3 := by
    unfold rgE
    rw [if_pos]
    refine ⟨rfl, ?_⟩
    by_cases q : 0 ≤ x ∧ x < (N : Int)
    · have q2 : ¬ (0 ≤ y ∧ y < (N : Int)) := fun z => hx ⟨q, z⟩
      rw [decide_eq_false q2]; simp
    · rw [decide_eq_false q]; simp
  exact leads_e (N : Int) (B : Int) (ls : Int) (k : Int) (L.length : Int) (N : Int) (L.length : Int) (kk : Int) ((loP kk lS).length : Int) ((fhi kk lS L.length).length : Int) A A1 A2 _ c _ c1 _ c2 x y 0 3 _ _ hr (by decide) w (Lib.hid fun V hV => check_ok h A A1 A2 c c1 c2 V (r0.on hV) (r1.on hV) (r2.on hV)) (Lib.hid fun V => isnode_any _ _ _ _ _ _ _ _ _ _ A A1 A2 _ c _ c1 _ c2 x V) (Lib.hid fun V => isnode_any _ _ _ _ _ _ _ _ _ _ A A1 A2 _ c _ c1 _ c2 y V)
end
end Go.Proofs.YtbddcokjkdoaaaaGreat
