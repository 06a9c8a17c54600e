/- Texts of this proof, one behind the other; each fact names its conditions. -/
import Derived.Test.YtbddcokjkdoaaaaGreatSN31
import Derived.Test.YtbddcokjkdoaaaaGreatSN32
import Derived.BigFrame
import Derived.Test.YtbddcokjkdoaaaaGreatSN1
namespace Go.Proofs.YtbddcokjkdoaaaaGreat
section
set_option maxRecDepth 100000
set_option linter.unusedVariables false
open Go.RowKit Go.Shelf
theorem wpListG_load_mid {P : Program} {ops : Array Oper} {rest : List Oper} {op : Oper} {a : Act} {w : World} {Q : Exit → Act → World → Prop} (hw : Region.wanted op (yielded ops a.tmps) = true) (ty : TypeId) (x : Operand) (ho : op.op = .load ty x)
    (b o : Nat) (hx : a.eval x = .pointer (some ⟨b, o, none⟩)) (cs : List Value) (d : TypeDesc) (hc : w.rangeAt b o cs)
    (hu : P.underlying ty = some d) (hd : d.isRow = true) (hi : (P.info? ty).map (·.size) = some cs.length)
    (h : wpList P ops Q rest (a.put op.dst (.agg cs.toArray)) w) : wpList P ops Q (op :: rest) a w :=
  Go.BigFrame.wpList_want hw fun _ hK => wp_load_mid ty x ho b o hx cs d hc hu hd hi (hK _ _ h)
theorem wpListG_build {P : Program} {ops : Array Oper} {rest : List Oper} {op : Oper} {a : Act} {w : World} {Q : Exit → Act → World → Prop} (hw : Region.wanted op (yielded ops a.tmps) = true) (ty : TypeId) (parts : Array (Nat × Operand)) (ho : op.op = .build ty parts)
    (vals : Array (Nat × Value)) (hv : parts.map (fun x => (x.1, a.eval x.2)) = vals) (v : Value) (hr : (Instr.build ty vals).run P w = .ok v w)
    (h : wpList P ops Q rest (a.put op.dst v) w) : wpList P ops Q (op :: rest) a w :=
  Go.BigFrame.wpList_want hw fun _ hK => by
    have hv' : (parts.map fun (i, x) => (i, a.eval x)) = vals := hv
    unfold Oper.wp execOp
    simp only [ho, hv', Sem.run_bind, hr, Result.andThen_ok, Sem.run_pure]
    exact hK _ _ h
theorem run_build_shz (pN pB pl pk len : Int) (A : Option Addr) (n c : Nat) (w : World) : (Instr.build 67 #[(0, .agg #[.int .i64 pN, .int .i64 pB, .int .i64 pl, .int .i64 pk, .int .i64 len, .slice A n c])]).run Tryz.prog w = .ok (.agg #[.int .i64 pN, .int .i64 pB, .int .i64 pl, .int .i64 pk, .int .i64 len, .slice A n c, .int .i64 0, .int .i64 0, .int .i64 0, .int .i64 0, .slice none 0 0, .int .i64 0, .slice none 0 0]) w := by kernel_rfl
structure ShS (w W : World) (b : Nat) (pN pB pl pk len fN fT fk fl fh : Int) (A A1 A2 : Option Addr) (n c m1 c1 m2 c2 : Nat) (bs b1 b2 : List Nat) : Prop where
  low : Below w.heap.size w W
  row : W.heap[b]? = some (.cells #[.int .i64 pN, .int .i64 pB, .int .i64 pl, .int .i64 pk, .int .i64 len, .slice A n c, .int .i64 fN, .int .i64 fT, .int .i64 fk, .int .i64 fl, .slice A1 m1 c1, .int .i64 fh, .slice A2 m2 c2] 67 (0, 0))
  r0 : Rd W W.heap.size A bs
  r1 : Rd W W.heap.size A1 b1
  r2 : Rd W W.heap.size A2 b2
theorem ShS.on {w W X : World} {b : Nat} {pN pB pl pk len fN fT fk fl fh : Int} {A A1 A2 : Option Addr} {n c m1 c1 m2 c2 : Nat} {bs b1 b2 : List Nat} (h : ShS w W b pN pB pl pk len fN fT fk fl fh A A1 A2 n c m1 c1 m2 c2 bs b1 b2) (hb : Below W.heap.size W X) : ShS w X b pN pB pl pk len fN fT fk fl fh A A1 A2 n c m1 c1 m2 c2 bs b1 b2 :=
  ⟨h.low.trans (hb.mono h.low.size), (hb.block _ (Array.getElem?_eq_some_iff.1 h.row).1).trans h.row, h.r0.on hb, h.r1.on hb, h.r2.on hb⟩
set_option maxHeartbeats 8000000 in
theorem shbegun_w (w : World) (pN pB pl pk len fN fT fk fl fh : Int) (n m1 m2 : Nat) (bs b1 b2 : List Nat)
    (HSg : Hid (∀ V, Calls Tryz.prog 77 #[] V (SgP V)))
    (HBu : Hid (∀ A c R V, RdG V V.heap.size A R → gs R = sgG.map ns → (∀ r ∈ R, r.2.2.length ≤ r.2.1) → Calls Tryz.prog 36 #[.agg #[.slice A 6 c], .agg #[.int .i64 3, .int .i64 3, .int .i64 2]] V (BuP V pN pB pl pk len n bs fN fT fk fl fh m1 m2 b1 b2 0)))
    (HL1 : Hid (∀ A A1 A2 c c1 c2 V, Rd V V.heap.size A bs → Rd V V.heap.size A1 b1 → Rd V V.heap.size A2 b2 → Calls Tryz.prog 37 #[.agg #[.int .i64 pN, .int .i64 pB, .int .i64 pl, .int .i64 pk, .int .i64 len, .slice A n c, .int .i64 fN, .int .i64 fT, .int .i64 fk, .int .i64 fl, .slice A1 m1 c1, .int .i64 fh, .slice A2 m2 c2], .int .i64 1] V (LiP V 4 [1, 2, 3, 5] 2 0)))
    (HE1 : Hid (∀ A A1 A2 c c1 c2 V, Rd V V.heap.size A bs → Rd V V.heap.size A1 b1 → Rd V V.heap.size A2 b2 → Calls Tryz.prog 38 #[.agg #[.int .i64 pN, .int .i64 pB, .int .i64 pl, .int .i64 pk, .int .i64 len, .slice A n c, .int .i64 fN, .int .i64 fT, .int .i64 fk, .int .i64 fl, .slice A1 m1 c1, .int .i64 fh, .slice A2 m2 c2], .int .i64 4, .int .i64 4] V (LeP V true 0)))
    (HE2 : Hid (∀ A A1 A2 c c1 c2 V, Rd V V.heap.size A bs → Rd V V.heap.size A1 b1 → Rd V V.heap.size A2 b2 → Calls Tryz.prog 38 #[.agg #[.int .i64 pN, .int .i64 pB, .int .i64 pl, .int .i64 pk, .int .i64 len, .slice A n c, .int .i64 fN, .int .i64 fT, .int .i64 fk, .int .i64 fl, .slice A1 m1 c1, .int .i64 fh, .slice A2 m2 c2], .int .i64 4, .int .i64 5] V (LeP V false 0)))
    (HL6 : Hid (∀ A A1 A2 c c1 c2 V, Rd V V.heap.size A bs → Rd V V.heap.size A1 b1 → Rd V V.heap.size A2 b2 → Calls Tryz.prog 37 #[.agg #[.int .i64 pN, .int .i64 pB, .int .i64 pl, .int .i64 pk, .int .i64 len, .slice A n c, .int .i64 fN, .int .i64 fT, .int .i64 fk, .int .i64 fl, .slice A1 m1 c1, .int .i64 fh, .slice A2 m2 c2], .int .i64 6] V (LiP V 0 [] 0 3)))
    (HCk : Hid (∀ A A1 A2 c c1 c2 V, Rd V V.heap.size A bs → Rd V V.heap.size A1 b1 → Rd V V.heap.size A2 b2 → Calls Tryz.prog 44 #[.agg #[.int .i64 pN, .int .i64 pB, .int .i64 pl, .int .i64 pk, .int .i64 len, .slice A n c, .int .i64 fN, .int .i64 fT, .int .i64 fk, .int .i64 fl, .slice A1 m1 c1, .int .i64 fh, .slice A2 m2 c2]] V fun e w' => e = .returned (.int .i64 0) ∧ Below V.heap.size V w'))
    (HCz : Hid (∀ A c V, Rd V V.heap.size A bs → Calls Tryz.prog 44 #[.agg #[.int .i64 pN, .int .i64 pB, .int .i64 pl, .int .i64 pk, .int .i64 len, .slice A n c, .int .i64 0, .int .i64 0, .int .i64 0, .int .i64 0, .slice none 0 0, .int .i64 0, .slice none 0 0]] V fun e w' => e = .returned (.int .i64 4) ∧ Below V.heap.size V w'))
    (HSi : Hid (∀ A B c d V, RdV V V.heap.size A (zc (ns [1, 2, 3, 5])) → RdV V V.heap.size B (zc (ns [1, 2, 3, 5])) → Calls Tryz.prog 21 #[.slice A 4 c, .slice B 4 d] V fun e w' => e = .returned (.bool true) ∧ Below V.heap.size V w')) :
    Calls Tryz.prog 42 #[] w fun e w' => e = .returned (.bool true) ∧ Below w.heap.size w w' := by
  go_enter Tryz.func42, Tryz.ntmps42
  go_wp2_with fail
  refine (HSg.out w).mono ?_
  rintro e w1 ⟨A0, c0, R, rfl, hgs, hcap, hrk, q1⟩
  have HQ1 := Lib.hid q1
  have HRg := Lib.hid (And.intro hrk.here (And.intro hgs hcap))
  clear q1 hgs hcap hrk
  go_wp2_with fail
  refine (HBu.out A0 c0 R w1 HRg.out.1 HRg.out.2.1 HRg.out.2.2).mono ?_
  rintro e w2 ⟨A, c, A1, c1, A2, c2, rfl, r0, r1, r2, q2⟩
  obtain ⟨X2, hX2, hth2, hx2, hbX2, hzX2⟩ := st_new 67 [.int .i64 0, .int .i64 0, .int .i64 0, .int .i64 0, .int .i64 0, .slice none 0 0, .int .i64 0, .int .i64 0, .int .i64 0, .int .i64 0, .slice none 0 0, .int .i64 0, .slice none 0 0] [.int .i64 pN, .int .i64 pB, .int .i64 pl, .int .i64 pk, .int .i64 len, .slice A n c, .int .i64 fN, .int .i64 fT, .int .i64 fk, .int .i64 fl, .slice A1 m1 c1, .int .i64 fh, .slice A2 m2 c2] 13 rfl rfl w2
  have HS2 : Hid (ShS w X2 w2.heap.size pN pB pl pk len fN fT fk fl fh A A1 A2 n c m1 c1 m2 c2 bs b1 b2) := by
    exact ⟨HQ1.out.trans ((q2.trans (hbX2.mono q2.size)).mono HQ1.out.size), hx2, r0.on hbX2, r1.on hbX2, r2.on hbX2⟩
  have HX2 := Lib.hid hX2
  have HT2 := Lib.hid hth2
  have hrg := Lib.hid (range_all (cs := [.int .i64 pN, .int .i64 pB, .int .i64 pl, .int .i64 pk, .int .i64 len, .slice A n c, .int .i64 fN, .int .i64 fT, .int .i64 fk, .int .i64 fl, .slice A1 m1 c1, .int .i64 fh, .slice A2 m2 c2]) HS2.out.row)
  clear q2 r0 r1 r2 hx2 hbX2 hzX2 hX2 hth2
  go_wp2_with (first | (refine wpList_store_mid rfl 67 _ _ rfl w2.heap.size 0 #[.int .i64 pN, .int .i64 pB, .int .i64 pl, .int .i64 pk, .int .i64 len, .slice A n c, .int .i64 fN, .int .i64 fT, .int .i64 fk, .int .i64 fl, .slice A1 m1 c1, .int .i64 fh, .slice A2 m2 c2] rfl rfl HT2.out info_sh (by simp [Value.oneCell']) ?_; rw [HX2.out]) | (refine wpList_load_mid rfl 67 _ rfl w2.heap.size 0 rfl [.int .i64 pN, .int .i64 pB, .int .i64 pl, .int .i64 pk, .int .i64 len, .slice A n c, .int .i64 fN, .int .i64 fT, .int .i64 fk, .int .i64 fl, .slice A1 m1 c1, .int .i64 fh, .slice A2 m2 c2] _ hrg.out Tryz.underlying67 rfl info_sh ?_))
  refine (HL1.out A A1 A2 c c1 c2 X2 HS2.out.r0 HS2.out.r1 HS2.out.r2).mono ?_
  rintro e w3 ⟨A5, c5, rfl, r5, q3⟩
  have HS3 := Lib.hid (HS2.out.on q3)
  have HR3 := Lib.hid r5
  clear q3 r5 hrg
  have hrg := Lib.hid (range_all (cs := [.int .i64 pN, .int .i64 pB, .int .i64 pl, .int .i64 pk, .int .i64 len, .slice A n c, .int .i64 fN, .int .i64 fT, .int .i64 fk, .int .i64 fl, .slice A1 m1 c1, .int .i64 fh, .slice A2 m2 c2]) HS3.out.row)
  go_wp2_with (first | (refine wpList_load_mid rfl 67 _ rfl w2.heap.size 0 rfl [.int .i64 pN, .int .i64 pB, .int .i64 pl, .int .i64 pk, .int .i64 len, .slice A n c, .int .i64 fN, .int .i64 fT, .int .i64 fk, .int .i64 fl, .slice A1 m1 c1, .int .i64 fh, .slice A2 m2 c2] _ hrg.out Tryz.underlying67 rfl info_sh ?_))
  refine (HE1.out A A1 A2 c c1 c2 w3 HS3.out.r0 HS3.out.r1 HS3.out.r2).mono ?_
  rintro e w4 ⟨rfl, q4⟩
  have HS4 := Lib.hid (HS3.out.on q4)
  have HR4 := Lib.hid (HR3.out.on q4)
  clear q4 hrg
  have hrg := Lib.hid (range_all (cs := [.int .i64 pN, .int .i64 pB, .int .i64 pl, .int .i64 pk, .int .i64 len, .slice A n c, .int .i64 fN, .int .i64 fT, .int .i64 fk, .int .i64 fl, .slice A1 m1 c1, .int .i64 fh, .slice A2 m2 c2]) HS4.out.row)
  go_wp2_with (first | (refine wpList_load_mid rfl 67 _ rfl w2.heap.size 0 rfl [.int .i64 pN, .int .i64 pB, .int .i64 pl, .int .i64 pk, .int .i64 len, .slice A n c, .int .i64 fN, .int .i64 fT, .int .i64 fk, .int .i64 fl, .slice A1 m1 c1, .int .i64 fh, .slice A2 m2 c2] _ hrg.out Tryz.underlying67 rfl info_sh ?_))
  refine (HE2.out A A1 A2 c c1 c2 w4 HS4.out.r0 HS4.out.r1 HS4.out.r2).mono ?_
  rintro e w5 ⟨rfl, q5⟩
  have HS5 := Lib.hid (HS4.out.on q5)
  have HR5 := Lib.hid (HR4.out.on q5)
  clear q5 hrg
  have hrg := Lib.hid (range_all (cs := [.int .i64 pN, .int .i64 pB, .int .i64 pl, .int .i64 pk, .int .i64 len, .slice A n c, .int .i64 fN, .int .i64 fT, .int .i64 fk, .int .i64 fl, .slice A1 m1 c1, .int .i64 fh, .slice A2 m2 c2]) HS5.out.row)
  go_wp2_with (first | (refine wpList_load_mid rfl 67 _ rfl w2.heap.size 0 rfl [.int .i64 pN, .int .i64 pB, .int .i64 pl, .int .i64 pk, .int .i64 len, .slice A n c, .int .i64 fN, .int .i64 fT, .int .i64 fk, .int .i64 fl, .slice A1 m1 c1, .int .i64 fh, .slice A2 m2 c2] _ hrg.out Tryz.underlying67 rfl info_sh ?_))
  refine (HL6.out A A1 A2 c c1 c2 w5 HS5.out.r0 HS5.out.r1 HS5.out.r2).mono ?_
  rintro e w6 ⟨A6, c6, rfl, -, q6⟩
  obtain ⟨X6, hX6⟩ : ∃ X, w6.alloc (.cells #[.int .i64 1, .int .i64 2, .int .i64 3, .int .i64 5] 3) = X := ⟨_, rfl⟩
  have hb6 := q6.trans ((one_below w6 (.cells #[.int .i64 1, .int .i64 2, .int .i64 3, .int .i64 5] 3)).mono q6.size)
  rw [hX6] at hb6
  have HS6 := Lib.hid (HS5.out.on hb6)
  have HR6 := Lib.hid (HR5.out.on hb6)
  have HRn : Hid (RdV X6 X6.heap.size (some ⟨w6.heap.size, 0, none⟩) (zc (ns [1, 2, 3, 5]))) := by
    refine .inr ⟨w6.heap.size, 0, rfl, by rw [← hX6, World.size_alloc]; omega, fun i v hi => ?_⟩
    have hh : X6.heap[w6.heap.size]? = some (.cells #[.int .i64 1, .int .i64 2, .int .i64 3, .int .i64 5] 3 (0, 0)) := hX6 ▸ World.alloc_heap_new w6 _
    rw [Nat.zero_add, cell_at hh]
    simpa [zc, ns] using hi
  clear q6 hb6 hrg
  go_wp2_with fail
  try rw [hX6]
  refine (HSi.out _ _ _ _ X6 HR6.out HRn.out).mono ?_
  rintro e w7 ⟨rfl, q7⟩
  have HS7 := Lib.hid (HS6.out.on q7)
  clear q7 hX6
  have hrg := Lib.hid (range_all (cs := [.int .i64 pN, .int .i64 pB, .int .i64 pl, .int .i64 pk, .int .i64 len, .slice A n c, .int .i64 fN, .int .i64 fT, .int .i64 fk, .int .i64 fl, .slice A1 m1 c1, .int .i64 fh, .slice A2 m2 c2]) HS7.out.row)
  go_wp2_with (first | (refine wpListG_load_mid (by kernel_rfl) 67 _ rfl w2.heap.size 0 rfl [.int .i64 pN, .int .i64 pB, .int .i64 pl, .int .i64 pk, .int .i64 len, .slice A n c, .int .i64 fN, .int .i64 fT, .int .i64 fk, .int .i64 fl, .slice A1 m1 c1, .int .i64 fh, .slice A2 m2 c2] _ hrg.out Tryz.underlying67 rfl info_sh ?_))
  refine (HCk.out A A1 A2 c c1 c2 w7 HS7.out.r0 HS7.out.r1 HS7.out.r2).mono ?_
  rintro e w8 ⟨rfl, q8⟩
  have HS8 := Lib.hid (HS7.out.on q8)
  clear q8 hrg
  have hrg := Lib.hid (range_mid [] [.int .i64 pN, .int .i64 pB, .int .i64 pl, .int .i64 pk, .int .i64 len, .slice A n c] [.int .i64 fN, .int .i64 fT, .int .i64 fk, .int .i64 fl, .slice A1 m1 c1, .int .i64 fh, .slice A2 m2 c2] HS8.out.row)
  go_wp2_with (first | (refine wpListG_load_mid (by kernel_rfl) 44 _ rfl w2.heap.size 0 rfl [.int .i64 pN, .int .i64 pB, .int .i64 pl, .int .i64 pk, .int .i64 len, .slice A n c] _ hrg.out Tryz.underlying44 rfl info_pd ?_) | (refine wpListG_build (by kernel_rfl) _ _ rfl #[(0, .agg #[.int .i64 pN, .int .i64 pB, .int .i64 pl, .int .i64 pk, .int .i64 len, .slice A n c])] (by kernel_rfl) _ (run_build_shz _ _ _ _ _ _ _ _ _) ?_))
  refine (HCz.out A c w8 HS8.out.r0).mono ?_
  rintro e w9 ⟨rfl, q9⟩
  have HFin : Hid (Below w.heap.size w w9) := HS8.out.low.trans (q9.mono HS8.out.low.size)
  clear q9 hrg
  go_wp2
  go_ret
  exact ⟨rfl, HFin.out⟩
end
section
set_option maxRecDepth 100000
set_option linter.unusedVariables false
open Go.RowKit Go.Shelf
set_option maxHeartbeats 4000000 in
theorem rsf_w (N T k ll lh N' T' k' ll' lh' : Int) (A1 A2 B1 B2 : Option Addr) (n1 c1 n2 c2 m1 d1 m2 d2 : Nat) (q1 q2 r : Bool) (w : World) (hr : (decide (N = N') && decide (T = T') && decide (k = k') && q1 && q2) = r)
    (H1 : Hid (∀ V, Below w.heap.size w V → Calls Tryz.prog 20 #[.agg #[.int .i64 ll, .slice A1 n1 c1], .agg #[.int .i64 ll', .slice B1 m1 d1]] V fun e w' => e = .returned (.bool q1) ∧ Below V.heap.size V w'))
    (H2 : Hid (∀ V, Below w.heap.size w V → Calls Tryz.prog 20 #[.agg #[.int .i64 lh, .slice A2 n2 c2], .agg #[.int .i64 lh', .slice B2 m2 d2]] V fun e w' => e = .returned (.bool q2) ∧ Below V.heap.size V w')) :
    Calls Tryz.prog 85 #[.agg #[.int .i64 N, .int .i64 T, .int .i64 k, .int .i64 ll, .slice A1 n1 c1, .int .i64 lh, .slice A2 n2 c2], .agg #[.int .i64 N', .int .i64 T', .int .i64 k', .int .i64 ll', .slice B1 m1 d1, .int .i64 lh', .slice B2 m2 d2]] w fun e w' => e = .returned (.bool r) ∧ Below w.heap.size w w' := by
  obtain ⟨w1, ew1, s1, hb1, g1, g2⟩ := shal2 w (.cells #[.int .i64 N, .int .i64 T, .int .i64 k, .int .i64 ll, .slice A1 n1 c1, .int .i64 lh, .slice A2 n2 c2] 65) (.cells #[.int .i64 N', .int .i64 T', .int .i64 k', .int .i64 ll', .slice B1 m1 d1, .int .i64 lh', .slice B2 m2 d2] 65)
  obtain ⟨x0, x1, x2, x3, x4, x5, x6⟩ := (cells7 g1).1
  obtain ⟨y0, y1, y2, y3, y4, y5, y6⟩ := (cells7 g2).1
  have HB1 := Lib.hid hb1
  have HG : Hid (∀ V, Below w1.heap.size w1 V → V.heap[w.heap.size]? = some (.cells #[.int .i64 N, .int .i64 T, .int .i64 k, .int .i64 ll, .slice A1 n1 c1, .int .i64 lh, .slice A2 n2 c2] 65 (0, 0)) ∧ V.heap[w.heap.size + 1]? = some (.cells #[.int .i64 N', .int .i64 T', .int .i64 k', .int .i64 ll', .slice B1 m1 d1, .int .i64 lh', .slice B2 m2 d2] 65 (0, 0))) := fun V hV => ⟨(hV.block _ (by omega)).trans g1, (hV.block _ (by omega)).trans g2⟩
  clear hb1 s1 g1 g2
  have HR := Lib.hid hr
  clear hr
  go_enter Tryz.func85, Tryz.ntmps85
  by_cases h1 : N = N'
  case neg =>
    have t1 : (N == N') = false := by simpa using h1
    obtain rfl : r = false := by rw [← HR.out, decide_eq_false h1]; rfl
    clear h1
    go_wp2
    go_ret
    exact ⟨rfl, by first | exact HB1.out | (rw [ew1]; exact HB1.out)⟩
  subst h1
  by_cases h2 : T = T'
  case neg =>
    have t1 : (T == T') = false := by simpa using h2
    obtain rfl : r = false := by rw [← HR.out, decide_eq_false h2, Bool.and_false]; rfl
    clear h2
    go_wp2
    go_ret
    exact ⟨rfl, by first | exact HB1.out | (rw [ew1]; exact HB1.out)⟩
  subst h2
  by_cases h3 : k = k'
  case neg =>
    have t1 : (k == k') = false := by simpa using h3
    obtain rfl : r = false := by rw [← HR.out, decide_eq_false h3, Bool.and_false]; rfl
    clear h3
    go_wp2
    go_ret
    exact ⟨rfl, by first | exact HB1.out | (rw [ew1]; exact HB1.out)⟩
  subst h3
  obtain rfl : r = (q1 && q2) := by rw [← HR.out, decide_eq_true rfl, decide_eq_true rfl, decide_eq_true rfl]; simp
  clear HR
  go_wp2_with fail
  try rw [ew1]
  refine (H1.out w1 HB1.out).mono ?_
  rintro e w2 ⟨rfl, p2⟩
  have HB2 : Hid (Below w.heap.size w w2) := HB1.out.trans (p2.mono HB1.out.size)
  obtain ⟨g1, g2⟩ := HG.out w2 p2
  clear x0 x1 x2 x3 x4 x5 x6 y0 y1 y2 y3 y4 y5 y6 p2 ew1
  obtain ⟨x0, x1, x2, x3, x4, x5, x6⟩ := (cells7 g1).1
  obtain ⟨y0, y1, y2, y3, y4, y5, y6⟩ := (cells7 g2).1
  clear g1 g2
  cases q1 with
  | false =>
    go_wp2
    go_ret
    exact ⟨rfl, HB2.out⟩
  | true =>
    go_wp2_with fail
    refine (H2.out w2 HB2.out).mono ?_
    rintro e w3 ⟨rfl, p3⟩
    have HB3 : Hid (Below w.heap.size w w3) := HB2.out.trans (p3.mono HB2.out.size)
    clear p3
    go_wp2
    go_ret
    exact ⟨by simp, HB3.out⟩
set_option maxHeartbeats 4000000 in
theorem sshelf_w (pN pB pl pk len N T k ll lh : Int) (A B A1 A2 B1 B2 : Option Addr) (n c d m1 c1 d1 m2 c2 d2 : Nat) (w : World)
    (H1 : Hid (∀ V, Below w.heap.size w V → Calls Tryz.prog 31 #[.agg #[.int .i64 pN, .int .i64 pB, .int .i64 pl, .int .i64 pk, .int .i64 len, .slice A n c], .agg #[.int .i64 pN, .int .i64 pB, .int .i64 pl, .int .i64 pk, .int .i64 len, .slice B n d]] V fun e w' => e = .returned (.bool true) ∧ Below V.heap.size V w'))
    (H2 : Hid (∀ V, Below w.heap.size w V → Calls Tryz.prog 85 #[.agg #[.int .i64 N, .int .i64 T, .int .i64 k, .int .i64 ll, .slice A1 m1 c1, .int .i64 lh, .slice A2 m2 c2], .agg #[.int .i64 N, .int .i64 T, .int .i64 k, .int .i64 ll, .slice B1 m1 d1, .int .i64 lh, .slice B2 m2 d2]] V fun e w' => e = .returned (.bool true) ∧ Below V.heap.size V w')) :
    Calls Tryz.prog 43 #[.agg #[.int .i64 pN, .int .i64 pB, .int .i64 pl, .int .i64 pk, .int .i64 len, .slice A n c, .int .i64 N, .int .i64 T, .int .i64 k, .int .i64 ll, .slice A1 m1 c1, .int .i64 lh, .slice A2 m2 c2], .agg #[.int .i64 pN, .int .i64 pB, .int .i64 pl, .int .i64 pk, .int .i64 len, .slice B n d, .int .i64 N, .int .i64 T, .int .i64 k, .int .i64 ll, .slice B1 m1 d1, .int .i64 lh, .slice B2 m2 d2]] w fun e w' => e = .returned (.bool true) ∧ Below w.heap.size w w' := by
  obtain ⟨w1, ew1, s1, hb1, g1, g2⟩ := shal2 w (.cells #[.int .i64 pN, .int .i64 pB, .int .i64 pl, .int .i64 pk, .int .i64 len, .slice A n c, .int .i64 N, .int .i64 T, .int .i64 k, .int .i64 ll, .slice A1 m1 c1, .int .i64 lh, .slice A2 m2 c2] 67) (.cells #[.int .i64 pN, .int .i64 pB, .int .i64 pl, .int .i64 pk, .int .i64 len, .slice B n d, .int .i64 N, .int .i64 T, .int .i64 k, .int .i64 ll, .slice B1 m1 d1, .int .i64 lh, .slice B2 m2 d2] 67)
  have HB1 := Lib.hid hb1
  have HG : Hid (∀ V, Below w1.heap.size w1 V → V.heap[w.heap.size]? = some (.cells #[.int .i64 pN, .int .i64 pB, .int .i64 pl, .int .i64 pk, .int .i64 len, .slice A n c, .int .i64 N, .int .i64 T, .int .i64 k, .int .i64 ll, .slice A1 m1 c1, .int .i64 lh, .slice A2 m2 c2] 67 (0, 0)) ∧ V.heap[w.heap.size + 1]? = some (.cells #[.int .i64 pN, .int .i64 pB, .int .i64 pl, .int .i64 pk, .int .i64 len, .slice B n d, .int .i64 N, .int .i64 T, .int .i64 k, .int .i64 ll, .slice B1 m1 d1, .int .i64 lh, .slice B2 m2 d2] 67 (0, 0))) := fun V hV => ⟨(hV.block _ (by omega)).trans g1, (hV.block _ (by omega)).trans g2⟩
  have r1 := Lib.hid (range_mid [] [.int .i64 pN, .int .i64 pB, .int .i64 pl, .int .i64 pk, .int .i64 len, .slice A n c] [.int .i64 N, .int .i64 T, .int .i64 k, .int .i64 ll, .slice A1 m1 c1, .int .i64 lh, .slice A2 m2 c2] g1)
  have r2 := Lib.hid (range_mid [] [.int .i64 pN, .int .i64 pB, .int .i64 pl, .int .i64 pk, .int .i64 len, .slice B n d] [.int .i64 N, .int .i64 T, .int .i64 k, .int .i64 ll, .slice B1 m1 d1, .int .i64 lh, .slice B2 m2 d2] g2)
  clear hb1 s1 g1 g2
  go_enter Tryz.func43, Tryz.ntmps43
  go_wp2_with (first | (refine wpList_load_mid rfl 44 _ rfl w.heap.size 0 rfl [.int .i64 pN, .int .i64 pB, .int .i64 pl, .int .i64 pk, .int .i64 len, .slice A n c] _ (by first | exact r1.out | (rw [ew1]; exact r1.out)) Tryz.underlying44 rfl info_pd ?_) | (refine wpList_load_mid rfl 44 _ rfl (w.heap.size + 1) 0 rfl [.int .i64 pN, .int .i64 pB, .int .i64 pl, .int .i64 pk, .int .i64 len, .slice B n d] _ (by first | exact r2.out | (rw [ew1]; exact r2.out)) Tryz.underlying44 rfl info_pd ?_))
  try rw [ew1]
  refine (H1.out w1 HB1.out).mono ?_
  rintro e w2 ⟨rfl, q2⟩
  have HB2 : Hid (Below w.heap.size w w2) := HB1.out.trans (q2.mono HB1.out.size)
  have r3 := Lib.hid (range_mid [.int .i64 pN, .int .i64 pB, .int .i64 pl, .int .i64 pk, .int .i64 len, .slice A n c] [.int .i64 N, .int .i64 T, .int .i64 k, .int .i64 ll, .slice A1 m1 c1, .int .i64 lh, .slice A2 m2 c2] [] (HG.out w2 q2).1)
  have r4 := Lib.hid (range_mid [.int .i64 pN, .int .i64 pB, .int .i64 pl, .int .i64 pk, .int .i64 len, .slice B n d] [.int .i64 N, .int .i64 T, .int .i64 k, .int .i64 ll, .slice B1 m1 d1, .int .i64 lh, .slice B2 m2 d2] [] (HG.out w2 q2).2)
  clear q2 ew1 r1 r2
  go_wp2_with (first | (refine wpListG_load_mid (by kernel_rfl) 65 _ rfl w.heap.size 6 rfl [.int .i64 N, .int .i64 T, .int .i64 k, .int .i64 ll, .slice A1 m1 c1, .int .i64 lh, .slice A2 m2 c2] _ r3.out Tryz.underlying65 rfl info_fn ?_) | (refine wpListG_load_mid (by kernel_rfl) 65 _ rfl (w.heap.size + 1) 6 rfl [.int .i64 N, .int .i64 T, .int .i64 k, .int .i64 ll, .slice B1 m1 d1, .int .i64 lh, .slice B2 m2 d2] _ r4.out Tryz.underlying65 rfl info_fn ?_))
  refine (H2.out w2 HB2.out).mono ?_
  rintro e w3 ⟨rfl, q3⟩
  have HB3 : Hid (Below w.heap.size w w3) := HB2.out.trans (q3.mono HB2.out.size)
  clear q3 r3 r4
  go_wp2
  go_ret
  exact ⟨rfl, HB3.out⟩
theorem sshelf_true (pN pB pl pk len N T k ll lh : Int) (A B A1 A2 B1 B2 : Option Addr) (n c d m1 c1 d1 m2 c2 d2 : Nat) (bs b1 b2 : List Nat) (hn : bs.length = n) (h1 : b1.length = m1) (h2 : b2.length = m2) (hs : n ≤ 1000000 ∧ m1 ≤ 1000000 ∧ m2 ≤ 1000000) (w : World)
    (r0 : Rd w w.heap.size A bs) (s0 : Rd w w.heap.size B bs) (r1 : Rd w w.heap.size A1 b1) (s1 : Rd w w.heap.size B1 b1) (r2 : Rd w w.heap.size A2 b2) (s2 : Rd w w.heap.size B2 b2) :
    Calls Tryz.prog 43 #[.agg #[.int .i64 pN, .int .i64 pB, .int .i64 pl, .int .i64 pk, .int .i64 len, .slice A n c, .int .i64 N, .int .i64 T, .int .i64 k, .int .i64 ll, .slice A1 m1 c1, .int .i64 lh, .slice A2 m2 c2], .agg #[.int .i64 pN, .int .i64 pB, .int .i64 pl, .int .i64 pk, .int .i64 len, .slice B n d, .int .i64 N, .int .i64 T, .int .i64 k, .int .i64 ll, .slice B1 m1 d1, .int .i64 lh, .slice B2 m2 d2]] w fun e w' => e = .returned (.bool true) ∧ Below w.heap.size w w' := by
  have hsm : ∀ (l : Int) (A B : Option Addr) (c d : Nat) (b : List Nat) (m : Nat), b.length = m → m ≤ 1000000 → Rd w w.heap.size A b → Rd w w.heap.size B b → ∀ V, Below w.heap.size w V → Calls Tryz.prog 20 #[.agg #[.int .i64 l, .slice A m c], .agg #[.int .i64 l, .slice B m d]] V fun e w' => e = .returned (.bool true) ∧ Below V.heap.size V w' := fun l A B c d b m hm hm2 hA hB V hV => by
    have := sameBits_any V l l A B c d b b (by omega) (hA.on hV) (hB.on hV)
    rw [decide_eq_true rfl, decide_eq_true rfl, hm] at this
    exact this
  exact sshelf_w _ _ _ _ _ _ _ _ _ _ _ _ _ _ _ _ _ _ _ _ _ _ _ _ _ w
    (Lib.hid fun V hV => samep_true _ _ _ _ _ A B n c d V (Lib.hid fun V2 hV2 => hsm _ A B c d bs n hn hs.1 r0 s0 V2 (hV.trans (hV2.mono hV.size))))
    (Lib.hid fun V hV => rsf_w _ _ _ _ _ _ _ _ _ _ _ _ _ _ _ _ _ _ _ _ _ _ true true true V (by simp) (Lib.hid fun V2 hV2 => hsm _ A1 B1 c1 d1 b1 m1 h1 hs.2.1 r1 s1 V2 (hV.trans (hV2.mono hV.size))) (Lib.hid fun V2 hV2 => hsm _ A2 B2 c2 d2 b2 m2 h2 hs.2.2 r2 s2 V2 (hV.trans (hV2.mono hV.size))))
theorem build_ok {g : List (List Nat)} {N B ls k : Nat} {L : List Bool} {kk : Nat} {lS : List Nat} (h : Shl g N B ls k L kk lS) {R : List Rw} (hgs : gs R = g.map ns) (hcap : ∀ r ∈ R, r.2.2.length ≤ r.2.1) (AG : Option Addr) (cG : Nat) (V : World) (hR : RdG V V.heap.size AG R) :
    Calls Tryz.prog 36 #[.agg #[.slice AG N cG], .agg #[.int .i64 (B : Int), .int .i64 (ls : Int), .int .i64 (k : Int)]] V (BuP V (N : Int) (B : Int) (ls : Int) (k : Int) (L.length : Int) (pack L).length (pack L) (N : Int) (L.length : Int) (kk : Int) ((loP kk lS).length : Int) ((fhi kk lS L.length).length : Int) (pack (loP kk lS)).length (pack (fhi kk lS L.length)).length (pack (loP kk lS)) (pack (fhi kk lS L.length)) 0) :=
  build_l V AG N cG _ _ _ _ _ _ _ _ _ _ _ _ _ _ _ _ _ _ _
    (Lib.hid fun W hW => write_l N _ _ _ AG cG _ _ _ _ _ _ _ N _ N _ 0 W (Lib.hid fun W2 hW2 => shl_pack h hgs hcap AG cG W2 (hR.on (hW.trans (hW2.mono hW.size)))))
    (Lib.hid fun A c W hW => starts_ok h hgs hcap AG cG A c W (hR.on hW))
theorem check_zero {g : List (List Nat)} {N B ls k : Nat} {L : List Bool} {kk : Nat} {lS : List Nat} (h : Shl g N B ls k L kk lS) (h0 : N ≠ 0) (A : Option Addr) (c : Nat) (w : World) (r0 : Rd w w.heap.size A (pack L)) :
    Calls Tryz.prog 44 #[.agg #[.int .i64 (N : Int), .int .i64 (B : Int), .int .i64 (ls : Int), .int .i64 (k : Int), .int .i64 (L.length : Int), .slice A (pack L).length c, .int .i64 0, .int .i64 0, .int .i64 0, .int .i64 0, .slice none 0 0, .int .i64 0, .slice none 0 0]] w fun e w' => e = .returned (.int .i64 4) ∧ Below w.heap.size w w' := by
  refine check_g _ _ _ _ _ 0 0 0 0 0 A none none _ c 0 0 0 0 g N (N : Int) (L.length : Int) (kk : Int) ((loP kk lS).length : Int) ((fhi kk lS L.length).length : Int) (pack (loP kk lS)).length (pack (fhi kk lS L.length)).length (pack (loP kk lS)) (pack (fhi kk lS L.length)) false 4 rfl w (shl_read h A c w r0)
    (Lib.hid fun AG cG R V hV hR hgs hcap => starts_ok h hgs hcap AG cG A c V hR) (Lib.hid fun B1 d1 B2 d2 V hV q1 q2 => ?_)
  have := sfn_any 0 0 0 0 0 (N : Int) (L.length : Int) (kk : Int) ((loP kk lS).length : Int) ((fhi kk lS L.length).length : Int) none none B1 B2 0 0 d1 d2 [] [] (pack (loP kk lS)) (pack (fhi kk lS L.length)) (by simp) (by simp) (pack_lt _) (pack_lt _) V (.inl rfl) (.inl rfl) q1 q2
  refine this.mono fun e w' q => ⟨q.1.trans ?_, q.2⟩
  rw [decide_eq_false (show ¬ (0 : Int) = (N : Int) by omega)]
  simp
theorem shelfbegun_true (w : World) : Calls Tryz.prog 42 #[] w fun e w' => e = .returned (.bool true) ∧ Below w.heap.size w w' := by
  obtain ⟨kk, hkk⟩ : ∃ kk, fnw 6 sgL.length = kk := ⟨_, rfl⟩
  obtain ⟨lS, hlS⟩ : ∃ lS, pkS 3 3 2 sgG 6 = lS := ⟨_, rfl⟩
  have h : Shl sgG 6 3 3 2 sgL kk lS := ⟨sg_ok, rfl, by omega, by omega, by omega, by omega, rfl, sg_fits, hkk, hlS⟩
  have e1 : row sgG 1 = [1, 2, 3, 5] := rfl
  have e2 : stp 3 3 2 sgG 1 = 2 := by decide +kernel
  have e4 : ((ns (row sgG 4)).any fun z => ((4 : Nat) : Int) == z) = true := by decide
  have e5 : ((ns (row sgG 4)).any fun z => ((5 : Nat) : Int) == z) = false := by decide
  refine shbegun_w w (6 : Nat) (3 : Nat) (3 : Nat) (2 : Nat) (sgL.length : Int) (6 : Nat) (sgL.length : Int) (kk : Int) ((loP kk lS).length : Int) ((fhi kk lS sgL.length).length : Int) (pack sgL).length (pack (loP kk lS)).length (pack (fhi kk lS sgL.length)).length (pack sgL) (pack (loP kk lS)) (pack (fhi kk lS sgL.length))
    (Lib.hid fun V => some_ok V) (Lib.hid fun A c R V hR hgs hcap => build_ok h hgs hcap A c V hR) (Lib.hid fun A A1 A2 c c1 c2 V r0 r1 r2 => ?_) (Lib.hid fun A A1 A2 c c1 c2 V r0 r1 r2 => ?_) (Lib.hid fun A A1 A2 c c1 c2 V r0 r1 r2 => ?_) (Lib.hid fun A A1 A2 c c1 c2 V r0 r1 r2 => list_no h A A1 A2 c c1 c2 V r0 r1 r2 6 (by omega)) (Lib.hid fun A A1 A2 c c1 c2 V r0 r1 r2 => check_ok h A A1 A2 c c1 c2 V r0 r1 r2) (Lib.hid fun A c V r0 => check_zero h (by omega) A c V r0) (Lib.hid fun A B c d V h1 h2 => ?_)
  · have := list_ok h A A1 A2 c c1 c2 V r0 r1 r2 1 (by omega)
    rw [e1, e2] at this
    exact this
  · have := leads_ok h A A1 A2 c c1 c2 V r0 r1 r2 4 4 (by omega) (by omega)
    rw [e4] at this
    exact this
  · have := leads_ok h A A1 A2 c c1 c2 V r0 r1 r2 4 5 (by omega) (by omega)
    rw [e5] at this
    exact this
  · have := same_ints V A B c d (ns [1, 2, 3, 5]) (ns [1, 2, 3, 5]) 4 rfl rfl (by omega) h1 h2
    rw [decide_eq_true rfl] at this
    exact this
end
end Go.Proofs.YtbddcokjkdoaaaaGreat
