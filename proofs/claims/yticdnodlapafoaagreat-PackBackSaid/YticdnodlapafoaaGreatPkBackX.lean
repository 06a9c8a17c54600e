/- A graph is read from what was written, and what is read is written just so (PackBack): the walk. -/
import Derived.Test.YticdnodlapafoaaGreatPkSa
import Derived.Test.YticdnodlapafoaaGreatPkBg
import Derived.Test.YticdnodlapafoaaGreatJS2
import Derived.Test.YticdnodlapafoaaGreatJSNMem
import Derived.Test.YticdnodlapafoaaGreatJSWChk
import Derived.Deep.Matrix
import Derived.Deep.SlicePairs
import Derived.SizedLaws
import Derived.Test.YticdnodlapafoaaGreatJS8
import Derived.Test.YticdnodlapafoaaGreatJS9
namespace Go.Proofs.YticdnodlapafoaaGreat

section
set_option maxRecDepth 100000
set_option linter.unusedVariables false
open Go.RowKit Go.Shelf

/-- What Read gives, in any case. -/
def PrX (w : World) (G : List (List Nat)) (n : Nat) (er : Int) (e : Ending) (w' : World) : Prop :=
  ∃ AG cG R, e = .returned (.tuple #[.agg #[.slice AG n cG], .int .i64 er]) ∧ gs R = G.map ns ∧ R.length = n ∧ (∀ r ∈ R, r.2.2.length ≤ r.2.1) ∧ RdK w.heap.size w' AG R ∧ Below w.heap.size w w'
theorem PrX.ofE {w : World} {er : Int} {e : Ending} {w' : World} (h : PrE w er e w') : PrX w [] 0 er e w' :=
  ⟨none, 0, [], h.1, rfl, rfl, by simp, fun W _ _ => ⟨.inl rfl, fun r hr => by simp at hr⟩, h.2⟩
theorem PrX.ofG {w : World} {G : List (List Nat)} {e : Ending} {w' : World} (h : PrG w G G.length e w') : PrX w G G.length 0 e w' := by
  obtain ⟨AG, cG, R, h1, h2, h3, h4, h5⟩ := h
  exact ⟨AG, cG, R, h1, h2, by have := congrArg List.length h2; simpa [gs_length] using this, h3, h4, h5⟩
/-- What was handed in, in its boxes. -/
def PkI (w W : World) (AG : Option Addr) (NG cG : Nat) (B ls k : Int) (N B2 ls2 k2 len : Int) (A : Option Addr) (n c : Nat) : Prop :=
  Below w.heap.size w W ∧ W.heap[w.heap.size]? = some (.cells #[.slice AG NG cG] 52 (0, 0)) ∧ W.heap[w.heap.size + 1]? = some (.cells #[.int .i64 B, .int .i64 ls, .int .i64 k] 24 (0, 0)) ∧ W.heap[w.heap.size + 1 + 1]? = some (.cells #[.int .i64 N, .int .i64 B2, .int .i64 ls2, .int .i64 k2, .int .i64 len, .slice A n c] 54 (0, 0))
theorem PkI.on {w W X : World} {AG : Option Addr} {NG cG : Nat} {B ls k N B2 ls2 k2 len : Int} {A : Option Addr} {n c : Nat} (h : PkI w W AG NG cG B ls k N B2 ls2 k2 len A n c) (hb : Below W.heap.size W X) : PkI w X AG NG cG B ls k N B2 ls2 k2 len A n c :=
  ⟨h.1.trans (hb.mono h.1.size), (hb.block _ (Array.getElem?_eq_some_iff.1 h.2.1).1).trans h.2.1, (hb.block _ (Array.getElem?_eq_some_iff.1 h.2.2.1).1).trans h.2.2.1, (hb.block _ (Array.getElem?_eq_some_iff.1 h.2.2.2).1).trans h.2.2.2⟩
/-- A packed graph in a place of its own. -/
def PkO (W : World) (b : Nat) (N B ls k len : Int) (n : Nat) (bs : List Nat) (A : Option Addr) (c : Nat) : Prop := W.heap[b]? = some (.cells #[.int .i64 N, .int .i64 B, .int .i64 ls, .int .i64 k, .int .i64 len, .slice A n c] 54 (0, 0)) ∧ Rd W W.heap.size A bs
theorem PkO.on {W X : World} {b : Nat} {N B ls k len : Int} {n : Nat} {bs : List Nat} {A : Option Addr} {c : Nat} (h : PkO W b N B ls k len n bs A c) (hb : Below W.heap.size W X) : PkO X b N B ls k len n bs A c :=
  ⟨(hb.block _ (Array.getElem?_eq_some_iff.1 h.1).1).trans h.1, h.2.on hb⟩
/-- A graph in a place of its own. -/
def GrO (W : World) (b : Nat) (A : Option Addr) (n c : Nat) (R : List Rw) : Prop := W.heap[b]? = some (.cells #[.slice A n c] 52 (0, 0)) ∧ RdG W W.heap.size A R
theorem GrO.on {W X : World} {b : Nat} {A : Option Addr} {n c : Nat} {R : List Rw} (h : GrO W b A n c R) (hb : Below W.heap.size W X) : GrO X b A n c R :=
  ⟨(hb.block _ (Array.getElem?_eq_some_iff.1 h.1).1).trans h.1, h.2.on hb⟩
set_option maxHeartbeats 8000000 in
theorem packback_w (w : World) (A0 : Option Addr) (n0 c0 : Nat) (R0 : List Rw) (B ls k : Int) (N B2 ls2 k2 len : Int) (A2 : Option Addr) (n2 c2 : Nat) (bs : List Nat) (hG : RdG w w.heap.size A0 R0) (hR0 : R0.length = n0) (hn0 : n0 ≤ 9223372036854775807) (hR : Rd w w.heap.size A2 bs)
    (N1 B1 ls1 k1 len1 : Int) (n1 : Nat) (bs1 : List Nat) (e1 : Int) (G1 : List (List Nat)) (G2 : List (List Nat)) (m2 : Nat) (e2 : Int)
    (HBg : Hid (∀ V, Calls Tryz.prog 36 #[] V fun e w' => e = .returned (.bool true) ∧ Below V.heap.size V w'))
    (HW : Hid (∀ V, Below w.heap.size w V → Calls Tryz.prog 30 #[.agg #[.slice A0 n0 c0], .agg #[.int .i64 B, .int .i64 ls, .int .i64 k]] V (PwP V N1 B1 ls1 k1 len1 n1 bs1 e1)))
    (HR2 : Hid (∀ V, Below w.heap.size w V → Calls Tryz.prog 31 #[.agg #[.int .i64 N, .int .i64 B2, .int .i64 ls2, .int .i64 k2, .int .i64 len, .slice A2 n2 c2]] V (PrX V G2 m2 e2)))
    (HR1 : Hid (e1 = 0 → gs R0 = G1.map ns ∧ ∀ A c V, Rd V V.heap.size A bs1 → Calls Tryz.prog 31 #[.agg #[.int .i64 N1, .int .i64 B1, .int .i64 ls1, .int .i64 k1, .int .i64 len1, .slice A n1 c]] V (PrX V G1 n0 0)))
    (HE2 : Hid (e2 ≠ 0 → G2 = [] ∧ m2 = 0))
    (HW2 : Hid (e2 = 0 → (∀ A c R V, RdG V V.heap.size A R → gs R = G2.map ns → (∀ r ∈ R, r.2.2.length ≤ r.2.1) → Calls Tryz.prog 30 #[.agg #[.slice A m2 c], .agg #[.int .i64 B2, .int .i64 ls2, .int .i64 k2]] V (PwP V N B2 ls2 k2 len n2 bs 0)) ∧ bs.length = n2 ∧ n2 ≤ 140737488355328)) :
    Calls Tryz.prog 10 #[.agg #[.slice A0 n0 c0], .agg #[.int .i64 B, .int .i64 ls, .int .i64 k], .agg #[.int .i64 N, .int .i64 B2, .int .i64 ls2, .int .i64 k2, .int .i64 len, .slice A2 n2 c2]] w fun e w' => e = .returned (.bool true) ∧ Below w.heap.size w w' := by
  obtain ⟨w1, ew1, s1, hb1, g2, g3, g4⟩ := three_at w n0 B ls k A0 c0 (.cells #[.int .i64 N, .int .i64 B2, .int .i64 ls2, .int .i64 k2, .int .i64 len, .slice A2 n2 c2] 54)
  have HI1 : Hid (PkI w w1 A0 n0 c0 B ls k N B2 ls2 k2 len A2 n2 c2) := ⟨hb1, g2, g3, g4⟩
  have HG := Lib.hid hG
  have HR := Lib.hid hR
  have HN0 : Hid (R0.length = n0 ∧ n0 ≤ 9223372036854775807) := ⟨hR0, hn0⟩
  clear hb1 s1 g4 hG hR hR0 hn0
  have k0 := box_cell g2
  obtain ⟨a1, a2, a3⟩ := how_at g3
  clear g2 g3
  go_enter Tryz.func10, Tryz.ntmps10
  go_wp2_with fail
  try rw [ew1]
  refine (HW.out w1 HI1.out.1).mono ?_
  rintro e w2 ⟨A3, c3, rfl, r3, q3⟩
  obtain ⟨X, hX, hth, hx, hbX, hzX⟩ := pd_new w2 [.int .i64 N1, .int .i64 B1, .int .i64 ls1, .int .i64 k1, .int .i64 len1, .slice A3 n1 c3] rfl
  have HI2 := Lib.hid (HI1.out.on (q3.trans (hbX.mono q3.size)))
  have HO2 : Hid (PkO X w2.heap.size N1 B1 ls1 k1 len1 n1 bs1 A3 c3) := ⟨hx, r3.on hbX⟩
  have hrg := range_all (cs := [.int .i64 N, .int .i64 B2, .int .i64 ls2, .int .i64 k2, .int .i64 len, .slice A2 n2 c2]) HI2.out.2.2.2
  clear q3 r3 ew1 k0 a1 a2 a3 hx hbX hzX HI1
  go_wp2_with (first | (refine wpList_store_mid rfl 54 _ _ rfl w2.heap.size 0 #[.int .i64 N1, .int .i64 B1, .int .i64 ls1, .int .i64 k1, .int .i64 len1, .slice A3 n1 c3] rfl rfl hth info_pd (by simp [Value.oneCell']) ?_; rw [hX]; clear hX hth) | (refine wpList_load_mid rfl 54 _ rfl (w.heap.size + 1 + 1) 0 rfl [.int .i64 N, .int .i64 B2, .int .i64 ls2, .int .i64 k2, .int .i64 len, .slice A2 n2 c2] _ hrg Tryz.underlying54 rfl info_pd ?_))
  obtain ⟨b7, hb7⟩ : ∃ b7, w2.heap.size = b7 := ⟨_, rfl⟩
  rw [hb7] at HO2
  try rw [hb7]
  clear hb7 hrg
  refine (HR2.out X HI2.out.1).mono ?_
  rintro e w3 ⟨A4, c4, R4, rfl, k1', k2', k3', k4, q4⟩
  have hb4 : Below X.heap.size X (w3.alloc (.cells #[.slice A4 m2 c4] 52)) := q4.trans ((one_below w3 _).mono q4.size)
  have HI4 := Lib.hid (HI2.out.on hb4)
  have HO4 := Lib.hid (HO2.out.on hb4)
  have HG4 : Hid (GrO (w3.alloc (.cells #[.slice A4 m2 c4] 52)) w3.heap.size A4 m2 c4 R4) := ⟨World.alloc_heap_new w3 _, (k4.on (one_below w3 _)).here⟩
  have HR4 : Hid (gs R4 = G2.map ns ∧ R4.length = m2 ∧ ∀ r ∈ R4, r.2.2.length ≤ r.2.1) := ⟨k1', k2', k3'⟩
  clear HI2 HO2 k1' k2' k3' k4 q4 hb4
  go_wp2_with fail
  obtain ⟨b9, hb9⟩ : ∃ b9, w3.heap.size = b9 := ⟨_, rfl⟩
  obtain ⟨W4, hW4⟩ : ∃ W4, w3.alloc (.cells #[.slice A4 m2 c4] 52) = W4 := ⟨_, rfl⟩
  rw [hb9, hW4] at HG4
  rw [hW4] at HI4 HO4
  try rw [hb9]
  try rw [hW4]
  clear hb9 hW4
  refine (HBg.out W4).mono ?_
  rintro e w5 ⟨rfl, q5⟩
  have HI5 := Lib.hid (HI4.out.on q5)
  have HO5 := Lib.hid (HO4.out.on q5)
  have HG5 := Lib.hid (HG4.out.on q5)
  clear HI4 HO4 HG4 q5
  by_cases h1 : e1 = 0
  · subst h1
    have HR3 := Lib.hid (HR1.out rfl)
    clear HR1
    have hrg := range_all (cs := [.int .i64 N1, .int .i64 B1, .int .i64 ls1, .int .i64 k1, .int .i64 len1, .slice A3 n1 c3]) HO5.out.1
    go_wp2_with (refine wpList_load_mid rfl 54 _ rfl b7 0 rfl [.int .i64 N1, .int .i64 B1, .int .i64 ls1, .int .i64 k1, .int .i64 len1, .slice A3 n1 c3] _ hrg Tryz.underlying54 rfl info_pd ?_)
    refine (HR3.out.2 A3 c3 w5 HO5.out.2).mono ?_
    rintro e w6 ⟨A6, c6, R6, rfl, k1', k2', k3', k4, q6⟩
    have hb6 : Below w5.heap.size w5 (w6.alloc (.cells #[.slice A6 n0 c6] 52)) := q6.trans ((one_below w6 _).mono q6.size)
    have HI6 := Lib.hid (HI5.out.on hb6)
    have HG6 := Lib.hid (HG5.out.on hb6)
    have HS6 : Hid (∀ V, Below (w6.alloc (.cells #[.slice A6 n0 c6] 52)).heap.size (w6.alloc (.cells #[.slice A6 n0 c6] 52)) V → Calls Tryz.prog 38 #[.agg #[.slice A6 n0 c6], .agg #[.slice A0 n0 c0]] V fun e w' => e = .returned (.bool true) ∧ Below V.heap.size V w') := fun V hV => by
      have h := sameG_any V A6 A0 c6 c0 R6 R0 n0 n0 k2' HN0.out.1 HN0.out.2 ((k4.on ((one_below w6 _).trans (hV.mono (by rw [World.size_alloc]; omega)))).here) (HG.out.on (HI6.out.1.trans (hV.mono HI6.out.1.size)))
      rw [k1', HR3.out.1] at h
      simpa using h
    have hg6 := World.alloc_heap_new w6 (.cells #[.slice A6 n0 c6] 52)
    clear hrg HI5 HG5 HO5 k1' k2' k3' k4 q6 hb6
    have x1 := box_cell hg6
    have x2 := box_cell HI6.out.2.1
    go_wp2_with fail
    refine (HS6.out _ (Below.refl _ _)).mono ?_
    rintro e w7 ⟨rfl, q7⟩
    have HI7 := Lib.hid (HI6.out.on q7)
    have HG7 := Lib.hid (HG6.out.on q7)
    clear HS6 HI6 HG6 q7 x1 x2 hg6
    by_cases h2 : e2 = 0
    · subst h2
      have HW3 := Lib.hid (HW2.out rfl)
      have y1 := box_cell HG7.out.1
      have y2 : w7.cell? ⟨w.heap.size + 1 + 1, 1, none⟩ = some (.int .i64 B2) := (cell_at HI7.out.2.2.2 1).trans rfl
      have y3 : w7.cell? ⟨w.heap.size + 1 + 1, 2, none⟩ = some (.int .i64 ls2) := (cell_at HI7.out.2.2.2 2).trans rfl
      have y4 : w7.cell? ⟨w.heap.size + 1 + 1, 3, none⟩ = some (.int .i64 k2) := (cell_at HI7.out.2.2.2 3).trans rfl
      clear HW2 HE2
      go_wp2_with fail
      refine (HW3.out.1 A4 c4 R4 w7 HG7.out.2 HR4.out.1 HR4.out.2.2).mono ?_
      rintro e w8 ⟨A8, c8, rfl, r8, q8⟩
      obtain ⟨X8, hX8, hth8, hx8, hbX8, hzX8⟩ := pd_new w8 [.int .i64 N, .int .i64 B2, .int .i64 ls2, .int .i64 k2, .int .i64 len, .slice A8 n2 c8] rfl
      have HI8 := Lib.hid (HI7.out.on (q8.trans (hbX8.mono q8.size)))
      have HR8 := Lib.hid (r8.on hbX8)
      have u0 : X8.cell? ⟨w8.heap.size, 0, none⟩ = some (.int .i64 N) := (cell_at hx8 0).trans rfl
      have u1 : X8.cell? ⟨w8.heap.size, 1, none⟩ = some (.int .i64 B2) := (cell_at hx8 1).trans rfl
      have u2 : X8.cell? ⟨w8.heap.size, 2, none⟩ = some (.int .i64 ls2) := (cell_at hx8 2).trans rfl
      have u3 : X8.cell? ⟨w8.heap.size, 3, none⟩ = some (.int .i64 k2) := (cell_at hx8 3).trans rfl
      have u4 : X8.cell? ⟨w8.heap.size, 4, none⟩ = some (.int .i64 len) := (cell_at hx8 4).trans rfl
      have u5 : X8.cell? ⟨w8.heap.size, 5, none⟩ = some (.slice A8 n2 c8) := (cell_at hx8 5).trans rfl
      have v0 : X8.cell? ⟨w.heap.size + 1 + 1, 0, none⟩ = some (.int .i64 N) := (cell_at HI8.out.2.2.2 0).trans rfl
      have v1 : X8.cell? ⟨w.heap.size + 1 + 1, 1, none⟩ = some (.int .i64 B2) := (cell_at HI8.out.2.2.2 1).trans rfl
      have v2 : X8.cell? ⟨w.heap.size + 1 + 1, 2, none⟩ = some (.int .i64 ls2) := (cell_at HI8.out.2.2.2 2).trans rfl
      have v3 : X8.cell? ⟨w.heap.size + 1 + 1, 3, none⟩ = some (.int .i64 k2) := (cell_at HI8.out.2.2.2 3).trans rfl
      have v4 : X8.cell? ⟨w.heap.size + 1 + 1, 4, none⟩ = some (.int .i64 len) := (cell_at HI8.out.2.2.2 4).trans rfl
      have v5 : X8.cell? ⟨w.heap.size + 1 + 1, 5, none⟩ = some (.slice A2 n2 c2) := (cell_at HI8.out.2.2.2 5).trans rfl
      clear q8 r8 hx8 hbX8 hzX8 y1 y2 y3 y4 HI7 HG7
      go_wp2_with (refine wpList_store_mid rfl 54 _ _ rfl w8.heap.size 0 #[.int .i64 N, .int .i64 B2, .int .i64 ls2, .int .i64 k2, .int .i64 len, .slice A8 n2 c8] rfl rfl hth8 info_pd (by simp [Value.oneCell']) ?_; rw [hX8]; clear hX8 hth8)
      refine (samep_true N B2 ls2 k2 len A8 A2 n2 c8 c2 X8 (Lib.hid fun V hV => by
        have h := sameBits_any V len len A8 A2 c8 c2 bs bs (by rw [HW3.out.2.1]; exact HW3.out.2.2) (HR8.out.on hV) (HR.out.on (HI8.out.1.trans (hV.mono HI8.out.1.size)))
        rw [HW3.out.2.1] at h
        simpa using h)).mono ?_
      rintro e w10 ⟨rfl, q10⟩
      have HFin := Lib.hid (HI8.out.1.trans (q10.mono HI8.out.1.size))
      clear q10 u0 u1 u2 u3 u4 u5 v0 v1 v2 v3 v4 v5
      go_wp2
      go_ret
      exact ⟨rfl, HFin.out⟩
    · have t2 : (e2 != 0) = true := by simpa using h2
      obtain ⟨rfl, rfl⟩ := HE2.out h2
      have y1 := box_cell HG7.out.1
      clear h2
      go_wp2_with fail
      have HS8 := sameG_any w7 A4 none c4 0 R4 [] 0 0 HR4.out.2.1 rfl (by omega) HG7.out.2 ⟨.inl rfl, fun r hr => by simp at hr⟩
      rw [HR4.out.1, show decide (([] : List (List Nat)).map ns = gs []) = true from rfl] at HS8
      refine HS8.mono ?_
      rintro e w10 ⟨rfl, q10⟩
      have HFin := Lib.hid (HI7.out.1.trans (q10.mono HI7.out.1.size))
      clear q10 y1
      go_wp2
      go_ret
      exact ⟨rfl, HFin.out⟩
  · have t1 : (e1 == 0) = false := by simpa using h1
    clear h1 HR1
    by_cases h2 : e2 = 0
    · subst h2
      have HW3 := Lib.hid (HW2.out rfl)
      have y1 := box_cell HG5.out.1
      have y2 : w5.cell? ⟨w.heap.size + 1 + 1, 1, none⟩ = some (.int .i64 B2) := (cell_at HI5.out.2.2.2 1).trans rfl
      have y3 : w5.cell? ⟨w.heap.size + 1 + 1, 2, none⟩ = some (.int .i64 ls2) := (cell_at HI5.out.2.2.2 2).trans rfl
      have y4 : w5.cell? ⟨w.heap.size + 1 + 1, 3, none⟩ = some (.int .i64 k2) := (cell_at HI5.out.2.2.2 3).trans rfl
      clear HW2 HE2
      go_wp2_with fail
      refine (HW3.out.1 A4 c4 R4 w5 HG5.out.2 HR4.out.1 HR4.out.2.2).mono ?_
      rintro e w8 ⟨A8, c8, rfl, r8, q8⟩
      obtain ⟨X8, hX8, hth8, hx8, hbX8, hzX8⟩ := pd_new w8 [.int .i64 N, .int .i64 B2, .int .i64 ls2, .int .i64 k2, .int .i64 len, .slice A8 n2 c8] rfl
      have HI8 := Lib.hid (HI5.out.on (q8.trans (hbX8.mono q8.size)))
      have HR8 := Lib.hid (r8.on hbX8)
      have u0 : X8.cell? ⟨w8.heap.size, 0, none⟩ = some (.int .i64 N) := (cell_at hx8 0).trans rfl
      have u1 : X8.cell? ⟨w8.heap.size, 1, none⟩ = some (.int .i64 B2) := (cell_at hx8 1).trans rfl
      have u2 : X8.cell? ⟨w8.heap.size, 2, none⟩ = some (.int .i64 ls2) := (cell_at hx8 2).trans rfl
      have u3 : X8.cell? ⟨w8.heap.size, 3, none⟩ = some (.int .i64 k2) := (cell_at hx8 3).trans rfl
      have u4 : X8.cell? ⟨w8.heap.size, 4, none⟩ = some (.int .i64 len) := (cell_at hx8 4).trans rfl
      have u5 : X8.cell? ⟨w8.heap.size, 5, none⟩ = some (.slice A8 n2 c8) := (cell_at hx8 5).trans rfl
      have v0 : X8.cell? ⟨w.heap.size + 1 + 1, 0, none⟩ = some (.int .i64 N) := (cell_at HI8.out.2.2.2 0).trans rfl
      have v1 : X8.cell? ⟨w.heap.size + 1 + 1, 1, none⟩ = some (.int .i64 B2) := (cell_at HI8.out.2.2.2 1).trans rfl
      have v2 : X8.cell? ⟨w.heap.size + 1 + 1, 2, none⟩ = some (.int .i64 ls2) := (cell_at HI8.out.2.2.2 2).trans rfl
      have v3 : X8.cell? ⟨w.heap.size + 1 + 1, 3, none⟩ = some (.int .i64 k2) := (cell_at HI8.out.2.2.2 3).trans rfl
      have v4 : X8.cell? ⟨w.heap.size + 1 + 1, 4, none⟩ = some (.int .i64 len) := (cell_at HI8.out.2.2.2 4).trans rfl
      have v5 : X8.cell? ⟨w.heap.size + 1 + 1, 5, none⟩ = some (.slice A2 n2 c2) := (cell_at HI8.out.2.2.2 5).trans rfl
      clear q8 r8 hx8 hbX8 hzX8 y1 y2 y3 y4 HI5 HG5
      go_wp2_with (refine wpList_store_mid rfl 54 _ _ rfl w8.heap.size 0 #[.int .i64 N, .int .i64 B2, .int .i64 ls2, .int .i64 k2, .int .i64 len, .slice A8 n2 c8] rfl rfl hth8 info_pd (by simp [Value.oneCell']) ?_; rw [hX8]; clear hX8 hth8)
      refine (samep_true N B2 ls2 k2 len A8 A2 n2 c8 c2 X8 (Lib.hid fun V hV => by
        have h := sameBits_any V len len A8 A2 c8 c2 bs bs (by rw [HW3.out.2.1]; exact HW3.out.2.2) (HR8.out.on hV) (HR.out.on (HI8.out.1.trans (hV.mono HI8.out.1.size)))
        rw [HW3.out.2.1] at h
        simpa using h)).mono ?_
      rintro e w10 ⟨rfl, q10⟩
      have HFin := Lib.hid (HI8.out.1.trans (q10.mono HI8.out.1.size))
      clear q10 u0 u1 u2 u3 u4 u5 v0 v1 v2 v3 v4 v5
      go_wp2
      go_ret
      exact ⟨rfl, HFin.out⟩
    · have t2 : (e2 != 0) = true := by simpa using h2
      obtain ⟨rfl, rfl⟩ := HE2.out h2
      have y1 := box_cell HG5.out.1
      clear h2
      go_wp2_with fail
      have HS8 := sameG_any w5 A4 none c4 0 R4 [] 0 0 HR4.out.2.1 rfl (by omega) HG5.out.2 ⟨.inl rfl, fun r hr => by simp at hr⟩
      rw [HR4.out.1, show decide (([] : List (List Nat)).map ns = gs []) = true from rfl] at HS8
      refine HS8.mono ?_
      rintro e w10 ⟨rfl, q10⟩
      have HFin := Lib.hid (HI5.out.1.trans (q10.mono HI5.out.1.size))
      clear q10 y1
      go_wp2
      go_ret
      exact ⟨rfl, HFin.out⟩
end

section
set_option maxRecDepth 100000
set_option linter.unusedVariables false
open Go.RowKit Go.Shelf

/-- What was written of a graph is read as that graph. -/
theorem read_back (g : List (List Nat)) (hok : GOk g) (B ls k : Nat) (hB : B ≤ 7) (hls : ls = 0 ∨ 2 ≤ ls ∧ ls ≤ 300) (hk : 1 ≤ k) (hk2 : k ≤ 16) (hf : (pkB B ls k g g.length).length ≤ 8192) (A : Option Addr) (c : Nat) (V : World) (h : Rd V V.heap.size A (pack (pkB B ls k g g.length))) :
    Calls Tryz.prog 31 #[.agg #[.int .i64 (g.length : Int), .int .i64 (B : Int), .int .i64 (ls : Int), .int .i64 (k : Int), .int .i64 ((pkB B ls k g g.length).length : Int), .slice A (pack (pkB B ls k g g.length)).length c]] V (PrG V g g.length) := by
  rcases read_ways (g.length : Int) (B : Int) (ls : Int) (k : Int) ((pkB B ls k g g.length).length : Int) (pack (pkB B ls k g g.length)) _ rfl (pack_lt _) A c V h with ⟨er, -, -, -, hno, -⟩ | ⟨g2, B', ls', k', a1, a2, a3, b1, b2, b3, b4, hok2, a4, a5, hf2, hp, HR⟩
  · exact absurd rfl (hno g B ls k rfl rfl rfl hB hls hk hk2 hok rfl rfl hf)
  · obtain rfl : B' = B := by omega
    obtain rfl : ls' = ls := by omega
    obtain rfl : k' = k := by omega
    have hgl : g2.length = g.length := by omega
    have e : pkB B' ls' k' g2 g2.length = pkB B' ls' k' g g.length := by
      have hl : (pkB B' ls' k' g g.length).length = (pkB B' ls' k' g2 g2.length).length := by omega
      rw [← unpack_pack (pkB B' ls' k' g2 g2.length), ← hp, ← hl, unpack_pack]
    have q1 := rdA_all B' ls' k' hk hB g2 (gok_rows hok2) (by have := hok2.nodes; omega)
    have q2 := rdA_all B' ls' k' hk hB g (gok_rows hok) (by have := hok.nodes; omega)
    rw [e, hgl] at q1
    rw [q1] at q2
    have e3 : g2 = g := by injection q2 with q2; injection q2
    subst e3
    exact HR.out V (Below.refl _ V)
set_option maxHeartbeats 1000000 in
theorem packBack_law (A0 : Option Addr) (c0 : Nat) (R0 : List Rw) (B ls k : Int) (N B2 ls2 k2 len : Int) (A2 : Option Addr) (c2 : Nat) (bs : List Nat) (w : World) (hG : RdG w w.heap.size A0 R0) (hn : R0.length ≤ 140737488355328) (hcap : ∀ r ∈ R0, r.2.2.length ≤ r.2.1) (hbs : ∀ b ∈ bs, b < 256) (hR : Rd w w.heap.size A2 bs) :
    Calls Tryz.prog 10 #[.agg #[.slice A0 R0.length c0], .agg #[.int .i64 B, .int .i64 ls, .int .i64 k], .agg #[.int .i64 N, .int .i64 B2, .int .i64 ls2, .int .i64 k2, .int .i64 len, .slice A2 bs.length c2]] w fun e w' => e = .returned (.bool true) ∧ Below w.heap.size w w' := by
  have HBg : Hid (∀ V, Calls Tryz.prog 36 #[] V fun e w' => e = .returned (.bool true) ∧ Below V.heap.size V w') := fun V => packbegun_ok V
  -- what Read says
  have hread : ∃ (G2 : List (List Nat)) (m2 : Nat) (e2 : Int), Hid (∀ V, Below w.heap.size w V → Calls Tryz.prog 31 #[.agg #[.int .i64 N, .int .i64 B2, .int .i64 ls2, .int .i64 k2, .int .i64 len, .slice A2 bs.length c2]] V (PrX V G2 m2 e2)) ∧ Hid (e2 ≠ 0 → G2 = [] ∧ m2 = 0) ∧
      Hid (e2 = 0 → (∀ A c R V, RdG V V.heap.size A R → gs R = G2.map ns → (∀ r ∈ R, r.2.2.length ≤ r.2.1) → Calls Tryz.prog 30 #[.agg #[.slice A m2 c], .agg #[.int .i64 B2, .int .i64 ls2, .int .i64 k2]] V (PwP V N B2 ls2 k2 len bs.length bs 0)) ∧ bs.length = bs.length ∧ bs.length ≤ 140737488355328) := by
    rcases read_ways N B2 ls2 k2 len bs _ rfl hbs A2 c2 w hR with ⟨er, h0, -, -, -, HR⟩ | ⟨g, B', ls', k', rfl, rfl, rfl, hB, hls, hk, hk2, hok, rfl, rfl, hf, hp, HR⟩
    · exact ⟨[], 0, er, Lib.hid fun V hV => (HR.out V hV).mono fun e w' q => PrX.ofE q, Lib.hid fun _ => ⟨rfl, rfl⟩, Lib.hid fun q => absurd q h0⟩
    · refine ⟨g, g.length, 0, Lib.hid fun V hV => (HR.out V hV).mono fun e w' q => PrX.ofG q, Lib.hid fun q => absurd rfl q, Lib.hid fun _ => ⟨fun A c R V h1 h2 h3 => ?_, rfl, ?_⟩⟩
      · rw [hp]
        have hGr : GrR g R := ⟨hok, h2, h3⟩
        exact write_l g.length (B' : Int) (ls' : Int) (k' : Int) A c _ _ _ _ _ _ _ g.length _ g.length _ 0 V (Lib.hid fun W hW => (pack_ok hGr g.length hGr.len B' ls' k' hB hls hk hk2 A c W (h1.on hW)).mono fun e w' q => by
          unfold PakP at q
          rw [if_pos hf] at q
          exact q)
      · rw [hp, pack_length]; omega
  obtain ⟨G2, m2, e2, HR2, HE2, HW2⟩ := hread
  rcases pack_ways R0 _ rfl hn hcap B ls k A0 c0 w hG with ⟨er, h0, -, HP⟩ | ⟨g, B', ls', k', rfl, rfl, rfl, hB, hls, hk, hk2, hGr, hgl, hf, HP⟩
  · exact packback_w w A0 _ c0 R0 B ls k N B2 ls2 k2 len A2 _ c2 bs hG rfl (by omega) hR 0 0 0 0 0 0 [] er [] G2 m2 e2 HBg
      (Lib.hid fun V hV => write_l R0.length B ls k A0 c0 0 0 0 0 0 0 [] 0 [] 0 [] er V (Lib.hid fun W hW => HP.out W (hV.trans (hW.mono hV.size)))) HR2 (Lib.hid fun q => absurd q h0) HE2 HW2
  · have HW1 : Hid (∀ V, Below w.heap.size w V → Calls Tryz.prog 30 #[.agg #[.slice A0 R0.length c0], .agg #[.int .i64 (B' : Int), .int .i64 (ls' : Int), .int .i64 (k' : Int)]] V (PwP V (R0.length : Int) (B' : Int) (ls' : Int) (k' : Int) ((pkB B' ls' k' g R0.length).length : Int) (pack (pkB B' ls' k' g R0.length)).length (pack (pkB B' ls' k' g R0.length)) 0)) :=
      Lib.hid fun V hV => write_l R0.length _ _ _ A0 c0 _ _ _ _ _ _ _ R0.length _ R0.length _ 0 V (Lib.hid fun W hW => HP.out W (hV.trans (hW.mono hV.size)))
    refine packback_w w A0 _ c0 R0 _ _ _ N B2 ls2 k2 len A2 _ c2 bs hG rfl (by omega) hR _ _ _ _ _ _ _ 0 g G2 m2 e2 HBg HW1 HR2 (Lib.hid fun _ => ⟨hGr.eq, fun A c V h => ?_⟩) HE2 HW2
    rw [← hgl] at h ⊢
    rw [← hgl] at hf
    exact (read_back g hGr.ok B' ls' k' hB hls hk hk2 hf A c V h).mono fun e w' q => PrX.ofG q
end

section
open Go.ChangeShapes Go.WideShapes Go.ChangeAt Go.RowKit Go.Joins

theorem cells3i : Tryz.prog.cellsOf 3 = 1 := by kernel_rfl

set_option maxRecDepth 100000 in
/-- Numbers that were handed in. -/
theorem open_zs {H : Type} {enc : TypeId × Value → H} {W : World} {base : Nat} {v : Value} {d : DataW H} {p : List MemPlace}
    (hv : Value.okWide Tryz.prog W .any base 22 v) (h : DataW.Trod enc Tryz.prog W 0 (fun _ => true) true 22 v d p) :
    ∃ (A : Option Addr) (c : Nat) (xs : List Int), v = .slice A xs.length c ∧ xs.length ≤ c ∧ (A = none → c = 0) ∧ RdV W W.heap.size A (zc xs) ∧ (∀ x ∈ xs, -9223372036854775808 ≤ x ∧ x ≤ 9223372036854775807) ∧ xs.length ≤ 9223372036854775807 := by
  obtain ⟨a0, len0, cap0, rfl⟩ := okWide_slice Tryz.underlying22 hv
  obtain ⟨fuel, hf⟩ := h
  rcases open_ints Tryz.underlying22 Tryz.underlying3 cells3i hf with ⟨hcs, _⟩ | ⟨x, l, c, zs, hcs, _, hl, hm, hz, _, hcell, hwz⟩
  · simp [Value.cells] at hcs
    obtain ⟨rfl, rfl, rfl⟩ := hcs
    exact ⟨none, 0, [], rfl, by simp, fun _ => rfl, .inl rfl, by simp, by simp⟩
  · simp [Value.cells] at hcs
    obtain ⟨rfl, rfl, rfl⟩ := hcs
    have hzc : zs.length = cap0 := by simpa using hz
    have hlen : (zs.take len0).length = len0 := by rw [List.length_take]; omega
    unfold maxLen at hm
    refine ⟨some x, cap0, zs.take len0, by rw [hlen], by rw [hlen]; exact hl, (fun h => by cases h), ?_, ?_, by rw [hlen]; omega⟩
    · rcases Nat.eq_zero_or_pos len0 with h0 | h0
      · left; rw [h0]; rfl
      · obtain ⟨b, off, rfl, hc⟩ := ints_at hcell (by omega)
        refine .inr ⟨b, off, rfl, lt_of_cell (hc 0 (by omega)), fun i v hi => ?_⟩
        have hil : i < len0 := by
          rcases Nat.lt_or_ge i len0 with h | h
          · exact h
          · rw [List.getElem?_eq_none (by rw [zc_length, hlen]; exact h)] at hi; cases hi
        rw [zc_get _ i (by rw [hlen]; exact hil)] at hi
        cases hi
        rw [hc i (by omega)]
        have hz0 : zs.getD i 0 = zs[i]'(by omega) := by rw [List.getD_eq_getElem?_getD, List.getElem?_eq_getElem (by omega)]; rfl
        have e1 : (zs.take len0)[i]?.getD 0 = zs[i]'(by omega) := by
          rw [List.getElem?_take_of_lt hil, List.getElem?_eq_getElem (by omega)]; rfl
        rw [e1, hz0]
    · intro n hn
      exact bounds_i64 (hwz n (List.mem_of_mem_take hn))
end

section
open Go.ChangeShapes Go.WideShapes Go.ChangeAt Go.RowKit Go.Joins Go.Deep

theorem cellsG : Tryz.prog.cellsOf 52 = 1 := by kernel_rfl
theorem cellsL1 : Tryz.prog.cellsOf 22 = 1 := by kernel_rfl
theorem cellsL2 : Tryz.prog.cellsOf 50 = 1 := by kernel_rfl
theorem bytesL1 : Tryz.prog.bytesOf 22 = 24 := by kernel_rfl
theorem bytesI1 : Tryz.prog.bytesOf 3 = 8 := by kernel_rfl
theorem weightsAll_mem {H : Type} {P : Program} {e : TypeId} {n : Nat} : ∀ {l : List (DataW H)} {d : DataW H}, d ∈ l → n ∈ d.weights P e → n ∈ DataW.weightsAll P e l
  | x :: t, d, hd, hn => by
    simp only [DataW.weightsAll, List.mem_append]
    rcases List.mem_cons.1 hd with rfl | h
    · exact .inl hn
    · exact .inr (weightsAll_mem h hn)
theorem add_plG (b off k : Nat) : (⟨b, off, none⟩ : Addr).add k = ⟨b, off + k, none⟩ := by unfold Addr.add; split <;> simp_all
theorem zc_mem {l : List Int} {i : Nat} {v : Value} (h : (zc l)[i]? = some v) : ∃ hi : i < l.length, v = .int .i64 l[i] := by
  unfold zc at h
  rw [List.getElem?_map] at h
  obtain ⟨x, hx, rfl⟩ := Option.map_eq_some_iff.1 h
  obtain ⟨hi, rfl⟩ := List.getElem?_eq_some_iff.1 hx
  exact ⟨hi, rfl⟩
set_option maxRecDepth 100000 in
/-- A graph that was handed in. -/
theorem open_graph {H : Type} {enc : TypeId × Value → H} {W : World} {base : Nat} {v : Value} {d : DataW H} {p : List MemPlace}
    (hv : Value.okWide Tryz.prog W .any base 52 v) (h : DataW.Trod enc Tryz.prog W 0 (fun _ => true) true 52 v d p)
    (hz : ∀ n ∈ d.weights Tryz.prog 52, n ≤ reachBytes) :
    ∃ (A : Option Addr) (c : Nat) (R : List Rw), v = .agg #[.slice A R.length c] ∧ RdG W W.heap.size A R ∧ R.length ≤ 140737488355328 := by
  obtain ⟨cs, rfl, hsz⟩ := okWide_struct Tryz.underlying52 hv
  obtain ⟨c0, rfl⟩ := Array.size_eq_one_iff.1 (hsz.trans cellsG)
  obtain ⟨fuel, hf⟩ := h
  obtain ⟨y0, n, hx, _, h0⟩ := trod_struct1 Tryz.underlying52 hf
  simp only [Prod.mk.injEq] at hx
  obtain ⟨rfl, rfl⟩ := hx
  simp [Value.cells, cellsL2] at h0
  have hz0 : ∀ n ∈ y0.1.weights Tryz.prog 50, n ≤ reachBytes := fun n hn => hz n (by
    unfold DataW.weights
    rw [Tryz.underlying52]
    simp only [List.map_cons, List.map_nil, DataW.weightsEach, List.append_nil]
    exact hn)
  have hrb := reachBytes_lt
  rcases open_int_rows Tryz.underlying50 Tryz.underlying22 Tryz.underlying3 cellsL1 cells3i h0 with ⟨hcs, _⟩ | ⟨a, len, cap, A, L, C, Z, hcs, _, hl, hm, hx, hrow⟩
  · simp at hcs
    subst hcs
    exact ⟨none, 0, [], rfl, ⟨.inl rfl, fun r hr => by simp at hr⟩, by simp⟩
  · simp at hcs
    subst hcs
    rw [hx] at hz0
    have hlen : (len + (cap - len)) * 24 ≤ reachBytes := hz0 _ (by
      simp only [DataW.weights, Tryz.underlying50, List.length_map, List.length_range, bytesL1]
      exact List.mem_cons_self)
    have hrl : ∀ r, r < len → L r ≤ 140737488355328 := fun r hr => by
      obtain ⟨_, q1, q2, q3, _, q5, _⟩ := hrow r (by omega)
      cases hA : A r with
      | none => rw [q5 hA] at q1; omega
      | some a' =>
        have := hz0 (((Z r).take (L r)).length * 8 + ((Z r).drop (L r)).length * 8) (by
          simp only [DataW.weights, Tryz.underlying50, List.length_map, List.length_range, bytesL1]
          refine List.mem_cons_of_mem _ (List.mem_append.2 (.inl (weightsAll_mem (List.mem_map.2 ⟨r, List.mem_range.2 hr, rfl⟩) ?_)))
          unfold intRow
          rw [hA]
          simp only [DataW.weights, Tryz.underlying22, bytesI1, lits, List.length_map]
          refine List.mem_cons.2 (.inl ?_)
          omega)
        rw [List.length_take] at this
        omega
    refine ⟨some a, cap, (List.range len).map fun r => (A r, C r, (Z r).take (L r)), by simp, ⟨?_, ?_⟩, by simp; omega⟩
    · rcases Nat.eq_zero_or_pos len with h0 | h0
      · left; rw [h0]; rfl
      · obtain ⟨b, off, spot⟩ := a
        have hspot : spot = none := by simpa [Addr.add] using World.cell?_spot (hrow 0 (by omega)).1
        subst hspot
        refine .inr ⟨b, off, rfl, ?_, fun i v hi => ?_⟩
        · have := (hrow 0 (by omega)).1
          exact lt_of_cell (p := ⟨b, off + 0, none⟩) (by rw [← add_plG]; exact this)
        · unfold rcl at hi
          rw [List.getElem?_map, List.getElem?_map] at hi
          obtain ⟨y, hy, rfl⟩ := Option.map_eq_some_iff.1 hi
          obtain ⟨j, hj, rfl⟩ := Option.map_eq_some_iff.1 hy
          obtain ⟨hil, rfl⟩ := List.getElem?_eq_some_iff.1 hj
          rw [List.length_range] at hil
          have := hrow i (by omega)
          rw [add_plG] at this
          simp only [List.getElem_range]
          unfold sl
          simp only [List.length_take]
          rw [this.1]
          have e : min (L i) (Z i).length = L i := by have q1 := this.2.1; have q2 := this.2.2.2.1; omega
          rw [e]
    · intro r hr
      obtain ⟨i, hi, rfl⟩ := List.mem_map.1 hr
      have hil := List.mem_range.1 hi
      obtain ⟨q0, q1, q2, q3, q4, q5, q6⟩ := hrow i (by omega)
      refine ⟨?_, by simp only [List.length_take]; have := hrl i hil; omega⟩
      simp only
      rcases Nat.eq_zero_or_pos (L i) with h0 | h0
      · left; rw [h0]; rfl
      · cases hA : A i with
        | none => rw [q5 hA] at q1; omega
        | some a' =>
          obtain ⟨_, q7⟩ := q6 a' hA
          obtain ⟨b, off, spot⟩ := a'
          have hspot : spot = none := by simpa [Addr.add] using World.cell?_spot (q7 0 (by omega))
          subst hspot
          refine .inr ⟨b, off, rfl, ?_, fun j v hj => ?_⟩
          · have := q7 0 (by omega)
            exact lt_of_cell (p := ⟨b, off + 0, none⟩) (by rw [← add_plG]; exact this)
          · obtain ⟨hjl, rfl⟩ := zc_mem hj
            have hjl2 : j < L i := by rw [List.length_take] at hjl; omega
            have := q7 j (by omega)
            rw [add_plG] at this
            rw [this]
            simp [List.getD_eq_getElem?_getD, List.getElem?_eq_getElem (show j < (Z i).length by omega)]
end

section
set_option linter.unusedVariables false
open Go.ChangeShapes Go.WideShapes Go.ChangeAt Go.RowKit Go.Joins Go.Shelf

theorem al1 {w V : World} {c0 : Array Value} {t0 : TypeId} (h : Below (w.alloc (.cells c0 t0)).heap.size (w.alloc (.cells c0 t0)) V) :
    Below w.heap.size w V ∧ w.heap.size < V.heap.size ∧ V.heap[w.heap.size]? = some (.cells c0 t0 (0, 0)) := by
  have h1 : (w.alloc (.cells c0 t0)).heap.size = w.heap.size + 1 := World.size_alloc _ _
  have hb : Below w.heap.size w (w.alloc (.cells c0 t0)) := one_below w _
  refine ⟨hb.trans (h.mono (by omega)), by have := h.size; omega, ?_⟩
  rw [h.block _ (by omega)]; exact World.alloc_heap_new w _
theorem low2 (w : World) (o p : Obj) : Below w.heap.size w ((w.alloc o).alloc p) := ((Below.refl _ w).alloc (Nat.le_refl _) _).alloc (by simp) _
theorem low3 (w : World) (o p q : Obj) : Below w.heap.size w (((w.alloc o).alloc p).alloc q) := (((Below.refl _ w).alloc (Nat.le_refl _) _).alloc (by simp) _).alloc (by simp; omega) _
theorem al2 {w V : World} {c0 c1 : Array Value} {t0 t1 : TypeId} (h : Below ((w.alloc (.cells c0 t0)).alloc (.cells c1 t1)).heap.size ((w.alloc (.cells c0 t0)).alloc (.cells c1 t1)) V) :
    Below w.heap.size w V ∧ w.heap.size + 1 < V.heap.size ∧ V.heap[w.heap.size]? = some (.cells c0 t0 (0, 0)) ∧ V.heap[w.heap.size + 1]? = some (.cells c1 t1 (0, 0)) := by
  have h1 : (w.alloc (.cells c0 t0)).heap.size = w.heap.size + 1 := World.size_alloc _ _
  have h2 : ((w.alloc (.cells c0 t0)).alloc (.cells c1 t1)).heap.size = w.heap.size + 2 := by rw [World.size_alloc, h1]
  obtain ⟨g1, g2, g3⟩ := al1 h
  refine ⟨(one_below w _).trans (g1.mono (by omega)), by omega, ?_, by rw [h1] at g3; exact g3⟩
  rw [g1.block _ (by omega)]; exact World.alloc_heap_new w _
theorem al3 {w V : World} {c0 c1 c2 : Array Value} {t0 t1 t2 : TypeId} (h : Below (((w.alloc (.cells c0 t0)).alloc (.cells c1 t1)).alloc (.cells c2 t2)).heap.size (((w.alloc (.cells c0 t0)).alloc (.cells c1 t1)).alloc (.cells c2 t2)) V) :
    Below w.heap.size w V ∧ w.heap.size + 1 + 1 < V.heap.size ∧ V.heap[w.heap.size]? = some (.cells c0 t0 (0, 0)) ∧ V.heap[w.heap.size + 1]? = some (.cells c1 t1 (0, 0)) ∧ V.heap[w.heap.size + 1 + 1]? = some (.cells c2 t2 (0, 0)) := by
  have h1 : (w.alloc (.cells c0 t0)).heap.size = w.heap.size + 1 := World.size_alloc _ _
  have h2 : ((w.alloc (.cells c0 t0)).alloc (.cells c1 t1)).heap.size = w.heap.size + 1 + 1 := by rw [World.size_alloc, h1]
  obtain ⟨g1, g2, g3⟩ := al1 h
  obtain ⟨k1, k2, k3, k4⟩ := al2 g1
  rw [h2] at g2 g3
  exact ⟨k1, g2, k3, k4, g3⟩

theorem cellsHow : Tryz.prog.cellsOf 24 = 3 := by kernel_rfl
set_option maxRecDepth 100000 in
/-- A way to tell lists that was handed in. -/
theorem open_how {H : Type} {enc : TypeId × Value → H} {W : World} {base : Nat} {v : Value} {d : DataW H} {p : List MemPlace}
    (hv : Value.okWide Tryz.prog W .any base 24 v) (h : DataW.Trod enc Tryz.prog W 0 (fun _ => true) true 24 v d p) :
    ∃ (b s k : Int), v = .agg #[.int .i64 b, .int .i64 s, .int .i64 k] ∧ (-9223372036854775808 ≤ b ∧ b ≤ 9223372036854775807) ∧ (-9223372036854775808 ≤ s ∧ s ≤ 9223372036854775807) ∧ (-9223372036854775808 ≤ k ∧ k ≤ 9223372036854775807) := by
  obtain ⟨c0, c1, c2, y0, y1, y2, m, rfl, rfl, rfl, hy0, hy1, hy2⟩ := open_agg3 Tryz.underlying24 (by kernel_rfl) cellsHow hv h
  obtain ⟨a, e0, _, wa⟩ := DataW.trod_int Tryz.underlying3 hy0
  obtain ⟨b, e1, _, wb⟩ := DataW.trod_int Tryz.underlying3 hy1
  obtain ⟨c, e2, _, wc⟩ := DataW.trod_int Tryz.underlying3 hy2
  simp at e0 e1 e2
  subst e0; subst e1; subst e2
  exact ⟨a, b, c, rfl, bounds_i64 wa, bounds_i64 wb, bounds_i64 wc⟩
end

section
open Go.ChangeShapes Go.WideShapes Go.ChangeAt Go.RowKit Go.Joins Go.Deep

set_option maxRecDepth 100000 in
/-- A graph that was handed in. -/
theorem open_graphC {H : Type} {enc : TypeId × Value → H} {W : World} {base : Nat} {v : Value} {d : DataW H} {p : List MemPlace}
    (hv : Value.okWide Tryz.prog W .any base 52 v) (h : DataW.Trod enc Tryz.prog W 0 (fun _ => true) true 52 v d p)
    (hz : ∀ n ∈ d.weights Tryz.prog 52, n ≤ reachBytes) :
    ∃ (A : Option Addr) (c : Nat) (R : List Rw), v = .agg #[.slice A R.length c] ∧ RdG W W.heap.size A R ∧ R.length ≤ 140737488355328 ∧ ∀ r ∈ R, r.2.2.length ≤ r.2.1 := by
  obtain ⟨cs, rfl, hsz⟩ := okWide_struct Tryz.underlying52 hv
  obtain ⟨c0, rfl⟩ := Array.size_eq_one_iff.1 (hsz.trans cellsG)
  obtain ⟨fuel, hf⟩ := h
  obtain ⟨y0, n, hx, _, h0⟩ := trod_struct1 Tryz.underlying52 hf
  simp only [Prod.mk.injEq] at hx
  obtain ⟨rfl, rfl⟩ := hx
  simp [Value.cells, cellsL2] at h0
  have hz0 : ∀ n ∈ y0.1.weights Tryz.prog 50, n ≤ reachBytes := fun n hn => hz n (by
    unfold DataW.weights
    rw [Tryz.underlying52]
    simp only [List.map_cons, List.map_nil, DataW.weightsEach, List.append_nil]
    exact hn)
  have hrb := reachBytes_lt
  rcases open_int_rows Tryz.underlying50 Tryz.underlying22 Tryz.underlying3 cellsL1 cells3i h0 with ⟨hcs, _⟩ | ⟨a, len, cap, A, L, C, Z, hcs, _, hl, hm, hx, hrow⟩
  · simp at hcs
    subst hcs
    exact ⟨none, 0, [], rfl, ⟨.inl rfl, fun r hr => by simp at hr⟩, by simp, by simp⟩
  · simp at hcs
    subst hcs
    rw [hx] at hz0
    have hlen : (len + (cap - len)) * 24 ≤ reachBytes := hz0 _ (by
      simp only [DataW.weights, Tryz.underlying50, List.length_map, List.length_range, bytesL1]
      exact List.mem_cons_self)
    have hrl : ∀ r, r < len → L r ≤ 140737488355328 := fun r hr => by
      obtain ⟨_, q1, q2, q3, _, q5, _⟩ := hrow r (by omega)
      cases hA : A r with
      | none => rw [q5 hA] at q1; omega
      | some a' =>
        have := hz0 (((Z r).take (L r)).length * 8 + ((Z r).drop (L r)).length * 8) (by
          simp only [DataW.weights, Tryz.underlying50, List.length_map, List.length_range, bytesL1]
          refine List.mem_cons_of_mem _ (List.mem_append.2 (.inl (weightsAll_mem (List.mem_map.2 ⟨r, List.mem_range.2 hr, rfl⟩) ?_)))
          unfold intRow
          rw [hA]
          simp only [DataW.weights, Tryz.underlying22, bytesI1, lits, List.length_map]
          refine List.mem_cons.2 (.inl ?_)
          omega)
        rw [List.length_take] at this
        omega
    refine ⟨some a, cap, (List.range len).map fun r => (A r, C r, (Z r).take (L r)), by simp, ⟨?_, ?_⟩, by simp; omega, fun r hr => by { obtain ⟨i, hi, rfl⟩ := List.mem_map.1 hr; have hil := List.mem_range.1 hi; obtain ⟨q0, q1, q2, q3, q4, q5, q6⟩ := hrow i (by omega); simp only [List.length_take]; omega }⟩
    · rcases Nat.eq_zero_or_pos len with h0 | h0
      · left; rw [h0]; rfl
      · obtain ⟨b, off, spot⟩ := a
        have hspot : spot = none := by simpa [Addr.add] using World.cell?_spot (hrow 0 (by omega)).1
        subst hspot
        refine .inr ⟨b, off, rfl, ?_, fun i v hi => ?_⟩
        · have := (hrow 0 (by omega)).1
          exact lt_of_cell (p := ⟨b, off + 0, none⟩) (by rw [← add_plG]; exact this)
        · unfold rcl at hi
          rw [List.getElem?_map, List.getElem?_map] at hi
          obtain ⟨y, hy, rfl⟩ := Option.map_eq_some_iff.1 hi
          obtain ⟨j, hj, rfl⟩ := Option.map_eq_some_iff.1 hy
          obtain ⟨hil, rfl⟩ := List.getElem?_eq_some_iff.1 hj
          rw [List.length_range] at hil
          have := hrow i (by omega)
          rw [add_plG] at this
          simp only [List.getElem_range]
          unfold sl
          simp only [List.length_take]
          rw [this.1]
          have e : min (L i) (Z i).length = L i := by have q1 := this.2.1; have q2 := this.2.2.2.1; omega
          rw [e]
    · intro r hr
      obtain ⟨i, hi, rfl⟩ := List.mem_map.1 hr
      have hil := List.mem_range.1 hi
      obtain ⟨q0, q1, q2, q3, q4, q5, q6⟩ := hrow i (by omega)
      refine ⟨?_, by simp only [List.length_take]; have := hrl i hil; omega⟩
      simp only
      rcases Nat.eq_zero_or_pos (L i) with h0 | h0
      · left; rw [h0]; rfl
      · cases hA : A i with
        | none => rw [q5 hA] at q1; omega
        | some a' =>
          obtain ⟨_, q7⟩ := q6 a' hA
          obtain ⟨b, off, spot⟩ := a'
          have hspot : spot = none := by simpa [Addr.add] using World.cell?_spot (q7 0 (by omega))
          subst hspot
          refine .inr ⟨b, off, rfl, ?_, fun j v hj => ?_⟩
          · have := q7 0 (by omega)
            exact lt_of_cell (p := ⟨b, off + 0, none⟩) (by rw [← add_plG]; exact this)
          · obtain ⟨hjl, rfl⟩ := zc_mem hj
            have hjl2 : j < L i := by rw [List.length_take] at hjl; omega
            have := q7 j (by omega)
            rw [add_plG] at this
            rw [this]
            simp [List.getD_eq_getElem?_getD, List.getElem?_eq_getElem (show j < (Z i).length by omega)]
theorem cellsPd : Tryz.prog.cellsOf 54 = 6 := by kernel_rfl
theorem cellsBt : Tryz.prog.cellsOf 27 = 2 := by kernel_rfl
theorem cellsI1 : Tryz.prog.cellsOf 3 = 1 := by kernel_rfl
theorem array6 {α : Type} {cs : Array α} (h : cs.size = 6) : ∃ c0 c1 c2 c3 c4 c5, cs = #[c0, c1, c2, c3, c4, c5] := by
  obtain ⟨l⟩ := cs
  match l, h with
  | [c0, c1, c2, c3, c4, c5], _ => exact ⟨c0, c1, c2, c3, c4, c5, rfl⟩
set_option maxRecDepth 100000 in
/-- Bits in two cells. -/
theorem bits_two {H : Type} {enc : TypeId × Value → H} {W : World} {n : Nat} {v0 v1 : Value} {y : DataW H × List MemPlace}
    (h : DataW.trod enc Tryz.prog W 0 (fun _ => true) true n 27 [v0, v1] = some y) :
    ∃ (len : Int) (A : Option Addr) (c : Nat) (bs : List Nat), v0 = .int .i64 len ∧ v1 = .slice A bs.length c ∧ Rd W W.heap.size A bs ∧ (∀ b ∈ bs, b < 256) ∧ (Lit.int .i64 len).wf = true := by
  obtain ⟨y0, y1, m, _, _, hy0, hy1⟩ := trod_struct2 Tryz.underlying27 h
  have hy0' : DataW.trod enc Tryz.prog W 0 (fun _ => true) true m 3 [v0] = some y0 := hy0
  have hy1' : DataW.trod enc Tryz.prog W 0 (fun _ => true) true m 25 [v1] = some y1 := hy1
  obtain ⟨a, e0, _, wa⟩ := DataW.trod_int Tryz.underlying3 hy0'
  simp at e0
  subst e0
  rcases open_ints Tryz.underlying25 Tryz.underlying5 cells5 hy1' with ⟨hcs, _⟩ | ⟨x, l, c, zs, hcs, _, hl, hm, hz, _, hcell, hwz⟩
  · simp at hcs
    subst hcs
    exact ⟨a, none, 0, [], rfl, rfl, .inl rfl, by simp, wa⟩
  · simp at hcs
    subst hcs
    have hzc : zs.length = c := by simpa using hz
    refine ⟨a, some x, c, (zs.take l).map Int.toNat, rfl, ?_, ?_, ?_, wa⟩
    · have : ((zs.take l).map Int.toNat).length = l := by rw [List.length_map, List.length_take]; omega
      rw [this]
    · rcases Nat.eq_zero_or_pos l with h0 | h0
      · left; rw [h0]; rfl
      · obtain ⟨b, off, rfl, hc⟩ := ints_at hcell (by omega)
        refine .inr ⟨b, off, rfl, ?_, fun i hi => ?_⟩
        · exact lt_of_cell (hc 0 (by omega))
        · have hil : i < l := by rw [List.length_map, List.length_take] at hi; omega
          rw [hc i (by omega)]
          have hz0 : zs.getD i 0 = zs[i]'(by omega) := by rw [List.getD_eq_getElem?_getD, List.getElem?_eq_getElem (by omega)]; rfl
          have hw := bounds_u8 (hwz _ (List.getElem_mem (show i < zs.length by omega)))
          have e1 : ((zs.take l).map Int.toNat)[i]?.getD 0 = (zs[i]'(by omega)).toNat := by
            rw [List.getElem?_map, List.getElem?_take_of_lt hil, List.getElem?_eq_getElem (by omega)]; rfl
          rw [e1, hz0]
          congr 2
          omega
    · intro b hb
      simp only [List.mem_map] at hb
      obtain ⟨z, hz1, rfl⟩ := hb
      have hw := bounds_u8 (hwz z (List.mem_of_mem_take hz1))
      omega
/-- A way to tell lists in three cells. -/
theorem how_three {H : Type} {enc : TypeId × Value → H} {W : World} {n : Nat} {v0 v1 v2 : Value} {y : DataW H × List MemPlace}
    (h : DataW.trod enc Tryz.prog W 0 (fun _ => true) true n 24 [v0, v1, v2] = some y) :
    ∃ (b s k : Int), v0 = .int .i64 b ∧ v1 = .int .i64 s ∧ v2 = .int .i64 k := by
  obtain ⟨xs, m, _, _, _, hlen, hall⟩ := DataW.trod_struct Tryz.underlying24 h
  match xs, hlen with
  | [y0, y1, y2], _ =>
    have h0 : DataW.trod enc Tryz.prog W 0 (fun _ => true) true m 3 [v0] = some y0 := by simpa [cellsI1, Value.cells] using hall 0 _ rfl
    have h1 : DataW.trod enc Tryz.prog W 0 (fun _ => true) true m 3 [v1] = some y1 := by simpa [cellsI1, Value.cells] using hall 1 _ rfl
    have h2 : DataW.trod enc Tryz.prog W 0 (fun _ => true) true m 3 [v2] = some y2 := by simpa [cellsI1, Value.cells] using hall 2 _ rfl
    obtain ⟨a, e0, _, wa⟩ := DataW.trod_int Tryz.underlying3 h0
    obtain ⟨b, e1, _, wb⟩ := DataW.trod_int Tryz.underlying3 h1
    obtain ⟨c, e2, _, wc⟩ := DataW.trod_int Tryz.underlying3 h2
    simp at e0 e1 e2
    exact ⟨a, b, c, e0, e1, e2⟩
set_option maxRecDepth 100000 in
/-- A packed graph that was handed in. -/
theorem open_packed {H : Type} {enc : TypeId × Value → H} {W : World} {base : Nat} {v : Value} {d : DataW H} {p : List MemPlace}
    (hv : Value.okWide Tryz.prog W .any base 54 v) (h : DataW.Trod enc Tryz.prog W 0 (fun _ => true) true 54 v d p) :
    ∃ (N B ls k len : Int) (A : Option Addr) (c : Nat) (bs : List Nat), v = .agg #[.int .i64 N, .int .i64 B, .int .i64 ls, .int .i64 k, .int .i64 len, .slice A bs.length c] ∧ Rd W W.heap.size A bs ∧ (∀ b ∈ bs, b < 256) := by
  obtain ⟨cs, rfl, hsz⟩ := okWide_struct Tryz.underlying54 hv
  obtain ⟨v0, v1, v2, v3, v4, v5, rfl⟩ := array6 (hsz.trans cellsPd)
  obtain ⟨fuel, hf⟩ := h
  obtain ⟨xs, n, _, _, _, hlen, hall⟩ := DataW.trod_struct Tryz.underlying54 hf
  match xs, hlen with
  | [y0, y1, y2], _ =>
    have h0 : DataW.trod enc Tryz.prog W 0 (fun _ => true) true n 3 [v0] = some y0 := by simpa [cellsI1, cellsBt, cellsHow, Value.cells] using hall 0 _ rfl
    have h1 : DataW.trod enc Tryz.prog W 0 (fun _ => true) true n 24 [v1, v2, v3] = some y1 := by simpa [cellsI1, cellsBt, cellsHow, Value.cells] using hall 1 _ rfl
    have h2 : DataW.trod enc Tryz.prog W 0 (fun _ => true) true n 27 [v4, v5] = some y2 := by simpa [cellsI1, cellsBt, cellsHow, Value.cells] using hall 2 _ rfl
    obtain ⟨a, e0, _, wa⟩ := DataW.trod_int Tryz.underlying3 h0
    obtain ⟨b, s, k, rfl, rfl, rfl⟩ := how_three h1
    obtain ⟨ll, A1, c1, bs1, rfl, rfl, r1, b1, _⟩ := bits_two h2
    simp at e0
    subst e0
    exact ⟨a, b, s, k, ll, A1, c1, bs1, rfl, r1, b1⟩
end

section
open Go.ChangeShapes Go.WideShapes Go.ChangeAt Go.RowKit
open Go.ChangeMaps (open_string shut_string)

set_option linter.unusedVariables false
set_option maxRecDepth 100000 in
theorem packBack_lifted (os : Os) (started : os.Started) (H : Type) (enc : TypeId × Value → H) :
    ReturnsInHanded {} Tryz.checked os 10 .any (Rows.packBackSpec.pre6 enc Tryz.prog Tryz.f10 Rows.packBackRow.domain false) (Rows.packBackSpec.post enc Tryz.prog Tryz.f10 false true false false) := by
  refine returnsInHanded_of_change_sized (C := Tryz.checked) own started (by kernel_rfl) Tryz.func10
    (ChangeSpec.witness6 (enc := enc) (C := Tryz.checked) false ⟨#[], #[.agg #[.slice none 0 0], .agg #[.int .i64 0, .int .i64 0, .int .i64 0], .agg #[.int .i64 0, .int .i64 0, .int .i64 0, .int .i64 0, .int .i64 0, .slice none 0 0]], []⟩ 8 (by kernel_rfl) (by kernel_rfl) (by kernel_rfl) (by kernel_rfl)) ?_
  intro W base args ds gs before hval0 hW hcnd hzz _
  have hval : ∀ (j : Nat) t v, Tryz.f10.params[j]? = some t → args[j]? = some v → Value.okWide Tryz.prog W .any base t v := hval0
  have hW' := hW
  obtain ⟨p, q, hA0, hV, rfl, hfz, hnd⟩ := hW
  have hA : DataW.TrodAll enc Tryz.prog W 0 (fun _ => true) true Tryz.f10.params.toList args.toList ds p := hA0
  rw [Tryz.params10] at hA hval hzz
  obtain ⟨v0, vs0, d0, ds0, p0, q0, hargs, rfl, rfl, h0, r0⟩ := trodAll_cons hA
  obtain ⟨v1, vs1, d1, ds1, p1, q1, rfl, rfl, rfl, h1, r1⟩ := trodAll_cons r0
  obtain ⟨v2, vs2, d2, ds2, p2, q2, rfl, rfl, rfl, h2, r2⟩ := trodAll_cons r1
  obtain ⟨rfl, rfl, rfl⟩ := trodAll_nil r2
  obtain rfl : args = #[v0, v1, v2] := by cases args; simp_all
  obtain ⟨rfl, rfl⟩ := trodVars_none hV
  have k0 := h0
  have lt0 : ∀ x ∈ p0, x.block < W.heap.size := by obtain ⟨m, hm⟩ := k0; exact DataW.trod_lt m _ _ _ hm
  obtain ⟨A0, c0, R0, rfl, rd0, nn0, cp0⟩ := open_graphC (hval 0 52 v0 rfl rfl) h0 (fun n hn => of_decide_eq_true (List.all_eq_true.1 hzz n (DataW.weights_mem_each (j := 0) (t := 52) (d := d0) rfl rfl n hn)))
  have k1 := h1
  have lt1 : ∀ x ∈ p1, x.block < W.heap.size := by obtain ⟨m, hm⟩ := k1; exact DataW.trod_lt m _ _ _ hm
  obtain ⟨hb1, hs1, hk1, rfl, bb1, bs1, bk1⟩ := open_how (hval 1 24 v1 rfl rfl) h1
  have k2 := h2
  have lt2 : ∀ x ∈ p2, x.block < W.heap.size := by obtain ⟨m, hm⟩ := k2; exact DataW.trod_lt m _ _ _ hm
  obtain ⟨pN2, pB2, pl2, pk2, len2, A2, c2, bs2, rfl, rd2, by2⟩ := open_packed (hval 2 54 v2 rfl rfl) h2
  clear hA0 hval0
  refine (packBack_law A0 c0 R0 hb1 hs1 hk1 pN2 pB2 pl2 pk2 len2 A2 c2 bs2 W rd0 nn0 cp0 by2 rd2).mono fun e W' ⟨he, bel⟩ => ?_
  subst he
  exact ⟨_, rfl, _, _, _, [], _, [], hW', trodAll_mk1 (shut_bool Tryz.underlying4 _), (trodAll_cons_mk (Below.trod laidOut (by kernel_rfl) (of_decide_eq_true (by kernel_rfl)) k0 bel lt0) (trodAll_cons_mk (Below.trod laidOut (by kernel_rfl) (of_decide_eq_true (by kernel_rfl)) k1 bel lt1) (trodAll_cons_mk (Below.trod laidOut (by kernel_rfl) (of_decide_eq_true (by kernel_rfl)) k2 bel lt2) trodAll_mk0))), rfl, bel.frame _, fun h => by cases h⟩

theorem PackBack_holds : Rows.PackBackSaid :=
  OpenClaim.holds_of_wide 10 Tryz.f10 rfl rfl rfl rfl rfl rfl rfl ⟨rfl, rfl, rfl, rfl, rfl⟩ rfl rfl rfl rfl rfl (by kernel_rfl) Tryz.func10 (by kernel_rfl)
    (of_decide_eq_true (by kernel_rfl)) (by unfold Func.isWrapper; first | (rw [if_pos (by decide +kernel)]; kernel_rfl) | (rw [if_neg (by decide +kernel)]; exact ⟨rfl, rfl⟩))
    (fun os started H enc _ => packBack_lifted os started H enc)
#print axioms PackBack_holds
end
end Go.Proofs.YticdnodlapafoaaGreat
