/- Texts of this proof, one behind the other; each fact names its conditions. -/
import Derived.Test.YtbddcokjkdoaaaaGreatSN34
import Derived.Test.YtbddcokjkdoaaaaGreatSN7
namespace Go.Proofs.YtbddcokjkdoaaaaGreat
set_option maxRecDepth 100000
set_option linter.unusedVariables false
open Go.RowKit Go.Shelf
set_option maxHeartbeats 8000000 in
theorem shlist_e (w : World) (A : Option Addr) (N c : Nat) (B ls k node to e1 : Int) (he : e1 ≠ 0)
    (HBg : Hid (∀ V, Calls Tryz.prog 42 #[] V fun e w' => e = .returned (.bool true) ∧ Below V.heap.size V w'))
    (HBu : Hid (∀ V, Below w.heap.size w V → Calls Tryz.prog 36 #[.agg #[.slice A N c], .agg #[.int .i64 B, .int .i64 ls, .int .i64 k]] V (BuP V 0 0 0 0 0 0 [] 0 0 0 0 0 0 0 [] [] e1)))
    : Calls Tryz.prog 9 #[.agg #[.slice A N c], .agg #[.int .i64 B, .int .i64 ls, .int .i64 k], .int .i64 node, .int .i64 to] w fun e w' => e = .returned (.bool true) ∧ Below w.heap.size w w' := by
  have t1 : (e1 != 0) = true := by simpa using he
  clear he
  obtain ⟨w1, ew1, hI⟩ := fai_at w A N c B ls k
  have HI1 := Lib.hid hI
  have k1 := box_cell hI.2.1
  obtain ⟨x1, x2, x3⟩ := how_at hI.2.2
  clear hI
  go_enter Tryz.func9, Tryz.ntmps9
  go_wp2_with fail
  try rw [ew1]
  refine (HBu.out w1 HI1.out.1).mono ?_
  rintro e w2 ⟨A', c', A1, c1, A2, c2, rfl, r0, r1, r2, q2⟩
  obtain ⟨X2, hX2⟩ : ∃ X, w2.alloc (.cells #[.int .i64 0, .int .i64 0, .int .i64 0, .int .i64 0, .int .i64 0, .slice A' 0 c', .int .i64 0, .int .i64 0, .int .i64 0, .int .i64 0, .slice A1 0 c1, .int .i64 0, .slice A2 0 c2] 67) = X := ⟨_, rfl⟩
  have hb2 : Below w2.heap.size w2 X2 := hX2 ▸ one_below w2 _
  have hx2 : X2.heap[w2.heap.size]? = some (.cells #[.int .i64 0, .int .i64 0, .int .i64 0, .int .i64 0, .int .i64 0, .slice A' 0 c', .int .i64 0, .int .i64 0, .int .i64 0, .int .i64 0, .slice A1 0 c1, .int .i64 0, .slice A2 0 c2] 67 (0, 0)) := hX2 ▸ World.alloc_heap_new w2 _
  have HI2 := Lib.hid (HI1.out.on (q2.trans (hb2.mono q2.size)))
  have HS2 : Hid (ShS w X2 w2.heap.size 0 0 0 0 0 0 0 0 0 0 A' A1 A2 0 c' 0 c1 0 c2 [] [] []) := ⟨HI2.out.1, hx2, r0.on hb2, r1.on hb2, r2.on hb2⟩
  clear q2 r0 r1 r2 hb2 hx2 x1 x2 x3 k1 ew1 HI1 HBu
  go_wp2_with fail
  try rw [hX2]
  refine (HBg.out X2).mono ?_
  rintro e w3 ⟨rfl, q3⟩
  have HS3 := Lib.hid (HS2.out.on q3)
  have HI3 := Lib.hid (HI2.out.on q3)
  have HF3 := Lib.hid HI3.out.1
  clear q3 hX2 HS2 HI2
  have hrg := Lib.hid (range_all (cs := [.int .i64 0, .int .i64 0, .int .i64 0, .int .i64 0, .int .i64 0, .slice A' 0 c', .int .i64 0, .int .i64 0, .int .i64 0, .int .i64 0, .slice A1 0 c1, .int .i64 0, .slice A2 0 c2]) HS3.out.row)
  go_wp2_with (first | (refine wpList_load_mid rfl 67 _ rfl w2.heap.size 0 rfl [.int .i64 0, .int .i64 0, .int .i64 0, .int .i64 0, .int .i64 0, .slice A' 0 c', .int .i64 0, .int .i64 0, .int .i64 0, .int .i64 0, .slice A1 0 c1, .int .i64 0, .slice A2 0 c2] _ hrg.out Tryz.underlying67 rfl info_sh ?_) | (refine wpList_build rfl _ _ rfl #[] (by kernel_rfl) _ (run_build_sh0 _) ?_))
  refine (sshelf_true 0 0 0 0 0 0 0 0 0 0 A' none A1 A2 none none 0 c' 0 0 c1 0 0 c2 0 [] [] [] rfl rfl rfl (by omega) w3 (.inl rfl) (.inl rfl) (.inl rfl) (.inl rfl) (.inl rfl) (.inl rfl)).mono ?_
  rintro e w4 ⟨rfl, q4⟩
  have HF4 := Lib.hid (HF3.out.trans (q4.mono HF3.out.size))
  clear q4 hrg
  go_wp2
  go_ret
  exact ⟨rfl, HF4.out⟩
set_option maxHeartbeats 8000000 in
theorem shlist_no (w : World) (A : Option Addr) (N c : Nat) (B ls k node to : Int) (pN pB pl pk len fN fT fk fl fh : Int) (n m1 m2 : Nat) (bs b1 b2 : List Nat) (hno : node < 0 ∨ (N : Int) ≤ node)
    (HBg : Hid (∀ V, Calls Tryz.prog 42 #[] V fun e w' => e = .returned (.bool true) ∧ Below V.heap.size V w'))
    (HBu : Hid (∀ V, Below w.heap.size w V → Calls Tryz.prog 36 #[.agg #[.slice A N c], .agg #[.int .i64 B, .int .i64 ls, .int .i64 k]] V (BuP V pN pB pl pk len n bs fN fT fk fl fh m1 m2 b1 b2 0)))
    (HLi : Hid (∀ A' A1 A2 c' c1 c2 V, Rd V V.heap.size A' bs → Rd V V.heap.size A1 b1 → Rd V V.heap.size A2 b2 → Calls Tryz.prog 37 #[.agg #[.int .i64 pN, .int .i64 pB, .int .i64 pl, .int .i64 pk, .int .i64 len, .slice A' n c', .int .i64 fN, .int .i64 fT, .int .i64 fk, .int .i64 fl, .slice A1 m1 c1, .int .i64 fh, .slice A2 m2 c2], .int .i64 node] V (LiP V 0 [] 0 3))) :
    Calls Tryz.prog 9 #[.agg #[.slice A N c], .agg #[.int .i64 B, .int .i64 ls, .int .i64 k], .int .i64 node, .int .i64 to] w fun e w' => e = .returned (.bool true) ∧ Below w.heap.size w w' := by
  obtain ⟨w1, ew1, hI⟩ := fai_at w A N c B ls k
  have HI1 := Lib.hid hI
  have k1 := box_cell hI.2.1
  obtain ⟨x1, x2, x3⟩ := how_at hI.2.2
  clear hI
  go_enter Tryz.func9, Tryz.ntmps9
  go_wp2_with fail
  try rw [ew1]
  refine (HBu.out w1 HI1.out.1).mono ?_
  rintro e w2 ⟨A', c', A1, c1, A2, c2, rfl, r0, r1, r2, q2⟩
  obtain ⟨X2, hX2⟩ : ∃ X, w2.alloc (.cells #[.int .i64 pN, .int .i64 pB, .int .i64 pl, .int .i64 pk, .int .i64 len, .slice A' n c', .int .i64 fN, .int .i64 fT, .int .i64 fk, .int .i64 fl, .slice A1 m1 c1, .int .i64 fh, .slice A2 m2 c2] 67) = X := ⟨_, rfl⟩
  have hb2 : Below w2.heap.size w2 X2 := hX2 ▸ one_below w2 _
  have hx2 : X2.heap[w2.heap.size]? = some (.cells #[.int .i64 pN, .int .i64 pB, .int .i64 pl, .int .i64 pk, .int .i64 len, .slice A' n c', .int .i64 fN, .int .i64 fT, .int .i64 fk, .int .i64 fl, .slice A1 m1 c1, .int .i64 fh, .slice A2 m2 c2] 67 (0, 0)) := hX2 ▸ World.alloc_heap_new w2 _
  have HI2 := Lib.hid (HI1.out.on (q2.trans (hb2.mono q2.size)))
  have HS2 : Hid (ShS w X2 w2.heap.size pN pB pl pk len fN fT fk fl fh A' A1 A2 n c' m1 c1 m2 c2 bs b1 b2) := ⟨HI2.out.1, hx2, r0.on hb2, r1.on hb2, r2.on hb2⟩
  clear q2 r0 r1 r2 hb2 hx2 x1 x2 x3 k1 ew1 HI1 HBu
  go_wp2_with fail
  try rw [hX2]
  refine (HBg.out X2).mono ?_
  rintro e w3 ⟨rfl, q3⟩
  have HS3 := Lib.hid (HS2.out.on q3)
  have HI3 := Lib.hid (HI2.out.on q3)
  have HF3 := Lib.hid HI3.out.1
  clear q3 hX2 HS2 HI2
  have hrg := Lib.hid (range_all (cs := [.int .i64 pN, .int .i64 pB, .int .i64 pl, .int .i64 pk, .int .i64 len, .slice A' n c', .int .i64 fN, .int .i64 fT, .int .i64 fk, .int .i64 fl, .slice A1 m1 c1, .int .i64 fh, .slice A2 m2 c2]) HS3.out.row)
  go_wp2_with (first | (refine wpList_load_mid rfl 67 _ rfl w2.heap.size 0 rfl [.int .i64 pN, .int .i64 pB, .int .i64 pl, .int .i64 pk, .int .i64 len, .slice A' n c', .int .i64 fN, .int .i64 fT, .int .i64 fk, .int .i64 fl, .slice A1 m1 c1, .int .i64 fh, .slice A2 m2 c2] _ hrg.out Tryz.underlying67 rfl info_sh ?_))
  refine (HLi.out A' A1 A2 c' c1 c2 w3 HS3.out.r0 HS3.out.r1 HS3.out.r2).mono ?_
  rintro e w4 ⟨A5, c5, rfl, -, q4⟩
  have HF4 := Lib.hid (HF3.out.trans (q4.mono HF3.out.size))
  have k4 := box_cell (HI3.out.on q4).2.1
  clear q4 hrg
  rcases (show node < 0 ∨ (¬ node < 0 ∧ (N : Int) ≤ node) by omega) with h | ⟨h, h2⟩
  · clear hno
    go_wp2
    go_ret
    exact ⟨rfl, HF4.out⟩
  · clear hno
    go_wp2
    go_ret
    exact ⟨rfl, HF4.out⟩
set_option maxHeartbeats 8000000 in
theorem shlist_in (w : World) (A : Option Addr) (N c : Nat) (B ls k to : Int) (i m nl : Nat) (l : List Nat) (pN pB pl pk len fN fT fk fl fh : Int) (n m1 m2 : Nat) (bs b1 b2 : List Nat) (hi : i < N) (hN : N ≤ 100) (hm : 1 ≤ m ∧ m ≤ i + 1) (bA oA : Nat) (Ar : Option Addr) (cr : Nat) (hA : A = some ⟨bA, oA, none⟩) (hbA : bA < w.heap.size) (hcA : w.cell? ⟨bA, oA + i, none⟩ = some (.slice Ar nl cr)) (hRr : RdV w w.heap.size Ar (zc (ns l))) (q : Bool) (er : Int) (her : (er = 3 ∧ q = false ∧ (to < 0 ∨ (N : Int) ≤ to)) ∨ (er = 0 ∧ 0 ≤ to ∧ to < (N : Int)))
    (HBg : Hid (∀ V, Calls Tryz.prog 42 #[] V fun e w' => e = .returned (.bool true) ∧ Below V.heap.size V w'))
    (HBu : Hid (∀ V, Below w.heap.size w V → Calls Tryz.prog 36 #[.agg #[.slice A N c], .agg #[.int .i64 B, .int .i64 ls, .int .i64 k]] V (BuP V pN pB pl pk len n bs fN fT fk fl fh m1 m2 b1 b2 0)))
    (HLi : Hid (∀ A' A1 A2 c' c1 c2 V, Rd V V.heap.size A' bs → Rd V V.heap.size A1 b1 → Rd V V.heap.size A2 b2 → Calls Tryz.prog 37 #[.agg #[.int .i64 pN, .int .i64 pB, .int .i64 pl, .int .i64 pk, .int .i64 len, .slice A' n c', .int .i64 fN, .int .i64 fT, .int .i64 fk, .int .i64 fl, .slice A1 m1 c1, .int .i64 fh, .slice A2 m2 c2], .int .i64 (i : Int)] V (LiP V nl l (m : Int) 0)))
    (HLe : Hid (∀ A' A1 A2 c' c1 c2 V, Rd V V.heap.size A' bs → Rd V V.heap.size A1 b1 → Rd V V.heap.size A2 b2 → Calls Tryz.prog 38 #[.agg #[.int .i64 pN, .int .i64 pB, .int .i64 pl, .int .i64 pk, .int .i64 len, .slice A' n c', .int .i64 fN, .int .i64 fT, .int .i64 fk, .int .i64 fl, .slice A1 m1 c1, .int .i64 fh, .slice A2 m2 c2], .int .i64 (i : Int), .int .i64 to] V (LeP V q er)))
    (HSi : Hid (∀ A B c d V, RdV V V.heap.size A (zc (ns l)) → RdV V V.heap.size B (zc (ns l)) → Calls Tryz.prog 21 #[.slice A nl c, .slice B nl d] V fun e w' => e = .returned (.bool true) ∧ Below V.heap.size V w'))
    (HHi : Hid (er = 0 → ∀ A c V, RdV V V.heap.size A (zc (ns l)) → Calls Tryz.prog 45 #[.slice A nl c, .int .i64 to] V fun e w' => e = .returned (.bool q) ∧ Below V.heap.size V w')) :
    Calls Tryz.prog 9 #[.agg #[.slice A N c], .agg #[.int .i64 B, .int .i64 ls, .int .i64 k], .int .i64 (i : Int), .int .i64 to] w fun e w' => e = .returned (.bool true) ∧ Below w.heap.size w w' := by
  subst hA
  have HA := Lib.hid (And.intro hbA (And.intro hcA hRr))
  have HM := Lib.hid (And.intro hm (And.intro hi hN))
  clear hbA hcA hRr hm hi hN
  obtain ⟨w1, ew1, hI⟩ := fai_at w (some ⟨bA, oA, none⟩) N c B ls k
  have HI1 := Lib.hid hI
  have k1 := box_cell hI.2.1
  obtain ⟨x1, x2, x3⟩ := how_at hI.2.2
  clear hI
  go_enter Tryz.func9, Tryz.ntmps9
  go_wp2_with fail
  try rw [ew1]
  refine (HBu.out w1 HI1.out.1).mono ?_
  rintro e w2 ⟨A', c', A1, c1, A2, c2, rfl, r0, r1, r2, q2⟩
  obtain ⟨X2, hX2⟩ : ∃ X, w2.alloc (.cells #[.int .i64 pN, .int .i64 pB, .int .i64 pl, .int .i64 pk, .int .i64 len, .slice A' n c', .int .i64 fN, .int .i64 fT, .int .i64 fk, .int .i64 fl, .slice A1 m1 c1, .int .i64 fh, .slice A2 m2 c2] 67) = X := ⟨_, rfl⟩
  have hb2 : Below w2.heap.size w2 X2 := hX2 ▸ one_below w2 _
  have hx2 : X2.heap[w2.heap.size]? = some (.cells #[.int .i64 pN, .int .i64 pB, .int .i64 pl, .int .i64 pk, .int .i64 len, .slice A' n c', .int .i64 fN, .int .i64 fT, .int .i64 fk, .int .i64 fl, .slice A1 m1 c1, .int .i64 fh, .slice A2 m2 c2] 67 (0, 0)) := hX2 ▸ World.alloc_heap_new w2 _
  have HI2 := Lib.hid (HI1.out.on (q2.trans (hb2.mono q2.size)))
  have HS2 : Hid (ShS w X2 w2.heap.size pN pB pl pk len fN fT fk fl fh A' A1 A2 n c' m1 c1 m2 c2 bs b1 b2) := ⟨HI2.out.1, hx2, r0.on hb2, r1.on hb2, r2.on hb2⟩
  clear q2 r0 r1 r2 hb2 hx2 x1 x2 x3 k1 ew1 HI1 HBu
  go_wp2_with fail
  try rw [hX2]
  refine (HBg.out X2).mono ?_
  rintro e w3 ⟨rfl, q3⟩
  have HS3 := Lib.hid (HS2.out.on q3)
  have HI3 := Lib.hid (HI2.out.on q3)
  have HF3 := Lib.hid HI3.out.1
  clear q3 hX2 HS2 HI2
  have hrg := Lib.hid (range_all (cs := [.int .i64 pN, .int .i64 pB, .int .i64 pl, .int .i64 pk, .int .i64 len, .slice A' n c', .int .i64 fN, .int .i64 fT, .int .i64 fk, .int .i64 fl, .slice A1 m1 c1, .int .i64 fh, .slice A2 m2 c2]) HS3.out.row)
  go_wp2_with (first | (refine wpList_load_mid rfl 67 _ rfl w2.heap.size 0 rfl [.int .i64 pN, .int .i64 pB, .int .i64 pl, .int .i64 pk, .int .i64 len, .slice A' n c', .int .i64 fN, .int .i64 fT, .int .i64 fk, .int .i64 fl, .slice A1 m1 c1, .int .i64 fh, .slice A2 m2 c2] _ hrg.out Tryz.underlying67 rfl info_sh ?_))
  refine (HLi.out A' A1 A2 c' c1 c2 w3 HS3.out.r0 HS3.out.r1 HS3.out.r2).mono ?_
  rintro e w4 ⟨A5, c5, rfl, r5, q4⟩
  have HS4 := Lib.hid (HS3.out.on q4)
  have HI4 := Lib.hid (HI3.out.on q4)
  have HR5 := Lib.hid r5
  have HRr := Lib.hid (HA.out.2.2.on HI4.out.1)
  have k4 := box_cell HI4.out.2.1
  have kA : w4.cell? ⟨bA, oA + i, none⟩ = some (.slice Ar nl cr) := (HI4.out.1.cell (p := ⟨bA, oA + i, none⟩) HA.out.1).trans HA.out.2.1
  have t1 : ¬ (i : Int) < 0 := by omega
  have t2 : ¬ (N : Int) ≤ (i : Int) := by have h := HM.out; omega
  have t2n : ¬ N ≤ i := by have h := HM.out; omega
  have t3 : (0 : Int) ≤ (i : Int) := by omega
  have t4 : (i : Int) < (N : Int) := by have h := HM.out; omega
  clear q4 r5 hrg
  go_wp2_with fail
  refine (HSi.out A5 Ar c5 cr w4 HR5.out HRr.out).mono ?_
  rintro e w5 ⟨rfl, q5⟩
  have HS5 := Lib.hid (HS4.out.on q5)
  have HI5 := Lib.hid (HI4.out.on q5)
  have HR6 := Lib.hid (HR5.out.on q5)
  have hrg := Lib.hid (range_all (cs := [.int .i64 pN, .int .i64 pB, .int .i64 pl, .int .i64 pk, .int .i64 len, .slice A' n c', .int .i64 fN, .int .i64 fT, .int .i64 fk, .int .i64 fl, .slice A1 m1 c1, .int .i64 fh, .slice A2 m2 c2]) HS5.out.row)
  have t5 : decide ((m : Int) < 1) = false := by have h := HM.out; simp; omega
  have t5n : decide (m < 1) = false := by have h := HM.out; simp; omega
  have t6 : wrap64 ((i : Int) + 1) = (i : Int) + 1 := by have h := HM.out; unfold wrap64; omega
  have t7 : decide ((i : Int) + 1 < (m : Int)) = false := by have h := HM.out; simp; omega
  have t7n : decide (i + 1 < m) = false := by have h := HM.out; simp; omega
  clear q5 k4 kA t1 t2 t2n t3 t4
  go_wp2_with (first | (refine wpList_load_mid rfl 67 _ rfl w2.heap.size 0 rfl [.int .i64 pN, .int .i64 pB, .int .i64 pl, .int .i64 pk, .int .i64 len, .slice A' n c', .int .i64 fN, .int .i64 fT, .int .i64 fk, .int .i64 fl, .slice A1 m1 c1, .int .i64 fh, .slice A2 m2 c2] _ hrg.out Tryz.underlying67 rfl info_sh ?_))
  refine (HLe.out A' A1 A2 c' c1 c2 w5 HS5.out.r0 HS5.out.r1 HS5.out.r2).mono ?_
  rintro e w6 ⟨rfl, q6⟩
  have HI6 := Lib.hid (HI5.out.on q6)
  have HF6 := Lib.hid HI6.out.1
  have HR7 := Lib.hid (HR6.out.on q6)
  have k6 := box_cell HI6.out.2.1
  clear q6 hrg t5 t5n t6 t7 t7n
  rcases her with ⟨rfl, rfl, ho⟩ | ⟨rfl, h0, h1⟩
  · rcases (show to < 0 ∨ (¬ to < 0 ∧ (N : Int) ≤ to) by omega) with h | ⟨h, h2⟩
    · clear ho
      go_wp2
      go_ret
      exact ⟨by simp, HF6.out⟩
    · clear ho
      go_wp2
      go_ret
      exact ⟨by simp, HF6.out⟩
  · have HHi2 := Lib.hid (HHi.out rfl)
    clear HHi h0 h1
    go_wp2_with fail
    refine (HHi2.out A5 c5 w6 HR7.out).mono ?_
    rintro e w7 ⟨rfl, q7⟩
    have HF7 := Lib.hid (HF6.out.trans (q7.mono HF6.out.size))
    clear q7
    go_wp2
    go_ret
    exact ⟨by simp, HF7.out⟩
theorem shelfList_law (A0 : Option Addr) (c0 : Nat) (R0 : List Rw) (B ls k node to : Int) (w : World) (hG : RdG w w.heap.size A0 R0) (hn : R0.length ≤ 140737488355328) (hcap : ∀ r ∈ R0, r.2.2.length ≤ r.2.1) :
    Calls Tryz.prog 9 #[.agg #[.slice A0 R0.length c0], .agg #[.int .i64 B, .int .i64 ls, .int .i64 k], .int .i64 node, .int .i64 to] w fun e w' => e = .returned (.bool true) ∧ Below w.heap.size w w' := by
  have HBg : Hid (∀ V, Calls Tryz.prog 42 #[] V fun e w' => e = .returned (.bool true) ∧ Below V.heap.size V w') := fun V => shelfbegun_true V
  obtain ⟨N, hN⟩ : ∃ N, R0.length = N := ⟨_, rfl⟩
  rw [hN] at hn ⊢
  rcases build_ways R0 N hN hn hcap B ls k A0 c0 w hG with ⟨er, her, -, hP⟩ | ⟨g, B', ls', k', L, kk, lS, rfl, rfl, rfl, h, hgr, hP⟩
  · exact shlist_e w A0 N c0 B ls k node to er her HBg hP
  · by_cases hno : node < 0 ∨ (N : Int) ≤ node
    · exact shlist_no w A0 N c0 _ _ _ node to _ _ _ _ _ _ _ _ _ _ _ _ _ _ _ _ hno HBg hP (Lib.hid fun A' A1 A2 c' c1 c2 V r0 r1 r2 => list_no h A' A1 A2 c' c1 c2 V r0 r1 r2 node (by omega))
    · obtain ⟨i, rfl⟩ := Int.eq_ofNat_of_zero_le (show 0 ≤ node by omega)
      have hi : i < N := by omega
      have hn100 := h.n100
      obtain ⟨⟨Ar, cr, xr⟩, e1⟩ : ∃ q, R0[i]?.getD (none, 0, []) = q := ⟨_, rfl⟩
      have hrow := hgr.row i
      rw [e1] at hrow
      simp only at hrow
      subst hrow
      have hmem := rw_mem R0 i (by omega)
      have hRr := (hG.2 _ hmem).1
      rw [e1] at hRr
      simp only at hRr
      obtain ⟨bA, oA, hA, hbA, hcA⟩ : ∃ b off, A0 = some ⟨b, off, none⟩ ∧ b < w.heap.size ∧ w.cell? ⟨b, off + i, none⟩ = some (.slice Ar (row g i).length cr) := by
        rcases hG.1 with e | ⟨b, off, e, hb, hc⟩
        · have := congrArg List.length e
          rw [rcl_length, List.length_nil] at this; omega
        · exact ⟨b, off, e, hb, by have := hc _ _ (rcl_get R0 i (by omega)); rw [e1] at this; unfold sl at this; rwa [ns_length] at this⟩
      have hsp : 1 ≤ stp B' ls' k' g i ∧ stp B' ls' k' g i ≤ i + 1 := ⟨by
        by_cases q : bst B' ls' k' g i = 0
        · rw [stp_0 _ _ _ _ _ q]; omega
        · rw [stp_r _ _ _ _ _ q]; omega, stp_le B' ls' k' g i i⟩
      have hl100 : (row g i).length ≤ 100 := by
        have hr : row g i ∈ g := by
          unfold row
          rw [List.getElem?_eq_getElem (by rw [h.hN]; exact hi)]
          exact List.getElem_mem _
        exact Nat.le_trans (ris_few (row g i) g.length (h.ok.ris _ hr) (h.ok.bd _ hr)) h.ok.nodes
      have HSi : Hid (∀ A B c d V, RdV V V.heap.size A (zc (ns (row g i))) → RdV V V.heap.size B (zc (ns (row g i))) → Calls Tryz.prog 21 #[.slice A (row g i).length c, .slice B (row g i).length d] V fun e w' => e = .returned (.bool true) ∧ Below V.heap.size V w') := fun A B c d V h1 h2 => by
        have := same_ints V A B c d (ns (row g i)) (ns (row g i)) (row g i).length (ns_length _) (ns_length _) (by omega) h1 h2
        rw [decide_eq_true rfl] at this
        exact this
      by_cases hto : 0 ≤ to ∧ to < (N : Int)
      · obtain ⟨j, rfl⟩ := Int.eq_ofNat_of_zero_le hto.1
        refine shlist_in w A0 N c0 _ _ _ (j : Int) i (stp B' ls' k' g i) (row g i).length (row g i) _ _ _ _ _ _ _ _ _ _ _ _ _ _ _ _ hi hn100 hsp bA oA Ar cr hA hbA hcA hRr ((ns (row g i)).any fun z => (j : Int) == z) 0 (.inr ⟨rfl, hto⟩) HBg hP (Lib.hid fun A' A1 A2 c' c1 c2 V r0 r1 r2 => list_ok h A' A1 A2 c' c1 c2 V r0 r1 r2 i hi) (Lib.hid fun A' A1 A2 c' c1 c2 V r0 r1 r2 => leads_ok h A' A1 A2 c' c1 c2 V r0 r1 r2 i j hi (by omega)) HSi (Lib.hid fun _ A c V hV => ?_)
        refine (hasInt_any (ns (row g i)) (row g i).length (ns_length _) (by omega) (j : Int) _ ?_ A c V hV).mono fun e w' q => ⟨q.1, q.2 ▸ Below.refl _ _⟩
        by_cases q : (j : Int) ∈ ns (row g i)
        · exact .inl ⟨List.any_eq_true.2 ⟨_, q, by simp⟩, q⟩
        · refine .inr ⟨List.any_eq_false.2 fun x hx => ?_, q⟩
          simp only [beq_iff_eq]
          rintro rfl
          exact q hx
      · exact shlist_in w A0 N c0 _ _ _ to i (stp B' ls' k' g i) (row g i).length (row g i) _ _ _ _ _ _ _ _ _ _ _ _ _ _ _ _ hi hn100 hsp bA oA Ar cr hA hbA hcA hRr false 3 (.inl ⟨rfl, rfl, by omega⟩) HBg hP (Lib.hid fun A' A1 A2 c' c1 c2 V r0 r1 r2 => list_ok h A' A1 A2 c' c1 c2 V r0 r1 r2 i hi) (Lib.hid fun A' A1 A2 c' c1 c2 V r0 r1 r2 => leads_no h A' A1 A2 c' c1 c2 V r0 r1 r2 (i : Int) to (fun q => hto q.2)) HSi (Lib.hid fun q => by omega)
end Go.Proofs.YtbddcokjkdoaaaaGreat
