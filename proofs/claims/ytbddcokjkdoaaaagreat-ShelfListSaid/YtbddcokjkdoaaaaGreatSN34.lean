/- Texts of this proof, one behind the other; each fact names its conditions. -/
import Derived.Test.YtbddcokjkdoaaaaGreatSN33
import Derived.Test.YtbddcokjkdoaaaaGreatSN24
namespace Go.Proofs.YtbddcokjkdoaaaaGreat
set_option maxRecDepth 100000
set_option linter.unusedVariables false
open Go.RowKit Go.Shelf
set_option maxHeartbeats 8000000 in
theorem shnone_w (w : World) (A : Option Addr) (N c : Nat) (B ls k node e1 : Int) (pN pB pl pk len fN fT fk fl fh : Int) (n m1 m2 : Nat) (bs b1 b2 : List Nat) (nl : Nat) (l : List Nat)
    (HBg : Hid (∀ V, Calls Tryz.prog 42 #[] V fun e w' => e = .returned (.bool true) ∧ Below V.heap.size V w'))
    (HBu : Hid (∀ V, Below w.heap.size w V → Calls Tryz.prog 36 #[.agg #[.slice A N c], .agg #[.int .i64 0, .int .i64 ls, .int .i64 k]] V (BuP V pN pB pl pk len n bs fN fT fk fl fh m1 m2 b1 b2 e1)))
    (HLi : Hid (e1 = 0 → 0 ≤ node → node < (N : Int) → ∀ A' A1 A2 c' c1 c2 V, Rd V V.heap.size A' bs → Rd V V.heap.size A1 b1 → Rd V V.heap.size A2 b2 → Calls Tryz.prog 37 #[.agg #[.int .i64 pN, .int .i64 pB, .int .i64 pl, .int .i64 pk, .int .i64 len, .slice A' n c', .int .i64 fN, .int .i64 fT, .int .i64 fk, .int .i64 fl, .slice A1 m1 c1, .int .i64 fh, .slice A2 m2 c2], .int .i64 node] V (LiP V nl l 1 0))) :
    Calls Tryz.prog 11 #[.agg #[.slice A N c], .agg #[.int .i64 B, .int .i64 ls, .int .i64 k], .int .i64 node] w fun e w' => e = .returned (.bool true) ∧ Below w.heap.size w w' := by
  obtain ⟨w1, ew1, hI⟩ := fai_at w A N c B ls k
  have HI1 := Lib.hid hI
  obtain ⟨x1, x2, x3⟩ := how_at hI.2.2
  have f1' := frz_at hI.2.2 0
  obtain ⟨W6, hW6⟩ : ∃ W6, w1.setCell ⟨w.heap.size + 1, 0, none⟩ (.int .i64 0) = W6 := ⟨_, rfl⟩
  have HI6 : Hid (FaI w W6 A N c 0 ls k) := by rw [← hW6]; exact hI.back
  have k6 := box_cell HI6.out.2.1
  obtain ⟨z1, z2, z3⟩ := how_at HI6.out.2.2
  clear hI
  go_enter Tryz.func11, Tryz.ntmps11
  go_wp2_with fail
  try rw [ew1]
  try rw [hW6]
  refine (HBu.out W6 HI6.out.1).mono ?_
  rintro e w2 ⟨A', c', A1, c1, A2, c2, rfl, r0, r1, r2, q2⟩
  obtain ⟨X2, hX2⟩ : ∃ X, w2.alloc (.cells #[.int .i64 pN, .int .i64 pB, .int .i64 pl, .int .i64 pk, .int .i64 len, .slice A' n c', .int .i64 fN, .int .i64 fT, .int .i64 fk, .int .i64 fl, .slice A1 m1 c1, .int .i64 fh, .slice A2 m2 c2] 67) = X := ⟨_, rfl⟩
  have hb2 : Below w2.heap.size w2 X2 := hX2 ▸ one_below w2 _
  have hx2 : X2.heap[w2.heap.size]? = some (.cells #[.int .i64 pN, .int .i64 pB, .int .i64 pl, .int .i64 pk, .int .i64 len, .slice A' n c', .int .i64 fN, .int .i64 fT, .int .i64 fk, .int .i64 fl, .slice A1 m1 c1, .int .i64 fh, .slice A2 m2 c2] 67 (0, 0)) := hX2 ▸ World.alloc_heap_new w2 _
  have HI2 := Lib.hid (HI6.out.on (q2.trans (hb2.mono q2.size)))
  have HS2 : Hid (ShS w X2 w2.heap.size pN pB pl pk len fN fT fk fl fh A' A1 A2 n c' m1 c1 m2 c2 bs b1 b2) := ⟨HI2.out.1, hx2, r0.on hb2, r1.on hb2, r2.on hb2⟩
  clear q2 r0 r1 r2 hb2 hx2 x1 x2 x3 f1' hW6 ew1 k6 z1 z2 z3 HI1 HBu
  go_wp2_with fail
  try rw [hX2]
  refine (HBg.out X2).mono ?_
  rintro e w3 ⟨rfl, q3⟩
  have HS3 := Lib.hid (HS2.out.on q3)
  have HI3 := Lib.hid (HI2.out.on q3)
  have HF3 := Lib.hid HI3.out.1
  have k3 := box_cell HI3.out.2.1
  clear q3 hX2 HS2 HI2
  by_cases he : e1 = 0
  case neg =>
    have t1 : (e1 != 0) = true := by simpa using he
    clear he
    go_wp2
    go_ret
    exact ⟨rfl, HF3.out⟩
  by_cases h1 : node < 0
  case pos =>
    subst he
    have t1 : decide (node < 0) = true := by simpa using h1
    go_wp2
    go_ret
    exact ⟨rfl, HF3.out⟩
  by_cases h2 : (N : Int) ≤ node
  case pos =>
    subst he
    go_wp2
    go_ret
    exact ⟨rfl, HF3.out⟩
  have HL := Lib.hid (HLi.out he (by omega) (by omega))
  subst he
  have hrg := Lib.hid (range_all (cs := [.int .i64 pN, .int .i64 pB, .int .i64 pl, .int .i64 pk, .int .i64 len, .slice A' n c', .int .i64 fN, .int .i64 fT, .int .i64 fk, .int .i64 fl, .slice A1 m1 c1, .int .i64 fh, .slice A2 m2 c2]) HS3.out.row)
  clear HLi
  go_wp2_with (first | (refine wpList_load_mid rfl 67 _ rfl w2.heap.size 0 rfl [.int .i64 pN, .int .i64 pB, .int .i64 pl, .int .i64 pk, .int .i64 len, .slice A' n c', .int .i64 fN, .int .i64 fT, .int .i64 fk, .int .i64 fl, .slice A1 m1 c1, .int .i64 fh, .slice A2 m2 c2] _ hrg.out Tryz.underlying67 rfl info_sh ?_))
  refine (HL.out A' A1 A2 c' c1 c2 w3 HS3.out.r0 HS3.out.r1 HS3.out.r2).mono ?_
  rintro e w4 ⟨A5, c5, rfl, -, q4⟩
  have HF4 := Lib.hid (HF3.out.trans (q4.mono HF3.out.size))
  clear q4 hrg
  go_wp2
  go_ret
  exact ⟨rfl, HF4.out⟩
theorem shelfNone_law (A0 : Option Addr) (c0 : Nat) (R0 : List Rw) (B ls k node : Int) (w : World) (hG : RdG w w.heap.size A0 R0) (hn : R0.length ≤ 140737488355328) (hcap : ∀ r ∈ R0, r.2.2.length ≤ r.2.1) :
    Calls Tryz.prog 11 #[.agg #[.slice A0 R0.length c0], .agg #[.int .i64 B, .int .i64 ls, .int .i64 k], .int .i64 node] w fun e w' => e = .returned (.bool true) ∧ Below w.heap.size w w' := by
  have HBg : Hid (∀ V, Calls Tryz.prog 42 #[] V fun e w' => e = .returned (.bool true) ∧ Below V.heap.size V w') := fun V => shelfbegun_true V
  obtain ⟨N, hN⟩ : ∃ N, R0.length = N := ⟨_, rfl⟩
  rw [hN] at hn ⊢
  rcases build_ways R0 N hN hn hcap 0 ls k A0 c0 w hG with ⟨er, her, -, hP⟩ | ⟨g, B', ls', k', L, kk, lS, e1, rfl, rfl, h, hgr, hP⟩
  · exact shnone_w w A0 N c0 B ls k node er 0 0 0 0 0 0 0 0 0 0 0 0 0 [] [] [] 0 [] HBg hP (Lib.hid fun q => absurd q her)
  · obtain rfl : B' = 0 := by omega
    by_cases hno : 0 ≤ node ∧ node < (N : Int)
    · obtain ⟨i, rfl⟩ := Int.eq_ofNat_of_zero_le hno.1
      refine shnone_w w A0 N c0 B _ _ (i : Int) 0 _ _ _ _ _ _ _ _ _ _ _ _ _ _ _ _ (row g i).length (row g i) HBg hP (Lib.hid fun _ _ hi A' A1 A2 c' c1 c2 V r0 r1 r2 => ?_)
      have := list_ok h A' A1 A2 c' c1 c2 V r0 r1 r2 i (by omega)
      rw [stp_0 0 ls' k' g i (by have := bst_le 0 ls' k' g i; omega)] at this
      exact this
    · exact shnone_w w A0 N c0 B _ _ node 0 _ _ _ _ _ _ _ _ _ _ _ _ _ _ _ _ 0 [] HBg hP (Lib.hid fun _ q1 q2 => absurd ⟨q1, q2⟩ hno)
end Go.Proofs.YtbddcokjkdoaaaaGreat
