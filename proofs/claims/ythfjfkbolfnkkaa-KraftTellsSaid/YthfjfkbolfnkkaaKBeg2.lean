/- What is asked in any case of codes by their lengths: the walk. -/
import Derived.Test.YthfjfkbolfnkkaaKBegun
namespace Go.Proofs.Ythfjfkbolfnkkaa
set_option maxRecDepth 100000
set_option linter.unusedVariables false
open Go.RowKit Go.Shelf Go.Sort

theorem kb_apart : apart [[true, false], [], [false], [true, true, false], [true, true, true]] := by rw [← kb_codes]; exact codes_apart _ (by decide) (by rw [kb_tkn]; exact Nat.le_refl _)
theorem kb_room (V : World) (A : Option Addr) (h : RdV V V.heap.size A (zc [2, 0, 1, 3, 3])) : Calls Try.prog 12 #[.slice A 5 5] V fun e w' => e = .returned (.tuple #[.int .i64 0, .int .i64 0]) ∧ Below V.heap.size V w' := by
  have := room_ok [2, 0, 1, 3, 3] 5 rfl (by decide) (by decide) A 5 V h
  rw [kb_tkn] at this
  exact this
theorem kb_cod (V : World) (A : Option Addr) (h : RdV V V.heap.size A (zc [2, 0, 1, 3, 3])) : Calls Try.prog 13 #[.slice A 5 5] V (GotC V [[true, false], [], [false], [true, true, false], [true, true, true]]) := by
  have := codes_ok [2, 0, 1, 3, 3] 5 rfl (by decide) (by decide) (by rw [kb_tkn]; exact Nat.le_refl _) A 5 V h
  rw [kb_codes] at this
  exact this
theorem kb_sg1 (V : World) (A B : Option Addr) (h : RdV V V.heap.size A (zc [2, 0, 1, 3, 3])) (h2 : Rd V V.heap.size B [96]) : Calls Try.prog 15 #[.slice A 5 5, .agg #[.int .i64 4, .slice B 1 1], .int .i64 1] V (SgP V 3 4 0) := by
  rw [← kb_pack1] at h2
  exact sign_ok [2, 0, 1, 3, 3] 5 rfl (by decide) (by decide) (by rw [kb_tkn]; exact Nat.le_refl _) A 5 V h [false, true, true, false] (by decide) B 1 h2 1 (by decide) 3 4 0 kb_sgn1
theorem kb_sg2 (V : World) (A B : Option Addr) (h : RdV V V.heap.size A (zc [2])) (h2 : Rd V V.heap.size B [128]) : Calls Try.prog 15 #[.slice A 1 1, .agg #[.int .i64 1, .slice B 1 1], .int .i64 0] V (SgP V 0 0 5) := by
  rw [← kb_pack2] at h2
  exact sign_ok [2] 1 rfl (by decide) (by decide) (by decide) A 1 V h [true] (by decide) B 1 h2 0 (by decide) 0 0 5 kb_sgn2
theorem kb_cf (V : World) (A : Option Addr) (h : RdV V V.heap.size A (zc [1, 1, 1])) : Calls Try.prog 13 #[.slice A 3 3] V (CoP V 8) :=
  codes_w A 3 3 V 8 (by decide) (wordsOf_no [1, 1, 1] 3 rfl (by decide) 8 kb_full (by decide) A 3 V h)
theorem kb_ap (V : World) (A : Option Addr) (c : Nat) (bs : List Bx) (hb : bs.map (fun x : Bx => x.1) = [[true, false], [], [false], [true, true, false], [true, true, true]]) (h : RdR V V.heap.size A (bs.map rx)) : Calls Try.prog 14 #[.slice A 5 c] V fun e w' => e = .returned (.tuple #[.bool true, .int .i64 0]) ∧ Below V.heap.size V w' := by
  have hl : bs.length = 5 := by have := congrArg List.length hb; simpa using this
  refine (apart_ok bs 5 hl (by decide) A c V h (fun x hx => ?_)).mono ?_
  · have : x.1 ∈ bs.map (fun x : Bx => x.1) := List.mem_map_of_mem hx
    rw [hb] at this
    simp at this
    rcases this with h | h | h | h | h <;> rw [h] <;> decide
  · rintro e w' ⟨b, h1, h2, h3⟩
    rw [hb] at h1
    have : b = true := h1.2 kb_apart
    subst this
    exact ⟨h2, h3⟩
theorem kb_same (L : List Bool) (n x : Nat) (hp : pack L = [x]) (hn : L.length = n) (V : World) (A B : Option Addr) (c d : Nat) (h1 : Rd V V.heap.size A [x]) (h2 : Rd V V.heap.size B [x]) : Calls Try.prog 23 #[.agg #[.int .i64 (n : Int), .slice A 1 c], .agg #[.int .i64 (n : Int), .slice B 1 d]] V fun e w' => e = .returned (.bool true) ∧ Below V.heap.size V w' := by
  have h := sameBits_any V (n : Int) (n : Int) A B c d [x] [x] (by simp) h1 h2
  simpa using h

set_option maxHeartbeats 4000000 in
theorem kbegun (w : World) : Calls Try.prog 21 #[] w fun e w' => e = .returned (.bool true) ∧ Below w.heap.size w w' := by
  go_enter Try.func21, Try.ntmps21
  go_wp2_with fail
  have r1 := rdv_row w (zc [2, 0, 1, 3, 3]) 3
  have HV1 : Hid (Below w.heap.size w (w.alloc (.cells (zc [2, 0, 1, 3, 3]).toArray 3))) := one_below w _
  obtain ⟨V1, hV1⟩ : ∃ V1, w.alloc (.cells (zc [2, 0, 1, 3, 3]).toArray 3) = V1 := ⟨_, rfl⟩
  rw [hV1] at r1 HV1
  have e1 : w.alloc (.cells #[.int .i64 2, .int .i64 0, .int .i64 1, .int .i64 3, .int .i64 3] 3) = V1 := hV1
  rw [e1]
  clear e1 hV1
  have HL := Lib.hid r1; clear r1
  refine (kb_room V1 _ HL.out).mono ?_
  rintro e w2 ⟨rfl, b2⟩
  have HB2 := Lib.hid b2; clear b2
  go_wp2_with fail
  refine (kb_cod w2 _ (HL.out.on HB2.out)).mono ?_
  rintro e w3 ⟨Ac, cc, bs, rfl, hbs, rr, b3⟩
  have HB3 : Hid (Below V1.heap.size V1 w3) := HB2.out.trans (b3.mono HB2.out.size)
  have HRR := Lib.hid rr; have HBs := Lib.hid hbs
  clear b3 rr hbs
  go_wp2_with fail
  refine (kb_ap w3 Ac cc bs HBs.out HRR.out).mono ?_
  rintro e w4 ⟨rfl, b4⟩
  have HB4 : Hid (Below V1.heap.size V1 w4) := HB3.out.trans (b4.mono HB3.out.size)
  have HR4 := Lib.hid (HRR.out.on b4)
  clear b4 HRR
  go_wp2_with fail
  refine (kb_sg1 _ _ _ (HL.out.on (HB4.out.trans ((one_below w4 _).mono HB4.out.size))) (rd_row1 w4 96)).mono ?_
  rintro e w5 ⟨rfl, b5⟩
  have HB45 : Hid (Below w4.heap.size w4 w5) := (one_below w4 _).trans (b5.mono (by simp))
  have HB5 : Hid (Below V1.heap.size V1 w5) := HB4.out.trans (HB45.out.mono HB4.out.size)
  clear b5
  go_wp2_with fail
  have r5 : RdV (w5.alloc (.cells #[.int .i64 1, .int .i64 1, .int .i64 1] 3)) (w5.alloc (.cells #[.int .i64 1, .int .i64 1, .int .i64 1] 3)).heap.size (some ⟨w5.heap.size, 0, none⟩) (zc [1, 1, 1]) := rdv_row w5 (zc [1, 1, 1]) 3
  refine (kb_cf _ _ r5).mono ?_
  clear r5
  rintro e w6 ⟨rfl, b6⟩
  have HB56 : Hid (Below w5.heap.size w5 w6) := (one_below w5 _).trans (b6.mono (by simp))
  clear b6
  go_wp2_with fail
  have r6 : RdV (w6.alloc (.cells #[.int .i64 2] 3)) (w6.alloc (.cells #[.int .i64 2] 3)).heap.size (some ⟨w6.heap.size, 0, none⟩) (zc [2]) := rdv_row w6 (zc [2]) 3
  have hs6 : (w6.alloc (.cells #[.int .i64 2] 3)).heap.size = w6.heap.size + 1 := World.size_alloc _ _
  have r6' := rd_row1 (w6.alloc (.cells #[.int .i64 2] 3)) 128
  rw [hs6] at r6'
  refine (kb_sg2 _ _ _ (r6.on (one_below _ _)) r6').mono ?_
  clear r6 r6' hs6
  rintro e w7 ⟨rfl, b7⟩
  have HB67 : Hid (Below w6.heap.size w6 w7) := ((one_below w6 _).trans ((one_below _ _).mono (by simp))).trans (b7.mono (by simp only [World.size_alloc]; omega))
  have HB47 : Hid (Below w4.heap.size w4 w7) := (HB45.out.trans (HB56.out.mono HB45.out.size)).trans (HB67.out.mono (Nat.le_trans HB45.out.size HB56.out.size))
  have HB7 : Hid (Below w.heap.size w w7) := HV1.out.trans ((HB4.out.trans (HB47.out.mono HB4.out.size)).mono HV1.out.size)
  have HR7 := Lib.hid (HR4.out.on HB47.out)
  clear b7 HL HV1 HB45 HB56 HB67 HB4 HB3 HB2
  have hx : ∀ (i : Nat) (L : List Bool), ([[true, false], [], [false], [true, true, false], [true, true, true]] : List (List Bool))[i]? = some L → ∃ x : Rx, (bs.map rx)[i]? = some x ∧ x.1 = (L.length : Int) ∧ x.2.2.2 = pack L := by
    intro i L hL
    rw [← HBs.out, List.getElem?_map] at hL
    obtain ⟨y, hy, rfl⟩ := Option.map_eq_some_iff.1 hL
    exact ⟨rx y, by rw [List.getElem?_map, hy]; rfl, rfl, rfl⟩
  obtain ⟨x0, a0, q0, s0⟩ := hx 0 [true, false] rfl
  obtain ⟨x2, a2, q2, s2⟩ := hx 2 [false] rfl
  obtain ⟨x4, a4, q4, s4⟩ := hx 4 [true, true, true] rfl
  obtain ⟨b, off, rfl, hb, c00, c01, d0⟩ := HR7.out.at_ a0
  obtain ⟨b', off', hE', _, c20, c21, d2⟩ := HR7.out.at_ a2
  obtain ⟨b'', off'', hE'', _, c40, c41, d4⟩ := HR7.out.at_ a4
  simp only [Option.some.injEq, Addr.mk.injEq, and_true] at hE' hE''
  obtain ⟨rfl, rfl⟩ := hE'
  obtain ⟨rfl, rfl⟩ := hE''
  rw [q0] at c00; rw [s0, kb_p0] at c01 d0
  rw [q2] at c20; rw [s2, kb_p2] at c21 d2
  rw [q4] at c40; rw [s4, kb_p4] at c41 d4
  clear a0 a2 a4 q0 q2 q4 s0 s2 s4 hx HR7 HR4
  obtain ⟨_, A0, k0, _⟩ := x0
  obtain ⟨_, A2, k2, _⟩ := x2
  obtain ⟨_, A4, k4, _⟩ := x4
  simp only [List.length_cons, List.length_nil] at c00 c01 c20 c21 c40 c41 d0 d2 d4
  rw [show off + 0 * 2 = off by omega] at c00 c01
  have HD0 := Lib.hid d0; have HD2 := Lib.hid d2; have HD4 := Lib.hid d4
  clear d0 d2 d4
  go_wp2_with fail
  refine (kb_same [true, false] 2 128 kb_p0 rfl _ _ _ _ _ (HD0.out.on (one_below w7 _)) (rd_row1 w7 128)).mono ?_
  rintro e w8 ⟨rfl, b8⟩
  have HB8 : Hid (Below w7.heap.size w7 w8) := ((one_below w7 _).trans (b8.mono (by simp)))
  clear b8
  have c20' := (World.cell?_of_block (w := w7) (a := ⟨b, off + 2 * 2, none⟩) (HB8.out.block b hb)).trans c20
  rw [show off + 2 * 2 = off + 4 by omega] at c20'
  have c21' := (World.cell?_of_block (w := w7) (a := ⟨b, off + 2 * 2 + 1, none⟩) (HB8.out.block b hb)).trans c21
  rw [show off + 2 * 2 = off + 4 by omega] at c21'
  go_wp2_with fail
  refine (kb_same [false] 1 0 kb_p2 rfl _ _ _ _ _ (HD2.out.on (HB8.out.trans ((one_below w8 _).mono HB8.out.size))) (rd_row1 w8 0)).mono ?_
  rintro e w9 ⟨rfl, b9⟩
  have HB9 : Hid (Below w7.heap.size w7 w9) := HB8.out.trans (((one_below w8 _).trans (b9.mono (by simp))).mono HB8.out.size)
  clear b9
  have c40' := (World.cell?_of_block (w := w7) (a := ⟨b, off + 4 * 2, none⟩) (HB9.out.block b hb)).trans c40
  rw [show off + 4 * 2 = off + 8 by omega] at c40'
  have c41' := (World.cell?_of_block (w := w7) (a := ⟨b, off + 4 * 2 + 1, none⟩) (HB9.out.block b hb)).trans c41
  rw [show off + 4 * 2 = off + 8 by omega] at c41'
  go_wp2_with fail
  refine (kb_same [true, true, true] 3 224 kb_p4 rfl _ _ _ _ _ (HD4.out.on (HB9.out.trans ((one_below w9 _).mono HB9.out.size))) (rd_row1 w9 224)).mono ?_
  rintro e w10 ⟨rfl, b10⟩
  have HB10 : Hid (Below w7.heap.size w7 w10) := HB9.out.trans (((one_below w9 _).trans (b10.mono (by simp))).mono HB9.out.size)
  clear b10
  go_wp2
  go_ret
  exact ⟨rfl, HB7.out.trans (HB10.out.mono HB7.out.size)⟩
end Go.Proofs.Ythfjfkbolfnkkaa
