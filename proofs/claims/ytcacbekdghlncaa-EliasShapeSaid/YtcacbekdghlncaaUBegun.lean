/- What is asked in any case of unary codes: it answers true, in whatever world. -/
import Derived.Test.YtcacbekdghlncaaUPure
import Derived.Test.YtcacbekdghlncaaUSame
namespace Go.Proofs.Ytcacbekdghlncaa
open Go.RowKit

theorem u1 (w : World) : Calls Try.prog 54 #[.int .u64 3] w (Gv w 4 1 [16] 0) := code_any 3 (uc 3) 0 (by decide) (by decide) w
theorem u2 (A : Option Addr) (c : Nat) (w : World) (h : Rd w w.heap.size A [16]) : Calls Try.prog 34 #[.agg #[.int .i64 4, .slice A 1 c], .int .i64 1] w fun e w' => e = .returned (.tuple #[.int .u64 2, .int .i64 4, .int .i64 0]) ∧ Below w.heap.size w w' :=
  read_l [false, false, false, true] (by decide) A c 1 (by decide) 3 [] rfl 2 4 rfl rfl w h
theorem rdv_lit2 (w : World) (a b : Nat) : RdV (w.alloc (.cells #[.int .u64 (a : Int), .int .u64 (b : Int)] 22)) (w.alloc (.cells #[.int .u64 (a : Int), .int .u64 (b : Int)] 22)).heap.size (some ⟨w.heap.size, 0, none⟩) (nc [a, b]) := by
  refine .inr ⟨w.heap.size, 0, rfl, by simp, fun i v hi => ?_⟩
  have e := World.alloc_heap_new w (.cells #[.int .u64 (a : Int), .int .u64 (b : Int)] 22)
  rcases (show i = 0 ∨ i = 1 ∨ 2 ≤ i by omega) with rfl | rfl | h
  · simp [nc] at hi; subst hi; exact (blk_cells e).1
  · simp [nc] at hi; subst hi; exact (blk_cells e).2.1
  · rw [List.getElem?_eq_none (by rw [nc_length]; simp; omega)] at hi; cases hi
theorem rdv_lit3 (w : World) (a b c : Nat) : RdV (w.alloc (.cells #[.int .u64 (a : Int), .int .u64 (b : Int), .int .u64 (c : Int)] 22)) (w.alloc (.cells #[.int .u64 (a : Int), .int .u64 (b : Int), .int .u64 (c : Int)] 22)).heap.size (some ⟨w.heap.size, 0, none⟩) (nc [a, b, c]) := by
  refine .inr ⟨w.heap.size, 0, rfl, by simp, fun i v hi => ?_⟩
  have e := World.alloc_heap_new w (.cells #[.int .u64 (a : Int), .int .u64 (b : Int), .int .u64 (c : Int)] 22)
  rcases (show i = 0 ∨ i = 1 ∨ i = 2 ∨ 3 ≤ i by omega) with rfl | rfl | rfl | h
  · simp [nc] at hi; subst hi; rw [cell_of_row _ _ _ _ _ _ e]; rfl
  · simp [nc] at hi; subst hi; rw [cell_of_row _ _ _ _ _ _ e]; rfl
  · simp [nc] at hi; subst hi; rw [cell_of_row _ _ _ _ _ _ e]; rfl
  · rw [List.getElem?_eq_none (by rw [nc_length]; simp; omega)] at hi; cases hi
theorem u3 (A : Option Addr) (c : Nat) (w : World) (h : RdV w w.heap.size A (nc [0, 2, 1])) : Calls Try.prog 70 #[.slice A 3 c] w (Gv w 6 1 [148] 0) :=
  many_l [0, 2, 1] (ucs [0, 2, 1]) A 3 c rfl (by decide) (by decide) rfl w h
theorem u4 (A : Option Addr) (c : Nat) (w : World) (h : Rd w w.heap.size A [148]) : Calls Try.prog 71 #[.agg #[.int .i64 6, .slice A 1 c], .int .i64 2] w fun e w' => ∃ B d, e = .returned (.tuple #[.slice B 2 d, .int .i64 4, .int .i64 0]) ∧ RdV w' w'.heap.size B (nc [0, 2]) ∧ Below w.heap.size w w' :=
  all_l [true, false, false, true, false, true] (by decide) A c 2 (by decide) [0, 2] 4 (by decide) rfl rfl w h
theorem u5 (w : World) : Calls Try.prog 34 #[.agg #[.int .i64 0, .slice none 0 0], .int .i64 0] w fun e w' => e = .returned (.tuple #[.int .u64 0, .int .i64 0, .int .i64 7]) ∧ Below w.heap.size w w' :=
  read_none [] (by decide) none 0 0 (by decide) rfl w (.inl rfl)
theorem nsame (ns : List Nat) (n : Nat) (hn : ns.length = n) (hn2 : n ≤ 8192) (A B : Option Addr) (c d : Nat) (w : World) (hA : RdV w w.heap.size A (nc ns)) (hB : RdV w w.heap.size B (nc ns)) :
    Calls Try.prog 72 #[.slice A n c, .slice B n d] w fun e w' => e = .returned (.bool true) ∧ Below w.heap.size w w' := by
  have h := sameN_any w A B c d ns ns (by omega) hA hB
  rw [hn] at h
  simpa using h

set_option maxRecDepth 100000 in
set_option maxHeartbeats 2000000 in
theorem ubegun_true (w : World) : Calls Try.prog 33 #[] w fun e w' => e = .returned (.bool true) ∧ Below w.heap.size w w' := by
  go_enter Try.func33, Try.ntmps33
  go_wp2_with fail
  refine (u1 _).mono ?_
  rintro e w1_ ⟨A1, c1, rfl, Rq, Bq⟩
  have Sq : Below w.heap.size w w1_ := Bq
  have HB : Hid (Below w.heap.size w w1_) := Sq
  clear Bq Sq
  have HR1 := Lib.hid Rq; clear Rq
  go_wp2_with fail
  refine (u2 A1 c1 _ (HR1.out.on (one_below w1_ _))).mono ?_
  rintro e w2_ ⟨rfl, Bq⟩
  rw [World.size_alloc] at Bq
  have Sq : Below w1_.heap.size w1_ w2_ := (one_below w1_ _).trans (Bq.mono (by omega))
  have zc : w1_.heap.size < w2_.heap.size := by have := Bq.size; rw [World.size_alloc] at this; omega
  obtain ⟨pc, qc⟩ := box_at Bq
  replace HR1 : Hid (Rd w2_ w2_.heap.size A1 [16]) := HR1.out.on Sq
  replace HB : Hid (Below w.heap.size w w2_) := HB.out.trans (Sq.mono HB.out.size)
  clear Bq Sq
  go_wp2_with fail
  refine (u3 (some ⟨w2_.heap.size, 0, none⟩) 3 _ (rdv_lit3 w2_ 0 2 1)).mono ?_
  rintro e w3_ ⟨A2, c2, rfl, Rq, Bq⟩
  rw [World.size_alloc] at Bq
  have Sq : Below w2_.heap.size w2_ w3_ := (one_below w2_ _).trans (Bq.mono (by omega))
  replace pc := (Sq.cell (p := ⟨w1_.heap.size, 0, none⟩) zc).trans pc
  replace qc := (Sq.cell (p := ⟨w1_.heap.size, 1, none⟩) zc).trans qc
  replace zc : w1_.heap.size < w3_.heap.size := Nat.lt_of_lt_of_le zc Sq.size
  replace HR1 : Hid (Rd w3_ w3_.heap.size A1 [16]) := HR1.out.on Sq
  replace HB : Hid (Below w.heap.size w w3_) := HB.out.trans (Sq.mono HB.out.size)
  clear Bq Sq
  have HR2 := Lib.hid Rq; clear Rq
  go_wp2_with fail
  refine (u4 A2 c2 _ (HR2.out.on (one_below w3_ _))).mono ?_
  rintro e w4_ ⟨A3, c3, rfl, Rq, Bq⟩
  rw [World.size_alloc] at Bq
  have Sq : Below w3_.heap.size w3_ w4_ := (one_below w3_ _).trans (Bq.mono (by omega))
  have zm : w3_.heap.size < w4_.heap.size := by have := Bq.size; rw [World.size_alloc] at this; omega
  obtain ⟨pm, qm⟩ := box_at Bq
  replace pc := (Sq.cell (p := ⟨w1_.heap.size, 0, none⟩) zc).trans pc
  replace qc := (Sq.cell (p := ⟨w1_.heap.size, 1, none⟩) zc).trans qc
  replace zc : w1_.heap.size < w4_.heap.size := Nat.lt_of_lt_of_le zc Sq.size
  replace HR1 : Hid (Rd w4_ w4_.heap.size A1 [16]) := HR1.out.on Sq
  replace HR2 : Hid (Rd w4_ w4_.heap.size A2 [148]) := HR2.out.on Sq
  replace HB : Hid (Below w.heap.size w w4_) := HB.out.trans (Sq.mono HB.out.size)
  clear Bq Sq
  have HR3 := Lib.hid Rq; clear Rq
  go_wp2_with fail
  refine (u5 _).mono ?_
  rintro e w5_ ⟨rfl, Bq⟩
  have Sq : Below w4_.heap.size w4_ w5_ := Bq
  replace pc := (Sq.cell (p := ⟨w1_.heap.size, 0, none⟩) zc).trans pc
  replace qc := (Sq.cell (p := ⟨w1_.heap.size, 1, none⟩) zc).trans qc
  replace zc : w1_.heap.size < w5_.heap.size := Nat.lt_of_lt_of_le zc Sq.size
  replace pm := (Sq.cell (p := ⟨w3_.heap.size, 0, none⟩) zm).trans pm
  replace qm := (Sq.cell (p := ⟨w3_.heap.size, 1, none⟩) zm).trans qm
  replace zm : w3_.heap.size < w5_.heap.size := Nat.lt_of_lt_of_le zm Sq.size
  replace HR1 : Hid (Rd w5_ w5_.heap.size A1 [16]) := HR1.out.on Sq
  replace HR2 : Hid (Rd w5_ w5_.heap.size A2 [148]) := HR2.out.on Sq
  replace HR3 : Hid (RdV w5_ w5_.heap.size A3 (nc [0, 2])) := HR3.out.on Sq
  replace HB : Hid (Below w.heap.size w w5_) := HB.out.trans (Sq.mono HB.out.size)
  clear Bq Sq
  go_wp2_with fail
  refine (bsame 4 [16] 1 rfl (by decide) A1 (some ⟨w5_.heap.size, 0, none⟩) c1 1 _ (HR1.out.on (one_below w5_ _)) (rd_lit1 w5_ 16)).mono ?_
  rintro e w6_ ⟨rfl, Bq⟩
  rw [World.size_alloc] at Bq
  have Sq : Below w5_.heap.size w5_ w6_ := (one_below w5_ _).trans (Bq.mono (by omega))
  replace pc := (Sq.cell (p := ⟨w1_.heap.size, 0, none⟩) zc).trans pc
  replace qc := (Sq.cell (p := ⟨w1_.heap.size, 1, none⟩) zc).trans qc
  replace zc : w1_.heap.size < w6_.heap.size := Nat.lt_of_lt_of_le zc Sq.size
  replace pm := (Sq.cell (p := ⟨w3_.heap.size, 0, none⟩) zm).trans pm
  replace qm := (Sq.cell (p := ⟨w3_.heap.size, 1, none⟩) zm).trans qm
  replace zm : w3_.heap.size < w6_.heap.size := Nat.lt_of_lt_of_le zm Sq.size
  replace HR1 : Hid (Rd w6_ w6_.heap.size A1 [16]) := HR1.out.on Sq
  replace HR2 : Hid (Rd w6_ w6_.heap.size A2 [148]) := HR2.out.on Sq
  replace HR3 : Hid (RdV w6_ w6_.heap.size A3 (nc [0, 2])) := HR3.out.on Sq
  replace HB : Hid (Below w.heap.size w w6_) := HB.out.trans (Sq.mono HB.out.size)
  clear Bq Sq
  go_wp2_with fail
  refine (bsame 6 [148] 1 rfl (by decide) A2 (some ⟨w6_.heap.size, 0, none⟩) c2 1 _ (HR2.out.on (one_below w6_ _)) (rd_lit1 w6_ 148)).mono ?_
  rintro e w7_ ⟨rfl, Bq⟩
  rw [World.size_alloc] at Bq
  have Sq : Below w6_.heap.size w6_ w7_ := (one_below w6_ _).trans (Bq.mono (by omega))
  replace pc := (Sq.cell (p := ⟨w1_.heap.size, 0, none⟩) zc).trans pc
  replace qc := (Sq.cell (p := ⟨w1_.heap.size, 1, none⟩) zc).trans qc
  replace zc : w1_.heap.size < w7_.heap.size := Nat.lt_of_lt_of_le zc Sq.size
  replace pm := (Sq.cell (p := ⟨w3_.heap.size, 0, none⟩) zm).trans pm
  replace qm := (Sq.cell (p := ⟨w3_.heap.size, 1, none⟩) zm).trans qm
  replace zm : w3_.heap.size < w7_.heap.size := Nat.lt_of_lt_of_le zm Sq.size
  replace HR1 : Hid (Rd w7_ w7_.heap.size A1 [16]) := HR1.out.on Sq
  replace HR2 : Hid (Rd w7_ w7_.heap.size A2 [148]) := HR2.out.on Sq
  replace HR3 : Hid (RdV w7_ w7_.heap.size A3 (nc [0, 2])) := HR3.out.on Sq
  replace HB : Hid (Below w.heap.size w w7_) := HB.out.trans (Sq.mono HB.out.size)
  clear Bq Sq
  go_wp2_with fail
  refine (nsame [0, 2] 2 rfl (by decide) A3 (some ⟨w7_.heap.size, 0, none⟩) c3 2 _ (HR3.out.on (one_below w7_ _)) (rdv_lit2 w7_ 0 2)).mono ?_
  rintro e w8_ ⟨rfl, Bq⟩
  rw [World.size_alloc] at Bq
  have Sq : Below w7_.heap.size w7_ w8_ := (one_below w7_ _).trans (Bq.mono (by omega))
  replace pc := (Sq.cell (p := ⟨w1_.heap.size, 0, none⟩) zc).trans pc
  replace qc := (Sq.cell (p := ⟨w1_.heap.size, 1, none⟩) zc).trans qc
  replace zc : w1_.heap.size < w8_.heap.size := Nat.lt_of_lt_of_le zc Sq.size
  replace pm := (Sq.cell (p := ⟨w3_.heap.size, 0, none⟩) zm).trans pm
  replace qm := (Sq.cell (p := ⟨w3_.heap.size, 1, none⟩) zm).trans qm
  replace zm : w3_.heap.size < w8_.heap.size := Nat.lt_of_lt_of_le zm Sq.size
  replace HR1 : Hid (Rd w8_ w8_.heap.size A1 [16]) := HR1.out.on Sq
  replace HR2 : Hid (Rd w8_ w8_.heap.size A2 [148]) := HR2.out.on Sq
  replace HR3 : Hid (RdV w8_ w8_.heap.size A3 (nc [0, 2])) := HR3.out.on Sq
  replace HB : Hid (Below w.heap.size w w8_) := HB.out.trans (Sq.mono HB.out.size)
  clear Bq Sq
  go_wp2
  go_ret
  exact ⟨rfl, HB.out⟩
end Go.Proofs.Ytcacbekdghlncaa
