/- What is asked in any case of bits: it answers true, in whatever world. -/
import Derived.Test.YtgibbokhdfblmaaJoin
import Derived.Test.YtgibbokhdfblmaaCut
import Derived.Test.YtgibbokhdfblmaaGet
namespace Go.Proofs.Ytgibbokhdfblmaa
open Go.RowKit

/-- Bits, written out, and an error come back. -/
def Gv (w : World) (len : Int) (n : Nat) (bs : List Nat) (err : Int) (e : Ending) (w' : World) : Prop :=
  ∃ A c, e = .returned (.tuple #[.agg #[.int .i64 len, .slice A n c], .int .i64 err]) ∧ Rd w' w'.heap.size A bs ∧ Below w.heap.size w w'

theorem lt256 {bs : List Nat} (h : bs.all (fun b => decide (b < 256)) = true) : ∀ b ∈ bs, b < 256 := by
  intro b hb
  have := List.all_eq_true.1 h b hb
  simpa using this

theorem b1 (w : World) : Calls Try.prog 64 #[.agg #[.int .i64 0, .slice none 0 0], .int .u64 5, .int .i64 3] w (Gv w 3 1 [160] 0) := by
  have h := put_any 0 none 0 [] 5 3 w (by simp) (.inl rfl) (by decide)
  have e : putL 0 [] 5 3 = 0 := by decide
  rw [e, if_pos rfl] at h
  exact h
theorem b2 (A : Option Addr) (c : Nat) (w : World) (hA : Rd w w.heap.size A [160]) : Calls Try.prog 64 #[.agg #[.int .i64 3, .slice A 1 c], .int .u64 9, .int .i64 7] w (Gv w 10 2 [162, 64] 0) := by
  have h := put_any 3 A c [160] 9 7 w (lt256 (by decide)) hA (by decide)
  have e : putL 3 [160] 9 7 = 0 := by decide
  rw [e, if_pos rfl] at h
  exact h
theorem b3 (A : Option Addr) (c : Nat) (w : World) (hA : Rd w w.heap.size A [162, 64]) : Calls Try.prog 41 #[.agg #[.int .i64 10, .slice A 2 c], .int .i64 3, .int .i64 7] w fun e w' => e = .returned (.tuple #[.int .u64 9, .int .i64 0]) ∧ Below w.heap.size w w' := by
  have h := get_any 10 A c [162, 64] 3 7 w (lt256 (by decide)) hA
  have e : getE 10 [162, 64] 3 7 = 0 := by decide
  have e2 : getN 10 [162, 64] 3 7 = 9 := by decide
  rw [e, e2] at h
  exact h
theorem b4 (A B : Option Addr) (c d : Nat) (w : World) (hA : Rd w w.heap.size A [160]) (hB : Rd w w.heap.size B [162, 64]) : Calls Try.prog 42 #[.agg #[.int .i64 3, .slice A 1 c], .agg #[.int .i64 10, .slice B 2 d]] w (Gv w 13 2 [180, 72] 0) := by
  have h := join_any 3 10 A B c d [160] [162, 64] w (lt256 (by decide)) hA (lt256 (by decide)) hB
  have e : joinE 3 [160] 10 [162, 64] = 0 := by decide
  rw [e, if_pos rfl] at h
  exact h
theorem b5 (A : Option Addr) (c : Nat) (w : World) (hA : Rd w w.heap.size A [162, 64]) : Calls Try.prog 65 #[.agg #[.int .i64 10, .slice A 2 c], .int .i64 0, .int .i64 3] w (Gv w 3 1 [160] 0) := by
  have h := cut_any 10 A c [162, 64] 0 3 w (lt256 (by decide)) hA
  have e : cutE 10 [162, 64] 0 3 = 0 := by decide
  rw [e, if_pos rfl] at h
  exact h
theorem b6 (A : Option Addr) (c : Nat) (w : World) (hA : Rd w w.heap.size A [162, 64]) : Calls Try.prog 41 #[.agg #[.int .i64 10, .slice A 2 c], .int .i64 9, .int .i64 2] w fun e w' => e = .returned (.tuple #[.int .u64 0, .int .i64 7]) ∧ Below w.heap.size w w' := by
  have h := get_any 10 A c [162, 64] 9 2 w (lt256 (by decide)) hA
  have e : getE 10 [162, 64] 9 2 = 7 := by decide
  have e2 : getN 10 [162, 64] 9 2 = 0 := by decide
  rw [e, e2] at h
  exact h
theorem bsame (len : Int) (bs : List Nat) (n : Nat) (hn : bs.length = n) (hn2 : n ≤ 2) (A B : Option Addr) (c d : Nat) (w : World) (hA : Rd w w.heap.size A bs) (hB : Rd w w.heap.size B bs) :
    Calls Try.prog 26 #[.agg #[.int .i64 len, .slice A n c], .agg #[.int .i64 len, .slice B n d]] w fun e w' => e = .returned (.bool true) ∧ Below w.heap.size w w' := by
  have h := sameBits_any w len len A B c d bs bs (by omega) hA hB
  rw [hn] at h
  simpa using h
theorem b10 (A : Option Addr) (c : Nat) (w : World) (hA : Rd w w.heap.size A [1]) : Calls Try.prog 43 #[.agg #[.int .i64 3, .slice A 1 c]] w fun e w' => e = .returned (.int .i64 1) ∧ Below w.heap.size w w' := by
  have h := check_any 3 A c [1] w (lt256 (by decide)) hA
  have e : chk 3 [1] = 1 := by decide
  rw [e] at h
  exact h

/-- A box that was laid some time ago. -/
theorem box_at {w V : World} {a b : Value} (h : Below (w.heap.size + 1) (w.alloc (.cells #[a, b] 25)) V) : V.cell? ⟨w.heap.size, 0, none⟩ = some a ∧ V.cell? ⟨w.heap.size, 1, none⟩ = some b := by
  have e := (h.block w.heap.size (by omega)).trans (World.alloc_heap_new w (.cells #[a, b] 25))
  exact ⟨(blk_cells e).1, (blk_cells e).2.1⟩
/-- A literal of bytes. -/
theorem rd_lit1 (w : World) (x : Nat) : Rd (w.alloc (.cells #[.int .u8 (x : Int)] 5)) (w.alloc (.cells #[.int .u8 (x : Int)] 5)).heap.size (some ⟨w.heap.size, 0, none⟩) [x] := by
  refine .inr ⟨w.heap.size, 0, rfl, by simp, fun i hi => ?_⟩
  have e := World.alloc_heap_new w (.cells #[.int .u8 (x : Int)] 5)
  have hi0 : i = 0 := by simp at hi; exact hi
  subst hi0
  exact box_cell e
theorem rd_lit2 (w : World) (x y : Nat) : Rd (w.alloc (.cells #[.int .u8 (x : Int), .int .u8 (y : Int)] 5)) (w.alloc (.cells #[.int .u8 (x : Int), .int .u8 (y : Int)] 5)).heap.size (some ⟨w.heap.size, 0, none⟩) [x, y] := by
  refine .inr ⟨w.heap.size, 0, rfl, by simp, fun i hi => ?_⟩
  have e := World.alloc_heap_new w (.cells #[.int .u8 (x : Int), .int .u8 (y : Int)] 5)
  have hi0 : i = 0 ∨ i = 1 := by simp at hi; omega
  rcases hi0 with rfl | rfl
  · exact (blk_cells e).1
  · exact (blk_cells e).2.1
theorem Rd.on {w V : World} {A : Option Addr} {bs : List Nat} (h : Rd w w.heap.size A bs) (hb : Below w.heap.size w V) : Rd V V.heap.size A bs := h.below hb hb.size

set_option maxRecDepth 100000 in
set_option maxHeartbeats 2000000 in
theorem begun_true (w : World) : Calls Try.prog 40 #[] w fun e w' => e = .returned (.bool true) ∧ Below w.heap.size w w' := by
  go_enter Try.func40, Try.ntmps40
  go_wp2_with fail
  refine (b1 _).mono ?_
  rintro e w1_ ⟨A1, c1, rfl, Rq, Bq⟩
  have Sq : Below w.heap.size w w1_ := Bq
  have HB : Hid (Below w.heap.size w w1_) := Sq
  clear Bq Sq
  have HR1 := Lib.hid Rq; clear Rq
  go_wp2_with fail
  refine (b2 A1 c1 _ (HR1.out.on (one_below w1_ _))).mono ?_
  rintro e w2_ ⟨A2, c2, rfl, Rq, Bq⟩
  rw [World.size_alloc] at Bq
  have Sq : Below w1_.heap.size w1_ w2_ := (one_below w1_ _).trans (Bq.mono (by omega))
  have za : w1_.heap.size < w2_.heap.size := by have := Bq.size; rw [World.size_alloc] at this; omega
  obtain ⟨pa, qa⟩ := box_at Bq
  replace HR1 : Hid (Rd w2_ w2_.heap.size A1 [160]) := HR1.out.on Sq
  replace HB : Hid (Below w.heap.size w w2_) := HB.out.trans (Sq.mono HB.out.size)
  clear Bq Sq
  have HR2 := Lib.hid Rq; clear Rq
  go_wp2_with fail
  refine (b3 A2 c2 _ (HR2.out.on (one_below w2_ _))).mono ?_
  rintro e w3_ ⟨rfl, Bq⟩
  rw [World.size_alloc] at Bq
  have Sq : Below w2_.heap.size w2_ w3_ := (one_below w2_ _).trans (Bq.mono (by omega))
  have zb : w2_.heap.size < w3_.heap.size := by have := Bq.size; rw [World.size_alloc] at this; omega
  obtain ⟨pb, qb⟩ := box_at Bq
  replace pa := (Sq.cell (p := ⟨w1_.heap.size, 0, none⟩) za).trans pa
  replace qa := (Sq.cell (p := ⟨w1_.heap.size, 1, none⟩) za).trans qa
  replace za : w1_.heap.size < w3_.heap.size := Nat.lt_of_lt_of_le za Sq.size
  replace HR1 : Hid (Rd w3_ w3_.heap.size A1 [160]) := HR1.out.on Sq
  replace HR2 : Hid (Rd w3_ w3_.heap.size A2 [162, 64]) := HR2.out.on Sq
  replace HB : Hid (Below w.heap.size w w3_) := HB.out.trans (Sq.mono HB.out.size)
  clear Bq Sq
  go_wp2_with fail
  refine (b4 A1 A2 c1 c2 _ HR1.out HR2.out).mono ?_
  rintro e w4_ ⟨A3, c3, rfl, Rq, Bq⟩
  have Sq : Below w3_.heap.size w3_ w4_ := Bq
  replace pa := (Sq.cell (p := ⟨w1_.heap.size, 0, none⟩) za).trans pa
  replace qa := (Sq.cell (p := ⟨w1_.heap.size, 1, none⟩) za).trans qa
  replace za : w1_.heap.size < w4_.heap.size := Nat.lt_of_lt_of_le za Sq.size
  replace pb := (Sq.cell (p := ⟨w2_.heap.size, 0, none⟩) zb).trans pb
  replace qb := (Sq.cell (p := ⟨w2_.heap.size, 1, none⟩) zb).trans qb
  replace zb : w2_.heap.size < w4_.heap.size := Nat.lt_of_lt_of_le zb Sq.size
  replace HR1 : Hid (Rd w4_ w4_.heap.size A1 [160]) := HR1.out.on Sq
  replace HR2 : Hid (Rd w4_ w4_.heap.size A2 [162, 64]) := HR2.out.on Sq
  replace HB : Hid (Below w.heap.size w w4_) := HB.out.trans (Sq.mono HB.out.size)
  clear Bq Sq
  have HR3 := Lib.hid Rq; clear Rq
  go_wp2_with fail
  refine (b5 A2 c2 _ (HR2.out.on (one_below w4_ _))).mono ?_
  rintro e w5_ ⟨A4, c4, rfl, Rq, Bq⟩
  rw [World.size_alloc] at Bq
  have Sq : Below w4_.heap.size w4_ w5_ := (one_below w4_ _).trans (Bq.mono (by omega))
  have zj : w4_.heap.size < w5_.heap.size := by have := Bq.size; rw [World.size_alloc] at this; omega
  obtain ⟨pj, qj⟩ := box_at Bq
  replace pa := (Sq.cell (p := ⟨w1_.heap.size, 0, none⟩) za).trans pa
  replace qa := (Sq.cell (p := ⟨w1_.heap.size, 1, none⟩) za).trans qa
  replace za : w1_.heap.size < w5_.heap.size := Nat.lt_of_lt_of_le za Sq.size
  replace pb := (Sq.cell (p := ⟨w2_.heap.size, 0, none⟩) zb).trans pb
  replace qb := (Sq.cell (p := ⟨w2_.heap.size, 1, none⟩) zb).trans qb
  replace zb : w2_.heap.size < w5_.heap.size := Nat.lt_of_lt_of_le zb Sq.size
  replace HR1 : Hid (Rd w5_ w5_.heap.size A1 [160]) := HR1.out.on Sq
  replace HR2 : Hid (Rd w5_ w5_.heap.size A2 [162, 64]) := HR2.out.on Sq
  replace HR3 : Hid (Rd w5_ w5_.heap.size A3 [180, 72]) := HR3.out.on Sq
  replace HB : Hid (Below w.heap.size w w5_) := HB.out.trans (Sq.mono HB.out.size)
  clear Bq Sq
  have HR4 := Lib.hid Rq; clear Rq
  go_wp2_with fail
  refine (b6 A2 c2 _ (HR2.out.on (one_below w5_ _))).mono ?_
  rintro e w6_ ⟨rfl, Bq⟩
  rw [World.size_alloc] at Bq
  have Sq : Below w5_.heap.size w5_ w6_ := (one_below w5_ _).trans (Bq.mono (by omega))
  have zc : w5_.heap.size < w6_.heap.size := by have := Bq.size; rw [World.size_alloc] at this; omega
  obtain ⟨pc, qc⟩ := box_at Bq
  replace pa := (Sq.cell (p := ⟨w1_.heap.size, 0, none⟩) za).trans pa
  replace qa := (Sq.cell (p := ⟨w1_.heap.size, 1, none⟩) za).trans qa
  replace za : w1_.heap.size < w6_.heap.size := Nat.lt_of_lt_of_le za Sq.size
  replace pb := (Sq.cell (p := ⟨w2_.heap.size, 0, none⟩) zb).trans pb
  replace qb := (Sq.cell (p := ⟨w2_.heap.size, 1, none⟩) zb).trans qb
  replace zb : w2_.heap.size < w6_.heap.size := Nat.lt_of_lt_of_le zb Sq.size
  replace pj := (Sq.cell (p := ⟨w4_.heap.size, 0, none⟩) zj).trans pj
  replace qj := (Sq.cell (p := ⟨w4_.heap.size, 1, none⟩) zj).trans qj
  replace zj : w4_.heap.size < w6_.heap.size := Nat.lt_of_lt_of_le zj Sq.size
  replace HR1 : Hid (Rd w6_ w6_.heap.size A1 [160]) := HR1.out.on Sq
  replace HR2 : Hid (Rd w6_ w6_.heap.size A2 [162, 64]) := HR2.out.on Sq
  replace HR3 : Hid (Rd w6_ w6_.heap.size A3 [180, 72]) := HR3.out.on Sq
  replace HR4 : Hid (Rd w6_ w6_.heap.size A4 [160]) := HR4.out.on Sq
  replace HB : Hid (Below w.heap.size w w6_) := HB.out.trans (Sq.mono HB.out.size)
  clear Bq Sq
  go_wp2_with fail
  refine (bsame 3 [160] 1 rfl (by decide) A1 (some ⟨w6_.heap.size, 0, none⟩) c1 1 _ (HR1.out.on (one_below w6_ _)) (rd_lit1 w6_ 160)).mono ?_
  rintro e w7_ ⟨rfl, Bq⟩
  rw [World.size_alloc] at Bq
  have Sq : Below w6_.heap.size w6_ w7_ := (one_below w6_ _).trans (Bq.mono (by omega))
  replace pa := (Sq.cell (p := ⟨w1_.heap.size, 0, none⟩) za).trans pa
  replace qa := (Sq.cell (p := ⟨w1_.heap.size, 1, none⟩) za).trans qa
  replace za : w1_.heap.size < w7_.heap.size := Nat.lt_of_lt_of_le za Sq.size
  replace pb := (Sq.cell (p := ⟨w2_.heap.size, 0, none⟩) zb).trans pb
  replace qb := (Sq.cell (p := ⟨w2_.heap.size, 1, none⟩) zb).trans qb
  replace zb : w2_.heap.size < w7_.heap.size := Nat.lt_of_lt_of_le zb Sq.size
  replace pj := (Sq.cell (p := ⟨w4_.heap.size, 0, none⟩) zj).trans pj
  replace qj := (Sq.cell (p := ⟨w4_.heap.size, 1, none⟩) zj).trans qj
  replace zj : w4_.heap.size < w7_.heap.size := Nat.lt_of_lt_of_le zj Sq.size
  replace pc := (Sq.cell (p := ⟨w5_.heap.size, 0, none⟩) zc).trans pc
  replace qc := (Sq.cell (p := ⟨w5_.heap.size, 1, none⟩) zc).trans qc
  replace zc : w5_.heap.size < w7_.heap.size := Nat.lt_of_lt_of_le zc Sq.size
  replace HR1 : Hid (Rd w7_ w7_.heap.size A1 [160]) := HR1.out.on Sq
  replace HR2 : Hid (Rd w7_ w7_.heap.size A2 [162, 64]) := HR2.out.on Sq
  replace HR3 : Hid (Rd w7_ w7_.heap.size A3 [180, 72]) := HR3.out.on Sq
  replace HR4 : Hid (Rd w7_ w7_.heap.size A4 [160]) := HR4.out.on Sq
  replace HB : Hid (Below w.heap.size w w7_) := HB.out.trans (Sq.mono HB.out.size)
  clear Bq Sq
  go_wp2_with fail
  refine (bsame 10 [162, 64] 2 rfl (by decide) A2 (some ⟨w7_.heap.size, 0, none⟩) c2 2 _ (HR2.out.on (one_below w7_ _)) (rd_lit2 w7_ 162 64)).mono ?_
  rintro e w8_ ⟨rfl, Bq⟩
  rw [World.size_alloc] at Bq
  have Sq : Below w7_.heap.size w7_ w8_ := (one_below w7_ _).trans (Bq.mono (by omega))
  replace pa := (Sq.cell (p := ⟨w1_.heap.size, 0, none⟩) za).trans pa
  replace qa := (Sq.cell (p := ⟨w1_.heap.size, 1, none⟩) za).trans qa
  replace za : w1_.heap.size < w8_.heap.size := Nat.lt_of_lt_of_le za Sq.size
  replace pb := (Sq.cell (p := ⟨w2_.heap.size, 0, none⟩) zb).trans pb
  replace qb := (Sq.cell (p := ⟨w2_.heap.size, 1, none⟩) zb).trans qb
  replace zb : w2_.heap.size < w8_.heap.size := Nat.lt_of_lt_of_le zb Sq.size
  replace pj := (Sq.cell (p := ⟨w4_.heap.size, 0, none⟩) zj).trans pj
  replace qj := (Sq.cell (p := ⟨w4_.heap.size, 1, none⟩) zj).trans qj
  replace zj : w4_.heap.size < w8_.heap.size := Nat.lt_of_lt_of_le zj Sq.size
  replace pc := (Sq.cell (p := ⟨w5_.heap.size, 0, none⟩) zc).trans pc
  replace qc := (Sq.cell (p := ⟨w5_.heap.size, 1, none⟩) zc).trans qc
  replace zc : w5_.heap.size < w8_.heap.size := Nat.lt_of_lt_of_le zc Sq.size
  replace HR1 : Hid (Rd w8_ w8_.heap.size A1 [160]) := HR1.out.on Sq
  replace HR2 : Hid (Rd w8_ w8_.heap.size A2 [162, 64]) := HR2.out.on Sq
  replace HR3 : Hid (Rd w8_ w8_.heap.size A3 [180, 72]) := HR3.out.on Sq
  replace HR4 : Hid (Rd w8_ w8_.heap.size A4 [160]) := HR4.out.on Sq
  replace HB : Hid (Below w.heap.size w w8_) := HB.out.trans (Sq.mono HB.out.size)
  clear Bq Sq
  go_wp2_with fail
  refine (bsame 3 [160] 1 rfl (by decide) A4 A1 c4 c1 _ HR4.out HR1.out).mono ?_
  rintro e w9_ ⟨rfl, Bq⟩
  have Sq : Below w8_.heap.size w8_ w9_ := Bq
  replace pa := (Sq.cell (p := ⟨w1_.heap.size, 0, none⟩) za).trans pa
  replace qa := (Sq.cell (p := ⟨w1_.heap.size, 1, none⟩) za).trans qa
  replace za : w1_.heap.size < w9_.heap.size := Nat.lt_of_lt_of_le za Sq.size
  replace pb := (Sq.cell (p := ⟨w2_.heap.size, 0, none⟩) zb).trans pb
  replace qb := (Sq.cell (p := ⟨w2_.heap.size, 1, none⟩) zb).trans qb
  replace zb : w2_.heap.size < w9_.heap.size := Nat.lt_of_lt_of_le zb Sq.size
  replace pj := (Sq.cell (p := ⟨w4_.heap.size, 0, none⟩) zj).trans pj
  replace qj := (Sq.cell (p := ⟨w4_.heap.size, 1, none⟩) zj).trans qj
  replace zj : w4_.heap.size < w9_.heap.size := Nat.lt_of_lt_of_le zj Sq.size
  replace pc := (Sq.cell (p := ⟨w5_.heap.size, 0, none⟩) zc).trans pc
  replace qc := (Sq.cell (p := ⟨w5_.heap.size, 1, none⟩) zc).trans qc
  replace zc : w5_.heap.size < w9_.heap.size := Nat.lt_of_lt_of_le zc Sq.size
  replace HR1 : Hid (Rd w9_ w9_.heap.size A1 [160]) := HR1.out.on Sq
  replace HR2 : Hid (Rd w9_ w9_.heap.size A2 [162, 64]) := HR2.out.on Sq
  replace HR3 : Hid (Rd w9_ w9_.heap.size A3 [180, 72]) := HR3.out.on Sq
  replace HR4 : Hid (Rd w9_ w9_.heap.size A4 [160]) := HR4.out.on Sq
  replace HB : Hid (Below w.heap.size w w9_) := HB.out.trans (Sq.mono HB.out.size)
  clear Bq Sq
  go_wp2_with fail
  refine (b10 (some ⟨w9_.heap.size, 0, none⟩) 1 _ (rd_lit1 w9_ 1)).mono ?_
  rintro e w10_ ⟨rfl, Bq⟩
  rw [World.size_alloc] at Bq
  have Sq : Below w9_.heap.size w9_ w10_ := (one_below w9_ _).trans (Bq.mono (by omega))
  replace pa := (Sq.cell (p := ⟨w1_.heap.size, 0, none⟩) za).trans pa
  replace qa := (Sq.cell (p := ⟨w1_.heap.size, 1, none⟩) za).trans qa
  replace za : w1_.heap.size < w10_.heap.size := Nat.lt_of_lt_of_le za Sq.size
  replace pb := (Sq.cell (p := ⟨w2_.heap.size, 0, none⟩) zb).trans pb
  replace qb := (Sq.cell (p := ⟨w2_.heap.size, 1, none⟩) zb).trans qb
  replace zb : w2_.heap.size < w10_.heap.size := Nat.lt_of_lt_of_le zb Sq.size
  replace pj := (Sq.cell (p := ⟨w4_.heap.size, 0, none⟩) zj).trans pj
  replace qj := (Sq.cell (p := ⟨w4_.heap.size, 1, none⟩) zj).trans qj
  replace zj : w4_.heap.size < w10_.heap.size := Nat.lt_of_lt_of_le zj Sq.size
  replace pc := (Sq.cell (p := ⟨w5_.heap.size, 0, none⟩) zc).trans pc
  replace qc := (Sq.cell (p := ⟨w5_.heap.size, 1, none⟩) zc).trans qc
  replace zc : w5_.heap.size < w10_.heap.size := Nat.lt_of_lt_of_le zc Sq.size
  replace HR1 : Hid (Rd w10_ w10_.heap.size A1 [160]) := HR1.out.on Sq
  replace HR2 : Hid (Rd w10_ w10_.heap.size A2 [162, 64]) := HR2.out.on Sq
  replace HR3 : Hid (Rd w10_ w10_.heap.size A3 [180, 72]) := HR3.out.on Sq
  replace HR4 : Hid (Rd w10_ w10_.heap.size A4 [160]) := HR4.out.on Sq
  replace HB : Hid (Below w.heap.size w w10_) := HB.out.trans (Sq.mono HB.out.size)
  clear Bq Sq
  go_wp2
  go_ret
  exact ⟨rfl, HB.out⟩
end Go.Proofs.Ytgibbokhdfblmaa
