/- Texts of this proof, one behind the other (Begun, Open, Lists, UMem, UAdd, UMany, UOnes, URead, UAllA, UPureA, EPure); each fact names its conditions. -/
import Derived.Test.YticdnodlapafoaaGreatJS1
import Derived.ProofKit
import Derived.OpenShut
import Derived.ShutString
import Derived.ChangeOld
import Derived.Lib.SmallJoins
namespace Go.Proofs.YticdnodlapafoaaGreat

section
open Go.RowKit

/-- Bits, written out, and an error come back. -/
def Gv (w : World) (len : Int) (n : Nat) (bs : List Nat) (err : Int) (e : Ending) (w' : World) : Prop :=
  ∃ A c, e = .returned (.tuple #[.agg #[.int .i64 len, .slice A n c], .int .i64 err]) ∧ Rd w' w'.heap.size A bs ∧ Below w.heap.size w w'

theorem lt256 {bs : List Nat} (h : bs.all (fun b => decide (b < 256)) = true) : ∀ b ∈ bs, b < 256 := by
  intro b hb
  have := List.all_eq_true.1 h b hb
  simpa using this

theorem b1 (w : World) : Calls Tryz.prog 58 #[.agg #[.int .i64 0, .slice none 0 0], .int .u64 5, .int .i64 3] w (Gv w 3 1 [160] 0) := by
  have h := put_any 0 none 0 [] 5 3 w (by simp) (.inl rfl) (by decide)
  have e : putL 0 [] 5 3 = 0 := by decide
  rw [e, if_pos rfl] at h
  exact h
theorem b2 (A : Option Addr) (c : Nat) (w : World) (hA : Rd w w.heap.size A [160]) : Calls Tryz.prog 58 #[.agg #[.int .i64 3, .slice A 1 c], .int .u64 9, .int .i64 7] w (Gv w 10 2 [162, 64] 0) := by
  have h := put_any 3 A c [160] 9 7 w (lt256 (by decide)) hA (by decide)
  have e : putL 3 [160] 9 7 = 0 := by decide
  rw [e, if_pos rfl] at h
  exact h
theorem b3 (A : Option Addr) (c : Nat) (w : World) (hA : Rd w w.heap.size A [162, 64]) : Calls Tryz.prog 29 #[.agg #[.int .i64 10, .slice A 2 c], .int .i64 3, .int .i64 7] w fun e w' => e = .returned (.tuple #[.int .u64 9, .int .i64 0]) ∧ Below w.heap.size w w' := by
  have h := get_any 10 A c [162, 64] 3 7 w (lt256 (by decide)) hA
  have e : getE 10 [162, 64] 3 7 = 0 := by decide
  have e2 : getN 10 [162, 64] 3 7 = 9 := by decide
  rw [e, e2] at h
  exact h
theorem b4 (A B : Option Addr) (c d : Nat) (w : World) (hA : Rd w w.heap.size A [160]) (hB : Rd w w.heap.size B [162, 64]) : Calls Tryz.prog 25 #[.agg #[.int .i64 3, .slice A 1 c], .agg #[.int .i64 10, .slice B 2 d]] w (Gv w 13 2 [180, 72] 0) := by
  have h := join_any 3 10 A B c d [160] [162, 64] w (lt256 (by decide)) hA (lt256 (by decide)) hB
  have e : joinE 3 [160] 10 [162, 64] = 0 := by decide
  rw [e, if_pos rfl] at h
  exact h
theorem b5 (A : Option Addr) (c : Nat) (w : World) (hA : Rd w w.heap.size A [162, 64]) : Calls Tryz.prog 26 #[.agg #[.int .i64 10, .slice A 2 c], .int .i64 0, .int .i64 3] w (Gv w 3 1 [160] 0) := by
  have h := cut_any 10 A c [162, 64] 0 3 w (lt256 (by decide)) hA
  have e : cutE 10 [162, 64] 0 3 = 0 := by decide
  rw [e, if_pos rfl] at h
  exact h
theorem b6 (A : Option Addr) (c : Nat) (w : World) (hA : Rd w w.heap.size A [162, 64]) : Calls Tryz.prog 29 #[.agg #[.int .i64 10, .slice A 2 c], .int .i64 9, .int .i64 2] w fun e w' => e = .returned (.tuple #[.int .u64 0, .int .i64 7]) ∧ Below w.heap.size w w' := by
  have h := get_any 10 A c [162, 64] 9 2 w (lt256 (by decide)) hA
  have e : getE 10 [162, 64] 9 2 = 7 := by decide
  have e2 : getN 10 [162, 64] 9 2 = 0 := by decide
  rw [e, e2] at h
  exact h
theorem bsame (len : Int) (bs : List Nat) (n : Nat) (hn : bs.length = n) (hn2 : n ≤ 2) (A B : Option Addr) (c d : Nat) (w : World) (hA : Rd w w.heap.size A bs) (hB : Rd w w.heap.size B bs) :
    Calls Tryz.prog 22 #[.agg #[.int .i64 len, .slice A n c], .agg #[.int .i64 len, .slice B n d]] w fun e w' => e = .returned (.bool true) ∧ Below w.heap.size w w' := by
  have h := sameBits_any w len len A B c d bs bs (by omega) hA hB
  rw [hn] at h
  simpa using h
theorem b10 (A : Option Addr) (c : Nat) (w : World) (hA : Rd w w.heap.size A [1]) : Calls Tryz.prog 46 #[.agg #[.int .i64 3, .slice A 1 c]] w fun e w' => e = .returned (.int .i64 1) ∧ Below w.heap.size w w' := by
  have h := check_any 3 A c [1] w (lt256 (by decide)) hA
  have e : chk 3 [1] = 1 := by decide
  rw [e] at h
  exact h

/-- A box that was laid some time ago. -/
theorem box_at {w V : World} {a b : Value} (h : Below (w.heap.size + 1) (w.alloc (.cells #[a, b] 27)) V) : V.cell? ⟨w.heap.size, 0, none⟩ = some a ∧ V.cell? ⟨w.heap.size, 1, none⟩ = some b := by
  have e := (h.block w.heap.size (by omega)).trans (World.alloc_heap_new w (.cells #[a, b] 27))
  exact ⟨(blk_cells e).1, (blk_cells e).2.1⟩
/-- A literal of bytes. -/
theorem rd_lit1 (w : World) (x : Nat) : Rd (w.alloc (.cells #[.int .u8 (x : Int)] 5)) (w.alloc (.cells #[.int .u8 (x : Int)] 5)).heap.size (some ⟨w.heap.size, 0, none⟩) [x] := by
  refine .inr ⟨w.heap.size, 0, rfl, by simp, fun i hi => ?_⟩
  have e := World.alloc_heap_new w (.cells #[.int .u8 (x : Int)] 5)
  have hi0 : i = 0 := by simp at hi; exact hi
  subst hi0
  exact box_cell e
theorem rd_lit2 (w : World) (x y : Nat) : Rd (w.alloc (.cells #[.int .u8 (x : Int), .int .u8 (y : Int)] 5)) (w.alloc (.cells #[.int .u8 (x : Int), .int .u8 (y : Int)] 5)).heap.size (some ⟨w.heap.size, 0, none⟩) [x, y] := by
  refine .inr ⟨w.heap.size, 0, rfl, by simp, fun i hi => ?_⟩
  have e := World.alloc_heap_new w (.cells #[.int .u8 (x : Int), .int .u8 (y : Int)] 5)
  have hi0 : i = 0 ∨ i = 1 := by simp at hi; omega
  rcases hi0 with rfl | rfl
  · exact (blk_cells e).1
  · exact (blk_cells e).2.1
theorem Rd.on {w V : World} {A : Option Addr} {bs : List Nat} (h : Rd w w.heap.size A bs) (hb : Below w.heap.size w V) : Rd V V.heap.size A bs := h.below hb hb.size

set_option maxRecDepth 100000 in
set_option maxHeartbeats 2000000 in
theorem begun_true (w : World) : Calls Tryz.prog 24 #[] w fun e w' => e = .returned (.bool true) ∧ Below w.heap.size w w' := by
  go_enter Tryz.func24, Tryz.ntmps24
  go_wp2_with fail
  refine (b1 _).mono ?_
  rintro e w1_ ⟨A1, c1, rfl, Rq, Bq⟩
  have Sq : Below w.heap.size w w1_ := Bq
  have HB : Hid (Below w.heap.size w w1_) := Sq
  clear Bq Sq
  have HR1 := Lib.hid Rq; clear Rq
  go_wp2_with fail
  refine (b2 A1 c1 _ (HR1.out.on (one_below w1_ _))).mono ?_
  rintro e w2_ ⟨A2, c2, rfl, Rq, Bq⟩
  rw [World.size_alloc] at Bq
  have Sq : Below w1_.heap.size w1_ w2_ := (one_below w1_ _).trans (Bq.mono (by omega))
  have za : w1_.heap.size < w2_.heap.size := by have := Bq.size; rw [World.size_alloc] at this; omega
  obtain ⟨pa, qa⟩ := box_at Bq
  replace HR1 : Hid (Rd w2_ w2_.heap.size A1 [160]) := HR1.out.on Sq
  replace HB : Hid (Below w.heap.size w w2_) := HB.out.trans (Sq.mono HB.out.size)
  clear Bq Sq
  have HR2 := Lib.hid Rq; clear Rq
  go_wp2_with fail
  refine (b3 A2 c2 _ (HR2.out.on (one_below w2_ _))).mono ?_
  rintro e w3_ ⟨rfl, Bq⟩
  rw [World.size_alloc] at Bq
  have Sq : Below w2_.heap.size w2_ w3_ := (one_below w2_ _).trans (Bq.mono (by omega))
  have zb : w2_.heap.size < w3_.heap.size := by have := Bq.size; rw [World.size_alloc] at this; omega
  obtain ⟨pb, qb⟩ := box_at Bq
  replace pa := (Sq.cell (p := ⟨w1_.heap.size, 0, none⟩) za).trans pa
  replace qa := (Sq.cell (p := ⟨w1_.heap.size, 1, none⟩) za).trans qa
  replace za : w1_.heap.size < w3_.heap.size := Nat.lt_of_lt_of_le za Sq.size
  replace HR1 : Hid (Rd w3_ w3_.heap.size A1 [160]) := HR1.out.on Sq
  replace HR2 : Hid (Rd w3_ w3_.heap.size A2 [162, 64]) := HR2.out.on Sq
  replace HB : Hid (Below w.heap.size w w3_) := HB.out.trans (Sq.mono HB.out.size)
  clear Bq Sq
  go_wp2_with fail
  refine (b4 A1 A2 c1 c2 _ HR1.out HR2.out).mono ?_
  rintro e w4_ ⟨A3, c3, rfl, Rq, Bq⟩
  have Sq : Below w3_.heap.size w3_ w4_ := Bq
  replace pa := (Sq.cell (p := ⟨w1_.heap.size, 0, none⟩) za).trans pa
  replace qa := (Sq.cell (p := ⟨w1_.heap.size, 1, none⟩) za).trans qa
  replace za : w1_.heap.size < w4_.heap.size := Nat.lt_of_lt_of_le za Sq.size
  replace pb := (Sq.cell (p := ⟨w2_.heap.size, 0, none⟩) zb).trans pb
  replace qb := (Sq.cell (p := ⟨w2_.heap.size, 1, none⟩) zb).trans qb
  replace zb : w2_.heap.size < w4_.heap.size := Nat.lt_of_lt_of_le zb Sq.size
  replace HR1 : Hid (Rd w4_ w4_.heap.size A1 [160]) := HR1.out.on Sq
  replace HR2 : Hid (Rd w4_ w4_.heap.size A2 [162, 64]) := HR2.out.on Sq
  replace HB : Hid (Below w.heap.size w w4_) := HB.out.trans (Sq.mono HB.out.size)
  clear Bq Sq
  have HR3 := Lib.hid Rq; clear Rq
  go_wp2_with fail
  refine (b5 A2 c2 _ (HR2.out.on (one_below w4_ _))).mono ?_
  rintro e w5_ ⟨A4, c4, rfl, Rq, Bq⟩
  rw [World.size_alloc] at Bq
  have Sq : Below w4_.heap.size w4_ w5_ := (one_below w4_ _).trans (Bq.mono (by omega))
  have zj : w4_.heap.size < w5_.heap.size := by have := Bq.size; rw [World.size_alloc] at this; omega
  obtain ⟨pj, qj⟩ := box_at Bq
  replace pa := (Sq.cell (p := ⟨w1_.heap.size, 0, none⟩) za).trans pa
  replace qa := (Sq.cell (p := ⟨w1_.heap.size, 1, none⟩) za).trans qa
  replace za : w1_.heap.size < w5_.heap.size := Nat.lt_of_lt_of_le za Sq.size
  replace pb := (Sq.cell (p := ⟨w2_.heap.size, 0, none⟩) zb).trans pb
  replace qb := (Sq.cell (p := ⟨w2_.heap.size, 1, none⟩) zb).trans qb
  replace zb : w2_.heap.size < w5_.heap.size := Nat.lt_of_lt_of_le zb Sq.size
  replace HR1 : Hid (Rd w5_ w5_.heap.size A1 [160]) := HR1.out.on Sq
  replace HR2 : Hid (Rd w5_ w5_.heap.size A2 [162, 64]) := HR2.out.on Sq
  replace HR3 : Hid (Rd w5_ w5_.heap.size A3 [180, 72]) := HR3.out.on Sq
  replace HB : Hid (Below w.heap.size w w5_) := HB.out.trans (Sq.mono HB.out.size)
  clear Bq Sq
  have HR4 := Lib.hid Rq; clear Rq
  go_wp2_with fail
  refine (b6 A2 c2 _ (HR2.out.on (one_below w5_ _))).mono ?_
  rintro e w6_ ⟨rfl, Bq⟩
  rw [World.size_alloc] at Bq
  have Sq : Below w5_.heap.size w5_ w6_ := (one_below w5_ _).trans (Bq.mono (by omega))
  have zc : w5_.heap.size < w6_.heap.size := by have := Bq.size; rw [World.size_alloc] at this; omega
  obtain ⟨pc, qc⟩ := box_at Bq
  replace pa := (Sq.cell (p := ⟨w1_.heap.size, 0, none⟩) za).trans pa
  replace qa := (Sq.cell (p := ⟨w1_.heap.size, 1, none⟩) za).trans qa
  replace za : w1_.heap.size < w6_.heap.size := Nat.lt_of_lt_of_le za Sq.size
  replace pb := (Sq.cell (p := ⟨w2_.heap.size, 0, none⟩) zb).trans pb
  replace qb := (Sq.cell (p := ⟨w2_.heap.size, 1, none⟩) zb).trans qb
  replace zb : w2_.heap.size < w6_.heap.size := Nat.lt_of_lt_of_le zb Sq.size
  replace pj := (Sq.cell (p := ⟨w4_.heap.size, 0, none⟩) zj).trans pj
  replace qj := (Sq.cell (p := ⟨w4_.heap.size, 1, none⟩) zj).trans qj
  replace zj : w4_.heap.size < w6_.heap.size := Nat.lt_of_lt_of_le zj Sq.size
  replace HR1 : Hid (Rd w6_ w6_.heap.size A1 [160]) := HR1.out.on Sq
  replace HR2 : Hid (Rd w6_ w6_.heap.size A2 [162, 64]) := HR2.out.on Sq
  replace HR3 : Hid (Rd w6_ w6_.heap.size A3 [180, 72]) := HR3.out.on Sq
  replace HR4 : Hid (Rd w6_ w6_.heap.size A4 [160]) := HR4.out.on Sq
  replace HB : Hid (Below w.heap.size w w6_) := HB.out.trans (Sq.mono HB.out.size)
  clear Bq Sq
  go_wp2_with fail
  refine (bsame 3 [160] 1 rfl (by decide) A1 (some ⟨w6_.heap.size, 0, none⟩) c1 1 _ (HR1.out.on (one_below w6_ _)) (rd_lit1 w6_ 160)).mono ?_
  rintro e w7_ ⟨rfl, Bq⟩
  rw [World.size_alloc] at Bq
  have Sq : Below w6_.heap.size w6_ w7_ := (one_below w6_ _).trans (Bq.mono (by omega))
  replace pa := (Sq.cell (p := ⟨w1_.heap.size, 0, none⟩) za).trans pa
  replace qa := (Sq.cell (p := ⟨w1_.heap.size, 1, none⟩) za).trans qa
  replace za : w1_.heap.size < w7_.heap.size := Nat.lt_of_lt_of_le za Sq.size
  replace pb := (Sq.cell (p := ⟨w2_.heap.size, 0, none⟩) zb).trans pb
  replace qb := (Sq.cell (p := ⟨w2_.heap.size, 1, none⟩) zb).trans qb
  replace zb : w2_.heap.size < w7_.heap.size := Nat.lt_of_lt_of_le zb Sq.size
  replace pj := (Sq.cell (p := ⟨w4_.heap.size, 0, none⟩) zj).trans pj
  replace qj := (Sq.cell (p := ⟨w4_.heap.size, 1, none⟩) zj).trans qj
  replace zj : w4_.heap.size < w7_.heap.size := Nat.lt_of_lt_of_le zj Sq.size
  replace pc := (Sq.cell (p := ⟨w5_.heap.size, 0, none⟩) zc).trans pc
  replace qc := (Sq.cell (p := ⟨w5_.heap.size, 1, none⟩) zc).trans qc
  replace zc : w5_.heap.size < w7_.heap.size := Nat.lt_of_lt_of_le zc Sq.size
  replace HR1 : Hid (Rd w7_ w7_.heap.size A1 [160]) := HR1.out.on Sq
  replace HR2 : Hid (Rd w7_ w7_.heap.size A2 [162, 64]) := HR2.out.on Sq
  replace HR3 : Hid (Rd w7_ w7_.heap.size A3 [180, 72]) := HR3.out.on Sq
  replace HR4 : Hid (Rd w7_ w7_.heap.size A4 [160]) := HR4.out.on Sq
  replace HB : Hid (Below w.heap.size w w7_) := HB.out.trans (Sq.mono HB.out.size)
  clear Bq Sq
  go_wp2_with fail
  refine (bsame 10 [162, 64] 2 rfl (by decide) A2 (some ⟨w7_.heap.size, 0, none⟩) c2 2 _ (HR2.out.on (one_below w7_ _)) (rd_lit2 w7_ 162 64)).mono ?_
  rintro e w8_ ⟨rfl, Bq⟩
  rw [World.size_alloc] at Bq
  have Sq : Below w7_.heap.size w7_ w8_ := (one_below w7_ _).trans (Bq.mono (by omega))
  replace pa := (Sq.cell (p := ⟨w1_.heap.size, 0, none⟩) za).trans pa
  replace qa := (Sq.cell (p := ⟨w1_.heap.size, 1, none⟩) za).trans qa
  replace za : w1_.heap.size < w8_.heap.size := Nat.lt_of_lt_of_le za Sq.size
  replace pb := (Sq.cell (p := ⟨w2_.heap.size, 0, none⟩) zb).trans pb
  replace qb := (Sq.cell (p := ⟨w2_.heap.size, 1, none⟩) zb).trans qb
  replace zb : w2_.heap.size < w8_.heap.size := Nat.lt_of_lt_of_le zb Sq.size
  replace pj := (Sq.cell (p := ⟨w4_.heap.size, 0, none⟩) zj).trans pj
  replace qj := (Sq.cell (p := ⟨w4_.heap.size, 1, none⟩) zj).trans qj
  replace zj : w4_.heap.size < w8_.heap.size := Nat.lt_of_lt_of_le zj Sq.size
  replace pc := (Sq.cell (p := ⟨w5_.heap.size, 0, none⟩) zc).trans pc
  replace qc := (Sq.cell (p := ⟨w5_.heap.size, 1, none⟩) zc).trans qc
  replace zc : w5_.heap.size < w8_.heap.size := Nat.lt_of_lt_of_le zc Sq.size
  replace HR1 : Hid (Rd w8_ w8_.heap.size A1 [160]) := HR1.out.on Sq
  replace HR2 : Hid (Rd w8_ w8_.heap.size A2 [162, 64]) := HR2.out.on Sq
  replace HR3 : Hid (Rd w8_ w8_.heap.size A3 [180, 72]) := HR3.out.on Sq
  replace HR4 : Hid (Rd w8_ w8_.heap.size A4 [160]) := HR4.out.on Sq
  replace HB : Hid (Below w.heap.size w w8_) := HB.out.trans (Sq.mono HB.out.size)
  clear Bq Sq
  go_wp2_with fail
  refine (bsame 3 [160] 1 rfl (by decide) A4 A1 c4 c1 _ HR4.out HR1.out).mono ?_
  rintro e w9_ ⟨rfl, Bq⟩
  have Sq : Below w8_.heap.size w8_ w9_ := Bq
  replace pa := (Sq.cell (p := ⟨w1_.heap.size, 0, none⟩) za).trans pa
  replace qa := (Sq.cell (p := ⟨w1_.heap.size, 1, none⟩) za).trans qa
  replace za : w1_.heap.size < w9_.heap.size := Nat.lt_of_lt_of_le za Sq.size
  replace pb := (Sq.cell (p := ⟨w2_.heap.size, 0, none⟩) zb).trans pb
  replace qb := (Sq.cell (p := ⟨w2_.heap.size, 1, none⟩) zb).trans qb
  replace zb : w2_.heap.size < w9_.heap.size := Nat.lt_of_lt_of_le zb Sq.size
  replace pj := (Sq.cell (p := ⟨w4_.heap.size, 0, none⟩) zj).trans pj
  replace qj := (Sq.cell (p := ⟨w4_.heap.size, 1, none⟩) zj).trans qj
  replace zj : w4_.heap.size < w9_.heap.size := Nat.lt_of_lt_of_le zj Sq.size
  replace pc := (Sq.cell (p := ⟨w5_.heap.size, 0, none⟩) zc).trans pc
  replace qc := (Sq.cell (p := ⟨w5_.heap.size, 1, none⟩) zc).trans qc
  replace zc : w5_.heap.size < w9_.heap.size := Nat.lt_of_lt_of_le zc Sq.size
  replace HR1 : Hid (Rd w9_ w9_.heap.size A1 [160]) := HR1.out.on Sq
  replace HR2 : Hid (Rd w9_ w9_.heap.size A2 [162, 64]) := HR2.out.on Sq
  replace HR3 : Hid (Rd w9_ w9_.heap.size A3 [180, 72]) := HR3.out.on Sq
  replace HR4 : Hid (Rd w9_ w9_.heap.size A4 [160]) := HR4.out.on Sq
  replace HB : Hid (Below w.heap.size w w9_) := HB.out.trans (Sq.mono HB.out.size)
  clear Bq Sq
  go_wp2_with fail
  refine (b10 (some ⟨w9_.heap.size, 0, none⟩) 1 _ (rd_lit1 w9_ 1)).mono ?_
  rintro e w10_ ⟨rfl, Bq⟩
  rw [World.size_alloc] at Bq
  have Sq : Below w9_.heap.size w9_ w10_ := (one_below w9_ _).trans (Bq.mono (by omega))
  replace pa := (Sq.cell (p := ⟨w1_.heap.size, 0, none⟩) za).trans pa
  replace qa := (Sq.cell (p := ⟨w1_.heap.size, 1, none⟩) za).trans qa
  replace za : w1_.heap.size < w10_.heap.size := Nat.lt_of_lt_of_le za Sq.size
  replace pb := (Sq.cell (p := ⟨w2_.heap.size, 0, none⟩) zb).trans pb
  replace qb := (Sq.cell (p := ⟨w2_.heap.size, 1, none⟩) zb).trans qb
  replace zb : w2_.heap.size < w10_.heap.size := Nat.lt_of_lt_of_le zb Sq.size
  replace pj := (Sq.cell (p := ⟨w4_.heap.size, 0, none⟩) zj).trans pj
  replace qj := (Sq.cell (p := ⟨w4_.heap.size, 1, none⟩) zj).trans qj
  replace zj : w4_.heap.size < w10_.heap.size := Nat.lt_of_lt_of_le zj Sq.size
  replace pc := (Sq.cell (p := ⟨w5_.heap.size, 0, none⟩) zc).trans pc
  replace qc := (Sq.cell (p := ⟨w5_.heap.size, 1, none⟩) zc).trans qc
  replace zc : w5_.heap.size < w10_.heap.size := Nat.lt_of_lt_of_le zc Sq.size
  replace HR1 : Hid (Rd w10_ w10_.heap.size A1 [160]) := HR1.out.on Sq
  replace HR2 : Hid (Rd w10_ w10_.heap.size A2 [162, 64]) := HR2.out.on Sq
  replace HR3 : Hid (Rd w10_ w10_.heap.size A3 [180, 72]) := HR3.out.on Sq
  replace HR4 : Hid (Rd w10_ w10_.heap.size A4 [160]) := HR4.out.on Sq
  replace HB : Hid (Below w.heap.size w w10_) := HB.out.trans (Sq.mono HB.out.size)
  clear Bq Sq
  go_wp2
  go_ret
  exact ⟨rfl, HB.out⟩
end

section
open Go.ChangeShapes Go.WideShapes Go.ChangeAt Go.RowKit Go.Joins

theorem own : ownKnob Tryz.prog.godebug = none := by kernel_rfl
theorem laidOut : laidOutB Tryz.prog = true := by kernel_rfl
theorem cells24 : Tryz.prog.cellsOf 27 = 2 := by kernel_rfl
theorem cells5 : Tryz.prog.cellsOf 5 = 1 := by kernel_rfl

theorem lt_of_cell {w : World} {p : Addr} {v : Value} (h : w.cell? p = some v) : p.block < w.heap.size := by
  rcases Nat.lt_or_ge p.block w.heap.size with hlt | hge
  · exact hlt
  · simp [World.cell?, Array.getElem?_eq_none hge] at h

set_option maxRecDepth 100000 in
/-- Bits that were handed in. -/
theorem open_bits {H : Type} {enc : TypeId × Value → H} {W : World} {base : Nat} {v : Value} {d : DataW H} {p : List MemPlace}
    (hv : Value.okWide Tryz.prog W .any base 27 v) (h : DataW.Trod enc Tryz.prog W 0 (fun _ => true) true 27 v d p) :
    ∃ (len : Int) (A : Option Addr) (c : Nat) (bs : List Nat), v = .agg #[.int .i64 len, .slice A bs.length c] ∧ Rd W W.heap.size A bs ∧ (∀ b ∈ bs, b < 256) ∧ (Lit.int .i64 len).wf = true := by
  obtain ⟨c0, c1, y0, y1, m, rfl, rfl, rfl, hy0, hy1⟩ := open_agg2 Tryz.underlying27 (by kernel_rfl) cells24 hv h
  obtain ⟨a, e0, rfl, wa⟩ := DataW.trod_int Tryz.underlying3 hy0
  simp at e0
  subst e0
  rcases open_ints Tryz.underlying25 Tryz.underlying5 cells5 hy1 with ⟨hcs, _⟩ | ⟨x, l, c, zs, hcs, _, hl, hm, hz, _, hcell, hwz⟩
  · simp at hcs
    subst hcs
    exact ⟨a, none, 0, [], rfl, .inl rfl, by simp, wa⟩
  · simp at hcs
    subst hcs
    have hzc : zs.length = c := by simpa using hz
    refine ⟨a, some x, c, (zs.take l).map Int.toNat, ?_, ?_, ?_, wa⟩
    · have : ((zs.take l).map Int.toNat).length = l := by rw [List.length_map, List.length_take]; omega
      rw [this]
    · rcases Nat.eq_zero_or_pos l with h0 | h0
      · left; rw [h0]; rfl
      · obtain ⟨b, off, rfl, hc⟩ := ints_at hcell (by omega)
        refine .inr ⟨b, off, rfl, ?_, fun i hi => ?_⟩
        · exact lt_of_cell (hc 0 (by omega))
        · have hil : i < l := by rw [List.length_map, List.length_take] at hi; omega
          rw [hc i (by omega)]
          have hz0 : zs.getD i 0 = zs[i]'(by omega) := by rw [List.getD_eq_getElem?_getD, List.getElem?_eq_getElem (by omega)]; rfl
          have hw := bounds_u8 (hwz _ (List.getElem_mem (show i < zs.length by omega)))
          have e1 : ((zs.take l).map Int.toNat)[i]?.getD 0 = (zs[i]'(by omega)).toNat := by
            rw [List.getElem?_map, List.getElem?_take_of_lt hil, List.getElem?_eq_getElem (by omega)]; rfl
          rw [e1, hz0]
          congr 2
          omega
    · intro b hb
      simp only [List.mem_map] at hb
      obtain ⟨z, hz1, rfl⟩ := hb
      have hw := bounds_u8 (hwz z (List.mem_of_mem_take hz1))
      omega
end

section
open Go.RowKit

theorem nb_snoc (n k : Nat) : nb n (k + 1) = nb (n / 2) k ++ [n % 2 == 1] := by
  apply List.ext_getElem
  · simp [nb]
  · intro i h1 h2
    rw [nb_length] at h1
    rw [List.getElem_append]
    split
    · rename_i h3
      rw [nb_length] at h3
      simp only [nb, List.getElem_map, List.getElem_range]
      rw [Nat.div_div_eq_div_mul]
      have e : k + 1 - 1 - i = (k - 1 - i) + 1 := by omega
      rw [e, Nat.pow_succ, Nat.mul_comm]
    · rename_i h3
      rw [nb_length] at h3
      have e : i = k := by omega
      subst e
      simp [nb]
theorem num_nb : ∀ (k n : Nat), num (nb n k) = n % 2 ^ k := by
  intro k
  induction k with
  | zero => intro n; simp [nb, num, Nat.mod_one]
  | succ k ih =>
    intro n
    rw [nb_snoc, num_snoc, ih]
    have e : (n % 2 == 1).toNat = n % 2 := by
      rcases (show n % 2 = 0 ∨ n % 2 = 1 by omega) with h | h <;> rw [h] <;> rfl
    rw [e, Nat.pow_succ, Nat.mul_comm (2 ^ k) 2, Nat.mod_mul]
    omega
theorem num_nb_small (n k : Nat) (h : n / 2 ^ k = 0) : num (nb n k) = n := by
  rw [num_nb]
  apply Nat.mod_eq_of_lt
  rcases Nat.div_eq_zero_iff.1 h with h | h
  · have := Nat.two_pow_pos k; omega
  · exact h

/-- Check of what is right. -/
theorem check_l (l : List Bool) (hl : l.length ≤ 8192) (A : Option Addr) (c : Nat) (w : World) (h : Rd w w.heap.size A (pack l)) :
    Calls Tryz.prog 46 #[.agg #[.int .i64 (l.length : Int), .slice A (pack l).length c]] w fun e w' => e = .returned (.int .i64 0) ∧ Below w.heap.size w w' := by
  have := check_any (l.length : Int) A c (pack l) w (pack_lt l) h
  rwa [chk_pack l hl] at this
theorem same_l (l : List Bool) (hl : l.length ≤ 8192) (A B : Option Addr) (c d : Nat) (w : World) (hA : Rd w w.heap.size A (pack l)) (hB : Rd w w.heap.size B (pack l)) :
    Calls Tryz.prog 22 #[.agg #[.int .i64 (l.length : Int), .slice A (pack l).length c], .agg #[.int .i64 (l.length : Int), .slice B (pack l).length d]] w fun e w' => e = .returned (.bool true) ∧ Below w.heap.size w w' := by
  have h := sameBits_any w (l.length : Int) (l.length : Int) A B c d (pack l) (pack l) (by rw [pack_length]; omega) hA hB
  simpa using h
/-- Nothing against nothing. -/
theorem same_0 (A B : Option Addr) (c d : Nat) (w : World) (hA : Rd w w.heap.size A (pack [])) :
    Calls Tryz.prog 22 #[.agg #[.int .i64 0, .slice A 0 c], .agg #[.int .i64 0, .slice B 0 d]] w fun e w' => e = .returned (.bool true) ∧ Below w.heap.size w w' := by
  have h := sameBits_any w 0 0 A B c d [] [] (by simp) hA (.inl rfl)
  simpa using h
theorem put_l (l L : List Bool) (A : Option Addr) (c n k : Nat) (hk : k ≤ 64) (hn : n / 2 ^ k = 0) (hf : l.length + k ≤ 8192) (hn64 : n < 18446744073709551616) (hL : L = l ++ nb n k) (w : World) (h : Rd w w.heap.size A (pack l)) :
    Calls Tryz.prog 58 #[.agg #[.int .i64 (l.length : Int), .slice A (pack l).length c], .int .u64 (n : Int), .int .i64 (k : Int)] w (Gv w (L.length : Int) (pack L).length (pack L) 0) := put_ok l L A c n k w h hk hn hf hn64 hL
theorem cut_l (l L : List Bool) (hl : l.length ≤ 8192) (A : Option Addr) (c fr to : Nat) (h1 : fr ≤ to) (h2 : to ≤ l.length) (hL : L = (l.drop fr).take (to - fr)) (w : World) (h : Rd w w.heap.size A (pack l)) :
    Calls Tryz.prog 26 #[.agg #[.int .i64 (l.length : Int), .slice A (pack l).length c], .int .i64 (fr : Int), .int .i64 (to : Int)] w (Gv w (L.length : Int) (pack L).length (pack L) 0) := cut_ok l L hl A c fr to w h h1 h2 hL
theorem cut_l0 (l L : List Bool) (hl : l.length ≤ 8192) (A : Option Addr) (c to : Nat) (h2 : to ≤ l.length) (hL : L = l.take to) (w : World) (h : Rd w w.heap.size A (pack l)) :
    Calls Tryz.prog 26 #[.agg #[.int .i64 (l.length : Int), .slice A (pack l).length c], .int .i64 0, .int .i64 (to : Int)] w (Gv w (L.length : Int) (pack L).length (pack L) 0) := cut_ok l L hl A c 0 to w h (Nat.zero_le _) h2 (by rw [List.drop_zero, Nat.sub_zero]; exact hL)
theorem join_l (a b L : List Bool) (A B : Option Addr) (c d : Nat) (hf : a.length + b.length ≤ 8192) (hL : L = a ++ b) (w : World) (hA : Rd w w.heap.size A (pack a)) (hB : Rd w w.heap.size B (pack b)) :
    Calls Tryz.prog 25 #[.agg #[.int .i64 (a.length : Int), .slice A (pack a).length c], .agg #[.int .i64 (b.length : Int), .slice B (pack b).length d]] w (Gv w (L.length : Int) (pack L).length (pack L) 0) := by
  have h := join_in a b L (by omega) (by omega) A B c d w hA hB hL
  rw [if_neg (by omega), if_neg (by omega)] at h
  exact h
theorem join_l8 (a b : List Bool) (ha : a.length ≤ 8192) (hb : b.length ≤ 8192) (A B : Option Addr) (c d : Nat) (hf : 8192 < a.length + b.length) (w : World) (hA : Rd w w.heap.size A (pack a)) (hB : Rd w w.heap.size B (pack b)) :
    Calls Tryz.prog 25 #[.agg #[.int .i64 (a.length : Int), .slice A (pack a).length c], .agg #[.int .i64 (b.length : Int), .slice B (pack b).length d]] w (Gv w 0 0 (pack []) 8) := by
  have h := join_in a b _ ha hb A B c d w hA hB rfl
  rw [if_pos hf, if_pos hf] at h
  exact h
theorem get_l (l : List Bool) (hl : l.length ≤ 8192) (A : Option Addr) (c p k m : Nat) (h1 : k ≤ 64) (h2 : p + k ≤ l.length) (hm : m = num ((l.drop p).take k)) (w : World) (h : Rd w w.heap.size A (pack l)) :
    Calls Tryz.prog 29 #[.agg #[.int .i64 (l.length : Int), .slice A (pack l).length c], .int .i64 (p : Int), .int .i64 (k : Int)] w fun e w' => e = .returned (.tuple #[.int .u64 (m : Int), .int .i64 0]) ∧ Below w.heap.size w w' := by
  subst hm
  exact get_ok l hl A c p k w h h1 h2
/-- Put that answers an error. -/
theorem put_e (len : Int) (A : Option Addr) (c : Nat) (bs : List Nat) (n : Nat) (width err : Int) (hb : ∀ b ∈ bs, b < 256) (hn64 : n < 18446744073709551616) (he : putL len bs n width = err) (h0 : err ≠ 0) (w : World) (h : Rd w w.heap.size A bs) :
    Calls Tryz.prog 58 #[.agg #[.int .i64 len, .slice A bs.length c], .int .u64 (n : Int), .int .i64 width] w (Gv w 0 0 (pack []) err) := by
  have := put_any len A c bs n width w hb h hn64
  rw [he, if_neg h0] at this
  exact this
theorem cut_e (len : Int) (A : Option Addr) (c : Nat) (bs : List Nat) (fr to err : Int) (hb : ∀ b ∈ bs, b < 256) (he : cutE len bs fr to = err) (h0 : err ≠ 0) (w : World) (h : Rd w w.heap.size A bs) :
    Calls Tryz.prog 26 #[.agg #[.int .i64 len, .slice A bs.length c], .int .i64 fr, .int .i64 to] w (Gv w 0 0 (pack []) err) := by
  have := cut_any len A c bs fr to w hb h
  rw [he, if_neg h0] at this
  exact this
theorem join_e (lx ly : Int) (A B : Option Addr) (c d : Nat) (xs ys : List Nat) (err : Int) (hx : ∀ b ∈ xs, b < 256) (hy : ∀ b ∈ ys, b < 256) (he : joinE lx xs ly ys = err) (h0 : err ≠ 0) (w : World) (hA : Rd w w.heap.size A xs) (hB : Rd w w.heap.size B ys) :
    Calls Tryz.prog 25 #[.agg #[.int .i64 lx, .slice A xs.length c], .agg #[.int .i64 ly, .slice B ys.length d]] w (Gv w 0 0 (pack []) err) := by
  have := join_any lx ly A B c d xs ys w hx hA hy hB
  rw [he, if_neg h0] at this
  exact this
theorem get_e (len : Int) (A : Option Addr) (c : Nat) (bs : List Nat) (p width err : Int) (hb : ∀ b ∈ bs, b < 256) (he : getE len bs p width = err) (h0 : err ≠ 0) (w : World) (h : Rd w w.heap.size A bs) :
    Calls Tryz.prog 29 #[.agg #[.int .i64 len, .slice A bs.length c], .int .i64 p, .int .i64 width] w fun e w' => e = .returned (.tuple #[.int .u64 0, .int .i64 err]) ∧ Below w.heap.size w w' := by
  have := get_any len A c bs p width w hb h
  unfold getN at this
  rw [he, if_neg h0] at this
  exact this

/-- Where Put answers no error the bits are right, the width is one, and the number fits. -/
theorem putL_zero (len : Int) (bs : List Nat) (n : Nat) (width : Int) (hb : ∀ b ∈ bs, b < 256) (h : putL len bs n width = 0) :
    ∃ (l : List Bool) (k : Nat), len = (l.length : Int) ∧ bs = pack l ∧ width = (k : Int) ∧ k ≤ 64 ∧ n / 2 ^ k = 0 ∧ l.length + k ≤ 8192 := by
  unfold putL at h
  by_cases hc : chk len bs = 0
  · rw [if_neg (by omega)] at h
    obtain ⟨l, rfl, hl, rfl⟩ := chk_zero len bs hb hc
    by_cases hw : width < 0 ∨ 64 < width ∨ n / 2 ^ width.toNat ≠ 0
    · rw [if_pos hw] at h; omega
    · rw [if_neg hw] at h
      by_cases hf : 8192 < (l.length : Int) + width
      · rw [if_pos hf] at h; omega
      · obtain ⟨k, rfl⟩ := Int.eq_ofNat_of_zero_le (show 0 ≤ width by omega)
        rw [Int.toNat_natCast] at hw
        exact ⟨l, k, rfl, rfl, rfl, by omega, by omega, by omega⟩
  · rw [if_pos hc] at h; exact absurd h hc
theorem cutE_zero (len : Int) (bs : List Nat) (fr to : Int) (hb : ∀ b ∈ bs, b < 256) (h : cutE len bs fr to = 0) :
    ∃ (l : List Bool) (f t : Nat), len = (l.length : Int) ∧ bs = pack l ∧ fr = (f : Int) ∧ to = (t : Int) ∧ f ≤ t ∧ t ≤ l.length ∧ l.length ≤ 8192 := by
  unfold cutE at h
  by_cases hc : chk len bs = 0
  · rw [if_neg (by omega)] at h
    obtain ⟨l, rfl, hl, rfl⟩ := chk_zero len bs hb hc
    by_cases hw : fr < 0 ∨ to < fr ∨ (l.length : Int) < to
    · rw [if_pos hw] at h; omega
    · obtain ⟨f, rfl⟩ := Int.eq_ofNat_of_zero_le (show 0 ≤ fr by omega)
      obtain ⟨t, rfl⟩ := Int.eq_ofNat_of_zero_le (show 0 ≤ to by omega)
      exact ⟨l, f, t, rfl, rfl, rfl, rfl, by omega, by omega, hl⟩
  · rw [if_pos hc] at h; exact absurd h hc
theorem joinE_zero (lx ly : Int) (xs ys : List Nat) (hx : ∀ b ∈ xs, b < 256) (hy : ∀ b ∈ ys, b < 256) (h : joinE lx xs ly ys = 0) :
    ∃ (a b : List Bool), lx = (a.length : Int) ∧ xs = pack a ∧ ly = (b.length : Int) ∧ ys = pack b ∧ a.length + b.length ≤ 8192 := by
  unfold joinE at h
  by_cases hc : chk lx xs = 0
  · rw [if_neg (by omega)] at h
    by_cases hd : chk ly ys = 0
    · rw [if_neg (by omega)] at h
      obtain ⟨a, rfl, ha, rfl⟩ := chk_zero lx xs hx hc
      obtain ⟨b, rfl, hb, rfl⟩ := chk_zero ly ys hy hd
      by_cases hf : 8192 < (a.length : Int) + (b.length : Int)
      · rw [if_pos hf] at h; omega
      · exact ⟨a, b, rfl, rfl, rfl, rfl, by omega⟩
    · rw [if_pos hd] at h; exact absurd h hd
  · rw [if_pos hc] at h; exact absurd h hc
theorem getE_zero (len : Int) (bs : List Nat) (p width : Int) (hb : ∀ b ∈ bs, b < 256) (h : getE len bs p width = 0) :
    ∃ (l : List Bool) (q k : Nat), len = (l.length : Int) ∧ bs = pack l ∧ p = (q : Int) ∧ width = (k : Int) ∧ k ≤ 64 ∧ q + k ≤ l.length ∧ l.length ≤ 8192 := by
  unfold getE at h
  by_cases hc : chk len bs = 0
  · rw [if_neg (by omega)] at h
    obtain ⟨l, rfl, hl, rfl⟩ := chk_zero len bs hb hc
    by_cases hw : width < 0 ∨ 64 < width ∨ p < 0 ∨ (l.length : Int) < p
    · rw [if_pos hw] at h; omega
    · rw [if_neg hw] at h
      by_cases hs : (l.length : Int) - p < width
      · rw [if_pos hs] at h; omega
      · obtain ⟨q, rfl⟩ := Int.eq_ofNat_of_zero_le (show 0 ≤ p by omega)
        obtain ⟨k, rfl⟩ := Int.eq_ofNat_of_zero_le (show 0 ≤ width by omega)
        exact ⟨l, q, k, rfl, rfl, rfl, rfl, by omega, by omega, hl⟩
  · rw [if_pos hc] at h; exact absurd h hc
end

section
open Go.RowKit

/-- A slice that reads as values, below a block. -/
def RdV (w : World) (B : Nat) (A : Option Addr) (vs : List Value) : Prop :=
  vs = [] ∨ ∃ b off, A = some ⟨b, off, none⟩ ∧ b < B ∧ ∀ i v, vs[i]? = some v → w.cell? ⟨b, off + i, none⟩ = some v
theorem RdV.keep {w w' : World} {B B' : Nat} {A : Option Addr} {vs : List Value} (h : RdV w B A vs) (hB : B ≤ B') (hk : ∀ k, k < B → w'.heap[k]? = w.heap[k]?) : RdV w' B' A vs := by
  rcases h with h | ⟨b, off, e, hb, hc⟩
  · exact .inl h
  · exact .inr ⟨b, off, e, by omega, fun i v hi => (World.cell?_of_block (w := w) (a := ⟨b, off + i, none⟩) (hk b hb)).trans (hc i v hi)⟩
theorem RdV.below {w w' : World} {B B' : Nat} {A : Option Addr} {vs : List Value} (h : RdV w B A vs) (hb : Below B w w') (hB : B ≤ B') : RdV w' B' A vs := h.keep hB hb.block
theorem RdV.on {w V : World} {A : Option Addr} {vs : List Value} (h : RdV w w.heap.size A vs) (hb : Below w.heap.size w V) : RdV V V.heap.size A vs := h.below hb hb.size
theorem RdV.at_ {w : World} {B : Nat} {A : Option Addr} {vs : List Value} (h : RdV w B A vs) {i : Nat} {v : Value} (hi : vs[i]? = some v) : ∃ b off, A = some ⟨b, off, none⟩ ∧ b < B ∧ w.cell? ⟨b, off + i, none⟩ = some v := by
  rcases h with h | ⟨b, off, e, hb, hc⟩
  · rw [h] at hi; simp at hi
  · exact ⟨b, off, e, hb, hc i v hi⟩

/-- Cells of numbers. -/
def nc (ns : List Nat) : List Value := ns.map fun (x : Nat) => Value.int .u64 (x : Int)
theorem nc_length (ns : List Nat) : (nc ns).length = ns.length := by simp [nc]
theorem nc_get (ns : List Nat) (i : Nat) (h : i < ns.length) : (nc ns)[i]? = some (.int .u64 ((ns[i]?.getD 0 : Nat) : Int)) := by
  simp [nc, List.getElem?_map, List.getElem?_eq_getElem h]
theorem nc_append (a b : List Nat) : nc (a ++ b) = nc a ++ nc b := by simp [nc]

/-- The unary code of a number, and of a list. -/
def uc (n : Nat) : List Bool := List.replicate n false ++ [true]
def ucs (ns : List Nat) : List Bool := ns.flatMap uc
theorem uc_length (n : Nat) : (uc n).length = n + 1 := by simp [uc]
theorem ucs_nil : ucs [] = [] := rfl
theorem ucs_append (a b : List Nat) : ucs (a ++ b) = ucs a ++ ucs b := by simp [ucs]
theorem ucs_snoc (a : List Nat) (n : Nat) : ucs (a ++ [n]) = ucs a ++ uc n := by rw [ucs_append]; simp [ucs]
theorem take_snoc (ns : List Nat) (i : Nat) (h : i < ns.length) : ns.take (i + 1) = ns.take i ++ [ns[i]?.getD 0] := by
  rw [List.take_succ_eq_append_getElem h, List.getElem?_eq_getElem h]; rfl
theorem ucs_take_le (ns : List Nat) (i : Nat) : (ucs (ns.take i)).length ≤ (ucs ns).length := by
  have e : ns = ns.take i ++ ns.drop i := (List.take_append_drop i ns).symm
  have h2 : (ucs ns).length = (ucs (ns.take i)).length + (ucs (ns.drop i)).length := by
    conv => lhs; rw [e]
    rw [ucs_append, List.length_append]
  omega

theorem nb_zeros (k : Nat) : nb 0 k = List.replicate k false := by
  apply List.ext_getElem
  · simp [nb]
  · intro i h1 h2; simp [nb]
theorem nb_one (z : Nat) : nb 1 (z + 1) = uc z := by
  rw [nb_snoc]
  have e : (1 : Nat) / 2 = 0 := rfl
  rw [e, nb_zeros]
  rfl

/-- What Many answers. -/
def manyE (ns : List Nat) : Int := if ns.any (fun n => decide (8192 ≤ n)) = true then 3 else if 8192 < (ucs ns).length then 8 else 0

/-- Block K holds bits that are right, in a writer of unary. -/
def UW (w : World) (K : Nat) (l : List Bool) : Prop :=
  ∃ A c, w.heap[K]? = some (.cells #[.int .i64 (l.length : Int), .slice A (pack l).length c] 237 (0, 0)) ∧ Rd w w.heap.size A (pack l)

theorem grown_trans {a b c : World} {row : Option Nat} (h : a.grownBy b row) (k : b.grownBy c row) : a.grownBy c row :=
  ⟨k.os.trans h.os, k.tape.trans h.tape, k.output.trans h.output, Nat.le_trans h.size k.size, fun i hi hr => (k.block i (Nat.lt_of_lt_of_le hi h.size) hr).trans (h.block i hi hr)⟩
theorem grown_of_below {w w' : World} (h : Below w.heap.size w w') (row : Option Nat) : w.grownBy w' row := ⟨h.os, h.tape, h.output, h.size, fun k hk _ => h.block k hk⟩
theorem grown_set (w : World) (K i : Nat) (u : Value) : w.grownBy (w.setCell ⟨K, i, none⟩ u) (some K) :=
  ⟨rfl, rfl, rfl, by simp [World.setCell], fun k _ hk => Below.heap_setCell _ _ _ _ (fun e => hk (by rw [e]))⟩
end

section
open Go.RowKit

theorem Rd.setK {w : World} {B K i : Nat} {A A' : Option Addr} {bs : List Nat} {a : Int} {n c : Nat} {t : TypeId} (u : Value) (h : Rd w B A bs) (hK : w.heap[K]? = some (.cells #[.int .i64 a, .slice A' n c] t (0, 0))) : Rd (w.setCell ⟨K, i, none⟩ u) B A bs := by
  rcases h with h | ⟨b, off, rfl, hb, hc⟩
  · exact .inl h
  · by_cases h0 : bs = []
    · exact .inl h0
    · have hl : 0 < bs.length := List.length_pos_iff.2 h0
      have hne : b ≠ K := by
        rintro rfl
        have h1 := hc 0 hl
        simp only [World.cell?, hK] at h1
        rcases (show off = 0 ∨ off = 1 ∨ 2 ≤ off by omega) with rfl | rfl | h2
        · simp at h1
        · simp at h1
        · rw [Array.getElem?_eq_none (by simp; omega)] at h1
          cases h1
      exact .inr ⟨b, off, rfl, hb, fun j hj => (World.cell?_setCell_other w _ ⟨b, off + j, none⟩ u (by intro e; exact hne (congrArg Addr.block e).symm)).trans (hc j hj)⟩

/-- New bits are stored in a writer. -/
theorem UW.put {w w' : World} {K : Nat} {l L : List Bool} {A A' : Option Addr} {c c' : Nat} (hK : w.heap[K]? = some (.cells #[.int .i64 (l.length : Int), .slice A (pack l).length c] 237 (0, 0))) (hR : Rd w' w'.heap.size A' (pack L)) (hB : Below w.heap.size w w') :
    (w'.cell? ⟨K, 0, none⟩ = some (.int .i64 (l.length : Int)) ∧ w'.cell? ⟨K, 1, none⟩ = some (.slice A (pack l).length c) ∧ w'.frozen? ⟨K, 0, none⟩ = false ∧ w'.frozen? ⟨K, 1, none⟩ = false) ∧
    Hid (UW ((w'.setCell ⟨K, 0, none⟩ (.int .i64 (L.length : Int))).setCell ⟨K, 1, none⟩ (.slice A' (pack L).length c')) K L ∧ w.grownBy ((w'.setCell ⟨K, 0, none⟩ (.int .i64 (L.length : Int))).setCell ⟨K, 1, none⟩ (.slice A' (pack L).length c')) (some K)) := by
  have hlt : K < w.heap.size := (Array.getElem?_eq_some_iff.1 hK).1
  have hK1 := (hB.block K hlt).trans hK
  have hK2 := heap_set_same w' K 0 (.int .i64 (L.length : Int)) 237 _ hK1
  have hK3 := heap_set_same _ K 1 (.slice A' (pack L).length c') 237 _ hK2
  refine ⟨blk_cells hK1, ⟨A', c', ?_, ?_⟩, grown_trans (grown_of_below hB _) (grown_trans (grown_set _ _ _ _) (grown_set _ _ _ _))⟩
  · rw [hK3]; simp
  · have r1 := hR.setK (i := 0) (.int .i64 (L.length : Int)) hK1
    have hK2' : (w'.setCell ⟨K, 0, none⟩ (.int .i64 (L.length : Int))).heap[K]? = some (.cells #[.int .i64 (L.length : Int), .slice A (pack l).length c] 237 (0, 0)) := by rw [hK2]; simp
    have r2 := r1.setK (i := 1) (.slice A' (pack L).length c') hK2'
    have e : ((w'.setCell ⟨K, 0, none⟩ (.int .i64 (L.length : Int))).setCell ⟨K, 1, none⟩ (.slice A' (pack L).length c')).heap.size = w'.heap.size := by simp [World.setCell]
    rw [e]
    exact r2

set_option maxHeartbeats 400000 in
theorem uput_ok (w : World) (K : Nat) (l L : List Bool) (n k : Nat) (hk : k ≤ 64) (hn : n / 2 ^ k = 0) (hf : l.length + k ≤ 8192) (hn64 : n < 18446744073709551616) (hL : L = l ++ nb n k) (h : UW w K l) :
    Calls Tryz.prog 203 #[.pointer (some ⟨K, 0, none⟩), .int .u64 (n : Int), .int .i64 (k : Int)] w fun e w' => e = .returned (.tuple #[]) ∧ UW w' K L ∧ w.grownBy w' (some K) := by
  obtain ⟨A, c, hK, hR⟩ := h
  have HP := Lib.hid (put_l l L A c n k hk hn hf hn64 hL w hR)
  obtain ⟨c0, c1, f0, f1⟩ := blk_cells hK
  have HK := Lib.hid hK
  clear hK hR hn hL
  go_enter Tryz.func203, Tryz.ntmps203
  go_wp2_with fail
  refine HP.out.mono ?_
  rintro e w1 ⟨A1, c1', rfl, R1, B1⟩
  obtain ⟨⟨d0, d1, e0, e1⟩, HU⟩ := UW.put (c' := c1') HK.out R1 B1
  clear R1 B1 c0 c1 f0 f1
  go_wp2
  go_end0
  exact ⟨rfl, HU.out.1, HU.out.2⟩

/-- At each round's head: z noughts are still to come. -/
def AddRel (w : World) (K : Nat) (l : List Bool) (n : Nat) (p : Value) (wr : World) : Prop :=
  ∃ z : Nat, z ≤ n ∧ p = .int .i64 (z : Int) ∧ UW wr K (l ++ List.replicate (n - z) false) ∧ w.grownBy wr (some K)

set_option maxHeartbeats 1000000 in
theorem uadd_ok (w : World) (K : Nat) (l L : List Bool) (n : Nat) (hf : l.length + n + 1 ≤ 8192) (hL : L = l ++ uc n) (h : UW w K l) :
    Calls Tryz.prog 188 #[.pointer (some ⟨K, 0, none⟩), .int .u64 (n : Int)] w fun e w' => e = .returned (.int .i64 0) ∧ UW w' K L ∧ w.grownBy w' (some K) := by
  have HU := Lib.hid h
  obtain ⟨A, c, hK, hR⟩ := h
  obtain ⟨c0, c1, f0, f1⟩ := blk_cells hK
  clear hK hR f0 f1
  have HL := Lib.hid hL; clear hL
  have t0 : decide ((8192 : Int) - (l.length : Int) ≤ (n : Int)) = false := by simp; omega
  have hw : (0 : Int) ≤ 8192 - (l.length : Int) := by omega
  go_enter Tryz.func188, Tryz.ntmps188
  go_wp2_with fail
  go_loopw [5] (fun p wr => AddRel w K l n p wr) (fun p _ => (intOf p).toNat)
  case atStart => exact ⟨n, Nat.le_refl _, rfl, by rw [Nat.sub_self, List.replicate_zero, List.append_nil]; exact HU.out, ⟨rfl, rfl, rfl, Nat.le_refl _, fun _ _ _ => rfl⟩⟩
  case round =>
    obtain ⟨z, hz, rfl, hu, hg⟩ := hrel
    by_cases h64 : 64 ≤ z
    · have HU2 := Lib.hid (uput_ok wr K (l ++ List.replicate (n - z) false) (l ++ List.replicate (n - (z - 64)) false) 0 64 (by omega) (by simp) (by rw [List.length_append, List.length_replicate]; omega) (by omega) (by
        rw [nb_zeros, List.append_assoc, List.replicate_append_replicate]; congr 2; omega) hu)
      clear hu
      go_wp2_with fail
      refine HU2.out.mono ?_
      rintro e w1 ⟨rfl, hu1, hg1⟩
      go_wp2
      go_roundw
      case rel => exact ⟨z - 64, by omega, by go_num, hu1, grown_trans hg hg1⟩
      case measure => simp [intOf]; omega
    · have HU2 := Lib.hid (uput_ok wr K (l ++ List.replicate (n - z) false) L 1 (z + 1) (by omega) (by
          rw [Nat.div_eq_zero_iff]; right; exact Nat.one_lt_two_pow (by omega)) (by rw [List.length_append, List.length_replicate]; omega) (by omega) (by
        rw [nb_one, HL.out]; unfold uc; rw [List.append_assoc, ← List.append_assoc (List.replicate (n - z) false), List.replicate_append_replicate]; congr 3; omega) hu)
      clear hu
      go_wp2_with fail
      refine HU2.out.mono ?_
      rintro e w1 ⟨rfl, hu1, hg1⟩
      go_wp2
      go_ret
      exact ⟨rfl, hu1, grown_trans hg hg1⟩

set_option maxHeartbeats 400000 in
theorem uadd_full (w : World) (K : Nat) (l : List Bool) (n : Nat) (hl : l.length ≤ 8192) (hf : 8192 < l.length + n + 1) (h : UW w K l) :
    Calls Tryz.prog 188 #[.pointer (some ⟨K, 0, none⟩), .int .u64 (n : Int)] w fun e w' => e = .returned (.int .i64 8) ∧ w = w' := by
  obtain ⟨A, c, hK, hR⟩ := h
  obtain ⟨c0, c1, f0, f1⟩ := blk_cells hK
  clear hK hR f0 f1
  have t0 : decide ((8192 : Int) - (l.length : Int) ≤ (n : Int)) = true := by simp; omega
  have hw : (0 : Int) ≤ 8192 - (l.length : Int) := by omega
  go_enter Tryz.func188, Tryz.ntmps188
  go_wp2
  go_ret
  exact ⟨rfl, rfl⟩
end

section
open Go.RowKit

set_option maxHeartbeats 400000 in
theorem out_of (n : Nat) (w : World) : Calls Tryz.prog 187 #[.int .u64 (n : Int)] w fun e w' => e = .returned (.bool (decide (8192 ≤ n))) ∧ w = w' := by
  have e : decide (8192 ≤ n) = decide ((8192 : Int) ≤ (n : Int)) := by rw [Bool.eq_iff_iff]; simp; omega
  rw [e]
  go_enter Tryz.func187, Tryz.ntmps187
  go_wp2
  go_ret
  exact ⟨rfl, rfl⟩

/-- At each round's head: none of the first i is out of range. -/
def IdxRel (ns : List Nat) (p : Value) : Prop := ∃ i : Nat, i ≤ ns.length ∧ p = .int .i64 (i : Int) ∧ (ns.take i).any (fun n => decide (8192 ≤ n)) = false

theorem any_snoc (ns : List Nat) (i : Nat) (h : i < ns.length) : (ns.take (i + 1)).any (fun n => decide (8192 ≤ n)) = ((ns.take i).any (fun n => decide (8192 ≤ n)) || decide (8192 ≤ ns[i]?.getD 0)) := by
  rw [take_snoc ns i h, List.any_append]; simp
theorem any_take (ns : List Nat) (i : Nat) (h : (ns.take i).any (fun n => decide (8192 ≤ n)) = true) : ns.any (fun n => decide (8192 ≤ n)) = true := by
  rw [List.any_eq_true] at h ⊢
  obtain ⟨x, hx, hp⟩ := h
  exact ⟨x, List.mem_of_mem_take hx, hp⟩

set_option maxHeartbeats 1000000 in
theorem index_any (ns : List Nat) (A : Option Addr) (n c : Nat) (hn : ns.length = n) (hn2 : n ≤ 9223372036854775807) (w : World) (h : RdV w w.heap.size A (nc ns)) :
    Calls Tryz.prog 202 #[.slice A n c, .func (.func 187) #[] #[]] w fun e w' => (∃ i : Int, e = .returned (.int .i64 i) ∧ decide (0 ≤ i) = ns.any (fun n => decide (8192 ≤ n))) ∧ w = w' := by
  have HR := Lib.hid h; clear h
  have HN := Lib.hid hn; clear hn
  go_enter Tryz.func202, Tryz.ntmps202
  go_wp2
  go_loop [8, 5] (fun p _ => IdxRel ns p) (fun p _ => n - (intOf p).toNat)
  case atStart => exact ⟨0, Nat.zero_le _, rfl, rfl⟩
  case round =>
    obtain ⟨i, hi, rfl, ht⟩ := hrel
    rw [HN.out] at hi
    by_cases hlt : i < n
    · have hin : i < ns.length := by rw [HN.out]; exact hlt
      obtain ⟨b, off, rfl, hb, hc⟩ := HR.out.at_ (nc_get ns i hin)
      have hs := any_snoc ns i hin
      have htk := any_take ns (i + 1)
      have HT := Lib.hid ht; clear ht
      generalize ns[i]?.getD 0 = x at *
      have HC := out_of x w
      cases hd : decide (8192 ≤ x)
      · rw [hd, HT.out] at hs
        have HS := Lib.hid hs; clear hs htk
        rw [hd] at HC
        have HC' := Lib.hid HC; clear HC hd
        go_wp2_with (go_at_call 187; refine HC'.out.mono ?_; rintro e w1 ⟨rfl, rfl⟩)
        go_round
        case rel => exact ⟨i + 1, by rw [HN.out]; omega, by go_num, HS.out⟩
        case measure => simp [intOf]; omega
      · rw [hd, HT.out] at hs
        have HS := Lib.hid (htk hs); clear hs htk
        rw [hd] at HC
        have HC' := Lib.hid HC; clear HC hd
        go_wp2_with (go_at_call 187; refine HC'.out.mono ?_; rintro e w1 ⟨rfl, rfl⟩)
        go_ret
        exact ⟨⟨(i : Int), rfl, by rw [HS.out]; simp⟩, rfl⟩
    · have HT : Hid (ns.any (fun n => decide (8192 ≤ n)) = false) := by
        rw [List.take_of_length_le (by rw [HN.out]; omega)] at ht
        exact ht
      clear ht
      go_wp2
      go_ret
      exact ⟨⟨-1, rfl, by rw [HT.out]; decide⟩, rfl⟩

set_option maxHeartbeats 400000 in
theorem contains_any (ns : List Nat) (A : Option Addr) (n c : Nat) (hn : ns.length = n) (hn2 : n ≤ 9223372036854775807) (w : World) (h : RdV w w.heap.size A (nc ns)) :
    Calls Tryz.prog 186 #[.slice A n c, .func (.func 187) #[] #[]] w fun e w' => e = .returned (.bool (ns.any (fun n => decide (8192 ≤ n)))) ∧ w = w' := by
  have HC := Lib.hid (index_any ns A n c hn hn2 w h)
  clear h hn
  go_enter Tryz.func186, Tryz.ntmps186
  go_wp2_with fail
  refine HC.out.mono ?_
  rintro e w1 ⟨⟨i, rfl, hi⟩, rfl⟩
  have HI := Lib.hid hi; clear hi
  go_wp2
  go_ret
  exact ⟨congrArg (fun b => Ending.returned (.bool b)) HI.out, rfl⟩

theorem up2 (w : World) (o p : Obj) : Below w.heap.size w ((w.alloc o).alloc p) := ((Below.refl _ w).alloc (Nat.le_refl _) _).alloc (by simp) _

/-- At each round's head: the codes of the first i numbers are written. -/
def ManyRel (w2 : World) (K : Nat) (ns : List Nat) (p : Value) (wr : World) : Prop :=
  ∃ i : Nat, i ≤ ns.length ∧ p = .int .i64 (i : Int) ∧ UW wr K (ucs (ns.take i)) ∧ (ucs (ns.take i)).length ≤ 8192 ∧ w2.grownBy wr (some K)

/-- The writer's bits are stored where the result lies. -/
theorem ufinish {w wr : World} {K r : Nat} {L : List Bool} (hw : UW wr K L) (hr : w.heap.size ≤ r) (hrb : wr.heap[r]? = some (.cells #[.int .i64 0, .slice none 0 0] 27 (0, 0))) (hb : Below w.heap.size w wr) :
    ∃ A c, (wr.cell? ⟨K, 0, none⟩ = some (.int .i64 (L.length : Int)) ∧ wr.cell? ⟨K, 1, none⟩ = some (.slice A (pack L).length c)) ∧
      (wr.cell? ⟨r, 0, none⟩ = some (.int .i64 0) ∧ wr.cell? ⟨r, 1, none⟩ = some (.slice none 0 0) ∧ wr.frozen? ⟨r, 0, none⟩ = false ∧ wr.frozen? ⟨r, 1, none⟩ = false) ∧
      Hid (Gave w L 0 (.returned (.tuple #[.agg #[.int .i64 (L.length : Int), .slice A (pack L).length c], .int .i64 0])) ((wr.setCell ⟨r, 0, none⟩ (.int .i64 (L.length : Int))).setCell ⟨r, 1, none⟩ (.slice A (pack L).length c))) := by
  obtain ⟨A, c, hK, hR⟩ := hw
  obtain ⟨c0, c1, _, _⟩ := blk_cells hK
  refine ⟨A, c, ⟨c0, c1⟩, blk_cells hrb, A, c, rfl, ?_, (hb.setCell (p := ⟨r, 0, none⟩) hr _).setCell (p := ⟨r, 1, none⟩) hr _⟩
  have r1 := hR.setK (i := 0) (.int .i64 (L.length : Int)) hrb
  have hr2 : (wr.setCell ⟨r, 0, none⟩ (.int .i64 (L.length : Int))).heap[r]? = some (.cells #[.int .i64 (L.length : Int), .slice none 0 0] 27 (0, 0)) := by
    rw [heap_set_same _ _ _ _ 27 _ hrb]; simp
  have r2 := r1.setK (i := 1) (.slice A (pack L).length c) hr2
  have e : ((wr.setCell ⟨r, 0, none⟩ (.int .i64 (L.length : Int))).setCell ⟨r, 1, none⟩ (.slice A (pack L).length c)).heap.size = wr.heap.size := by simp [World.setCell]
  show Rd _ _ A (pack L)
  rw [e]
  exact r2

set_option maxHeartbeats 400000 in
theorem many_range (ns : List Nat) (A : Option Addr) (c : Nat) (hn2 : ns.length ≤ 9223372036854775807) (w : World) (h : RdV w w.heap.size A (nc ns)) (ha : ns.any (fun n => decide (8192 ≤ n)) = true) :
    Calls Tryz.prog 172 #[.slice A ns.length c] w (Gave w [] 3) := by
  have hc0 := contains_any ns A ns.length c rfl hn2 (w.alloc (.cells #[.int .i64 0, .slice none 0 0] 27)) (h.on (one_below w _))
  rw [ha] at hc0
  have HC := Lib.hid hc0; clear hc0 h ha
  have HB := Lib.hid (one_below w (.cells #[.int .i64 0, .slice none 0 0] 27))
  generalize ns.length = n at *
  go_enter Tryz.func172, Tryz.ntmps172
  go_wp2_with fail
  refine HC.out.mono ?_
  rintro e w1 ⟨rfl, rfl⟩
  go_wp2
  exact bodyPost_ret (v := .tuple #[.agg #[.int .i64 0, .slice none 0 0], .int .i64 3]) (by simp [results, Tryz.results172, go_sem]) rfl ⟨none, 0, rfl, .inl rfl, HB.out⟩

set_option maxHeartbeats 1000000 in
theorem many_in (ns : List Nat) (L : List Bool) (A : Option Addr) (n c : Nat) (hn : ns.length = n) (hn2 : n ≤ 9223372036854775807) (w : World) (h : RdV w w.heap.size A (nc ns)) (ha : ns.any (fun n => decide (8192 ≤ n)) = false) (hL : L = ucs ns) :
    Calls Tryz.prog 172 #[.slice A n c] w (if 8192 < L.length then Gave w [] 8 else Gave w L 0) := by
  have hc0 := contains_any ns A n c hn hn2 (w.alloc (.cells #[.int .i64 0, .slice none 0 0] 27)) (h.on (one_below w _))
  rw [ha] at hc0
  have HC := Lib.hid hc0; clear hc0 ha
  have HR := Lib.hid h; clear h
  have HN := Lib.hid hn; clear hn
  have HL := Lib.hid hL; clear hL
  have HW0 : Hid (ManyRel ((w.alloc (.cells #[.int .i64 0, .slice none 0 0] 27)).alloc (.cells #[.int .i64 0, .slice none 0 0] 237)) (w.heap.size + 1) ns (.int .i64 0) ((w.alloc (.cells #[.int .i64 0, .slice none 0 0] 27)).alloc (.cells #[.int .i64 0, .slice none 0 0] 237))) := by
    refine ⟨0, Nat.zero_le _, rfl, ⟨none, 0, ?_, .inl (by rw [List.take_zero]; rfl)⟩, by rw [List.take_zero]; exact Nat.zero_le _, ⟨rfl, rfl, rfl, Nat.le_refl _, fun _ _ _ => rfl⟩⟩
    rw [List.take_zero]
    exact two_new w _ _
  obtain ⟨w2, hw2⟩ : ∃ w2, w2 = (w.alloc (.cells #[.int .i64 0, .slice none 0 0] 27)).alloc (.cells #[.int .i64 0, .slice none 0 0] 237) := ⟨_, rfl⟩
  have HB2 : Hid (w2.heap.size = w.heap.size + 2 ∧ Below w.heap.size w w2 ∧ w2.heap[w.heap.size]? = some (.cells #[.int .i64 0, .slice none 0 0] 27)) := by
    rw [hw2]
    exact ⟨two_size w _ _, up2 w _ _, (Below.heap_alloc _ _ _ (by simp)).trans (World.alloc_heap_new w _)⟩
  have HW2 := Lib.hid hw2; clear hw2
  generalize hQ : (if 8192 < L.length then Gave w [] 8 else Gave w L 0) = Q
  have HQ := Lib.hid hQ; clear hQ
  go_enter Tryz.func172, Tryz.ntmps172
  go_wp2_with fail
  refine HC.out.mono ?_
  rintro e w1 ⟨rfl, rfl⟩
  clear HC
  go_wp2
  rw [← HW2.out] at HW0 ⊢
  clear HW2
  go_loopw [14] (fun p wr => ManyRel w2 (w.heap.size + 1) ns p wr) (fun p _ => n - (intOf p).toNat)
  case atStart => exact HW0.out
  case round =>
    obtain ⟨i, hi, rfl, hu, hul, hg⟩ := hrel
    rw [HN.out] at hi
    obtain ⟨hz2, hb2, hr2⟩ := HB2.out
    have hlow : Below w.heap.size w wr := hb2.trans ⟨hg.os, hg.tape, hg.output, hg.size, fun k hk => hg.block k (by omega) (by simp; omega)⟩
    have hrb : wr.heap[w.heap.size]? = some (.cells #[.int .i64 0, .slice none 0 0] 27) := (hg.block _ (by omega) (by simp)).trans hr2
    have HG := Lib.hid hg; clear hg
    clear hb2 hr2
    have HZ := Lib.hid hz2; clear hz2
    by_cases hlt : i < n
    · have hin : i < ns.length := by rw [HN.out]; exact hlt
      obtain ⟨b, off, rfl, hb, hc⟩ := (HR.out.below hlow (Nat.le_refl _)).at_ (nc_get ns i hin)
      have hsn : ucs (ns.take (i + 1)) = ucs (ns.take i) ++ uc (ns[i]?.getD 0) := by rw [take_snoc ns i hin, ucs_snoc]
      have hle := ucs_take_le ns (i + 1)
      rw [← HL.out, hsn, List.length_append, uc_length] at hle
      generalize ns[i]?.getD 0 = x at *
      by_cases hfit : (ucs (ns.take i)).length + x + 1 ≤ 8192
      · have HA := Lib.hid (uadd_ok wr (w.heap.size + 1) (ucs (ns.take i)) _ x hfit rfl hu)
        have HS := Lib.hid hsn; clear hsn hu
        have hul2 : (ucs (ns.take i)).length + (x + 1) ≤ 8192 := by omega
        have HLow := Lib.hid hlow; clear hlow hrb
        go_wp2_with fail
        refine HA.out.mono ?_
        rintro e w3 ⟨rfl, hu3, hg3⟩
        go_wp2
        go_roundw
        case rel => exact ⟨i + 1, by rw [HN.out]; omega, by go_num, by rw [HS.out]; exact hu3, by rw [HS.out, List.length_append, uc_length]; exact hul2, grown_trans HG.out hg3⟩
        case measure => simp [intOf]; omega
      · have HA := Lib.hid (uadd_full wr (w.heap.size + 1) (ucs (ns.take i)) x hul (by omega) hu)
        have hbig : 8192 < L.length := by omega
        rw [if_pos hbig] at HQ
        clear hsn hu hfit hle hul hbig
        obtain ⟨d0, d1, g0, g1⟩ := blk_cells hrb
        have HLow := Lib.hid hlow; clear hlow hrb
        go_wp2_with fail
        refine HA.out.mono ?_
        rintro e w3 ⟨rfl, rfl⟩
        go_wp2
        refine bodyPost_ret (v := .tuple #[.agg #[.int .i64 0, .slice none 0 0], .int .i64 8]) (by simp [results, Tryz.results172, go_sem, d0, d1]) rfl ?_
        rw [← HQ.out]
        exact gave_zero HLow.out _ (Nat.le_refl _) 8
    · have e : i = n := by omega
      rw [e, List.take_of_length_le (by rw [HN.out]; omega), ← HL.out] at hu hul
      rw [if_neg (by omega)] at HQ
      obtain ⟨A3, c3, ⟨d0, d1⟩, ⟨d2, d3, g0, g1⟩, HF⟩ := ufinish hu (Nat.le_refl _) hrb hlow
      clear hu hul hrb hlow e
      go_wp2
      refine bodyPost_ret (v := .tuple #[.agg #[.int .i64 (L.length : Int), .slice A3 (pack L).length c3], .int .i64 0]) (by simp [results, Tryz.results172, go_sem, d2, d3]) rfl ?_
      rw [← HQ.out]
      exact HF.out

theorem many_any (ns : List Nat) (A : Option Addr) (c : Nat) (hn2 : ns.length ≤ 9223372036854775807) (w : World) (h : RdV w w.heap.size A (nc ns)) :
    Calls Tryz.prog 172 #[.slice A ns.length c] w (Gave w (if manyE ns = 0 then ucs ns else []) (manyE ns)) := by
  cases ha : ns.any (fun n => decide (8192 ≤ n))
  · have h1 := many_in ns _ A ns.length c rfl hn2 w h ha rfl
    by_cases hf : 8192 < (ucs ns).length
    · have e : manyE ns = 8 := by unfold manyE; rw [ha, if_neg (by decide), if_pos hf]
      rw [if_pos hf] at h1
      rw [e, if_neg (by decide)]
      exact h1
    · have e : manyE ns = 0 := by unfold manyE; rw [ha, if_neg (by decide), if_neg hf]
      rw [if_neg hf] at h1
      rw [e, if_pos rfl]
      exact h1
  · have e : manyE ns = 3 := by unfold manyE; rw [ha, if_pos rfl]
    rw [e, if_neg (by decide)]
    exact many_range ns A c hn2 w h ha

/-- Numbers whose codes have room. -/
theorem many_l (ns : List Nat) (L : List Bool) (A : Option Addr) (n c : Nat) (hn : ns.length = n) (hn2 : n ≤ 9223372036854775807) (he : manyE ns = 0) (hL : L = ucs ns) (w : World) (h : RdV w w.heap.size A (nc ns)) :
    Calls Tryz.prog 172 #[.slice A n c] w (Gv w (L.length : Int) (pack L).length (pack L) 0) := by
  subst hn
  have h1 := many_any ns A c hn2 w h
  rw [he, if_pos rfl, ← hL] at h1
  exact h1
theorem many_e (ns : List Nat) (A : Option Addr) (n c : Nat) (hn : ns.length = n) (hn2 : n ≤ 9223372036854775807) (e0 : Int) (he : manyE ns = e0) (h0 : e0 ≠ 0) (w : World) (h : RdV w w.heap.size A (nc ns)) :
    Calls Tryz.prog 172 #[.slice A n c] w (Gv w 0 0 (pack []) e0) := by
  subst hn
  have h1 := many_any ns A c hn2 w h
  rw [he, if_neg h0] at h1
  exact h1

theorem manyE_one (n : Nat) : manyE [n] = if 8192 ≤ n then 3 else 0 := by
  unfold manyE
  by_cases h : 8192 ≤ n
  · rw [if_pos (by simp; exact h), if_pos h]
  · rw [if_neg (by simp; omega), if_neg h, if_neg (by simp [ucs, uc_length]; omega)]
theorem ucs_one (n : Nat) : ucs [n] = uc n := by simp [ucs]

/-- One number, in a slice of its own. -/
theorem rdv_lit1 (w : World) (n : Nat) : RdV (w.alloc (.cells #[.int .u64 (n : Int)] 45)) (w.alloc (.cells #[.int .u64 (n : Int)] 45)).heap.size (some ⟨w.heap.size, 0, none⟩) (nc [n]) := by
  refine .inr ⟨w.heap.size, 0, rfl, by simp, fun i v hi => ?_⟩
  have e := World.alloc_heap_new w (.cells #[.int .u64 (n : Int)] 45)
  rcases Nat.eq_zero_or_pos i with rfl | h
  · simp [nc] at hi
    subst hi
    exact box_cell e
  · rw [List.getElem?_eq_none (by rw [nc_length]; simp; omega)] at hi; cases hi

set_option maxHeartbeats 400000 in
theorem code_any (n : Nat) (L : List Bool) (e0 : Int) (he : e0 = if 8192 ≤ n then 3 else 0) (hL : L = if 8192 ≤ n then [] else uc n) (w : World) :
    Calls Tryz.prog 149 #[.int .u64 (n : Int)] w (Gv w (L.length : Int) (pack L).length (pack L) e0) := by
  have h1 := many_any [n] (some ⟨w.heap.size + 1, 0, none⟩) 1 (by simp) ((w.alloc (.cells #[.int .i64 0, .slice none 0 0] 27)).alloc (.cells #[.int .u64 (n : Int)] 45)) (by
    have := rdv_lit1 (w.alloc (.cells #[.int .i64 0, .slice none 0 0] 27)) n
    simp only [World.size_alloc] at this ⊢
    exact this)
  have e1 : (if manyE [n] = 0 then ucs [n] else []) = L := by
    rw [hL, manyE_one, ucs_one]
    by_cases h : 8192 ≤ n
    · rw [if_pos h, if_pos h, if_neg (by decide)]
    · rw [if_neg h, if_neg h, if_pos rfl]
  rw [e1, manyE_one, ← he] at h1
  have HC := Lib.hid h1; clear h1 he hL e1
  go_enter Tryz.func149, Tryz.ntmps149
  go_wp2_with fail
  refine HC.out.mono ?_
  rintro e w1 ⟨A1, c1, rfl, R1, B1⟩
  have hs := two_size w (.cells #[.int .i64 0, .slice none 0 0] 27) (.cells #[.int .u64 (n : Int)] 45)
  have hs' : ((w.alloc (.cells #[.int .i64 0, .slice none 0 0] 27)).alloc (.cells #[.int .u64 (n : Int)] 45)).heap.size = w.heap.size + 2 := hs
  rw [hs'] at B1
  have hrb : w1.heap[w.heap.size]? = some (.cells #[.int .i64 0, .slice none 0 0] 27 (0, 0)) := (B1.block _ (by omega)).trans ((Below.heap_alloc _ _ _ (by simp)).trans (World.alloc_heap_new w _))
  have hlow : Below w.heap.size w w1 := (up2 w _ _).trans (B1.mono (by omega))
  obtain ⟨d0, d1, g0, g1⟩ := blk_cells hrb
  have HG : Hid (Gv w (L.length : Int) (pack L).length (pack L) e0 (.returned (.tuple #[.agg #[.int .i64 (L.length : Int), .slice A1 (pack L).length c1], .int .i64 e0])) ((w1.setCell ⟨w.heap.size, 0, none⟩ (.int .i64 (L.length : Int))).setCell ⟨w.heap.size, 1, none⟩ (.slice A1 (pack L).length c1))) := by
    refine ⟨A1, c1, rfl, ?_, (hlow.setCell (p := ⟨w.heap.size, 0, none⟩) (Nat.le_refl _) _).setCell (p := ⟨w.heap.size, 1, none⟩) (Nat.le_refl _) _⟩
    have r1 := R1.setK (i := 0) (.int .i64 (L.length : Int)) hrb
    have hr2 : (w1.setCell ⟨w.heap.size, 0, none⟩ (.int .i64 (L.length : Int))).heap[w.heap.size]? = some (.cells #[.int .i64 (L.length : Int), .slice none 0 0] 27 (0, 0)) := by
      rw [heap_set_same _ _ _ _ 27 _ hrb]; simp
    have r2 := r1.setK (i := 1) (.slice A1 (pack L).length c1) hr2
    have e : ((w1.setCell ⟨w.heap.size, 0, none⟩ (.int .i64 (L.length : Int))).setCell ⟨w.heap.size, 1, none⟩ (.slice A1 (pack L).length c1)).heap.size = w1.heap.size := by simp [World.setCell]
    rw [e]
    exact r2
  clear hrb hlow hs hs' R1 B1
  go_wp2
  exact bodyPost_ret (v := .tuple #[.agg #[.int .i64 (L.length : Int), .slice A1 (pack L).length c1], .int .i64 e0]) (by simp [results, Tryz.results149, go_sem, d0, d1]) rfl HG.out
end

section
open Go.RowKit Go.Shelf

attribute [local go_sem] Oper.semAt_some

/-- The positions of the 1 bits, the first bit being at position o. -/
def pos : Nat → List Bool → List Nat
  | _, [] => []
  | o, true :: l => o :: pos (o + 1) l
  | o, false :: l => pos (o + 1) l
theorem pos_snoc (l : List Bool) (b : Bool) : ∀ o, pos o (l ++ [b]) = pos o l ++ (if b = true then [o + l.length] else []) := by
  induction l with
  | nil => intro o; cases b <;> simp [pos]
  | cons x l ih =>
    intro o
    cases x
    · simp only [List.cons_append, pos, ih, List.length_cons]; congr 2; rw [show o + 1 + l.length = o + (l.length + 1) from by omega]
    · simp only [List.cons_append, pos, ih, List.length_cons]; congr 3; rw [show o + 1 + l.length = o + (l.length + 1) from by omega]
theorem pos_length (l : List Bool) : ∀ o, (pos o l).length ≤ l.length := by
  induction l with
  | nil => intro o; simp [pos]
  | cons x l ih => intro o; cases x <;> simp [pos] <;> have := ih (o + 1) <;> omega
theorem pos_bound (l : List Bool) : ∀ o, ∀ x ∈ pos o l, o ≤ x ∧ x < o + l.length := by
  induction l with
  | nil => intro o x hx; simp [pos] at hx
  | cons b l ih =>
    intro o x hx
    cases b
    · have := ih (o + 1) x hx; simp; omega
    · rcases List.mem_cons.1 hx with rfl | h
      · simp
      · have := ih (o + 1) x h; simp; omega

theorem pos_append (a b : List Bool) : ∀ o, pos o (a ++ b) = pos o a ++ pos (o + a.length) b := by
  induction a with
  | nil => intro o; simp [pos]
  | cons x a ih =>
    intro o
    cases x <;> simp [pos, ih, Nat.add_assoc, Nat.add_comm 1]
theorem pos_prefix (o : Nat) (m a b : List Bool) (h : m = a ++ b) : pos o a <+: pos o m := by
  rw [h, pos_append]; exact List.prefix_append _ _

/-- A position that is told to a visitor. -/
def clamp (fr x : Nat) : Nat := max fr (min x 8191)
theorem clamp_of (fr x : Nat) (h : fr ≤ x) (h2 : x < 8192) : clamp fr x = x := by unfold clamp; omega

/-- One bit, as Get tells it. -/
theorem get_bit (l : List Bool) (hl : l.length ≤ 8192) (A : Option Addr) (c i : Nat) (hi : i < l.length) (w : World) (h : Rd w w.heap.size A (pack l)) :
    Calls Tryz.prog 29 #[.agg #[.int .i64 (l.length : Int), .slice A (pack l).length c], .int .i64 (i : Int), .int .i64 1] w fun e w' => e = .returned (.tuple #[.int .u64 ((l[i]?.getD false).toNat : Int), .int .i64 0]) ∧ Below w.heap.size w w' := by
  refine get_l l hl A c i 1 _ (by omega) (by omega) ?_ w h
  rw [List.take_one, List.head?_drop, List.getElem?_eq_getElem hi]
  simp [num]

theorem six (w : World) (a b c d e f : Obj) : (((((((w.alloc a).alloc b).alloc c).alloc d).alloc e).alloc f).heap.size = w.heap.size + 6) ∧
    ((((((w.alloc a).alloc b).alloc c).alloc d).alloc e).alloc f).heap[w.heap.size]? = some a ∧ ((((((w.alloc a).alloc b).alloc c).alloc d).alloc e).alloc f).heap[w.heap.size + 1]? = some b ∧
    ((((((w.alloc a).alloc b).alloc c).alloc d).alloc e).alloc f).heap[w.heap.size + 2]? = some c ∧ ((((((w.alloc a).alloc b).alloc c).alloc d).alloc e).alloc f).heap[w.heap.size + 3]? = some d ∧
    ((((((w.alloc a).alloc b).alloc c).alloc d).alloc e).alloc f).heap[w.heap.size + 4]? = some e ∧ ((((((w.alloc a).alloc b).alloc c).alloc d).alloc e).alloc f).heap[w.heap.size + 5]? = some f := by
  obtain ⟨hz, h0, h1, h2, h3⟩ := four w a b c d
  generalize ((((w.alloc a).alloc b).alloc c).alloc d) = v at *
  have n4 := World.alloc_heap_new v e
  have n5 := World.alloc_heap_new (v.alloc e) f
  rw [World.size_alloc] at n5
  have low : ∀ k, k < v.heap.size → ((v.alloc e).alloc f).heap[k]? = v.heap[k]? := fun k hk => by
    rw [Below.heap_alloc _ _ _ (by rw [World.size_alloc]; omega), Below.heap_alloc _ _ _ hk]
  refine ⟨by simp only [World.size_alloc]; omega, ?_, ?_, ?_, ?_, ?_, ?_⟩
  · rw [low _ (by omega)]; exact h0
  · rw [low _ (by omega)]; exact h1
  · rw [low _ (by omega)]; exact h2
  · rw [low _ (by omega)]; exact h3
  · rw [Below.heap_alloc _ _ _ (by rw [World.size_alloc]; omega), ← hz]; exact n4
  · rw [show w.heap.size + 5 = v.heap.size + 1 by omega]; exact n5
/-- Which bits have that value. -/
def eqs (v : Bool) (l : List Bool) : List Bool := l.map fun b => b == v
theorem eqs_append (v : Bool) (a b : List Bool) : eqs v (a ++ b) = eqs v a ++ eqs v b := by simp [eqs]
theorem eqs_length (v : Bool) (l : List Bool) : (eqs v l).length = l.length := by simp [eqs]
theorem eqs_true (l : List Bool) : eqs true l = l := by
  unfold eqs
  induction l with
  | nil => rfl
  | cons b l ih => rw [List.map_cons, ih]; cases b <;> rfl
/-- The positions of the bits of value v, from fr up to to. -/
def vis (v : Bool) (l : List Bool) (fr to : Nat) : List Nat := pos fr (eqs v ((l.drop fr).take (to - fr)))
theorem vis_all (l : List Bool) (fr n : Nat) (h : n = l.length) : vis true l fr n = pos fr (l.drop fr) := by
  unfold vis
  rw [eqs_true, List.take_of_length_le (by rw [List.length_drop]; omega)]
theorem vis_at (v : Bool) (l : List Bool) (fr : Nat) : vis v l fr fr = [] := by unfold vis; rw [Nat.sub_self, List.take_zero]; rfl
theorem vis_succ (v : Bool) (l : List Bool) (fr i : Nat) (hi : i < l.length) (hf : fr ≤ i) : vis v l fr (i + 1) = vis v l fr i ++ (if (l[i]?.getD false == v) = true then [i] else []) := by
  unfold vis
  rw [take_bits l fr i hi hf, eqs_append, pos_append, eqs_length, List.length_take, List.length_drop, Nat.min_eq_left (by omega), show fr + (i - fr) = i from by omega]
  congr 1
  unfold eqs
  generalize l[i]?.getD false = x
  rw [List.map_cons, List.map_nil]
  generalize (x == v) = y
  cases y <;> rfl
theorem vis_length (v : Bool) (l : List Bool) (fr to : Nat) : (vis v l fr to).length ≤ to - fr := by
  unfold vis
  refine Nat.le_trans (pos_length _ _) ?_
  rw [eqs_length, List.length_take]; omega
theorem vis_bound (v : Bool) (l : List Bool) (fr to : Nat) (x : Nat) (h : x ∈ vis v l fr to) : fr ≤ x ∧ x < to ∧ x < l.length := by
  have := pos_bound _ _ x h
  rw [eqs_length, List.length_take, List.length_drop] at this
  omega
theorem vis_prefix (v : Bool) (l : List Bool) (fr i to : Nat) (h : i ≤ to) : vis v l fr i <+: vis v l fr to := by
  unfold vis
  have e : (l.drop fr).take (to - fr) = (l.drop fr).take (i - fr) ++ ((l.drop fr).take (to - fr)).drop (i - fr) := by
    conv => lhs; rw [← List.take_append_drop (i - fr) ((l.drop fr).take (to - fr))]
    rw [List.take_take, Nat.min_eq_left (by omega)]
  exact pos_prefix fr _ (eqs v ((l.drop fr).take (i - fr))) (eqs v (((l.drop fr).take (to - fr)).drop (i - fr))) (by rw [← eqs_append, ← e])
/-- The same, for a value of 64 bits. -/
theorem eq_cast (a b : Bool) : ((((a.toNat : Nat) : Int)) == (((b.toNat : Nat) : Int))) = (a == b) := by cases a <;> cases b <;> rfl

set_option maxRecDepth 100000 in
set_option maxHeartbeats 1000000 in
theorem of1_in (n : Nat) (hn : 2 ≤ n) (lp Bf Bt Bb Bv B0 c : Nat) (A : Option Addr) (Q : Nat → Prop) (l : List Bool) (hl : l.length ≤ 8192) (v : Bool) (fr to : Nat) (hft : fr ≤ to) (hto : to ≤ l.length) (J Jx : List Nat → World → Prop)
    (hQt : Q Bt) (hQb : Q Bb) (hQv : Q Bv) (hQ : ∀ k, k < B0 → Q k)
    (W : World) (hQW : ∀ k, Q k → k < W.heap.size) (hJa : AbidesFrom W.heap.size J)
    (hY : ∀ pre x W, J pre W → pre.length < to - fr → YieldAt Fence.wide (n - 1) Tryz.prog lp #[.int .i64 (clamp fr x : Int)] W fun e W' =>
      (e = .returned (.bool true) ∧ J (pre ++ [x]) W' ∧ (KeepQ Q W W' ∧ W.heap.size ≤ W'.heap.size)) ∨ (e = .returned (.bool false) ∧ Jx (pre ++ [x]) W'))
    (hBf : W.cell? ⟨Bf, 0, none⟩ = some (.int .i64 (fr : Int))) (hBt : W.cell? ⟨Bt, 0, none⟩ = some (.int .i64 (to : Int))) (hBv : W.cell? ⟨Bv, 0, none⟩ = some (.int .u64 (v.toNat : Int))) (hBb0 : W.cell? ⟨Bb, 0, none⟩ = some (.int .i64 (l.length : Int))) (hBb : W.cell? ⟨Bb, 1, none⟩ = some (.slice A (pack l).length c))
    (hRd : Rd W B0 A (pack l)) (hB0 : B0 ≤ W.heap.size) (h0 : J [] W) :
    CallsIn Fence.wide n Tryz.prog 192 #[.func (.yield lp) #[] #[], .pointer (some ⟨Bf, 0, none⟩), .pointer (some ⟨Bt, 0, none⟩), .pointer (some ⟨Bb, 0, none⟩), .pointer (some ⟨Bv, 0, none⟩)] W fun e W' => (∃ v, e = .returned v) ∧
      ((∃ ys, ys = vis v l fr to ∧ J ys W') ∨ (∃ pre, pre <+: vis v l fr to ∧ Jx pre W')) := by
  refine callsIn_of_wp Tryz.func192 rfl trivial ?_ rfl
  simp only [Tryz.ntmps192, List.size_toArray, List.length_cons, List.length_nil, Nat.reduceAdd, Nat.reduceSub, Array.replicate_succ, Array.replicate_zero, List.push_toArray, List.append_toArray, List.nil_append, List.cons_append]
  gi_wp2
  gi_loopw [6] (fun p wr => ∃ i : Nat, fr ≤ i ∧ i ≤ to ∧ p = .int .i64 (i : Int) ∧ KeepQ Q W wr ∧ W.heap.size ≤ wr.heap.size ∧ J (vis v l fr i) wr)
    (fun p _ => to - (intOf p).toNat)
  case atStart =>
    exact ⟨fr, Nat.le_refl _, hft, rfl, fun _ _ => rfl, Nat.le_refl _, by rw [vis_at]; exact h0⟩
  case round =>
    obtain ⟨i, hi1, hi2, rfl, hk, hsz, hJ⟩ := hrel
    have ct : wr.cell? ⟨Bt, 0, none⟩ = some (.int .i64 (to : Int)) := (World.cell?_of_block (w := W) (a := ⟨Bt, 0, none⟩) (hk Bt hQt)).trans hBt
    by_cases hlt : i < to
    · have cb0 : wr.cell? ⟨Bb, 0, none⟩ = some (.int .i64 (l.length : Int)) := (World.cell?_of_block (w := W) (a := ⟨Bb, 0, none⟩) (hk Bb hQb)).trans hBb0
      have cb : wr.cell? ⟨Bb, 1, none⟩ = some (.slice A (pack l).length c) := (World.cell?_of_block (w := W) (a := ⟨Bb, 1, none⟩) (hk Bb hQb)).trans hBb
      have HG := Lib.hid (get_bit l hl A c i (by omega) wr (hRd.keep (by omega) (fun k hk' => hk k (hQ k hk'))))
      have HT := Lib.hid (vis_succ v l fr i (by omega) hi1)
      have hJw := fun W' (hb : Below wr.heap.size wr W') => hJa _ wr W' none hJ (grown_of_below hb none) (fun r e => by cases e)
      have HK := Lib.hid (⟨hk, hsz⟩ : KeepQ Q W wr ∧ W.heap.size ≤ wr.heap.size)
      have HJW := Lib.hid hJw
      have hcv := fun w1 (hb : Below wr.heap.size wr w1) => (World.cell?_of_block (w := W) (w' := w1) (a := ⟨Bv, 0, none⟩) ((hb.block Bv (by have := hQW Bv hQv; omega)).trans (hk Bv hQv))).trans hBv
      have HCV := Lib.hid hcv
      clear hk hsz hJw hJ hcv
      by_cases hx : l[i]?.getD false = v
      · rw [hx] at HG
        have hbe : (v == v) = true := by simp
        replace HT : Hid (vis v l fr (i + 1) = vis v l fr i ++ [i]) := by
          have := HT.out
          rw [hx, hbe, if_pos rfl] at this
          exact this
        clear hx hbe
        gi_wp2_with fail
        refine ⟨trivial, fun _ => by omega, ?_⟩
        refine (callsIn_wide.2 HG.out).mono ?_
        rintro e w1 ⟨rfl, hb1⟩
        have cv := HCV.out _ hb1
        have hx := clamp_of fr i hi1 (by omega)
        obtain ⟨fn, tmps, assign, body, hy, hR⟩ := hY _ i w1 (HJW.out _ hb1) (by
          have := vis_length v l fr i
          omega)
        rw [hx] at hy
        clear hx
        have HB1 := Lib.hid hb1; clear hb1
        gi_wp2
        refine ⟨fun _ => by omega, hR.mono ?_⟩
        rintro e W3 (⟨rfl, hJ3, hk3, hs3⟩ | ⟨rfl, hJx3⟩)
        · gi_wp2
          go_roundw
          case rel =>
            refine ⟨i + 1, by omega, by omega, by go_num, fun k hq => (hk3 k hq).trans ((HB1.out.block k (by have := hQW k hq; have := HK.out.2; omega)).trans (HK.out.1 k hq)), Nat.le_trans HK.out.2 (Nat.le_trans HB1.out.size hs3), ?_⟩
            rw [HT.out]
            exact hJ3
          case measure => simp [intOf]; omega
        · gi_wp2
          refine bodyPost_ret (results_none rfl _ _ _) rfl ?_
          refine ⟨⟨_, rfl⟩, .inr ⟨_, ?_, hJx3⟩⟩
          rw [← HT.out]
          exact vis_prefix v l fr (i + 1) to (by omega)
      · have hbe : (l[i]?.getD false == v) = false := by simpa using hx
        have hne : ((((l[i]?.getD false).toNat : Nat) : Int) == ((v.toNat : Nat) : Int)) = false := by rw [eq_cast]; exact hbe
        replace HT : Hid (vis v l fr (i + 1) = vis v l fr i) := by
          have := HT.out
          rw [hbe, if_neg (by decide), List.append_nil] at this
          exact this
        clear hx hbe
        generalize l[i]?.getD false = x at *
        gi_wp2_with fail
        refine ⟨trivial, fun _ => by omega, ?_⟩
        refine (callsIn_wide.2 HG.out).mono ?_
        rintro e w1 ⟨rfl, hb1⟩
        have cv := HCV.out _ hb1
        have HB1 := Lib.hid hb1; clear hb1
        gi_wp2
        refine ⟨fun _ h => (by cases h), ?_⟩
        gi_wp2
        go_roundw
        case rel =>
          refine ⟨i + 1, by omega, by omega, by go_num, fun k hq => (HB1.out.block k (by have := hQW k hq; have := HK.out.2; omega)).trans (HK.out.1 k hq), Nat.le_trans HK.out.2 HB1.out.size, ?_⟩
          rw [HT.out]
          exact HJW.out _ HB1.out
        case measure => simp [intOf]; omega
    · have e : i = to := by omega
      have HJ : Hid (J (vis v l fr to) wr) := by
        rw [e] at hJ
        exact hJ
      clear e hJ
      gi_wp2
      go_end0
      exact ⟨⟨_, rfl⟩, .inl ⟨_, rfl, HJ.out⟩⟩

/-- What such a visit wants kept. -/
def KeepS (Q : Nat → Prop) (W W' : World) : Prop := KeepQ Q W W' ∧ W.heap.size ≤ W'.heap.size
theorem keepS_t {Q : Nat → Prop} {A B C : World} (h : KeepS Q A B) (k : KeepS Q B C) : KeepS Q A C := ⟨keepQ_t h.1 k.1, Nat.le_trans h.2 k.2⟩
theorem keepS_b {Q : Nat → Prop} {w : World} (hn : ∀ k, Q k → k < w.heap.size) (W : World) (l : Nat) (o o' : Obj) (hl : w.heap.size ≤ l) (h : W.heap[l]? = some o) (h1 : o.isCells = false) (h2 : o.isWalk = false) : KeepS Q W (W.putObj l o') :=
  ⟨keepQ_b hn W l o o' hl h h1 h2, by simp⟩

/-- The visit, as a contract. -/
theorem of_stops (n : Nat) (hn : 2 ≤ n) (Bf Bt Bb Bv B0 c : Nat) (A : Option Addr) (Q : Nat → Prop) (l : List Bool) (hl : l.length ≤ 8192) (v : Bool) (fr to : Nat) (hft : fr ≤ to) (hto : to ≤ l.length)
    (hQt : Q Bt) (hQb : Q Bb) (hQv : Q Bv) (hQ : ∀ k, k < B0 → Q k) (w : World) (hQw : ∀ k, Q k → k < w.heap.size) (hB0 : B0 ≤ w.heap.size) (kf : Bf < w.heap.size)
    (hBf : w.cell? ⟨Bf, 0, none⟩ = some (.int .i64 (fr : Int))) (hBt : w.cell? ⟨Bt, 0, none⟩ = some (.int .i64 (to : Int))) (hBv : w.cell? ⟨Bv, 0, none⟩ = some (.int .u64 (v.toNat : Int))) (hBb0 : w.cell? ⟨Bb, 0, none⟩ = some (.int .i64 (l.length : Int))) (hBb : w.cell? ⟨Bb, 1, none⟩ = some (.slice A (pack l).length c)) (hRd : Rd w B0 A (pack l)) :
    SeqStopsK Fence.wide n Tryz.prog 192 #[.pointer (some ⟨Bf, 0, none⟩), .pointer (some ⟨Bt, 0, none⟩), .pointer (some ⟨Bb, 0, none⟩), .pointer (some ⟨Bv, 0, none⟩)] (fun x : Nat => #[Value.int .i64 (clamp fr x : Int)]) (KeepS Q) (fun ys => ys = vis v l fr to) (fun pre => pre <+: vis v l fr to) (to - fr) w :=
  fun lp J Jx W hW hJ _ hY h0 =>
    of1_in n hn lp Bf Bt Bb Bv B0 c A Q l hl v fr to hft hto J Jx hQt hQb hQv hQ W (fun k hk => Nat.lt_of_lt_of_le (hQw k hk) hW.size) hJ hY ((hW.cell (p := ⟨Bf, 0, none⟩) kf).trans hBf) ((hW.cell (p := ⟨Bt, 0, none⟩) (hQw Bt hQt)).trans hBt) ((hW.cell (p := ⟨Bv, 0, none⟩) (hQw Bv hQv)).trans hBv) ((hW.cell (p := ⟨Bb, 0, none⟩) (hQw Bb hQb)).trans hBb0) ((hW.cell (p := ⟨Bb, 1, none⟩) (hQw Bb hQb)).trans hBb) (hRd.below (hW.mono hB0) (Nat.le_refl _)) (Nat.le_trans hB0 hW.size) h0

set_option maxHeartbeats 1000000 in
/-- The maker of the visit. -/
theorem of_in (n : Nat) (fr to : Int) (v : Int) (len : Int) (A : Option Addr) (m c : Nat) (w : World) :
    CallsIn Fence.wide n Tryz.prog 178 #[.agg #[.int .i64 len, .slice A m c], .int .u64 v, .int .i64 fr, .int .i64 to] w fun e w' => e = .returned (.func (.func 192) #[] #[.pointer (some ⟨w.heap.size + 2, 0, none⟩), .pointer (some ⟨w.heap.size + 3, 0, none⟩), .pointer (some ⟨w.heap.size, 0, none⟩), .pointer (some ⟨w.heap.size + 1, 0, none⟩)]) ∧
      w' = (((w.alloc (.cells #[.int .i64 len, .slice A m c] 27)).alloc (.cells #[.int .u64 v] 45)).alloc (.cells #[.int .i64 fr] 3)).alloc (.cells #[.int .i64 to] 3) := by
  refine callsIn_of_wp Tryz.func178 rfl trivial ?_ rfl
  simp only [Tryz.ntmps178, List.size_toArray, List.length_cons, List.length_nil, Nat.reduceAdd, Nat.reduceSub, Array.replicate_succ, Array.replicate_zero, List.push_toArray, List.append_toArray, List.nil_append, List.cons_append]
  gi_wp2
  go_ret
  exact ⟨rfl, rfl⟩
end

section
open Go.RowKit Go.Shelf

attribute [local go_sem] Oper.semAt_some

/-- A number, a position and an error come back. -/
def ReadP (w : World) (n to : Nat) (err : Int) (e : Ending) (w' : World) : Prop := e = .returned (.tuple #[.int .u64 (n : Int), .int .i64 (to : Int), .int .i64 err]) ∧ Below w.heap.size w w'

/-- The five blocks that Read begins with. -/
def r5 (w : World) (len : Int) (A : Option Addr) (n c : Nat) (p : Int) : World := ((((w.alloc (.cells #[.int .i64 len, .slice A n c] 27)).alloc (.cells #[.int .i64 p] 3)).alloc (.cells #[.int .u64 0] 45)).alloc (.cells #[.int .i64 0] 3)).alloc (.cells #[.int .i64 0] 28)
theorem r5_facts (w : World) (len : Int) (A : Option Addr) (n c : Nat) (p : Int) : (r5 w len A n c p).heap.size = w.heap.size + 5 ∧ Below w.heap.size w (r5 w len A n c p) ∧
    (r5 w len A n c p).heap[w.heap.size + 1]? = some (.cells #[.int .i64 p] 3) ∧ (r5 w len A n c p).heap[w.heap.size + 2]? = some (.cells #[.int .u64 0] 45) ∧ (r5 w len A n c p).heap[w.heap.size + 3]? = some (.cells #[.int .i64 0] 3) ∧ (r5 w len A n c p).heap[w.heap.size + 4]? = some (.cells #[.int .i64 0] 28) := by
  unfold r5
  obtain ⟨h0, _, h2, h3, h4⟩ := five w (.cells #[.int .i64 len, .slice A n c] 27) (.cells #[.int .i64 p] 3) (.cells #[.int .u64 0] 45) (.cells #[.int .i64 0] 3) (.cells #[.int .i64 0] 28)
  refine ⟨h0, ((up2 w _ _).alloc (by simp only [World.size_alloc]; omega) _).alloc (by simp only [World.size_alloc]; omega) _ |>.alloc (by simp only [World.size_alloc]; omega) _, ?_, h2, h3, h4⟩
  have n1 := World.alloc_heap_new (w.alloc (.cells #[.int .i64 len, .slice A n c] 27)) (.cells #[.int .i64 p] 3)
  simp only [World.size_alloc] at n1
  rw [Below.heap_alloc _ _ _ (by simp only [World.size_alloc]; omega), Below.heap_alloc _ _ _ (by simp only [World.size_alloc]; omega), Below.heap_alloc _ _ _ (by simp only [World.size_alloc]; omega)]
  exact n1

theorem check_r5 (len : Int) (A : Option Addr) (c : Nat) (bs : List Nat) (p : Int) (w : World) (hb : ∀ b ∈ bs, b < 256) (h : Rd w w.heap.size A bs) :
    Calls Tryz.prog 46 #[.agg #[.int .i64 len, .slice A bs.length c]] (r5 w len A bs.length c p) fun e w' => e = .returned (.int .i64 (chk len bs)) ∧ Below (w.heap.size + 5) (r5 w len A bs.length c p) w' := by
  obtain ⟨hz, hl, _⟩ := r5_facts w len A bs.length c p
  have := check_any len A c bs (r5 w len A bs.length c p) hb (h.below hl hl.size)
  rwa [hz] at this

theorem read_zero {w w1 : World} (hq : Below w.heap.size w w1) (err : Int) (v : Value) (hv : v = .tuple #[.int .u64 0, .int .i64 0, .int .i64 err]) :
    ReadP w 0 0 err (.returned v) (((w1.setCell ⟨w.heap.size + 1 + 1, 0, none⟩ (.int .u64 0)).setCell ⟨w.heap.size + 1 + 1 + 1, 0, none⟩ (.int .i64 0)).setCell ⟨w.heap.size + 1 + 1 + 1 + 1, 0, none⟩ (.int .i64 err)) :=
  ⟨by rw [hv]; rfl, ((hq.setCell (p := ⟨w.heap.size + 1 + 1, 0, none⟩) (by simp only; omega) _).setCell (p := ⟨w.heap.size + 1 + 1 + 1, 0, none⟩) (by simp only; omega) _).setCell (p := ⟨w.heap.size + 1 + 1 + 1 + 1, 0, none⟩) (by simp only; omega) _⟩

set_option maxHeartbeats 400000 in
theorem read_bad (len : Int) (A : Option Addr) (c : Nat) (bs : List Nat) (p : Int) (w : World) (hb : ∀ b ∈ bs, b < 256) (h : Rd w w.heap.size A bs) (hc : chk len bs ≠ 0) :
    Calls Tryz.prog 161 #[.agg #[.int .i64 len, .slice A bs.length c], .int .i64 p] w (ReadP w 0 0 (chk len bs)) := by
  have HC := Lib.hid (check_r5 len A c bs p w hb h)
  have HF := Lib.hid (r5_facts w len A bs.length c p)
  have hcb : (chk len bs != 0) = true := by simpa using hc
  clear hc hb h
  generalize chk len bs = e0 at *
  generalize bs.length = nn at *
  go_enter Tryz.func161, Tryz.ntmps161
  go_wp2_with (go_at_call 46; refine HC.out.mono ?_; rintro e w1 ⟨rfl, hq⟩; unfold r5 at hq; obtain ⟨hc1, hf1⟩ := old_cells hq)
  exact bodyPost_ret (v := .tuple #[.int .u64 0, .int .i64 0, .int .i64 e0]) (by simp [results, Tryz.results161, go_sem, hc1]) rfl (read_zero (HF.out.2.1.trans (hq.mono (by omega))) e0 _ rfl)

set_option maxHeartbeats 400000 in
theorem read_range (l : List Bool) (hl : l.length ≤ 8192) (A : Option Addr) (c : Nat) (p : Int) (w : World) (h : Rd w w.heap.size A (pack l)) (hp : p < 0 ∨ (l.length : Int) < p) :
    Calls Tryz.prog 161 #[.agg #[.int .i64 (l.length : Int), .slice A (pack l).length c], .int .i64 p] w (ReadP w 0 0 3) := by
  have hc0 := check_r5 (l.length : Int) A c (pack l) p w (pack_lt l) h
  rw [chk_pack l hl] at hc0
  have HC := Lib.hid hc0; clear hc0 h
  have HF := Lib.hid (r5_facts w (l.length : Int) A (pack l).length c p)
  generalize (pack l).length = nn at *
  generalize l.length = ln at *
  have hp2 : p < 0 ∨ (0 ≤ p ∧ (ln : Int) < p) := by omega
  clear hp
  rcases hp2 with hp | ⟨hp0, hp⟩
  · have t1 : decide (p < 0) = true := by simp; omega
    go_enter Tryz.func161, Tryz.ntmps161
    go_wp2_with (go_at_call 46; refine HC.out.mono ?_; rintro e w1 ⟨rfl, hq⟩; unfold r5 at hq; obtain ⟨hc1, hf1⟩ := old_cells hq)
    exact bodyPost_ret (v := .tuple #[.int .u64 0, .int .i64 0, .int .i64 3]) (by simp [results, Tryz.results161, go_sem, hc1]) rfl (read_zero (HF.out.2.1.trans (hq.mono (by omega))) 3 _ rfl)
  · have t1 : decide (p < 0) = false := by simp; omega
    have t2 : decide ((ln : Int) < p) = true := by simp; omega
    go_enter Tryz.func161, Tryz.ntmps161
    go_wp2_with (go_at_call 46; refine HC.out.mono ?_; rintro e w1 ⟨rfl, hq⟩; unfold r5 at hq; obtain ⟨hc1, hf1⟩ := old_cells hq)
    exact bodyPost_ret (v := .tuple #[.int .u64 0, .int .i64 0, .int .i64 3]) (by simp [results, Tryz.results161, go_sem, hc1]) rfl (read_zero (HF.out.2.1.trans (hq.mono (by omega))) 3 _ rfl)

/-- The blocks that Read's visit keeps: s: the heap's size where Read began; N: where the visit began. -/
def rkept (s N : Nat) (k : Nat) : Prop := k < s + 2 ∨ k = N ∨ k = N + 1 ∨ k = N + 3

set_option maxRecDepth 100000 in
set_option maxHeartbeats 2000000 in
theorem read_in (l : List Bool) (hl : l.length ≤ 8192) (A : Option Addr) (c : Nat) (p : Nat) (w : World) (h : Rd w w.heap.size A (pack l)) (hp : p ≤ l.length) (rn rt : Nat) (re : Int)
    (hr : (pos p (l.drop p) = [] ∧ rn = 0 ∧ rt = 0 ∧ re = 7) ∨ (∃ x xs, pos p (l.drop p) = x :: xs ∧ rn = x - p ∧ rt = x + 1 ∧ re = 0)) :
    Calls Tryz.prog 161 #[.agg #[.int .i64 (l.length : Int), .slice A (pack l).length c], .int .i64 (p : Int)] w (ReadP w rn rt re) := by
  have hc0 := check_r5 (l.length : Int) A c (pack l) (p : Int) w (pack_lt l) h
  rw [chk_pack l hl] at hc0
  have HC := Lib.hid hc0; clear hc0
  have HF := Lib.hid (r5_facts w (l.length : Int) A (pack l).length c (p : Int))
  have HR := Lib.hid h; clear h
  rw [← vis_all l p l.length rfl] at hr
  have HP := Lib.hid hr; clear hr
  have t1 : decide ((p : Int) < 0) = false := by simp
  have t2 : decide ((l.length : Int) < (p : Int)) = false := by simp; omega
  refine (callsIn_wide (n := 4)).1 ?_
  refine callsIn_of_wp_marks Tryz.func161 rfl trivial ?_ rfl
  simp only [Tryz.ntmps161, List.size_toArray, List.length_cons, List.length_nil, Nat.reduceAdd, Nat.reduceSub, Array.replicate_succ, Array.replicate_zero, List.push_toArray, List.append_toArray, List.nil_append, List.cons_append]
  gi_wp2_with (first | (refine ⟨trivial, ?_⟩; gi_at_call 178; refine (of_in 3 _ _ _ _ _ _ _ _).mono ?_; rintro e w' ⟨rfl, rfl⟩) | (refine ⟨trivial, ?_⟩; gi_at_call 46; refine (callsIn_wide.2 HC.out).mono ?_; rintro e w1 ⟨rfl, hq⟩; unfold r5 at hq; obtain ⟨hc1, hf1⟩ := old_cells hq; have hs1 : w.heap.size + 5 ≤ w1.heap.size := (by have := hq.size; rw [show (((((w.alloc _).alloc _).alloc _).alloc _).alloc _).heap.size = w.heap.size + 5 from (r5_facts w (l.length : Int) A (pack l).length c (p : Int)).1] at this; exact this); have hs2 : w.heap.size + 1 < w1.heap.size := (by omega)))
  simp only [Nat.add_assoc, Nat.reduceAdd]
  obtain ⟨hz0, hl0, k1, k2, k3, k4⟩ := HF.out
  have hw0 : Below w.heap.size w w1 := hl0.trans (hq.mono (by omega))
  have b1 := (hq.block (w.heap.size + 1) (by omega)).trans k1
  have b2 := (hq.block (w.heap.size + 2) (by omega)).trans k2
  have b3 := (hq.block (w.heap.size + 3) (by omega)).trans k3
  have b4 := (hq.block (w.heap.size + 4) (by omega)).trans k4
  clear hz0 hl0 k1 k2 k3 k4 hc1 hf1 HF hq
  obtain ⟨hz, a0, a1, a2, a3⟩ := four w1 (.cells #[.int .i64 (l.length : Int), .slice A (pack l).length c] 27) (.cells #[.int .u64 1] 45) (.cells #[.int .i64 (p : Int)] 3) (.cells #[.int .i64 (l.length : Int)] 3)
  have hup : Below w1.heap.size w1 ((((w1.alloc (.cells #[.int .i64 (l.length : Int), .slice A (pack l).length c] 27)).alloc (.cells #[.int .u64 1] 45)).alloc (.cells #[.int .i64 (p : Int)] 3)).alloc (.cells #[.int .i64 (l.length : Int)] 3)) := ((up2 w1 _ _).alloc (by simp only [World.size_alloc]; omega) _).alloc (by simp only [World.size_alloc]; omega) _
  generalize ((((w1.alloc (.cells #[.int .i64 (l.length : Int), .slice A (pack l).length c] 27)).alloc (.cells #[.int .u64 1] 45)).alloc (.cells #[.int .i64 (p : Int)] 3)).alloc (.cells #[.int .i64 (l.length : Int)] 3)) = w5 at *
  replace b1 := (hup.block _ (by omega)).trans b1
  replace b2 := (hup.block _ (by omega)).trans b2
  replace b3 := (hup.block _ (by omega)).trans b3
  replace b4 := (hup.block _ (by omega)).trans b4
  have hlow : Below w.heap.size w w5 := hw0.trans (hup.mono (by omega))
  clear hup hw0
  have hvis : ∀ k, rkept w.heap.size w1.heap.size k → k < w5.heap.size := by rintro k (h | h | h | h) <;> omega
  refine wpIn_rangeFunc_ownG rfl (by decide) (gf := 192) (lb := #[.pointer (some ⟨w1.heap.size + 2, 0, none⟩), .pointer (some ⟨w1.heap.size + 3, 0, none⟩), .pointer (some ⟨w1.heap.size, 0, none⟩), .pointer (some ⟨w1.heap.size + 1, 0, none⟩)]) rfl trivial (enters_of Tryz.func192 (by kernel_rfl) rfl)
    (of_stops 3 (by decide) (w1.heap.size + 2) (w1.heap.size + 3) w1.heap.size (w1.heap.size + 1) w.heap.size c A (rkept w.heap.size w1.heap.size) l hl true p l.length hp (Nat.le_refl _) (.inr (.inr (.inr rfl))) (.inr (.inl rfl)) (.inr (.inr (.inl rfl))) (fun k hk => .inl (by omega)) w5 hvis (by omega) (by omega)
      (box_cell a2) (box_cell a3) (box_cell a1) (blk_cells a0).1 (blk_cells a0).2.1 (HR.out.below hlow (Nat.le_refl _)))
    (fun h k => keepS_t h k) (keepS_b hvis) (Below.refl _ _) (fun _ => rfl)
    (fun pre X => (pre = [] ∧ Boxed X (w.heap.size + 2) 45 (.int .u64 0) ∧ Boxed X (w.heap.size + 3) 3 (.int .i64 0) ∧ Boxed X (w.heap.size + 4) 28 (.int .i64 0)) ∧ (Fr (rkept w.heap.size w1.heap.size) w5 X ∧ w5.heap.size ≤ X.heap.size))
    (fun cd pre X => (cd = .ret ∧ ∃ x, pre = [x] ∧ Boxed X (w.heap.size + 2) 45 (.int .u64 ((clamp p x - p : Nat) : Int)) ∧ Boxed X (w.heap.size + 3) 3 (.int .i64 ((clamp p x + 1 : Nat) : Int)) ∧ Boxed X (w.heap.size + 4) 28 (.int .i64 0)) ∧ (Fr (rkept w.heap.size w1.heap.size) w5 X ∧ w5.heap.size ≤ X.heap.size))
    (OwnFrom.and (Own.from (fun s X Y row hs hg hr => ⟨hs.1, box_own _ 45 (fun _ : Unit => .int .u64 0) () X Y row hs.2.1 hg hr, box_own _ 3 (fun _ : Unit => .int .i64 0) () X Y row hs.2.2.1 hg hr, box_own _ 28 (fun _ : Unit => .int .i64 0) () X Y row hs.2.2.2 hg hr⟩) _) (fr_own _ w5 w5.heap.size (Nat.le_refl _) hvis))
    (fun cd => OwnFrom.and (Own.from (fun s X Y row hs hg hr => by
      obtain ⟨h1, x, h2, h3, h4, h5⟩ := hs
      exact ⟨h1, x, h2, box_own _ 45 (fun _ : Unit => _) () X Y row h3 hg hr, box_own _ 3 (fun _ : Unit => _) () X Y row h4 hg hr, box_own _ 28 (fun _ : Unit => _) () X Y row h5 hg hr⟩) _) (fr_own _ w5 w5.heap.size (Nat.le_refl _) hvis))
    ⟨⟨rfl, b2, b3, b4⟩, Fr.refl _ _, Nat.le_refl _⟩
    ?a1 ?assign ?body ?done ?stop
  case assign =>
    intro lp x X K hK
    gi_wp2
    exact hK
  case body =>
    rintro lp pre x X ⟨⟨rfl, h2, h3, h4⟩, hfr, hzz⟩ hlt
    have ca : X.cell? ⟨w.heap.size + 1, 0, none⟩ = some (.int .i64 (p : Int)) := box_cell ((hfr.block _ (.inl (by omega))).trans b1)
    have c2 := h2.cell
    have c3 := h3.cell
    have c4 := h4.cell
    have f2 := h2.frozen
    have f3 := h3.frozen
    have f4 := h4.frozen
    have hcl : p ≤ clamp p x ∧ clamp p x ≤ 8192 := by unfold clamp; omega
    obtain ⟨q1, q2⟩ := hcl
    generalize hcx : clamp p x = cx at *
    have HCX := Lib.hid hcx; clear hcx
    gi_wp2
    rw [show ((cx : Int) - (p : Int)) = ((cx - p : Nat) : Int) from by omega, show (cx : Int) + 1 = ((cx + 1 : Nat) : Int) from by omega]
    have n2 : ¬ rkept w.heap.size w1.heap.size (w.heap.size + 2) := by rintro (h | h | h | h) <;> omega
    have n3 : ¬ rkept w.heap.size w1.heap.size (w.heap.size + 3) := by rintro (h | h | h | h) <;> omega
    have n4 : ¬ rkept w.heap.size w1.heap.size (w.heap.size + 4) := by rintro (h | h | h | h) <;> omega
    have hfr2 := ((hfr.setCell (p := ⟨w.heap.size + 2, 0, none⟩) n2 (.int .u64 ((cx - p : Nat) : Int))).setCell (p := ⟨w.heap.size + 3, 0, none⟩) n3 (.int .i64 ((cx + 1 : Nat) : Int))).setCell (p := ⟨w.heap.size + 4, 0, none⟩) n4 (.int .i64 0)
    have g2 := (((h2.set (.int .u64 ((cx - p : Nat) : Int))).kept (grownBy_setCell' _ (w.heap.size + 3) (.int .i64 ((cx + 1 : Nat) : Int))) (by simp)).kept (grownBy_setCell' _ (w.heap.size + 4) (.int .i64 0)) (by simp))
    have g3 := (((h3.kept (grownBy_setCell' _ (w.heap.size + 2) (.int .u64 ((cx - p : Nat) : Int))) (by simp)).set (.int .i64 ((cx + 1 : Nat) : Int))).kept (grownBy_setCell' _ (w.heap.size + 4) (.int .i64 0)) (by simp))
    have g4 := (((h4.kept (grownBy_setCell' _ (w.heap.size + 2) (.int .u64 ((cx - p : Nat) : Int))) (by simp)).kept (grownBy_setCell' _ (w.heap.size + 3) (.int .i64 ((cx + 1 : Nat) : Int))) (by simp)).set (.int .i64 0))
    refine ⟨(((KeepsOthers.setCell _ _ _).trans (KeepsOthers.setCell _ _ _)).trans (KeepsOthers.setCell _ _ _)).from _, ⟨rfl, x, rfl, ?_, ?_, g4⟩, hfr2, by simpa [World.setCell] using hzz⟩
    · rw [HCX.out]; exact g2
    · rw [HCX.out]; exact g3
  case done =>
    rintro D ys X hD rfl ⟨⟨he, h2, h3, h4⟩, hfr, hzz⟩ hK
    obtain ⟨rfl, rfl, rfl⟩ : rn = 0 ∧ rt = 0 ∧ re = 7 := by
      rcases HP.out with ⟨_, h⟩ | ⟨x, xs, h, _⟩
      · exact h
      · rw [he] at h; cases h
    have c2 := h2.cell
    have c3 := h3.cell
    have c4 := h4.cell
    have f2 := h2.frozen
    have f3 := h3.frozen
    have f4 := h4.frozen
    have HL : Hid (Below w.heap.size w X) := hlow.trans (hfr.below (fun j hj => .inl (by omega)))
    clear he
    gi_wp2
    have hK' := (((KeepsOthers.setCell X ⟨w.heap.size + 2, 0, none⟩ (.int .u64 0)).trans (KeepsOthers.setCell _ ⟨w.heap.size + 3, 0, none⟩ (.int .i64 0))).trans (KeepsOthers.setCell _ ⟨w.heap.size + 4, 0, none⟩ (.int .i64 7))).same D _ hK rfl
    refine ⟨by simp, .inl ⟨_, _, rfl, run_takeDeferred hK', ?_⟩⟩
    have g2 := ((((h2.set (.int .u64 0)).kept (grownBy_setCell' _ (w.heap.size + 3) (.int .i64 0)) (by simp)).kept (grownBy_setCell' _ (w.heap.size + 4) (.int .i64 7)) (by simp)).kept (grownBy_putObj' _ D (.deferred none)) (by simp; omega)).cell
    have g3 := ((((h3.kept (grownBy_setCell' _ (w.heap.size + 2) (.int .u64 0)) (by simp)).set (.int .i64 0)).kept (grownBy_setCell' _ (w.heap.size + 4) (.int .i64 7)) (by simp)).kept (grownBy_putObj' _ D (.deferred none)) (by simp; omega)).cell
    have g4 := ((((h4.kept (grownBy_setCell' _ (w.heap.size + 2) (.int .u64 0)) (by simp)).kept (grownBy_setCell' _ (w.heap.size + 3) (.int .i64 0)) (by simp)).set (.int .i64 7)).kept (grownBy_putObj' _ D (.deferred none)) (by simp; omega)).cell
    refine ⟨.tuple #[.int .u64 0, .int .i64 0, .int .i64 7], ?_, rfl, (((HL.out.setCell (p := ⟨w.heap.size + 2, 0, none⟩) (by simp only; omega) _).setCell (p := ⟨w.heap.size + 3, 0, none⟩) (by simp only; omega) _).setCell (p := ⟨w.heap.size + 4, 0, none⟩) (by simp only; omega) _).trans (belowK_b (w := w) (Nat.le_refl _) _ D _ _ (by omega) hK' rfl rfl)⟩
    simp [results, Tryz.results161, go_sem, g2, g3, g4]
  case stop =>
    rintro D cd pre X hD hpre ⟨⟨rfl, x, rfl, h2, h3, h4⟩, hfr, hzz⟩ hK
    obtain ⟨rfl, rfl, rfl⟩ : rn = clamp p x - p ∧ rt = clamp p x + 1 ∧ re = 0 := by
      rcases HP.out with ⟨h, _⟩ | ⟨y, ys, h, h2, h3, h4⟩
      · rw [h] at hpre; simp at hpre
      · rw [h] at hpre
        obtain rfl : x = y := by simpa using hpre
        have hb := vis_bound true l p l.length x (by rw [h]; simp)
        rw [clamp_of p x hb.1 (by omega)]
        exact ⟨h2, h3, h4⟩
    have HL : Hid (Below w.heap.size w X) := hlow.trans (hfr.below (fun j hj => .inl (by omega)))
    gi_wp2
    refine ⟨by simp, .inl ⟨_, _, rfl, run_takeDeferred hK, ?_⟩⟩
    have g2 := (h2.kept (grownBy_putObj' _ D (.deferred none)) (by simp; omega)).cell
    have g3 := (h3.kept (grownBy_putObj' _ D (.deferred none)) (by simp; omega)).cell
    have g4 := (h4.kept (grownBy_putObj' _ D (.deferred none)) (by simp; omega)).cell
    refine ⟨.tuple #[.int .u64 ((clamp p x - p : Nat) : Int), .int .i64 ((clamp p x + 1 : Nat) : Int), .int .i64 0], ?_, rfl, HL.out.trans (belowK_b (w := w) (Nat.le_refl _) _ D _ _ (by omega) hK rfl rfl)⟩
    generalize clamp p x = cx at *
    simp [results, Tryz.results161, go_sem, g2, g3, g4]
end

section
open Go.RowKit Go.Shelf

attribute [local go_sem] Oper.semAt_some

/-- How far it is from the position after the last code to a 1 bit, as a number of 64 bits. -/
def gap (a x : Nat) : Nat := if a ≤ x then x - a else 18446744073709551616 - (a - x)
/-- The position after the last one. -/
def aft (pre : List Nat) : Nat := match pre.getLast? with | none => 0 | some x => clamp 0 x + 1
def gaps : Nat → List Nat → List Nat
  | _, [] => []
  | a, x :: xs => gap a (clamp 0 x) :: gaps (clamp 0 x + 1) xs
theorem gaps_length : ∀ (xs : List Nat) (a : Nat), (gaps a xs).length = xs.length
  | [], _ => rfl
  | x :: xs, a => by simp [gaps, gaps_length xs]
theorem aft_snoc (pre : List Nat) (x : Nat) : aft (pre ++ [x]) = clamp 0 x + 1 := by simp [aft]
theorem gaps_snoc (xs : List Nat) (x : Nat) : ∀ a, gaps a (xs ++ [x]) = gaps a xs ++ [gap (match xs.getLast? with | none => a | some y => clamp 0 y + 1) (clamp 0 x)] := by
  induction xs with
  | nil => intro a; simp [gaps]
  | cons y ys ih =>
    intro a
    simp only [List.cons_append, gaps, ih]
    congr 3
    cases ys with
    | nil => simp
    | cons z zs =>
      rw [List.getLast?_cons_cons]
      cases hq : (z :: zs).getLast? with
      | none => simp at hq
      | some q => rfl
theorem gaps_snoc0 (xs : List Nat) (x : Nat) : gaps 0 (xs ++ [x]) = gaps 0 xs ++ [gap (aft xs) (clamp 0 x)] := by rw [gaps_snoc]; rfl
theorem aft_le (xs : List Nat) : aft xs ≤ 8192 := by
  unfold aft
  split
  · omega
  · unfold clamp; omega
theorem clamp0_le (x : Nat) : clamp 0 x ≤ 8191 := by unfold clamp; omega

/-- Numbers, a position and an error come back. -/
def AllP (w : World) (ns : List Nat) (to : Nat) (err : Int) (e : Ending) (w' : World) : Prop :=
  ∃ A c, e = .returned (.tuple #[.slice A ns.length c, .int .i64 (to : Int), .int .i64 err]) ∧ RdV w' w'.heap.size A (nc ns) ∧ Below w.heap.size w w'

theorem check_two (len : Int) (A : Option Addr) (c : Nat) (bs : List Nat) (p : Int) (w : World) (hb : ∀ b ∈ bs, b < 256) (h : Rd w w.heap.size A bs) :
    Calls Tryz.prog 46 #[.agg #[.int .i64 len, .slice A bs.length c]] ((w.alloc (.cells #[.int .i64 len, .slice A bs.length c] 27)).alloc (.cells #[.int .i64 p] 3)) fun e w' => e = .returned (.int .i64 (chk len bs)) ∧ Below (w.heap.size + 2) ((w.alloc (.cells #[.int .i64 len, .slice A bs.length c] 27)).alloc (.cells #[.int .i64 p] 3)) w' := by
  have hu := up2 w (.cells #[.int .i64 len, .slice A bs.length c] 27) (.cells #[.int .i64 p] 3)
  have hz : ((w.alloc (.cells #[.int .i64 len, .slice A bs.length c] 27)).alloc (.cells #[.int .i64 p] 3)).heap.size = w.heap.size + 2 := two_size w _ _
  have := check_any len A c bs _ hb (h.below hu hu.size)
  rwa [hz] at this

theorem own_slice25 {w : World} {base : Nat} {v : Value} {n : Nat} {xs : List Value} (h : w.ownsRow base 45 1 v n xs) : ∃ A c, v = .slice A n c := by
  rcases h.2 with ⟨rfl, rfl⟩ | ⟨g, cap, cur, rfl, _⟩
  · exact ⟨none, 0, rfl⟩
  · exact ⟨_, cap, rfl⟩

theorem info25 : (Tryz.prog.info? 45).map (fun i => (i.zero, i.size, i.bytes)) = some (some (.int .u64 0), 1, 8) := by kernel_rfl

/-- The blocks that All's visit keeps: s: the heap's size where All began; N: where it laid its own boxes. -/
def akept (N : Nat) (k : Nat) : Prop := k < N ∨ k = N + 2 ∨ k = N + 3 ∨ k = N + 5

/-- The list so far, in its box. -/
def ARow (X : World) (N : Nat) (pre : List Nat) : Prop :=
  ∃ v, Boxed X N 132 v ∧ X.ownsRow (N + 6) 45 1 v pre.length (nc (gaps 0 pre))
theorem aRow_own (N : Nat) : Own (fun (pre : List Nat) X => ARow X N pre) := by
  rintro pre X Y row ⟨v, hb, ho⟩ hg hr
  refine ⟨v, box_own N 132 (fun _ : Unit => v) () X Y row hb hg hr, ho.kept hg ?_⟩
  rcases ho.2 with ⟨rfl, _⟩ | ⟨g, cap, cur, rfl, _, hgb, _⟩
  · exact .inl rfl
  · refine .inr fun e' => ?_
    obtain ⟨o, h1, h2⟩ := hr g (by simpa [Value.ownBlock] using e'.symm)
    rw [hgb] at h1; cases h1; cases h2

theorem own_rdv {w : World} {base : Nat} {e : TypeId} {A : Option Addr} {n c : Nat} {vs : List Value} (h : w.ownsRow base e 1 (.slice A n c) n vs) : RdV w w.heap.size A vs := by
  rcases h.2 with ⟨_, h0⟩ | ⟨g, cap, cur, he, _, hg, _⟩
  · have := h.1
    rw [h0] at this
    exact .inl (List.eq_nil_of_length_eq_zero (by omega))
  · simp only [Value.slice.injEq] at he
    obtain ⟨rfl, _, _⟩ := he
    refine .inr ⟨g, 0, rfl, (Array.getElem?_eq_some_iff.1 hg).1, fun i v hi => ?_⟩
    have hh := h.cells (g := g) rfl i v hi
    have ha : (⟨g, 0, none⟩ : Addr).add i = ⟨g, 0 + i, none⟩ := by unfold Addr.add; split <;> simp_all
    rw [ha] at hh
    exact hh

theorem gap_wrap (pa cx : Nat) (h1 : pa ≤ 8192) (h2 : cx ≤ 8191) : ∃ g : Nat, IntKind.u64.wrap ((cx : Int) - (pa : Int)) = (g : Int) ∧ gap pa cx = g := by
  refine ⟨gap pa cx, ?_, rfl⟩
  rw [IntKind.wrap_u64]
  unfold gap
  split <;> omega

theorem row_ne25 {w : World} {W : Nat} {t : TypeId} {cs : Array Value} {base : Nat} (hW : w.heap[W]? = some (.cells cs t (0, 0))) (ht : t ≠ 45) {v : Value} {n : Nat} {xs : List Value} (h : w.ownsRow base 45 1 v n xs) : ∀ g, v.ownBlock = some g → g ≠ W := by
  rintro g hg rfl
  rcases h.2 with ⟨rfl, _⟩ | ⟨g', cap, cur, rfl, _, hh, _⟩
  · simp [Value.ownBlock] at hg
  · have : g' = g := by simpa [Value.ownBlock] using hg
    subst this
    rw [hW] at hh
    simp at hh
    exact ht hh.2

/-- One number more: behind the append, and behind the two stores. -/
theorem all_step {X w3 w5 : World} {N k g' cap' cx : Nat} {Av : Option Addr} {cv : Nat} {xs ys : List Value} {tmp : Obj} {b0 : Int}
    (hbv : Boxed X N 132 (.slice Av k cv)) (hba : Boxed X (N + 1) 3 (.int .i64 b0)) (hrow : X.ownsRow (N + 6) 45 1 (.slice Av k cv) k xs)
    (hgrow : (X.alloc tmp).grownBy w3 (Value.slice Av k cv).ownBlock) (hown' : w3.ownsRow (N + 6) 45 1 (.slice (some ⟨g', 0, none⟩) (k + 1) cap') (k + 1) ys)
    (hXs : N ≤ X.heap.size) (hz : N + 6 ≤ w5.heap.size) (hzz : w5.heap.size ≤ X.heap.size) :
    w3.cell? ⟨N, 0, none⟩ = some (.slice Av k cv) ∧ w3.frozen? ⟨N, 0, none⟩ = false ∧ w3.cell? ⟨N + 1, 0, none⟩ = some (.int .i64 b0) ∧ w3.frozen? ⟨N + 1, 0, none⟩ = false ∧
    Hid (Boxed ((w3.setCell ⟨N, 0, none⟩ (.slice (some ⟨g', 0, none⟩) (k + 1) cap')).setCell ⟨N + 1, 0, none⟩ (.int .i64 ((cx : Int) + 1))) N 132 (.slice (some ⟨g', 0, none⟩) (k + 1) cap') ∧
      ((w3.setCell ⟨N, 0, none⟩ (.slice (some ⟨g', 0, none⟩) (k + 1) cap')).setCell ⟨N + 1, 0, none⟩ (.int .i64 ((cx : Int) + 1))).ownsRow (N + 6) 45 1 (.slice (some ⟨g', 0, none⟩) (k + 1) cap') (k + 1) ys ∧
      Boxed ((w3.setCell ⟨N, 0, none⟩ (.slice (some ⟨g', 0, none⟩) (k + 1) cap')).setCell ⟨N + 1, 0, none⟩ (.int .i64 ((cx : Int) + 1))) (N + 1) 3 (.int .i64 ((cx : Int) + 1)) ∧
      Fr (akept N) X ((w3.setCell ⟨N, 0, none⟩ (.slice (some ⟨g', 0, none⟩) (k + 1) cap')).setCell ⟨N + 1, 0, none⟩ (.int .i64 ((cx : Int) + 1)))) := by
  have hv1 : Boxed w3 N 132 (.slice Av k cv) := (hbv.alloc tmp).kept hgrow (hbv.not_row (by decide) hrow)
  have ha1 : Boxed w3 (N + 1) 3 (.int .i64 b0) := (hba.alloc tmp).kept hgrow (hba.not_row (by decide) hrow)
  have hne : some N ≠ (Value.slice (some ⟨g', 0, none⟩) (k + 1) cap').ownBlock := hv1.not_row (by decide) hown'
  have hne2 : some (N + 1) ≠ (Value.slice (some ⟨g', 0, none⟩) (k + 1) cap').ownBlock := ha1.not_row (by decide) hown'
  refine ⟨hv1.cell, hv1.frozen, ha1.cell, ha1.frozen, (hv1.set _).other (by omega) _, ?_, ((ha1.other (by omega) _).set _), ?_⟩
  · exact (hown'.kept (grownBy_setCell' w3 N _) (.inr hne.symm)).kept (grownBy_setCell' _ (N + 1) _) (.inr hne2.symm)
  · have nN : ¬ akept N N := by rintro (h | h | h | h) <;> omega
    have nN1 : ¬ akept N (N + 1) := by rintro (h | h | h | h) <;> omega
    refine ((((Fr.refl (akept N) X).alloc ?_ tmp).grown hgrow ?_ ?_ ?_).setCell (p := ⟨N, 0, none⟩) nN _).setCell (p := ⟨N + 1, 0, none⟩) nN1 _
    · rintro j (h | h | h | h) <;> omega
    · rintro j (h | h | h | h) <;> simp <;> omega
    · intro j hj hk
      have := (hrow.lt j hj).1
      rcases hk with h | h | h | h <;> omega
    · intro j o hj ho
      exact own_cells (hrow.alloc tmp) j o hj ho
end

section
open Go.RowKit

/-- The numbers whose codes stand in bits, z noughts having come. -/
def prs : Nat → List Bool → List Nat
  | _, [] => []
  | z, true :: l => z :: prs 0 l
  | z, false :: l => prs (z + 1) l

theorem clamp0_of (x : Nat) (h : x < 8192) : clamp 0 x = x := clamp_of 0 x (Nat.zero_le _) h
theorem gaps_pos (l : List Bool) : ∀ a o, a ≤ o → o + l.length ≤ 8192 → gaps a (pos o l) = prs (o - a) l := by
  induction l with
  | nil => intro a o _ _; rfl
  | cons b l ih =>
    intro a o h1 h2
    rw [List.length_cons] at h2
    cases b
    · simp only [pos, prs]
      rw [ih a (o + 1) (by omega) (by omega)]
      congr 1; omega
    · simp only [pos, prs, gaps]
      rw [clamp0_of o (by omega), ih (o + 1) (o + 1) (by omega) (by omega)]
      unfold gap
      rw [if_pos h1, Nat.sub_self]
theorem gaps_take (xs : List Nat) : ∀ a m, gaps a (xs.take m) = (gaps a xs).take m := by
  induction xs with
  | nil => intro a m; simp [gaps]
  | cons x xs ih =>
    intro a m
    cases m with
    | zero => simp [gaps]
    | succ m => simp [gaps, ih]
theorem pos_prs_length (l : List Bool) : ∀ o z, (pos o l).length = (prs z l).length := by
  induction l with
  | nil => intro o z; rfl
  | cons b l ih =>
    intro o z
    cases b
    · simp only [pos, prs]; exact ih _ _
    · simp only [pos, prs, List.length_cons]; rw [ih _ 0]

def aftF (a : Nat) (xs : List Nat) : Nat := match xs.getLast? with | none => a | some x => clamp 0 x + 1
theorem aftF_cons (a x : Nat) (xs : List Nat) : aftF a (x :: xs) = aftF (clamp 0 x + 1) xs := by
  unfold aftF
  cases xs with
  | nil => rfl
  | cons y ys =>
    rw [List.getLast?_cons_cons]
    cases h : (y :: ys).getLast? with
    | none => simp at h
    | some q => rfl
theorem aft_eq (xs : List Nat) : aft xs = aftF 0 xs := rfl
theorem aft_pos (l : List Bool) : ∀ a o m, a ≤ o → o + l.length ≤ 8192 → aftF a ((pos o l).take m) = a + (ucs ((prs (o - a) l).take m)).length := by
  induction l with
  | nil => intro a o m _ _; simp [pos, prs, aftF, ucs]
  | cons b l ih =>
    intro a o m h1 h2
    rw [List.length_cons] at h2
    cases b
    · simp only [pos, prs]
      rw [ih a (o + 1) m (by omega) (by omega), show o + 1 - a = o - a + 1 from by omega]
    · simp only [pos, prs]
      cases m with
      | zero => simp [aftF, ucs]
      | succ m =>
        rw [List.take_succ_cons, List.take_succ_cons, aftF_cons, clamp0_of o (by omega), ih (o + 1) (o + 1) m (by omega) (by omega), Nat.sub_self]
        have e : ucs ((o - a) :: (prs 0 l).take m) = uc (o - a) ++ ucs ((prs 0 l).take m) := rfl
        rw [e, List.length_append, uc_length]
        omega

theorem prs_zeros (n : Nat) (t : List Bool) : ∀ z, prs z (List.replicate n false ++ t) = prs (z + n) t := by
  induction n with
  | zero => intro z; simp
  | succ n ih => intro z; rw [List.replicate_succ, List.cons_append, prs, ih]; congr 1; omega
theorem prs_uc (n : Nat) (t : List Bool) : prs 0 (uc n ++ t) = n :: prs 0 t := by
  unfold uc
  rw [List.append_assoc, prs_zeros, Nat.zero_add]
  rfl
theorem prs_ucs (ns : List Nat) (t : List Bool) : prs 0 (ucs ns ++ t) = ns ++ prs 0 t := by
  induction ns with
  | nil => rfl
  | cons n ns ih =>
    have e : ucs (n :: ns) = uc n ++ ucs ns := rfl
    rw [e, List.append_assoc, prs_uc, ih]
    rfl
theorem parse (l : List Bool) : ∀ z, ∃ k, List.replicate z false ++ l = ucs (prs z l) ++ List.replicate k false := by
  induction l with
  | nil => intro z; exact ⟨z, by simp [prs, ucs]⟩
  | cons b l ih =>
    intro z
    cases b
    · obtain ⟨k, hk⟩ := ih (z + 1)
      refine ⟨k, ?_⟩
      rw [prs, ← hk, List.replicate_succ']
      simp
    · obtain ⟨k, hk⟩ := ih 0
      refine ⟨k, ?_⟩
      have e : ucs (z :: prs 0 l) = uc z ++ ucs (prs 0 l) := rfl
      rw [List.replicate_zero, List.nil_append] at hk
      rw [prs, e, List.append_assoc, ← hk]
      simp [uc]
/-- Bits begin with the codes of what is read of them. -/
theorem parse_take (l : List Bool) (m : Nat) : l.take (ucs ((prs 0 l).take m)).length = ucs ((prs 0 l).take m) ∧ (ucs ((prs 0 l).take m)).length ≤ l.length := by
  obtain ⟨k, hk⟩ := parse l 0
  rw [List.replicate_zero, List.nil_append] at hk
  have e : prs 0 l = (prs 0 l).take m ++ (prs 0 l).drop m := (List.take_append_drop m _).symm
  have e2 : l = ucs ((prs 0 l).take m) ++ (ucs ((prs 0 l).drop m) ++ List.replicate k false) := by
    rw [← List.append_assoc, ← ucs_append, ← e]; exact hk
  generalize ucs ((prs 0 l).drop m) ++ List.replicate k false = r at e2
  generalize ucs ((prs 0 l).take m) = q at *
  subst e2
  exact ⟨List.take_left, by rw [List.length_append]; omega⟩

theorem pos_zeros (n : Nat) : ∀ o, pos o (List.replicate n false) = [] := by
  induction n with
  | zero => intro o; rfl
  | succ n ih => intro o; rw [List.replicate_succ, pos]; exact ih _
theorem pos_uc (n : Nat) (o : Nat) : pos o (uc n) = [o + n] := by
  unfold uc
  rw [pos_append, pos_zeros, List.length_replicate]
  rfl
/-- Where the codes of numbers have room each number fits. -/
theorem manyE_of_len (ns : List Nat) (h : (ucs ns).length ≤ 8192) : manyE ns = 0 := by
  unfold manyE
  have ha : ns.any (fun n => decide (8192 ≤ n)) = false := by
    rw [List.any_eq_false]
    intro x hx
    have : (uc x).length ≤ (ucs ns).length := by
      unfold ucs
      obtain ⟨s, t, rfl⟩ := List.append_of_mem hx
      rw [List.flatMap_append, List.length_append, List.flatMap_cons, List.length_append]
      omega
    rw [uc_length] at this
    simp; omega
  rw [ha, if_neg (by decide), if_neg (by omega)]
theorem manyE_zero (ns : List Nat) (h : manyE ns = 0) : (ucs ns).length ≤ 8192 := by
  unfold manyE at h
  split at h
  · omega
  · split at h
    · omega
    · omega
theorem ucs_len_ge (ns : List Nat) : ns.length ≤ (ucs ns).length := by
  induction ns with
  | nil => simp
  | cons n ns ih =>
    have e : ucs (n :: ns) = uc n ++ ucs ns := rfl
    rw [e, List.length_append, uc_length, List.length_cons]
    omega

theorem read_l (l : List Bool) (hl : l.length ≤ 8192) (A : Option Addr) (c p : Nat) (hp : p ≤ l.length) (x : Nat) (xs : List Nat) (hx : pos p (l.drop p) = x :: xs) (rn rt : Nat) (h1 : rn = x - p) (h2 : rt = x + 1) (w : World) (h : Rd w w.heap.size A (pack l)) :
    Calls Tryz.prog 161 #[.agg #[.int .i64 (l.length : Int), .slice A (pack l).length c], .int .i64 (p : Int)] w (ReadP w rn rt 0) :=
  read_in l hl A c p w h hp rn rt 0 (.inr ⟨x, xs, hx, h1, h2, rfl⟩)
theorem read_none (l : List Bool) (hl : l.length ≤ 8192) (A : Option Addr) (c p : Nat) (hp : p ≤ l.length) (hx : pos p (l.drop p) = []) (w : World) (h : Rd w w.heap.size A (pack l)) :
    Calls Tryz.prog 161 #[.agg #[.int .i64 (l.length : Int), .slice A (pack l).length c], .int .i64 (p : Int)] w (ReadP w 0 0 7) :=
  read_in l hl A c p w h hp 0 0 7 (.inl ⟨hx, rfl, rfl, rfl⟩)
end

section
set_option maxRecDepth 100000
set_option linter.unusedVariables false

/-- How many bits are behind the highest 1 of n + 1. -/
def lg (n : Nat) : Nat := Nat.log2 (n + 1)
theorem lg_le (n : Nat) : 2 ^ lg n ≤ n + 1 := Nat.log2_self_le (by omega)
theorem lg_lt (n : Nat) : n + 1 < 2 ^ (lg n + 1) := Nat.lt_log2_self
theorem pow_inj_le {a b : Nat} (h : 2 ^ a < 2 ^ b) : a < b := (Nat.pow_lt_pow_iff_right (by omega)).1 h
theorem lg_of (n k : Nat) (h1 : 2 ^ k ≤ n + 1) (h2 : n + 1 < 2 ^ (k + 1)) : lg n = k := by
  have a := pow_inj_le (Nat.lt_of_le_of_lt h1 (lg_lt n))
  have b := pow_inj_le (Nat.lt_of_le_of_lt (lg_le n) h2)
  omega
theorem lg_lt_of (n k : Nat) (h : n + 1 < 2 ^ k) : lg n < k := pow_inj_le (Nat.lt_of_le_of_lt (lg_le n) h)
theorem lg_mono {a b : Nat} (h : a ≤ b) : lg a ≤ lg b := by
  have := pow_inj_le (a := lg a) (b := lg b + 1) (by have := lg_le a; have := lg_lt b; omega)
  omega

theorem nb_succ (n k : Nat) : nb n (k + 1) = (n / 2 ^ k % 2 == 1) :: nb n k := by
  apply List.ext_getElem
  · simp [nb_length]
  · intro i h1 h2
    rcases i with _ | i
    · simp [nb]
    · simp only [nb, List.getElem_map, List.getElem_range, List.getElem_cons_succ]
      rw [show k + 1 - 1 - (i + 1) = k - 1 - i by omega]
theorem nb_mod (k : Nat) : ∀ n, nb (n % 2 ^ k) k = nb n k := by
  intro n
  apply List.ext_getElem
  · simp [nb_length]
  · intro i h1 h2
    rw [nb_length] at h1
    simp only [nb, List.getElem_map, List.getElem_range]
    congr 1
    have e : 2 ^ k = 2 ^ (k - 1 - i) * 2 ^ (i + 1) := by rw [← Nat.pow_add]; congr 1; omega
    rw [e, Nat.mod_mul_right_div_self, Nat.pow_succ, Nat.mul_comm (2 ^ i) 2, Nat.mod_mul_right_mod]
theorem nb_sub (m k : Nat) (h1 : 2 ^ k ≤ m) (h2 : m < 2 ^ (k + 1)) : nb (m - 2 ^ k) k = nb m k := by
  rw [← nb_mod k m, Nat.mod_eq_sub_mod h1, Nat.mod_eq_of_lt (by rw [Nat.pow_succ] at h2; omega)]
theorem nb_top (m k : Nat) (h1 : 2 ^ k ≤ m) (h2 : m < 2 ^ (k + 1)) : nb m (k + 1) = true :: nb m k := by
  rw [nb_succ]
  have : m / 2 ^ k = 1 := by
    rw [Nat.pow_succ] at h2
    have := Nat.two_pow_pos k
    exact Nat.div_eq_of_lt_le (by omega) (by omega)
  rw [this]; rfl
theorem fold_num (l : List Bool) : ∀ a, l.foldl (fun n b => 2 * n + b.toNat) a = a * 2 ^ l.length + num l := by
  induction l with
  | nil => intro a; simp [num]
  | cons b l ih =>
    intro a
    rw [List.foldl_cons, ih, List.length_cons, Nat.pow_succ]
    have e : num (b :: l) = l.foldl (fun n b => 2 * n + b.toNat) (2 * 0 + b.toNat) := rfl
    rw [e, ih, Nat.add_mul, Nat.add_assoc, Nat.mul_comm (2 ^ l.length) 2, ← Nat.mul_assoc, Nat.mul_comm a 2]
    simp
theorem num_append (a b : List Bool) : num (a ++ b) = num a * 2 ^ b.length + num b := by
  unfold num
  rw [List.foldl_append, fold_num]; rfl
theorem num_cons (b : Bool) (l : List Bool) : num (b :: l) = b.toNat * 2 ^ l.length + num l := by
  have := num_append [b] l
  have e : num [b] = b.toNat := by simp [num]
  rw [e] at this
  exact this
theorem nb_num (l : List Bool) : nb (num l) l.length = l := by
  induction l with
  | nil => rfl
  | cons b l ih =>
    rw [List.length_cons, nb_succ, num_cons]
    have hl := num_lt l
    have hp := Nat.two_pow_pos l.length
    have e1 : (b.toNat * 2 ^ l.length + num l) / 2 ^ l.length = b.toNat := by
      rw [Nat.mul_comm, Nat.mul_add_div hp, Nat.div_eq_of_lt hl]; rfl
    rw [e1]
    congr 1
    · cases b <;> rfl
    · rw [← nb_mod, Nat.mul_comm, Nat.mul_add_mod, nb_mod, ih]

/-- The codes. -/
def gam (n : Nat) : List Bool := uc (lg n) ++ nb (n + 1) (lg n)
def del (n : Nat) : List Bool := gam (lg n) ++ nb (n + 1) (lg n)
theorem gam_length (n : Nat) : (gam n).length = 2 * lg n + 1 := by simp [gam, uc_length, nb_length]; omega
theorem del_length (n : Nat) : (del n).length = 2 * lg (lg n) + 1 + lg n := by simp [del, gam_length, nb_length]

/-- What is read of bits from a place on: a number, the place behind, an error. -/
def uR (l : List Bool) (s : Nat) : Nat × Nat × Int := match pos s (l.drop s) with | [] => (0, 0, 7) | x :: _ => (x - s, x + 1, 0)
def restR (l : List Bool) (s k : Nat) : Nat × Nat × Int :=
  if 63 < k then (0, 0, 3) else if l.length < s + k then (0, 0, 7) else if 1099511627776 < 2 ^ k + num ((l.drop s).take k) - 1 then (0, 0, 3) else (2 ^ k + num ((l.drop s).take k) - 1, s + k, 0)
/-- A length is read first, and what is behind it. -/
def thenR (l : List Bool) (r : Nat × Nat × Int) : Nat × Nat × Int := if r.2.2 = 0 then restR l r.2.1 r.1 else (0, 0, r.2.2)
def gamR (l : List Bool) (s : Nat) : Nat × Nat × Int := thenR l (uR l s)
def delR (l : List Bool) (s : Nat) : Nat × Nat × Int := thenR l (gamR l s)

theorem pos_ge (l : List Bool) : ∀ o, ∀ x ∈ pos o l, o ≤ x ∧ x < o + l.length := by
  induction l with
  | nil => intro o x h; simp [pos] at h
  | cons b l ih =>
    intro o x h
    cases b
    · simp only [pos] at h
      have := ih _ x h
      rw [List.length_cons]; omega
    · simp only [pos, List.mem_cons] at h
      rcases h with rfl | h
      · rw [List.length_cons]; omega
      · have := ih _ x h
        rw [List.length_cons]; omega
theorem uR_bound (l : List Bool) (s : Nat) (hs : s ≤ l.length) : (uR l s).1 ≤ l.length ∧ (uR l s).2.1 ≤ l.length ∧ ((uR l s).2.2 = 0 ∨ (uR l s).2.2 = 7) := by
  unfold uR
  split
  · simp
  · rename_i x xs e
    have := pos_ge (l.drop s) s x (by rw [e]; simp)
    rw [List.length_drop] at this
    exact ⟨by simp only; omega, by simp only; omega, .inl rfl⟩
theorem restR_bound (l : List Bool) (s k : Nat) : (restR l s k).2.1 ≤ l.length ∧ (restR l s k).1 ≤ 1099511627776 ∧ ((restR l s k).2.2 = 0 ∨ (restR l s k).2.2 = 3 ∨ (restR l s k).2.2 = 7) := by
  unfold restR
  split
  · simp
  · split
    · simp
    · split
      · simp
      · exact ⟨by simp only; omega, by simp only; omega, .inl rfl⟩
theorem thenR_bound (l : List Bool) (r : Nat × Nat × Int) : (thenR l r).2.1 ≤ l.length ∧ (thenR l r).1 ≤ 1099511627776 := by
  unfold thenR
  split
  · exact ⟨(restR_bound l _ _).1, (restR_bound l _ _).2.1⟩
  · simp

theorem uR_uc (p t : List Bool) (n : Nat) : uR (p ++ (uc n ++ t)) p.length = (n, p.length + n + 1, 0) := by
  unfold uR
  rw [List.drop_left]
  unfold uc
  rw [pos_append, pos_append, pos_zeros, List.length_replicate]
  simp [pos]
theorem restR_nb (p t : List Bool) (n : Nat) (hn : n ≤ 1099511627776) : restR (p ++ (nb (n + 1) (lg n) ++ t)) p.length (lg n) = (n, p.length + lg n, 0) := by
  have h40 := lg_lt_of n 41 (by omega)
  have e : ((p ++ (nb (n + 1) (lg n) ++ t)).drop p.length).take (lg n) = nb (n + 1) (lg n) := by
    rw [List.drop_left]
    have := List.take_left (l₁ := nb (n + 1) (lg n)) (l₂ := t)
    rwa [nb_length] at this
  unfold restR
  have h1 := lg_le n
  have h2 := lg_lt n
  rw [e, ← nb_sub (n + 1) (lg n) h1 h2, num_nb_small _ _ (Nat.div_eq_of_lt (by rw [Nat.pow_succ] at h2; omega))]
  rw [if_neg (by omega), if_neg (by rw [List.length_append, List.length_append, nb_length]; omega), if_neg (by omega)]
  congr 1
  omega
theorem gamR_gam (p t : List Bool) (n : Nat) (hn : n ≤ 1099511627776) : gamR (p ++ (gam n ++ t)) p.length = (n, p.length + (gam n).length, 0) := by
  unfold gamR gam thenR
  rw [List.append_assoc, uR_uc, if_pos rfl]
  have := restR_nb (p ++ uc (lg n)) t n hn
  rw [List.length_append, uc_length, List.append_assoc] at this
  rw [Nat.add_assoc] at this ⊢
  rw [this, List.length_append, uc_length, nb_length]
theorem delR_del (p t : List Bool) (n : Nat) (hn : n ≤ 1099511627776) : delR (p ++ (del n ++ t)) p.length = (n, p.length + (del n).length, 0) := by
  unfold delR del thenR
  have h40 := lg_lt_of n 41 (by omega)
  rw [List.append_assoc, gamR_gam p _ (lg n) (by omega), if_pos rfl]
  have := restR_nb (p ++ gam (lg n)) t n hn
  rw [List.length_append, List.append_assoc] at this
  rw [this, List.length_append, nb_length]
  congr 2
  omega
end
end Go.Proofs.YticdnodlapafoaaGreat
