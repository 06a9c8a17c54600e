/- Texts of this proof, one behind the other (Begun, Open, Lists, UBase, FLib, KP1, KP2, KP3, KP4, KP5, KChk, UMem); each fact names its conditions. -/
import Derived.Test.YtndiocehkdbjkaaGreatJL1
import Derived.ProofKit
import Derived.OpenShut
import Derived.ShutString
import Derived.ChangeOld
import Derived.Lib.SmallJoins
namespace Go.Proofs.YtndiocehkdbjkaaGreat

section
open Go.RowKit

/-- Bits, written out, and an error come back. -/
def Gv (w : World) (len : Int) (n : Nat) (bs : List Nat) (err : Int) (e : Ending) (w' : World) : Prop :=
  ∃ A c, e = .returned (.tuple #[.agg #[.int .i64 len, .slice A n c], .int .i64 err]) ∧ Rd w' w'.heap.size A bs ∧ Below w.heap.size w w'

theorem lt256 {bs : List Nat} (h : bs.all (fun b => decide (b < 256)) = true) : ∀ b ∈ bs, b < 256 := by
  intro b hb
  have := List.all_eq_true.1 h b hb
  simpa using this

theorem b1 (w : World) : Calls Tryz.prog 81 #[.agg #[.int .i64 0, .slice none 0 0], .int .u64 5, .int .i64 3] w (Gv w 3 1 [160] 0) := by
  have h := put_any 0 none 0 [] 5 3 w (by simp) (.inl rfl) (by decide)
  have e : putL 0 [] 5 3 = 0 := by decide
  rw [e, if_pos rfl] at h
  exact h
theorem b2 (A : Option Addr) (c : Nat) (w : World) (hA : Rd w w.heap.size A [160]) : Calls Tryz.prog 81 #[.agg #[.int .i64 3, .slice A 1 c], .int .u64 9, .int .i64 7] w (Gv w 10 2 [162, 64] 0) := by
  have h := put_any 3 A c [160] 9 7 w (lt256 (by decide)) hA (by decide)
  have e : putL 3 [160] 9 7 = 0 := by decide
  rw [e, if_pos rfl] at h
  exact h
theorem b3 (A : Option Addr) (c : Nat) (w : World) (hA : Rd w w.heap.size A [162, 64]) : Calls Tryz.prog 82 #[.agg #[.int .i64 10, .slice A 2 c], .int .i64 3, .int .i64 7] w fun e w' => e = .returned (.tuple #[.int .u64 9, .int .i64 0]) ∧ Below w.heap.size w w' := by
  have h := get_any 10 A c [162, 64] 3 7 w (lt256 (by decide)) hA
  have e : getE 10 [162, 64] 3 7 = 0 := by decide
  have e2 : getN 10 [162, 64] 3 7 = 9 := by decide
  rw [e, e2] at h
  exact h
theorem b4 (A B : Option Addr) (c d : Nat) (w : World) (hA : Rd w w.heap.size A [160]) (hB : Rd w w.heap.size B [162, 64]) : Calls Tryz.prog 41 #[.agg #[.int .i64 3, .slice A 1 c], .agg #[.int .i64 10, .slice B 2 d]] w (Gv w 13 2 [180, 72] 0) := by
  have h := join_any 3 10 A B c d [160] [162, 64] w (lt256 (by decide)) hA (lt256 (by decide)) hB
  have e : joinE 3 [160] 10 [162, 64] = 0 := by decide
  rw [e, if_pos rfl] at h
  exact h
theorem b5 (A : Option Addr) (c : Nat) (w : World) (hA : Rd w w.heap.size A [162, 64]) : Calls Tryz.prog 40 #[.agg #[.int .i64 10, .slice A 2 c], .int .i64 0, .int .i64 3] w (Gv w 3 1 [160] 0) := by
  have h := cut_any 10 A c [162, 64] 0 3 w (lt256 (by decide)) hA
  have e : cutE 10 [162, 64] 0 3 = 0 := by decide
  rw [e, if_pos rfl] at h
  exact h
theorem b6 (A : Option Addr) (c : Nat) (w : World) (hA : Rd w w.heap.size A [162, 64]) : Calls Tryz.prog 82 #[.agg #[.int .i64 10, .slice A 2 c], .int .i64 9, .int .i64 2] w fun e w' => e = .returned (.tuple #[.int .u64 0, .int .i64 7]) ∧ Below w.heap.size w w' := by
  have h := get_any 10 A c [162, 64] 9 2 w (lt256 (by decide)) hA
  have e : getE 10 [162, 64] 9 2 = 7 := by decide
  have e2 : getN 10 [162, 64] 9 2 = 0 := by decide
  rw [e, e2] at h
  exact h
theorem bsame (len : Int) (bs : List Nat) (n : Nat) (hn : bs.length = n) (hn2 : n ≤ 2) (A B : Option Addr) (c d : Nat) (w : World) (hA : Rd w w.heap.size A bs) (hB : Rd w w.heap.size B bs) :
    Calls Tryz.prog 25 #[.agg #[.int .i64 len, .slice A n c], .agg #[.int .i64 len, .slice B n d]] w fun e w' => e = .returned (.bool true) ∧ Below w.heap.size w w' := by
  have h := sameBits_any w len len A B c d bs bs (by omega) hA hB
  rw [hn] at h
  simpa using h
theorem b10 (A : Option Addr) (c : Nat) (w : World) (hA : Rd w w.heap.size A [1]) : Calls Tryz.prog 59 #[.agg #[.int .i64 3, .slice A 1 c]] w fun e w' => e = .returned (.int .i64 1) ∧ Below w.heap.size w w' := by
  have h := check_any 3 A c [1] w (lt256 (by decide)) hA
  have e : chk 3 [1] = 1 := by decide
  rw [e] at h
  exact h

/-- A box that was laid some time ago. -/
theorem box_at {w V : World} {a b : Value} (h : Below (w.heap.size + 1) (w.alloc (.cells #[a, b] 35)) V) : V.cell? ⟨w.heap.size, 0, none⟩ = some a ∧ V.cell? ⟨w.heap.size, 1, none⟩ = some b := by
  have e := (h.block w.heap.size (by omega)).trans (World.alloc_heap_new w (.cells #[a, b] 35))
  exact ⟨(blk_cells e).1, (blk_cells e).2.1⟩
/-- A literal of bytes. -/
theorem rd_lit1 (w : World) (x : Nat) : Rd (w.alloc (.cells #[.int .u8 (x : Int)] 5)) (w.alloc (.cells #[.int .u8 (x : Int)] 5)).heap.size (some ⟨w.heap.size, 0, none⟩) [x] := by
  refine .inr ⟨w.heap.size, 0, rfl, by simp, fun i hi => ?_⟩
  have e := World.alloc_heap_new w (.cells #[.int .u8 (x : Int)] 5)
  have hi0 : i = 0 := by simp at hi; exact hi
  subst hi0
  exact box_cell e
theorem rd_lit2 (w : World) (x y : Nat) : Rd (w.alloc (.cells #[.int .u8 (x : Int), .int .u8 (y : Int)] 5)) (w.alloc (.cells #[.int .u8 (x : Int), .int .u8 (y : Int)] 5)).heap.size (some ⟨w.heap.size, 0, none⟩) [x, y] := by
  refine .inr ⟨w.heap.size, 0, rfl, by simp, fun i hi => ?_⟩
  have e := World.alloc_heap_new w (.cells #[.int .u8 (x : Int), .int .u8 (y : Int)] 5)
  have hi0 : i = 0 ∨ i = 1 := by simp at hi; omega
  rcases hi0 with rfl | rfl
  · exact (blk_cells e).1
  · exact (blk_cells e).2.1
theorem Rd.on {w V : World} {A : Option Addr} {bs : List Nat} (h : Rd w w.heap.size A bs) (hb : Below w.heap.size w V) : Rd V V.heap.size A bs := h.below hb hb.size

set_option maxRecDepth 100000 in
set_option maxHeartbeats 2000000 in
theorem begun_true (w : World) : Calls Tryz.prog 38 #[] w fun e w' => e = .returned (.bool true) ∧ Below w.heap.size w w' := by
  go_enter Tryz.func38, Tryz.ntmps38
  go_wp2_with fail
  refine (b1 _).mono ?_
  rintro e w1_ ⟨A1, c1, rfl, Rq, Bq⟩
  have Sq : Below w.heap.size w w1_ := Bq
  have HB : Hid (Below w.heap.size w w1_) := Sq
  clear Bq Sq
  have HR1 := Lib.hid Rq; clear Rq
  go_wp2_with fail
  refine (b2 A1 c1 _ (HR1.out.on (one_below w1_ _))).mono ?_
  rintro e w2_ ⟨A2, c2, rfl, Rq, Bq⟩
  rw [World.size_alloc] at Bq
  have Sq : Below w1_.heap.size w1_ w2_ := (one_below w1_ _).trans (Bq.mono (by omega))
  have za : w1_.heap.size < w2_.heap.size := by have := Bq.size; rw [World.size_alloc] at this; omega
  obtain ⟨pa, qa⟩ := box_at Bq
  replace HR1 : Hid (Rd w2_ w2_.heap.size A1 [160]) := HR1.out.on Sq
  replace HB : Hid (Below w.heap.size w w2_) := HB.out.trans (Sq.mono HB.out.size)
  clear Bq Sq
  have HR2 := Lib.hid Rq; clear Rq
  go_wp2_with fail
  refine (b3 A2 c2 _ (HR2.out.on (one_below w2_ _))).mono ?_
  rintro e w3_ ⟨rfl, Bq⟩
  rw [World.size_alloc] at Bq
  have Sq : Below w2_.heap.size w2_ w3_ := (one_below w2_ _).trans (Bq.mono (by omega))
  have zb : w2_.heap.size < w3_.heap.size := by have := Bq.size; rw [World.size_alloc] at this; omega
  obtain ⟨pb, qb⟩ := box_at Bq
  replace pa := (Sq.cell (p := ⟨w1_.heap.size, 0, none⟩) za).trans pa
  replace qa := (Sq.cell (p := ⟨w1_.heap.size, 1, none⟩) za).trans qa
  replace za : w1_.heap.size < w3_.heap.size := Nat.lt_of_lt_of_le za Sq.size
  replace HR1 : Hid (Rd w3_ w3_.heap.size A1 [160]) := HR1.out.on Sq
  replace HR2 : Hid (Rd w3_ w3_.heap.size A2 [162, 64]) := HR2.out.on Sq
  replace HB : Hid (Below w.heap.size w w3_) := HB.out.trans (Sq.mono HB.out.size)
  clear Bq Sq
  go_wp2_with fail
  refine (b4 A1 A2 c1 c2 _ HR1.out HR2.out).mono ?_
  rintro e w4_ ⟨A3, c3, rfl, Rq, Bq⟩
  have Sq : Below w3_.heap.size w3_ w4_ := Bq
  replace pa := (Sq.cell (p := ⟨w1_.heap.size, 0, none⟩) za).trans pa
  replace qa := (Sq.cell (p := ⟨w1_.heap.size, 1, none⟩) za).trans qa
  replace za : w1_.heap.size < w4_.heap.size := Nat.lt_of_lt_of_le za Sq.size
  replace pb := (Sq.cell (p := ⟨w2_.heap.size, 0, none⟩) zb).trans pb
  replace qb := (Sq.cell (p := ⟨w2_.heap.size, 1, none⟩) zb).trans qb
  replace zb : w2_.heap.size < w4_.heap.size := Nat.lt_of_lt_of_le zb Sq.size
  replace HR1 : Hid (Rd w4_ w4_.heap.size A1 [160]) := HR1.out.on Sq
  replace HR2 : Hid (Rd w4_ w4_.heap.size A2 [162, 64]) := HR2.out.on Sq
  replace HB : Hid (Below w.heap.size w w4_) := HB.out.trans (Sq.mono HB.out.size)
  clear Bq Sq
  have HR3 := Lib.hid Rq; clear Rq
  go_wp2_with fail
  refine (b5 A2 c2 _ (HR2.out.on (one_below w4_ _))).mono ?_
  rintro e w5_ ⟨A4, c4, rfl, Rq, Bq⟩
  rw [World.size_alloc] at Bq
  have Sq : Below w4_.heap.size w4_ w5_ := (one_below w4_ _).trans (Bq.mono (by omega))
  have zj : w4_.heap.size < w5_.heap.size := by have := Bq.size; rw [World.size_alloc] at this; omega
  obtain ⟨pj, qj⟩ := box_at Bq
  replace pa := (Sq.cell (p := ⟨w1_.heap.size, 0, none⟩) za).trans pa
  replace qa := (Sq.cell (p := ⟨w1_.heap.size, 1, none⟩) za).trans qa
  replace za : w1_.heap.size < w5_.heap.size := Nat.lt_of_lt_of_le za Sq.size
  replace pb := (Sq.cell (p := ⟨w2_.heap.size, 0, none⟩) zb).trans pb
  replace qb := (Sq.cell (p := ⟨w2_.heap.size, 1, none⟩) zb).trans qb
  replace zb : w2_.heap.size < w5_.heap.size := Nat.lt_of_lt_of_le zb Sq.size
  replace HR1 : Hid (Rd w5_ w5_.heap.size A1 [160]) := HR1.out.on Sq
  replace HR2 : Hid (Rd w5_ w5_.heap.size A2 [162, 64]) := HR2.out.on Sq
  replace HR3 : Hid (Rd w5_ w5_.heap.size A3 [180, 72]) := HR3.out.on Sq
  replace HB : Hid (Below w.heap.size w w5_) := HB.out.trans (Sq.mono HB.out.size)
  clear Bq Sq
  have HR4 := Lib.hid Rq; clear Rq
  go_wp2_with fail
  refine (b6 A2 c2 _ (HR2.out.on (one_below w5_ _))).mono ?_
  rintro e w6_ ⟨rfl, Bq⟩
  rw [World.size_alloc] at Bq
  have Sq : Below w5_.heap.size w5_ w6_ := (one_below w5_ _).trans (Bq.mono (by omega))
  have zc : w5_.heap.size < w6_.heap.size := by have := Bq.size; rw [World.size_alloc] at this; omega
  obtain ⟨pc, qc⟩ := box_at Bq
  replace pa := (Sq.cell (p := ⟨w1_.heap.size, 0, none⟩) za).trans pa
  replace qa := (Sq.cell (p := ⟨w1_.heap.size, 1, none⟩) za).trans qa
  replace za : w1_.heap.size < w6_.heap.size := Nat.lt_of_lt_of_le za Sq.size
  replace pb := (Sq.cell (p := ⟨w2_.heap.size, 0, none⟩) zb).trans pb
  replace qb := (Sq.cell (p := ⟨w2_.heap.size, 1, none⟩) zb).trans qb
  replace zb : w2_.heap.size < w6_.heap.size := Nat.lt_of_lt_of_le zb Sq.size
  replace pj := (Sq.cell (p := ⟨w4_.heap.size, 0, none⟩) zj).trans pj
  replace qj := (Sq.cell (p := ⟨w4_.heap.size, 1, none⟩) zj).trans qj
  replace zj : w4_.heap.size < w6_.heap.size := Nat.lt_of_lt_of_le zj Sq.size
  replace HR1 : Hid (Rd w6_ w6_.heap.size A1 [160]) := HR1.out.on Sq
  replace HR2 : Hid (Rd w6_ w6_.heap.size A2 [162, 64]) := HR2.out.on Sq
  replace HR3 : Hid (Rd w6_ w6_.heap.size A3 [180, 72]) := HR3.out.on Sq
  replace HR4 : Hid (Rd w6_ w6_.heap.size A4 [160]) := HR4.out.on Sq
  replace HB : Hid (Below w.heap.size w w6_) := HB.out.trans (Sq.mono HB.out.size)
  clear Bq Sq
  go_wp2_with fail
  refine (bsame 3 [160] 1 rfl (by decide) A1 (some ⟨w6_.heap.size, 0, none⟩) c1 1 _ (HR1.out.on (one_below w6_ _)) (rd_lit1 w6_ 160)).mono ?_
  rintro e w7_ ⟨rfl, Bq⟩
  rw [World.size_alloc] at Bq
  have Sq : Below w6_.heap.size w6_ w7_ := (one_below w6_ _).trans (Bq.mono (by omega))
  replace pa := (Sq.cell (p := ⟨w1_.heap.size, 0, none⟩) za).trans pa
  replace qa := (Sq.cell (p := ⟨w1_.heap.size, 1, none⟩) za).trans qa
  replace za : w1_.heap.size < w7_.heap.size := Nat.lt_of_lt_of_le za Sq.size
  replace pb := (Sq.cell (p := ⟨w2_.heap.size, 0, none⟩) zb).trans pb
  replace qb := (Sq.cell (p := ⟨w2_.heap.size, 1, none⟩) zb).trans qb
  replace zb : w2_.heap.size < w7_.heap.size := Nat.lt_of_lt_of_le zb Sq.size
  replace pj := (Sq.cell (p := ⟨w4_.heap.size, 0, none⟩) zj).trans pj
  replace qj := (Sq.cell (p := ⟨w4_.heap.size, 1, none⟩) zj).trans qj
  replace zj : w4_.heap.size < w7_.heap.size := Nat.lt_of_lt_of_le zj Sq.size
  replace pc := (Sq.cell (p := ⟨w5_.heap.size, 0, none⟩) zc).trans pc
  replace qc := (Sq.cell (p := ⟨w5_.heap.size, 1, none⟩) zc).trans qc
  replace zc : w5_.heap.size < w7_.heap.size := Nat.lt_of_lt_of_le zc Sq.size
  replace HR1 : Hid (Rd w7_ w7_.heap.size A1 [160]) := HR1.out.on Sq
  replace HR2 : Hid (Rd w7_ w7_.heap.size A2 [162, 64]) := HR2.out.on Sq
  replace HR3 : Hid (Rd w7_ w7_.heap.size A3 [180, 72]) := HR3.out.on Sq
  replace HR4 : Hid (Rd w7_ w7_.heap.size A4 [160]) := HR4.out.on Sq
  replace HB : Hid (Below w.heap.size w w7_) := HB.out.trans (Sq.mono HB.out.size)
  clear Bq Sq
  go_wp2_with fail
  refine (bsame 10 [162, 64] 2 rfl (by decide) A2 (some ⟨w7_.heap.size, 0, none⟩) c2 2 _ (HR2.out.on (one_below w7_ _)) (rd_lit2 w7_ 162 64)).mono ?_
  rintro e w8_ ⟨rfl, Bq⟩
  rw [World.size_alloc] at Bq
  have Sq : Below w7_.heap.size w7_ w8_ := (one_below w7_ _).trans (Bq.mono (by omega))
  replace pa := (Sq.cell (p := ⟨w1_.heap.size, 0, none⟩) za).trans pa
  replace qa := (Sq.cell (p := ⟨w1_.heap.size, 1, none⟩) za).trans qa
  replace za : w1_.heap.size < w8_.heap.size := Nat.lt_of_lt_of_le za Sq.size
  replace pb := (Sq.cell (p := ⟨w2_.heap.size, 0, none⟩) zb).trans pb
  replace qb := (Sq.cell (p := ⟨w2_.heap.size, 1, none⟩) zb).trans qb
  replace zb : w2_.heap.size < w8_.heap.size := Nat.lt_of_lt_of_le zb Sq.size
  replace pj := (Sq.cell (p := ⟨w4_.heap.size, 0, none⟩) zj).trans pj
  replace qj := (Sq.cell (p := ⟨w4_.heap.size, 1, none⟩) zj).trans qj
  replace zj : w4_.heap.size < w8_.heap.size := Nat.lt_of_lt_of_le zj Sq.size
  replace pc := (Sq.cell (p := ⟨w5_.heap.size, 0, none⟩) zc).trans pc
  replace qc := (Sq.cell (p := ⟨w5_.heap.size, 1, none⟩) zc).trans qc
  replace zc : w5_.heap.size < w8_.heap.size := Nat.lt_of_lt_of_le zc Sq.size
  replace HR1 : Hid (Rd w8_ w8_.heap.size A1 [160]) := HR1.out.on Sq
  replace HR2 : Hid (Rd w8_ w8_.heap.size A2 [162, 64]) := HR2.out.on Sq
  replace HR3 : Hid (Rd w8_ w8_.heap.size A3 [180, 72]) := HR3.out.on Sq
  replace HR4 : Hid (Rd w8_ w8_.heap.size A4 [160]) := HR4.out.on Sq
  replace HB : Hid (Below w.heap.size w w8_) := HB.out.trans (Sq.mono HB.out.size)
  clear Bq Sq
  go_wp2_with fail
  refine (bsame 3 [160] 1 rfl (by decide) A4 A1 c4 c1 _ HR4.out HR1.out).mono ?_
  rintro e w9_ ⟨rfl, Bq⟩
  have Sq : Below w8_.heap.size w8_ w9_ := Bq
  replace pa := (Sq.cell (p := ⟨w1_.heap.size, 0, none⟩) za).trans pa
  replace qa := (Sq.cell (p := ⟨w1_.heap.size, 1, none⟩) za).trans qa
  replace za : w1_.heap.size < w9_.heap.size := Nat.lt_of_lt_of_le za Sq.size
  replace pb := (Sq.cell (p := ⟨w2_.heap.size, 0, none⟩) zb).trans pb
  replace qb := (Sq.cell (p := ⟨w2_.heap.size, 1, none⟩) zb).trans qb
  replace zb : w2_.heap.size < w9_.heap.size := Nat.lt_of_lt_of_le zb Sq.size
  replace pj := (Sq.cell (p := ⟨w4_.heap.size, 0, none⟩) zj).trans pj
  replace qj := (Sq.cell (p := ⟨w4_.heap.size, 1, none⟩) zj).trans qj
  replace zj : w4_.heap.size < w9_.heap.size := Nat.lt_of_lt_of_le zj Sq.size
  replace pc := (Sq.cell (p := ⟨w5_.heap.size, 0, none⟩) zc).trans pc
  replace qc := (Sq.cell (p := ⟨w5_.heap.size, 1, none⟩) zc).trans qc
  replace zc : w5_.heap.size < w9_.heap.size := Nat.lt_of_lt_of_le zc Sq.size
  replace HR1 : Hid (Rd w9_ w9_.heap.size A1 [160]) := HR1.out.on Sq
  replace HR2 : Hid (Rd w9_ w9_.heap.size A2 [162, 64]) := HR2.out.on Sq
  replace HR3 : Hid (Rd w9_ w9_.heap.size A3 [180, 72]) := HR3.out.on Sq
  replace HR4 : Hid (Rd w9_ w9_.heap.size A4 [160]) := HR4.out.on Sq
  replace HB : Hid (Below w.heap.size w w9_) := HB.out.trans (Sq.mono HB.out.size)
  clear Bq Sq
  go_wp2_with fail
  refine (b10 (some ⟨w9_.heap.size, 0, none⟩) 1 _ (rd_lit1 w9_ 1)).mono ?_
  rintro e w10_ ⟨rfl, Bq⟩
  rw [World.size_alloc] at Bq
  have Sq : Below w9_.heap.size w9_ w10_ := (one_below w9_ _).trans (Bq.mono (by omega))
  replace pa := (Sq.cell (p := ⟨w1_.heap.size, 0, none⟩) za).trans pa
  replace qa := (Sq.cell (p := ⟨w1_.heap.size, 1, none⟩) za).trans qa
  replace za : w1_.heap.size < w10_.heap.size := Nat.lt_of_lt_of_le za Sq.size
  replace pb := (Sq.cell (p := ⟨w2_.heap.size, 0, none⟩) zb).trans pb
  replace qb := (Sq.cell (p := ⟨w2_.heap.size, 1, none⟩) zb).trans qb
  replace zb : w2_.heap.size < w10_.heap.size := Nat.lt_of_lt_of_le zb Sq.size
  replace pj := (Sq.cell (p := ⟨w4_.heap.size, 0, none⟩) zj).trans pj
  replace qj := (Sq.cell (p := ⟨w4_.heap.size, 1, none⟩) zj).trans qj
  replace zj : w4_.heap.size < w10_.heap.size := Nat.lt_of_lt_of_le zj Sq.size
  replace pc := (Sq.cell (p := ⟨w5_.heap.size, 0, none⟩) zc).trans pc
  replace qc := (Sq.cell (p := ⟨w5_.heap.size, 1, none⟩) zc).trans qc
  replace zc : w5_.heap.size < w10_.heap.size := Nat.lt_of_lt_of_le zc Sq.size
  replace HR1 : Hid (Rd w10_ w10_.heap.size A1 [160]) := HR1.out.on Sq
  replace HR2 : Hid (Rd w10_ w10_.heap.size A2 [162, 64]) := HR2.out.on Sq
  replace HR3 : Hid (Rd w10_ w10_.heap.size A3 [180, 72]) := HR3.out.on Sq
  replace HR4 : Hid (Rd w10_ w10_.heap.size A4 [160]) := HR4.out.on Sq
  replace HB : Hid (Below w.heap.size w w10_) := HB.out.trans (Sq.mono HB.out.size)
  clear Bq Sq
  go_wp2
  go_ret
  exact ⟨rfl, HB.out⟩
end

section
open Go.ChangeShapes Go.WideShapes Go.ChangeAt Go.RowKit Go.Joins

theorem own : ownKnob Tryz.prog.godebug = none := by kernel_rfl
theorem laidOut : laidOutB Tryz.prog = true := by kernel_rfl
theorem cells24 : Tryz.prog.cellsOf 35 = 2 := by kernel_rfl
theorem cells5 : Tryz.prog.cellsOf 5 = 1 := by kernel_rfl

theorem lt_of_cell {w : World} {p : Addr} {v : Value} (h : w.cell? p = some v) : p.block < w.heap.size := by
  rcases Nat.lt_or_ge p.block w.heap.size with hlt | hge
  · exact hlt
  · simp [World.cell?, Array.getElem?_eq_none hge] at h

set_option maxRecDepth 100000 in
/-- Bits that were handed in. -/
theorem open_bits {H : Type} {enc : TypeId × Value → H} {W : World} {base : Nat} {v : Value} {d : DataW H} {p : List MemPlace}
    (hv : Value.okWide Tryz.prog W .any base 35 v) (h : DataW.Trod enc Tryz.prog W 0 (fun _ => true) true 35 v d p) :
    ∃ (len : Int) (A : Option Addr) (c : Nat) (bs : List Nat), v = .agg #[.int .i64 len, .slice A bs.length c] ∧ Rd W W.heap.size A bs ∧ (∀ b ∈ bs, b < 256) ∧ (Lit.int .i64 len).wf = true := by
  obtain ⟨c0, c1, y0, y1, m, rfl, rfl, rfl, hy0, hy1⟩ := open_agg2 Tryz.underlying35 (by kernel_rfl) cells24 hv h
  obtain ⟨a, e0, rfl, wa⟩ := DataW.trod_int Tryz.underlying3 hy0
  simp at e0
  subst e0
  rcases open_ints Tryz.underlying33 Tryz.underlying5 cells5 hy1 with ⟨hcs, _⟩ | ⟨x, l, c, zs, hcs, _, hl, hm, hz, _, hcell, hwz⟩
  · simp at hcs
    subst hcs
    exact ⟨a, none, 0, [], rfl, .inl rfl, by simp, wa⟩
  · simp at hcs
    subst hcs
    have hzc : zs.length = c := by simpa using hz
    refine ⟨a, some x, c, (zs.take l).map Int.toNat, ?_, ?_, ?_, wa⟩
    · have : ((zs.take l).map Int.toNat).length = l := by rw [List.length_map, List.length_take]; omega
      rw [this]
    · rcases Nat.eq_zero_or_pos l with h0 | h0
      · left; rw [h0]; rfl
      · obtain ⟨b, off, rfl, hc⟩ := ints_at hcell (by omega)
        refine .inr ⟨b, off, rfl, ?_, fun i hi => ?_⟩
        · exact lt_of_cell (hc 0 (by omega))
        · have hil : i < l := by rw [List.length_map, List.length_take] at hi; omega
          rw [hc i (by omega)]
          have hz0 : zs.getD i 0 = zs[i]'(by omega) := by rw [List.getD_eq_getElem?_getD, List.getElem?_eq_getElem (by omega)]; rfl
          have hw := bounds_u8 (hwz _ (List.getElem_mem (show i < zs.length by omega)))
          have e1 : ((zs.take l).map Int.toNat)[i]?.getD 0 = (zs[i]'(by omega)).toNat := by
            rw [List.getElem?_map, List.getElem?_take_of_lt hil, List.getElem?_eq_getElem (by omega)]; rfl
          rw [e1, hz0]
          congr 2
          omega
    · intro b hb
      simp only [List.mem_map] at hb
      obtain ⟨z, hz1, rfl⟩ := hb
      have hw := bounds_u8 (hwz z (List.mem_of_mem_take hz1))
      omega
end

section
open Go.RowKit

theorem nb_snoc (n k : Nat) : nb n (k + 1) = nb (n / 2) k ++ [n % 2 == 1] := by
  apply List.ext_getElem
  · simp [nb]
  · intro i h1 h2
    rw [nb_length] at h1
    rw [List.getElem_append]
    split
    · rename_i h3
      rw [nb_length] at h3
      simp only [nb, List.getElem_map, List.getElem_range]
      rw [Nat.div_div_eq_div_mul]
      have e : k + 1 - 1 - i = (k - 1 - i) + 1 := by omega
      rw [e, Nat.pow_succ, Nat.mul_comm]
    · rename_i h3
      rw [nb_length] at h3
      have e : i = k := by omega
      subst e
      simp [nb]
theorem num_nb : ∀ (k n : Nat), num (nb n k) = n % 2 ^ k := by
  intro k
  induction k with
  | zero => intro n; simp [nb, num, Nat.mod_one]
  | succ k ih =>
    intro n
    rw [nb_snoc, num_snoc, ih]
    have e : (n % 2 == 1).toNat = n % 2 := by
      rcases (show n % 2 = 0 ∨ n % 2 = 1 by omega) with h | h <;> rw [h] <;> rfl
    rw [e, Nat.pow_succ, Nat.mul_comm (2 ^ k) 2, Nat.mod_mul]
    omega
theorem num_nb_small (n k : Nat) (h : n / 2 ^ k = 0) : num (nb n k) = n := by
  rw [num_nb]
  apply Nat.mod_eq_of_lt
  rcases Nat.div_eq_zero_iff.1 h with h | h
  · have := Nat.two_pow_pos k; omega
  · exact h

/-- Check of what is right. -/
theorem check_l (l : List Bool) (hl : l.length ≤ 8192) (A : Option Addr) (c : Nat) (w : World) (h : Rd w w.heap.size A (pack l)) :
    Calls Tryz.prog 59 #[.agg #[.int .i64 (l.length : Int), .slice A (pack l).length c]] w fun e w' => e = .returned (.int .i64 0) ∧ Below w.heap.size w w' := by
  have := check_any (l.length : Int) A c (pack l) w (pack_lt l) h
  rwa [chk_pack l hl] at this
theorem same_l (l : List Bool) (hl : l.length ≤ 8192) (A B : Option Addr) (c d : Nat) (w : World) (hA : Rd w w.heap.size A (pack l)) (hB : Rd w w.heap.size B (pack l)) :
    Calls Tryz.prog 25 #[.agg #[.int .i64 (l.length : Int), .slice A (pack l).length c], .agg #[.int .i64 (l.length : Int), .slice B (pack l).length d]] w fun e w' => e = .returned (.bool true) ∧ Below w.heap.size w w' := by
  have h := sameBits_any w (l.length : Int) (l.length : Int) A B c d (pack l) (pack l) (by rw [pack_length]; omega) hA hB
  simpa using h
/-- Nothing against nothing. -/
theorem same_0 (A B : Option Addr) (c d : Nat) (w : World) (hA : Rd w w.heap.size A (pack [])) :
    Calls Tryz.prog 25 #[.agg #[.int .i64 0, .slice A 0 c], .agg #[.int .i64 0, .slice B 0 d]] w fun e w' => e = .returned (.bool true) ∧ Below w.heap.size w w' := by
  have h := sameBits_any w 0 0 A B c d [] [] (by simp) hA (.inl rfl)
  simpa using h
theorem put_l (l L : List Bool) (A : Option Addr) (c n k : Nat) (hk : k ≤ 64) (hn : n / 2 ^ k = 0) (hf : l.length + k ≤ 8192) (hn64 : n < 18446744073709551616) (hL : L = l ++ nb n k) (w : World) (h : Rd w w.heap.size A (pack l)) :
    Calls Tryz.prog 81 #[.agg #[.int .i64 (l.length : Int), .slice A (pack l).length c], .int .u64 (n : Int), .int .i64 (k : Int)] w (Gv w (L.length : Int) (pack L).length (pack L) 0) := put_ok l L A c n k w h hk hn hf hn64 hL
theorem cut_l (l L : List Bool) (hl : l.length ≤ 8192) (A : Option Addr) (c fr to : Nat) (h1 : fr ≤ to) (h2 : to ≤ l.length) (hL : L = (l.drop fr).take (to - fr)) (w : World) (h : Rd w w.heap.size A (pack l)) :
    Calls Tryz.prog 40 #[.agg #[.int .i64 (l.length : Int), .slice A (pack l).length c], .int .i64 (fr : Int), .int .i64 (to : Int)] w (Gv w (L.length : Int) (pack L).length (pack L) 0) := cut_ok l L hl A c fr to w h h1 h2 hL
theorem cut_l0 (l L : List Bool) (hl : l.length ≤ 8192) (A : Option Addr) (c to : Nat) (h2 : to ≤ l.length) (hL : L = l.take to) (w : World) (h : Rd w w.heap.size A (pack l)) :
    Calls Tryz.prog 40 #[.agg #[.int .i64 (l.length : Int), .slice A (pack l).length c], .int .i64 0, .int .i64 (to : Int)] w (Gv w (L.length : Int) (pack L).length (pack L) 0) := cut_ok l L hl A c 0 to w h (Nat.zero_le _) h2 (by rw [List.drop_zero, Nat.sub_zero]; exact hL)
theorem join_l (a b L : List Bool) (A B : Option Addr) (c d : Nat) (hf : a.length + b.length ≤ 8192) (hL : L = a ++ b) (w : World) (hA : Rd w w.heap.size A (pack a)) (hB : Rd w w.heap.size B (pack b)) :
    Calls Tryz.prog 41 #[.agg #[.int .i64 (a.length : Int), .slice A (pack a).length c], .agg #[.int .i64 (b.length : Int), .slice B (pack b).length d]] w (Gv w (L.length : Int) (pack L).length (pack L) 0) := by
  have h := join_in a b L (by omega) (by omega) A B c d w hA hB hL
  rw [if_neg (by omega), if_neg (by omega)] at h
  exact h
theorem join_l8 (a b : List Bool) (ha : a.length ≤ 8192) (hb : b.length ≤ 8192) (A B : Option Addr) (c d : Nat) (hf : 8192 < a.length + b.length) (w : World) (hA : Rd w w.heap.size A (pack a)) (hB : Rd w w.heap.size B (pack b)) :
    Calls Tryz.prog 41 #[.agg #[.int .i64 (a.length : Int), .slice A (pack a).length c], .agg #[.int .i64 (b.length : Int), .slice B (pack b).length d]] w (Gv w 0 0 (pack []) 8) := by
  have h := join_in a b _ ha hb A B c d w hA hB rfl
  rw [if_pos hf, if_pos hf] at h
  exact h
theorem get_l (l : List Bool) (hl : l.length ≤ 8192) (A : Option Addr) (c p k m : Nat) (h1 : k ≤ 64) (h2 : p + k ≤ l.length) (hm : m = num ((l.drop p).take k)) (w : World) (h : Rd w w.heap.size A (pack l)) :
    Calls Tryz.prog 82 #[.agg #[.int .i64 (l.length : Int), .slice A (pack l).length c], .int .i64 (p : Int), .int .i64 (k : Int)] w fun e w' => e = .returned (.tuple #[.int .u64 (m : Int), .int .i64 0]) ∧ Below w.heap.size w w' := by
  subst hm
  exact get_ok l hl A c p k w h h1 h2
/-- Put that answers an error. -/
theorem put_e (len : Int) (A : Option Addr) (c : Nat) (bs : List Nat) (n : Nat) (width err : Int) (hb : ∀ b ∈ bs, b < 256) (hn64 : n < 18446744073709551616) (he : putL len bs n width = err) (h0 : err ≠ 0) (w : World) (h : Rd w w.heap.size A bs) :
    Calls Tryz.prog 81 #[.agg #[.int .i64 len, .slice A bs.length c], .int .u64 (n : Int), .int .i64 width] w (Gv w 0 0 (pack []) err) := by
  have := put_any len A c bs n width w hb h hn64
  rw [he, if_neg h0] at this
  exact this
theorem cut_e (len : Int) (A : Option Addr) (c : Nat) (bs : List Nat) (fr to err : Int) (hb : ∀ b ∈ bs, b < 256) (he : cutE len bs fr to = err) (h0 : err ≠ 0) (w : World) (h : Rd w w.heap.size A bs) :
    Calls Tryz.prog 40 #[.agg #[.int .i64 len, .slice A bs.length c], .int .i64 fr, .int .i64 to] w (Gv w 0 0 (pack []) err) := by
  have := cut_any len A c bs fr to w hb h
  rw [he, if_neg h0] at this
  exact this
theorem join_e (lx ly : Int) (A B : Option Addr) (c d : Nat) (xs ys : List Nat) (err : Int) (hx : ∀ b ∈ xs, b < 256) (hy : ∀ b ∈ ys, b < 256) (he : joinE lx xs ly ys = err) (h0 : err ≠ 0) (w : World) (hA : Rd w w.heap.size A xs) (hB : Rd w w.heap.size B ys) :
    Calls Tryz.prog 41 #[.agg #[.int .i64 lx, .slice A xs.length c], .agg #[.int .i64 ly, .slice B ys.length d]] w (Gv w 0 0 (pack []) err) := by
  have := join_any lx ly A B c d xs ys w hx hA hy hB
  rw [he, if_neg h0] at this
  exact this
theorem get_e (len : Int) (A : Option Addr) (c : Nat) (bs : List Nat) (p width err : Int) (hb : ∀ b ∈ bs, b < 256) (he : getE len bs p width = err) (h0 : err ≠ 0) (w : World) (h : Rd w w.heap.size A bs) :
    Calls Tryz.prog 82 #[.agg #[.int .i64 len, .slice A bs.length c], .int .i64 p, .int .i64 width] w fun e w' => e = .returned (.tuple #[.int .u64 0, .int .i64 err]) ∧ Below w.heap.size w w' := by
  have := get_any len A c bs p width w hb h
  unfold getN at this
  rw [he, if_neg h0] at this
  exact this

/-- Where Put answers no error the bits are right, the width is one, and the number fits. -/
theorem putL_zero (len : Int) (bs : List Nat) (n : Nat) (width : Int) (hb : ∀ b ∈ bs, b < 256) (h : putL len bs n width = 0) :
    ∃ (l : List Bool) (k : Nat), len = (l.length : Int) ∧ bs = pack l ∧ width = (k : Int) ∧ k ≤ 64 ∧ n / 2 ^ k = 0 ∧ l.length + k ≤ 8192 := by
  unfold putL at h
  by_cases hc : chk len bs = 0
  · rw [if_neg (by omega)] at h
    obtain ⟨l, rfl, hl, rfl⟩ := chk_zero len bs hb hc
    by_cases hw : width < 0 ∨ 64 < width ∨ n / 2 ^ width.toNat ≠ 0
    · rw [if_pos hw] at h; omega
    · rw [if_neg hw] at h
      by_cases hf : 8192 < (l.length : Int) + width
      · rw [if_pos hf] at h; omega
      · obtain ⟨k, rfl⟩ := Int.eq_ofNat_of_zero_le (show 0 ≤ width by omega)
        rw [Int.toNat_natCast] at hw
        exact ⟨l, k, rfl, rfl, rfl, by omega, by omega, by omega⟩
  · rw [if_pos hc] at h; exact absurd h hc
theorem cutE_zero (len : Int) (bs : List Nat) (fr to : Int) (hb : ∀ b ∈ bs, b < 256) (h : cutE len bs fr to = 0) :
    ∃ (l : List Bool) (f t : Nat), len = (l.length : Int) ∧ bs = pack l ∧ fr = (f : Int) ∧ to = (t : Int) ∧ f ≤ t ∧ t ≤ l.length ∧ l.length ≤ 8192 := by
  unfold cutE at h
  by_cases hc : chk len bs = 0
  · rw [if_neg (by omega)] at h
    obtain ⟨l, rfl, hl, rfl⟩ := chk_zero len bs hb hc
    by_cases hw : fr < 0 ∨ to < fr ∨ (l.length : Int) < to
    · rw [if_pos hw] at h; omega
    · obtain ⟨f, rfl⟩ := Int.eq_ofNat_of_zero_le (show 0 ≤ fr by omega)
      obtain ⟨t, rfl⟩ := Int.eq_ofNat_of_zero_le (show 0 ≤ to by omega)
      exact ⟨l, f, t, rfl, rfl, rfl, rfl, by omega, by omega, hl⟩
  · rw [if_pos hc] at h; exact absurd h hc
theorem joinE_zero (lx ly : Int) (xs ys : List Nat) (hx : ∀ b ∈ xs, b < 256) (hy : ∀ b ∈ ys, b < 256) (h : joinE lx xs ly ys = 0) :
    ∃ (a b : List Bool), lx = (a.length : Int) ∧ xs = pack a ∧ ly = (b.length : Int) ∧ ys = pack b ∧ a.length + b.length ≤ 8192 := by
  unfold joinE at h
  by_cases hc : chk lx xs = 0
  · rw [if_neg (by omega)] at h
    by_cases hd : chk ly ys = 0
    · rw [if_neg (by omega)] at h
      obtain ⟨a, rfl, ha, rfl⟩ := chk_zero lx xs hx hc
      obtain ⟨b, rfl, hb, rfl⟩ := chk_zero ly ys hy hd
      by_cases hf : 8192 < (a.length : Int) + (b.length : Int)
      · rw [if_pos hf] at h; omega
      · exact ⟨a, b, rfl, rfl, rfl, rfl, by omega⟩
    · rw [if_pos hd] at h; exact absurd h hd
  · rw [if_pos hc] at h; exact absurd h hc
theorem getE_zero (len : Int) (bs : List Nat) (p width : Int) (hb : ∀ b ∈ bs, b < 256) (h : getE len bs p width = 0) :
    ∃ (l : List Bool) (q k : Nat), len = (l.length : Int) ∧ bs = pack l ∧ p = (q : Int) ∧ width = (k : Int) ∧ k ≤ 64 ∧ q + k ≤ l.length ∧ l.length ≤ 8192 := by
  unfold getE at h
  by_cases hc : chk len bs = 0
  · rw [if_neg (by omega)] at h
    obtain ⟨l, rfl, hl, rfl⟩ := chk_zero len bs hb hc
    by_cases hw : width < 0 ∨ 64 < width ∨ p < 0 ∨ (l.length : Int) < p
    · rw [if_pos hw] at h; omega
    · rw [if_neg hw] at h
      by_cases hs : (l.length : Int) - p < width
      · rw [if_pos hs] at h; omega
      · obtain ⟨q, rfl⟩ := Int.eq_ofNat_of_zero_le (show 0 ≤ p by omega)
        obtain ⟨k, rfl⟩ := Int.eq_ofNat_of_zero_le (show 0 ≤ width by omega)
        exact ⟨l, q, k, rfl, rfl, rfl, rfl, by omega, by omega, hl⟩
  · rw [if_pos hc] at h; exact absurd h hc
end

section
open Go.RowKit Go.Shelf
set_option linter.unusedVariables false

/-- A slice that reads as values, below a block. -/
def RdV (w : World) (B : Nat) (A : Option Addr) (vs : List Value) : Prop :=
  vs = [] ∨ ∃ b off, A = some ⟨b, off, none⟩ ∧ b < B ∧ ∀ i v, vs[i]? = some v → w.cell? ⟨b, off + i, none⟩ = some v
theorem RdV.keep {w w' : World} {B B' : Nat} {A : Option Addr} {vs : List Value} (h : RdV w B A vs) (hB : B ≤ B') (hk : ∀ k, k < B → w'.heap[k]? = w.heap[k]?) : RdV w' B' A vs := by
  rcases h with h | ⟨b, off, e, hb, hc⟩
  · exact .inl h
  · exact .inr ⟨b, off, e, by omega, fun i v hi => (World.cell?_of_block (w := w) (a := ⟨b, off + i, none⟩) (hk b hb)).trans (hc i v hi)⟩
theorem RdV.below {w w' : World} {B B' : Nat} {A : Option Addr} {vs : List Value} (h : RdV w B A vs) (hb : Below B w w') (hB : B ≤ B') : RdV w' B' A vs := h.keep hB hb.block
theorem RdV.on {w V : World} {A : Option Addr} {vs : List Value} (h : RdV w w.heap.size A vs) (hb : Below w.heap.size w V) : RdV V V.heap.size A vs := h.below hb hb.size
theorem RdV.at_ {w : World} {B : Nat} {A : Option Addr} {vs : List Value} (h : RdV w B A vs) {i : Nat} {v : Value} (hi : vs[i]? = some v) : ∃ b off, A = some ⟨b, off, none⟩ ∧ b < B ∧ w.cell? ⟨b, off + i, none⟩ = some v := by
  rcases h with h | ⟨b, off, e, hb, hc⟩
  · rw [h] at hi; simp at hi
  · exact ⟨b, off, e, hb, hc i v hi⟩

/-- Cells of numbers. -/
def nc (ns : List Nat) : List Value := ns.map fun (x : Nat) => Value.int .u64 (x : Int)
theorem nc_length (ns : List Nat) : (nc ns).length = ns.length := by simp [nc]
theorem nc_get (ns : List Nat) (i : Nat) (h : i < ns.length) : (nc ns)[i]? = some (.int .u64 ((ns[i]?.getD 0 : Nat) : Int)) := by
  simp [nc, List.getElem?_map, List.getElem?_eq_getElem h]
theorem nc_append (a b : List Nat) : nc (a ++ b) = nc a ++ nc b := by simp [nc]

theorem take_snoc (ns : List Nat) (i : Nat) (h : i < ns.length) : ns.take (i + 1) = ns.take i ++ [ns[i]?.getD 0] := by
  rw [List.take_succ_eq_append_getElem h, List.getElem?_eq_getElem h]; rfl
theorem nb_zeros (k : Nat) : nb 0 k = List.replicate k false := by
  apply List.ext_getElem
  · simp [nb]
  · intro i h1 h2; simp [nb]
theorem grown_trans {a b c : World} {row : Option Nat} (h : a.grownBy b row) (k : b.grownBy c row) : a.grownBy c row :=
  ⟨k.os.trans h.os, k.tape.trans h.tape, k.output.trans h.output, Nat.le_trans h.size k.size, fun i hi hr => (k.block i (Nat.lt_of_lt_of_le hi h.size) hr).trans (h.block i hi hr)⟩
theorem grown_of_below {w w' : World} (h : Below w.heap.size w w') (row : Option Nat) : w.grownBy w' row := ⟨h.os, h.tape, h.output, h.size, fun k hk _ => h.block k hk⟩
theorem grown_set (w : World) (K i : Nat) (u : Value) : w.grownBy (w.setCell ⟨K, i, none⟩ u) (some K) :=
  ⟨rfl, rfl, rfl, by simp [World.setCell], fun k _ hk => Below.heap_setCell _ _ _ _ (fun e => hk (by rw [e]))⟩

theorem up2 (w : World) (o p : Obj) : Below w.heap.size w ((w.alloc o).alloc p) := ((Below.refl _ w).alloc (Nat.le_refl _) _).alloc (by simp) _

theorem own_slice25 {w : World} {base : Nat} {v : Value} {n : Nat} {xs : List Value} (h : w.ownsRow base 46 1 v n xs) : ∃ A c, v = .slice A n c := by
  rcases h.2 with ⟨rfl, rfl⟩ | ⟨g, cap, cur, rfl, _⟩
  · exact ⟨none, 0, rfl⟩
  · exact ⟨_, cap, rfl⟩

theorem info25 : (Tryz.prog.info? 46).map (fun i => (i.zero, i.size, i.bytes)) = some (some (.int .u64 0), 1, 8) := by kernel_rfl

theorem own_rdv {w : World} {base : Nat} {e : TypeId} {A : Option Addr} {n c : Nat} {vs : List Value} (h : w.ownsRow base e 1 (.slice A n c) n vs) : RdV w w.heap.size A vs := by
  rcases h.2 with ⟨_, h0⟩ | ⟨g, cap, cur, he, _, hg, _⟩
  · have := h.1
    rw [h0] at this
    exact .inl (List.eq_nil_of_length_eq_zero (by omega))
  · simp only [Value.slice.injEq] at he
    obtain ⟨rfl, _, _⟩ := he
    refine .inr ⟨g, 0, rfl, (Array.getElem?_eq_some_iff.1 hg).1, fun i v hi => ?_⟩
    have hh := h.cells (g := g) rfl i v hi
    have ha : (⟨g, 0, none⟩ : Addr).add i = ⟨g, 0 + i, none⟩ := by unfold Addr.add; split <;> simp_all
    rw [ha] at hh
    exact hh

theorem row_ne25 {w : World} {W : Nat} {t : TypeId} {cs : Array Value} {base : Nat} (hW : w.heap[W]? = some (.cells cs t (0, 0))) (ht : t ≠ 46) {v : Value} {n : Nat} {xs : List Value} (h : w.ownsRow base 46 1 v n xs) : ∀ g, v.ownBlock = some g → g ≠ W := by
  rintro g hg rfl
  rcases h.2 with ⟨rfl, _⟩ | ⟨g', cap, cur, rfl, _, hh, _⟩
  · simp [Value.ownBlock] at hg
  · have : g' = g := by simpa [Value.ownBlock] using hg
    subst this
    rw [hW] at hh
    simp at hh
    exact ht hh.2

theorem Rd.setK {w : World} {B K i : Nat} {A A' : Option Addr} {bs : List Nat} {a : Int} {n c : Nat} {t : TypeId} (u : Value) (h : Rd w B A bs) (hK : w.heap[K]? = some (.cells #[.int .i64 a, .slice A' n c] t (0, 0))) : Rd (w.setCell ⟨K, i, none⟩ u) B A bs := by
  rcases h with h | ⟨b, off, rfl, hb, hc⟩
  · exact .inl h
  · by_cases h0 : bs = []
    · exact .inl h0
    · have hl : 0 < bs.length := List.length_pos_iff.2 h0
      have hne : b ≠ K := by
        rintro rfl
        have h1 := hc 0 hl
        simp only [World.cell?, hK] at h1
        rcases (show off = 0 ∨ off = 1 ∨ 2 ≤ off by omega) with rfl | rfl | h2
        · simp at h1
        · simp at h1
        · rw [Array.getElem?_eq_none (by simp; omega)] at h1
          cases h1
      exact .inr ⟨b, off, rfl, hb, fun j hj => (World.cell?_setCell_other w _ ⟨b, off + j, none⟩ u (by intro e; exact hne (congrArg Addr.block e).symm)).trans (hc j hj)⟩
end

section
set_option maxRecDepth 100000
set_option linter.unusedVariables false
open Go.RowKit

/-- Cells of conditions. -/
def cc (bs : List Bool) : List Value := bs.map Value.bool
theorem cc_length (bs : List Bool) : (cc bs).length = bs.length := by simp [cc]
theorem cc_get (bs : List Bool) (i : Nat) (h : i < bs.length) : (cc bs)[i]? = some (.bool (bs[i]?.getD false)) := by
  simp [cc, List.getElem?_map, List.getElem?_eq_getElem h]

/-- At each round's head: what has come is true. -/
def IxRel (bs : List Bool) (p : Value) : Prop := ∃ i : Nat, i ≤ bs.length ∧ p = .int .i64 (i : Int) ∧ ∀ j, j < i → bs[j]?.getD false = true

set_option maxHeartbeats 1000000 in
theorem index_b (bs : List Bool) (r : Bool) (hr : bs.contains false = r) (n : Nat) (hn : bs.length = n) (hl : n ≤ 100) (A : Option Addr) (c : Nat) (w : World) (h : RdV w w.heap.size A (cc bs)) :
    Calls Tryz.prog 135 #[.slice A n c, .bool false] w fun e w' => ∃ k : Int, e = .returned (.int .i64 k) ∧ w = w' ∧ Hid (decide (0 ≤ k) = r) := by
  have HQ := Lib.hid hr; clear hr
  have HR := Lib.hid h; clear h
  have HN := Lib.hid hn; clear hn
  go_enter Tryz.func135, Tryz.ntmps135
  go_wp2
  go_loop [5, 8] (fun _ p => IxRel bs p) (fun _ p => n - (intOf p).toNat)
  case atStart => exact ⟨0, Nat.zero_le _, rfl, fun j hj => absurd hj (Nat.not_lt_zero _)⟩
  case round =>
    obtain ⟨i, hi, rfl, hall⟩ := hrel
    rw [HN.out] at hi
    have HAl := Lib.hid hall; clear hall
    by_cases hlt : i < n
    · have hil : i < bs.length := by rw [HN.out]; exact hlt
      obtain ⟨b, off, rfl, hb, hc⟩ := HR.out.at_ (cc_get bs i hil)
      have HM : Hid (bs[i]?.getD false = false → r = true) := by
        intro e
        rw [← HQ.out]
        rw [List.getElem?_eq_getElem hil] at e
        simp only [Option.getD_some] at e
        rw [List.contains_iff_mem, ← e]
        exact List.getElem_mem hil
      have HE : Hid (bs[i]?.getD false = true → ∀ j, j < i + 1 → bs[j]?.getD false = true) := by
        intro e j hj
        by_cases h : j = i
        · subst h; exact e
        · exact HAl.out j (by omega)
      generalize bs[i]?.getD false = bt at *
      cases bt
      · have HM2 : Hid (r = true) := HM.out rfl
        clear HM HE
        go_wp2
        go_ret
        exact ⟨_, rfl, rfl, show decide _ = r by rw [HM2.out]; simp⟩
      · have HE2 : Hid (∀ j, j < i + 1 → bs[j]?.getD false = true) := HE.out rfl
        clear HM HE
        go_wp2
        go_round
        case rel => exact ⟨i + 1, by rw [HN.out]; omega, by go_num, HE2.out⟩
        case measure => simp [intOf]; omega
    · have HF : Hid (r = false) := by
        show _ = _
        rw [← HQ.out]
        rw [Bool.eq_false_iff]
        intro e
        rw [List.contains_iff_mem] at e
        obtain ⟨j, hj, e⟩ := List.mem_iff_getElem.1 e
        have := HAl.out j (by rw [HN.out] at hj; omega)
        rw [List.getElem?_eq_getElem hj, e] at this
        simp at this
      go_wp2
      go_ret
      exact ⟨_, rfl, rfl, show decide _ = r by rw [HF.out]; decide⟩
set_option maxHeartbeats 1000000 in
theorem contains_b (bs : List Bool) (n : Nat) (hn : bs.length = n) (hl : n ≤ 100) (A : Option Addr) (c : Nat) (w : World) (h : RdV w w.heap.size A (cc bs)) :
    Calls Tryz.prog 101 #[.slice A n c, .bool false] w fun e w' => e = .returned (.bool (bs.contains false)) ∧ w = w' := by
  have HI := Lib.hid (index_b bs _ rfl n hn hl A c w h); clear h hn
  generalize bs.contains false = r at *
  go_enter Tryz.func101, Tryz.ntmps101
  go_wp2_with fail
  refine HI.out.mono ?_
  rintro e w1 ⟨k, rfl, rfl, hk⟩
  go_wp2
  go_ret
  exact ⟨by rw [← hk.out]; rfl, rfl⟩
/-- The error that was found before, else 3 if a condition fails. -/
def rgE (e : Int) (bs : List Bool) : Int := if e = 0 ∧ bs.contains false = true then 3 else e
set_option maxHeartbeats 1000000 in
theorem range_any (e : Int) (bs : List Bool) (n : Nat) (hn : bs.length = n) (hl : n ≤ 100) (A : Option Addr) (c : Nat) (w : World) (h : RdV w w.heap.size A (cc bs)) :
    Calls Tryz.prog 54 #[.int .i64 e, .slice A n c] w fun x w' => x = .returned (.int .i64 (rgE e bs)) ∧ w = w' := by
  have HI := Lib.hid (contains_b bs n hn hl A c w h); clear h hn
  unfold rgE
  generalize bs.contains false = r at *
  by_cases he : e = 0
  · subst he
    cases r
    · rw [if_neg (by simp)]
      go_enter Tryz.func54, Tryz.ntmps54
      go_wp2_with fail
      refine HI.out.mono ?_
      rintro e w1 ⟨rfl, rfl⟩
      go_wp2
      go_ret
      exact ⟨rfl, rfl⟩
    · rw [if_pos (by simp)]
      go_enter Tryz.func54, Tryz.ntmps54
      go_wp2_with fail
      refine HI.out.mono ?_
      rintro e w1 ⟨rfl, rfl⟩
      go_wp2
      go_ret
      exact ⟨rfl, rfl⟩
  · rw [if_neg (fun h => he h.1)]
    have t1 : (e == 0) = false := by simpa using he
    clear he HI
    go_enter Tryz.func54, Tryz.ntmps54
    go_wp2
    go_ret
    exact ⟨rfl, rfl⟩

/-- Conditions, newly laid. -/
theorem rdv_cc (w : World) (bs : List Bool) : RdV (w.alloc (.cells (cc bs).toArray 4)) (w.alloc (.cells (cc bs).toArray 4)).heap.size (some ⟨w.heap.size, 0, none⟩) (cc bs) := by
  refine .inr ⟨w.heap.size, 0, rfl, by simp, fun i v hi => ?_⟩
  rw [cell_of_row _ _ _ _ _ _ (World.alloc_heap_new w (.cells (cc bs).toArray 4))]
  simpa using hi
/-- Range, at conditions that the call lays itself. -/
theorem range_new (e : Int) (bs : List Bool) (n : Nat) (hn : bs.length = n) (hl : n ≤ 100) (r : Int) (hr : rgE e bs = r) (w : World) :
    Calls Tryz.prog 54 #[.int .i64 e, .slice (some ⟨w.heap.size, 0, none⟩) n n] (w.alloc (.cells (cc bs).toArray 4)) fun x w' => x = .returned (.int .i64 r) ∧ w.alloc (.cells (cc bs).toArray 4) = w' := by
  subst hr
  exact range_any e bs n hn hl _ _ _ (rdv_cc w bs)

theorem range_on (e : Int) (bs : List Bool) (n : Nat) (hn : bs.length = n) (hl : n ≤ 100) (r : Int) (hr : rgE e bs = r) (w : World) :
    Calls Tryz.prog 54 #[.int .i64 e, .slice (some ⟨w.heap.size, 0, none⟩) n n] (w.alloc (.cells (cc bs).toArray 4)) fun x w' => x = .returned (.int .i64 r) ∧ Below w.heap.size w w' :=
  (range_new e bs n hn hl r hr w).mono fun _ _ ⟨h1, h2⟩ => ⟨h1, by rw [← h2]; exact one_below _ _⟩
theorem range1 (e : Int) (a : Bool) (r : Int) (hr : rgE e [a] = r) (w : World) (B : Nat) (hB : w.heap.size = B) :
    Calls Tryz.prog 54 #[.int .i64 e, .slice (some ⟨B, 0, none⟩) 1 1] (w.alloc (.cells #[.bool a] 4)) fun x w' => x = .returned (.int .i64 r) ∧ Below w.heap.size w w' :=
  hB ▸ range_on e [a] 1 rfl (by decide) r hr w
theorem range2 (e : Int) (a b : Bool) (r : Int) (hr : rgE e [a, b] = r) (w : World) (B : Nat) (hB : w.heap.size = B) :
    Calls Tryz.prog 54 #[.int .i64 e, .slice (some ⟨B, 0, none⟩) 2 2] (w.alloc (.cells #[.bool a, .bool b] 4)) fun x w' => x = .returned (.int .i64 r) ∧ Below w.heap.size w w' :=
  hB ▸ range_on e [a, b] 2 rfl (by decide) r hr w
theorem range3 (e : Int) (a b c : Bool) (r : Int) (hr : rgE e [a, b, c] = r) (w : World) (B : Nat) (hB : w.heap.size = B) :
    Calls Tryz.prog 54 #[.int .i64 e, .slice (some ⟨B, 0, none⟩) 3 3] (w.alloc (.cells #[.bool a, .bool b, .bool c] 4)) fun x w' => x = .returned (.int .i64 r) ∧ Below w.heap.size w w' :=
  hB ▸ range_on e [a, b, c] 3 rfl (by decide) r hr w
end

section
set_option linter.unusedVariables false

/-- Two sorted lists of the same are one. -/
theorem uniq {α : Type} (r : α → α → Prop) : ∀ l1 l2 : List α, l1.Perm l2 → l1.Pairwise r → l2.Pairwise r → (∀ a ∈ l1, ∀ b ∈ l1, r a b → r b a → a = b) → l1 = l2
  | [], l2, h, _, _, _ => (List.nil_perm.1 h).symm
  | a :: t, [], h, _, _, _ => absurd h.symm (by simp [List.nil_perm])
  | a :: t, b :: s, h, h1, h2, ha => by
    have hb : b ∈ a :: t := h.symm.subset (List.mem_cons_self)
    have haa : a ∈ b :: s := h.subset (List.mem_cons_self)
    have e : a = b := by
      rcases List.mem_cons.1 haa with e | e
      · exact e
      · rcases List.mem_cons.1 hb with e' | e'
        · exact e'.symm
        · exact ha a List.mem_cons_self b hb ((List.pairwise_cons.1 h1).1 b e') ((List.pairwise_cons.1 h2).1 a e)
    subst e
    have hp : t.Perm s := List.Perm.cons_inv h
    rw [uniq r t s hp (List.pairwise_cons.1 h1).2 (List.pairwise_cons.1 h2).2 (fun x hx y hy => ha x (List.mem_cons_of_mem _ hx) y (List.mem_cons_of_mem _ hy))]

/-- None begins with the other one. -/
def pf (x y : List Bool) : Prop := ¬ x <+: y ∧ ¬ y <+: x
theorem pf_symm {x y : List Bool} (h : pf x y) : pf y x := ⟨h.2, h.1⟩
def ks (d : Nat) : List (List Bool) → Nat
  | [] => 0
  | c :: t => 2 ^ (d - c.length) + ks d t
def tails (b : Bool) : List (List Bool) → List (List Bool)
  | [] => []
  | [] :: t => tails b t
  | (x :: c) :: t => if x = b then c :: tails b t else tails b t
theorem tails_mem (b : Bool) : ∀ cs c, c ∈ tails b cs → (b :: c) ∈ cs
  | [], c, h => by simp [tails] at h
  | [] :: t, c, h => List.mem_cons_of_mem _ (tails_mem b t c h)
  | (x :: e) :: t, c, h => by
    unfold tails at h
    by_cases hx : x = b
    · rw [if_pos hx] at h
      rcases List.mem_cons.1 h with rfl | h
      · rw [hx]; exact List.mem_cons_self
      · exact List.mem_cons_of_mem _ (tails_mem b t c h)
    · rw [if_neg hx] at h
      exact List.mem_cons_of_mem _ (tails_mem b t c h)
theorem tails_pf (b : Bool) : ∀ cs, cs.Pairwise pf → (tails b cs).Pairwise pf
  | [], _ => .nil
  | [] :: t, h => tails_pf b t (List.pairwise_cons.1 h).2
  | (x :: e) :: t, h => by
    have h2 := List.pairwise_cons.1 h
    unfold tails
    by_cases hx : x = b
    · rw [if_pos hx]
      refine List.pairwise_cons.2 ⟨fun c hc => ?_, tails_pf b t h2.2⟩
      have := h2.1 _ (tails_mem b t c hc)
      subst hx
      exact ⟨fun h => this.1 (List.cons_prefix_cons.2 ⟨rfl, h⟩), fun h => this.2 (List.cons_prefix_cons.2 ⟨rfl, h⟩)⟩
    · rw [if_neg hx]; exact tails_pf b t h2.2
theorem ks_tails (d : Nat) : ∀ cs, (∀ c ∈ cs, c ≠ [] ∧ c.length ≤ d + 1) → ks (d + 1) cs = ks d (tails false cs) + ks d (tails true cs)
  | [], _ => rfl
  | [] :: t, h => absurd rfl (h [] List.mem_cons_self).1
  | (x :: e) :: t, h => by
    have ih := ks_tails d t (fun c hc => h c (List.mem_cons_of_mem _ hc))
    have e1 : d + 1 - (x :: e).length = d - e.length := by simp
    cases x <;> simp [ks, tails] <;> omega
/-- KRAFT; McMILLAN: where none begins with another one there is room for all. -/
theorem kraft_le : ∀ (d : Nat) (cs : List (List Bool)), (∀ c ∈ cs, c.length ≤ d) → cs.Pairwise pf → ks d cs ≤ 2 ^ d := by
  intro d cs h hp
  by_cases hn : [] ∈ cs
  · obtain ⟨a, b, rfl⟩ := List.append_of_mem hn
    have h2 := List.pairwise_append.1 hp
    have ha : a = [] := by
      cases a with
      | nil => rfl
      | cons x t => exact absurd (List.nil_prefix) (h2.2.2 x List.mem_cons_self [] List.mem_cons_self).2
    have hb : b = [] := by
      cases b with
      | nil => rfl
      | cons x t => exact absurd (List.nil_prefix) ((List.pairwise_cons.1 h2.2.1).1 x List.mem_cons_self).1
    subst ha hb
    simp [ks]
  · induction d generalizing cs with
    | zero =>
      cases cs with
      | nil => simp [ks]
      | cons c t =>
        have := h c List.mem_cons_self
        have : c = [] := List.eq_nil_of_length_eq_zero (by omega)
        subst this
        exact absurd List.mem_cons_self hn
    | succ d ih =>
      rw [ks_tails d cs (fun c hc => ⟨fun e => hn (e ▸ hc), h c hc⟩)]
      have key : ∀ b, ks d (tails b cs) ≤ 2 ^ d := by
        intro b
        have hl : ∀ c ∈ tails b cs, c.length ≤ d := fun c hc => by have := h _ (tails_mem b cs c hc); simp at this; omega
        have hq := tails_pf b cs hp
        by_cases hm : [] ∈ tails b cs
        · obtain ⟨a, b', e⟩ := List.append_of_mem hm
          rw [e] at hq ⊢
          have h2 := List.pairwise_append.1 hq
          have ha : a = [] := by
            cases a with
            | nil => rfl
            | cons x t => exact absurd (List.nil_prefix) (h2.2.2 x List.mem_cons_self [] List.mem_cons_self).2
          have hb : b' = [] := by
            cases b' with
            | nil => rfl
            | cons x t => exact absurd (List.nil_prefix) ((List.pairwise_cons.1 h2.2.1).1 x List.mem_cons_self).1
          subst ha hb
          simp [ks]
        · exact ih _ hl hq hm
      have := key false
      have := key true
      rw [Nat.pow_succ]
      omega

/-! ### What costs least -/
def dot : List Nat → List Nat → Nat
  | w :: ws, l :: ls => w * l + dot ws ls
  | _, _ => 0
theorem swap_le (w w2 x m : Nat) (h : w ≤ w2) (k : x ≤ m) : w * m + w2 * x ≤ w * x + w2 * m := by
  obtain ⟨d, rfl⟩ := Nat.exists_eq_add_of_le h
  obtain ⟨e, rfl⟩ := Nat.exists_eq_add_of_le k
  simp only [Nat.mul_add, Nat.add_mul]
  omega
theorem move (m : Nat) : ∀ (a : List Nat) (w : Nat) (ws b : List Nat), (∀ x ∈ a, x ≤ m) → (w :: ws).Pairwise (· ≤ ·) → a.length ≤ ws.length → dot (w :: ws) (m :: (a ++ b)) ≤ dot (w :: ws) (a ++ m :: b)
  | [], w, ws, b, _, _, _ => Nat.le_refl _
  | x :: a, w, [], b, _, _, h => by simp at h
  | x :: a, w, w2 :: ws, b, hx, hs, hl => by
    have h1 := List.pairwise_cons.1 hs
    have ih := move m a w2 ws b (fun y hy => hx y (List.mem_cons_of_mem _ hy)) h1.2 (by simpa using hl)
    have h2 := swap_le w w2 x m (h1.1 w2 List.mem_cons_self) (hx x List.mem_cons_self)
    simp only [List.cons_append, dot] at ih ⊢
    omega
/-- Of greater weights the less: no other order costs less. -/
theorem rearr : ∀ (ds ws ls : List Nat), ws.Pairwise (· ≤ ·) → ds.Pairwise (· ≥ ·) → ls.Perm ds → ws.length = ds.length → dot ws ds ≤ dot ws ls
  | [], ws, ls, _, _, h, _ => by rw [List.perm_nil.1 h]; exact Nat.le_refl _
  | m :: r, [], ls, _, _, _, h => by simp at h
  | m :: r, w :: ws, ls, hw, hd, hp, hl => by
    have hm : m ∈ ls := hp.symm.subset List.mem_cons_self
    obtain ⟨a, b, rfl⟩ := List.append_of_mem hm
    have hab : (a ++ b).Perm r := by
      have : (m :: (a ++ b)).Perm (m :: r) := (List.perm_middle.symm).trans hp
      exact List.Perm.cons_inv this
    have hlen := hab.length_eq
    have hdm := List.pairwise_cons.1 hd
    have h1 := move m a w ws b (fun x hx => by
      have : x ∈ r := hab.subset (List.mem_append_left _ hx)
      exact hdm.1 x this) hw (by simp at hl hlen; omega)
    have h2 := rearr r ws (a ++ b) (List.pairwise_cons.1 hw).2 hdm.2 hab (by simpa using hl)
    simp only [dot] at h1 ⊢
    omega

def ksum (d : Nat) : List Nat → Nat
  | [] => 0
  | l :: t => 2 ^ (d - l) + ksum d t
theorem ksum_append (d : Nat) : ∀ a b, ksum d (a ++ b) = ksum d a + ksum d b
  | [], b => by simp [ksum]
  | x :: a, b => by simp [ksum, ksum_append d a b]; omega
theorem ksum_perm (d : Nat) {a b : List Nat} (h : a.Perm b) : ksum d a = ksum d b := by
  induction h with
  | nil => rfl
  | cons x _ ih => simp [ksum, ih]
  | swap x y l => simp [ksum]; omega
  | trans _ _ i1 i2 => exact i1.trans i2
theorem ksum_scale (d q : Nat) : ∀ l, (∀ x ∈ l, x ≤ d) → ksum (d + q) l = 2 ^ q * ksum d l
  | [], _ => by simp [ksum]
  | x :: t, h => by
    have hx := h x List.mem_cons_self
    have e : d + q - x = q + (d - x) := by omega
    simp only [ksum, ksum_scale d q t (fun y hy => h y (List.mem_cons_of_mem _ hy)), e, Nat.pow_add, Nat.mul_add]
/-- There is room for these lengths. -/
def Kr (l : List Nat) : Prop := ∃ d, (∀ x ∈ l, x ≤ d) ∧ ksum d l ≤ 2 ^ d
theorem Kr.perm {a b : List Nat} (h : a.Perm b) (k : Kr a) : Kr b := by
  obtain ⟨d, h1, h2⟩ := k
  exact ⟨d, fun x hx => h1 x (h.symm.subset hx), by rw [← ksum_perm d h]; exact h2⟩
/-- .. of any depth that is deep enough. -/
theorem Kr.at_ {l : List Nat} (k : Kr l) (d : Nat) (h : ∀ x ∈ l, x ≤ d) : ksum d l ≤ 2 ^ d := by
  obtain ⟨e, h1, h2⟩ := k
  rcases Nat.le_total d e with hde | hde
  · obtain ⟨q, rfl⟩ := Nat.exists_eq_add_of_le hde
    rw [ksum_scale d q l h, Nat.pow_add, Nat.mul_comm] at h2
    exact Nat.le_of_mul_le_mul_right h2 (Nat.two_pow_pos q)
  · obtain ⟨q, rfl⟩ := Nat.exists_eq_add_of_le hde
    rw [ksum_scale e q l h1, Nat.pow_add, Nat.mul_comm]
    exact Nat.mul_le_mul_right _ h2
/-- The two deepest may be as deep. -/
theorem Kr.level {m1 m2 : Nat} {r : List Nat} (k : Kr (m1 :: m2 :: r)) (h1 : m2 ≤ m1) (h2 : ∀ x ∈ r, x ≤ m2) : 2 + ksum m2 r ≤ 2 ^ m2 := by
  have hk := k.at_ m1 (fun x hx => by
    rcases List.mem_cons.1 hx with rfl | hx
    · exact Nat.le_refl _
    · rcases List.mem_cons.1 hx with rfl | hx
      · exact h1
      · exact Nat.le_trans (h2 x hx) h1)
  obtain ⟨q, rfl⟩ := Nat.exists_eq_add_of_le h1
  have hs := ksum_scale m2 q r h2
  simp only [ksum, hs, Nat.sub_self, Nat.pow_zero, show m2 + q - m2 = q by omega] at hk
  rw [Nat.pow_add] at hk
  have hq := Nat.two_pow_pos q
  generalize 2 ^ q = Q at *
  generalize 2 ^ m2 = M at *
  generalize ksum m2 r = S at *
  have : Q * (1 + S) + 1 ≤ Q * M := by rw [Nat.mul_add, Nat.mul_one, Nat.mul_comm Q M]; omega
  have : Q * (1 + S) < Q * M := by omega
  have := Nat.lt_of_mul_lt_mul_left this
  omega
theorem Kr.merge {m2 : Nat} {r : List Nat} (h : 2 + ksum m2 r ≤ 2 ^ m2) (h2 : ∀ x ∈ r, x ≤ m2) : 1 ≤ m2 ∧ Kr (r ++ [m2 - 1]) := by
  have h0 : 1 ≤ m2 := by
    rcases Nat.eq_zero_or_pos m2 with rfl | h'
    · simp at h; omega
    · exact h'
  refine ⟨h0, m2, fun x hx => ?_, ?_⟩
  · rcases List.mem_append.1 hx with hx | hx
    · exact h2 x hx
    · simp at hx; omega
  · rw [ksum_append]
    have : m2 - (m2 - 1) = 1 := by omega
    simp only [ksum, this]
    omega

def ins (x : Nat) : List Nat → List Nat
  | [] => [x]
  | y :: t => if x ≤ y then x :: y :: t else y :: ins x t
def isort : List Nat → List Nat
  | [] => []
  | x :: t => ins x (isort t)
theorem ins_perm (x : Nat) : ∀ t, (ins x t).Perm (x :: t)
  | [] => .refl _
  | y :: t => by
    unfold ins
    split
    · exact .refl _
    · exact ((ins_perm x t).cons y).trans (.swap x y t)
theorem isort_perm : ∀ l, (isort l).Perm l
  | [] => .refl _
  | x :: t => (ins_perm x _).trans ((isort_perm t).cons x)
theorem ins_sorted (x : Nat) : ∀ t, t.Pairwise (· ≤ ·) → (ins x t).Pairwise (· ≤ ·)
  | [], _ => by simp [ins]
  | y :: t, h => by
    have h1 := List.pairwise_cons.1 h
    unfold ins
    by_cases hx : x ≤ y
    · rw [if_pos hx]
      refine List.pairwise_cons.2 ⟨fun z hz => ?_, h⟩
      rcases List.mem_cons.1 hz with rfl | hz
      · exact hx
      · exact Nat.le_trans hx (h1.1 z hz)
    · rw [if_neg hx]
      refine List.pairwise_cons.2 ⟨fun z hz => ?_, ins_sorted x t h1.2⟩
      rcases List.mem_cons.1 ((ins_perm x t).subset hz) with rfl | hz
      · omega
      · exact h1.1 z hz
theorem isort_sorted : ∀ l, (isort l).Pairwise (· ≤ ·)
  | [] => .nil
  | x :: t => ins_sorted x _ (isort_sorted t)
theorem isort_eq {a b : List Nat} (h : a.Perm b) : isort a = isort b :=
  uniq (· ≤ ·) _ _ ((isort_perm a).trans (h.trans (isort_perm b).symm)) (isort_sorted a) (isort_sorted b) (fun x _ y _ h1 h2 => Nat.le_antisymm h1 h2)
theorem isort_id {a : List Nat} (h : a.Pairwise (· ≤ ·)) : isort a = a :=
  uniq (· ≤ ·) _ _ (isort_perm a) (isort_sorted a) h (fun x _ y _ h1 h2 => Nat.le_antisymm h1 h2)

def insP (p : Nat × Nat) : List (Nat × Nat) → List (Nat × Nat)
  | [] => [p]
  | q :: t => if p.1 ≤ q.1 then p :: q :: t else q :: insP p t
def psort : List (Nat × Nat) → List (Nat × Nat)
  | [] => []
  | x :: t => insP x (psort t)
theorem insP_perm (x : Nat × Nat) : ∀ t, (insP x t).Perm (x :: t)
  | [] => .refl _
  | y :: t => by
    unfold insP
    split
    · exact .refl _
    · exact ((insP_perm x t).cons y).trans (.swap x y t)
theorem psort_perm : ∀ l, (psort l).Perm l
  | [] => .refl _
  | x :: t => (insP_perm x _).trans ((psort_perm t).cons x)
theorem insP_fst (p : Nat × Nat) : ∀ t, (insP p t).map (·.1) = ins p.1 (t.map (·.1))
  | [] => rfl
  | q :: t => by
    unfold insP
    simp only [List.map_cons, ins]
    split
    · rfl
    · simp [insP_fst p t]
theorem psort_fst : ∀ l, (psort l).map (·.1) = isort (l.map (·.1))
  | [] => rfl
  | x :: t => by simp only [psort, insP_fst, psort_fst t, List.map_cons, isort]

def costp : List (Nat × Nat) → Nat
  | [] => 0
  | p :: t => p.1 * p.2 + costp t
theorem costp_perm {a b : List (Nat × Nat)} (h : a.Perm b) : costp a = costp b := by
  induction h with
  | nil => rfl
  | cons x _ ih => simp [costp, ih]
  | swap x y l => simp [costp]; omega
  | trans _ _ i1 i2 => exact i1.trans i2
theorem costp_append : ∀ a b, costp (a ++ b) = costp a + costp b
  | [], b => by simp [costp]
  | x :: a, b => by simp [costp, costp_append a b]; omega
theorem costp_dot : ∀ l : List (Nat × Nat), costp l = dot (l.map (·.1)) (l.map (·.2))
  | [] => rfl
  | p :: t => by simp [costp, dot, costp_dot t]
theorem costp_zip : ∀ a b : List Nat, costp (a.zip b) = dot a b
  | [], b => by cases b <;> rfl
  | x :: a, [] => rfl
  | x :: a, y :: b => by simp [costp, dot, costp_zip a b]

/-- What joining the two least, again and again, costs. -/
def hcs : Nat → List Nat → Nat
  | 0, _ => 0
  | n + 1, l => match isort l with
    | a :: b :: t => (a + b) + hcs n (t ++ [a + b])
    | _ => 0

/-- The greatest first. -/
def dsort (l : List Nat) : List Nat := (isort l).reverse
theorem dsort_perm (l : List Nat) : (dsort l).Perm l := (List.reverse_perm _).trans (isort_perm l)
theorem dsort_sorted (l : List Nat) : (dsort l).Pairwise (· ≥ ·) := List.pairwise_reverse.2 (isort_sorted l)

/-- HUFFMAN: no lengths for which there is room cost less. -/
theorem huffman : ∀ (n : Nat) (ps : List (Nat × Nat)), ps.length = n + 1 → Kr (ps.map (·.2)) → hcs n (ps.map (·.1)) ≤ costp ps := by
  intro n
  induction n with
  | zero => intro ps _ _; exact Nat.zero_le _
  | succ n ih =>
    intro ps hl hk
    have hp := psort_perm ps
    have hf := psort_fst ps
    have hlen : (psort ps).length = n + 2 := by rw [hp.length_eq, hl]
    rw [← costp_perm hp, costp_dot]
    have hk' : Kr ((psort ps).map (·.2)) := hk.perm (hp.symm.map _)
    have hs : ((psort ps).map (·.1)).Pairwise (· ≤ ·) := by rw [hf]; exact isort_sorted _
    unfold hcs
    rw [← hf]
    generalize psort ps = qs at *
    generalize hws : qs.map (·.1) = ws at *
    generalize hls : qs.map (·.2) = ls at *
    have l1 : ws.length = n + 2 := by rw [← hws, List.length_map]; exact hlen
    have l2 : ls.length = n + 2 := by rw [← hls, List.length_map]; exact hlen
    have hr := rearr (dsort ls) ws ls hs (dsort_sorted ls) (dsort_perm ls).symm (by rw [(dsort_perm ls).length_eq]; omega)
    have hk2 : Kr (dsort ls) := hk'.perm (dsort_perm ls).symm
    have hd := dsort_sorted ls
    have l3 : (dsort ls).length = n + 2 := by rw [(dsort_perm ls).length_eq]; exact l2
    generalize dsort ls = ds at *
    match ws, ds, l1, l3, hs, hr, hk2, hd with
    | a :: b :: t, m1 :: m2 :: r, l1, l3, hs, hr, hk2, hd =>
      have d1 := List.pairwise_cons.1 hd
      have d2 := List.pairwise_cons.1 d1.2
      have h12 : m2 ≤ m1 := d1.1 m2 List.mem_cons_self
      have hlev := hk2.level h12 d2.1
      obtain ⟨hm, hkr⟩ := Kr.merge hlev d2.1
      have lt : t.length = n := by simpa using l1
      have lr : r.length = n := by simpa using l3
      have hi := ih (t.zip r ++ [(a + b, m2 - 1)]) (by simp [lt, lr]) (by
        rw [List.map_append, List.map_snd_zip (by omega)]
        exact hkr)
      rw [List.map_append, List.map_fst_zip (by omega), costp_append, costp_zip] at hi
      simp only [dot] at hr
      simp only [costp, List.map_cons, List.map_nil] at hi
      have e1 : a * m2 ≤ a * m1 := Nat.mul_le_mul_left a h12
      have e2 : (a + b) * m2 = (a + b) * (m2 - 1) + (a + b) := by
        conv => lhs; rw [show m2 = (m2 - 1) + 1 by omega]
        rw [Nat.mul_add, Nat.mul_one]
      rw [Nat.add_mul] at e2
      show (a + b) + hcs n (t ++ [a + b]) ≤ _
      omega
end

section
set_option linter.unusedVariables false

theorem fold_num' (l : List Bool) : ∀ a, l.foldl (fun n b => 2 * n + b.toNat) a = a * 2 ^ l.length + num l := by
  induction l with
  | nil => intro a; simp [num]
  | cons b l ih =>
    intro a
    rw [List.foldl_cons, ih]
    have : num (b :: l) = b.toNat * 2 ^ l.length + num l := by unfold num; rw [List.foldl_cons, ih]; simp [num]
    rw [this, List.length_cons, Nat.pow_succ, Nat.add_mul, Nat.mul_comm 2 a, Nat.mul_assoc, Nat.mul_comm 2 (2 ^ l.length), Nat.add_assoc]
theorem num_app (a b : List Bool) : num (a ++ b) = num a * 2 ^ b.length + num b := by
  unfold num; rw [List.foldl_append, fold_num']; rfl
theorem num_inj {a b : List Bool} (hl : a.length = b.length) (h : num a = num b) : a = b := by
  induction a generalizing b with
  | nil => exact (List.eq_nil_of_length_eq_zero hl.symm).symm
  | cons x a ih =>
    cases b with
    | nil => simp at hl
    | cons y b =>
      have e1 : num (x :: a) = x.toNat * 2 ^ a.length + num a := by have := num_app [x] a; simpa [num] using this
      have e2 : num (y :: b) = y.toNat * 2 ^ b.length + num b := by have := num_app [y] b; simpa [num] using this
      have hl' : a.length = b.length := by simpa using hl
      have l1 := num_lt a
      have l2 := num_lt b
      rw [e1, e2, hl'] at h
      rw [hl'] at l1
      have : x = y := by
        cases x <;> cases y <;> simp at h ⊢ <;> omega
      subst this
      rw [ih hl' (by omega)]
theorem nb_nm (l : List Bool) : nb (num l) l.length = l := num_inj (nb_length _ _) (by rw [num_nb, Nat.mod_eq_of_lt (num_lt l)])
/-- What begins with bits, said by numbers. -/
theorem num_take (l : List Bool) (k : Nat) (h : k ≤ l.length) : num (l.take k) = num l / 2 ^ (l.length - k) := by
  have e := num_app (l.take k) (l.drop k)
  rw [List.take_append_drop, List.length_drop] at e
  have l1 := num_lt (l.drop k)
  rw [List.length_drop] at l1
  rw [e, Nat.mul_comm, Nat.mul_add_div (Nat.two_pow_pos _), Nat.div_eq_of_lt l1, Nat.add_zero]
theorem prefix_num (a b : List Bool) : a <+: b ↔ a.length ≤ b.length ∧ num a = num b / 2 ^ (b.length - a.length) := by
  constructor
  · intro h
    have hl := h.length_le
    refine ⟨hl, ?_⟩
    rw [← num_take b _ hl, ← List.prefix_iff_eq_take.1 h]
  · rintro ⟨hl, h⟩
    rw [List.prefix_iff_eq_take]
    exact num_inj (by simp; omega) (by rw [num_take _ _ hl]; exact h)

/-! ### Codes by lengths -/
def tk (w : Nat) : Nat := if w = 0 then 0 else 2 ^ (24 - w)
def tkn : List Nat → Nat
  | [] => 0
  | w :: l => tk w + tkn l
theorem tkn_append : ∀ a b, tkn (a ++ b) = tkn a + tkn b
  | [], b => by simp [tkn]
  | x :: a, b => by simp [tkn, tkn_append a b]; omega
theorem tkn_reverse : ∀ a, tkn a.reverse = tkn a
  | [] => rfl
  | x :: a => by simp [tkn, tkn_append, tkn_reverse a]; omega
theorem tk_le (w : Nat) : tk w ≤ 2 ^ 23 := by
  unfold tk; split
  · exact Nat.zero_le _
  · exact Nat.pow_le_pow_right (by omega) (by omega)

/-- A sign and its length; and the number that its code is. -/
abbrev Wd := Nat × Nat
def uws : Nat → List Nat → List Wd
  | _, [] => []
  | i, w :: l => if w = 0 then uws (i + 1) l else (i, w) :: uws (i + 1) l
def wle (a b : Wd) : Prop := a.2 < b.2 ∨ (a.2 = b.2 ∧ a.1 ≤ b.1)
instance (a b : Wd) : Decidable (wle a b) := by unfold wle; exact inferInstance
def wins (x : Wd) : List Wd → List Wd
  | [] => [x]
  | y :: t => if wle x y then x :: y :: t else y :: wins x t
def wsort : List Wd → List Wd
  | [] => []
  | x :: t => wins x (wsort t)
theorem wins_perm (x : Wd) : ∀ t, (wins x t).Perm (x :: t)
  | [] => .refl _
  | y :: t => by
    unfold wins
    split
    · exact .refl _
    · exact ((wins_perm x t).cons y).trans (.swap x y t)
theorem wsort_perm : ∀ l, (wsort l).Perm l
  | [] => .refl _
  | x :: t => (wins_perm x _).trans ((wsort_perm t).cons x)
theorem wle_trans {a b c : Wd} (h : wle a b) (k : wle b c) : wle a c := by unfold wle at *; omega
theorem wins_sorted (x : Wd) : ∀ t, t.Pairwise wle → (wins x t).Pairwise wle
  | [], _ => by simp [wins]
  | y :: t, h => by
    have h1 := List.pairwise_cons.1 h
    unfold wins
    by_cases hx : wle x y
    · rw [if_pos hx]
      refine List.pairwise_cons.2 ⟨fun z hz => ?_, h⟩
      rcases List.mem_cons.1 hz with rfl | hz
      · exact hx
      · exact wle_trans hx (h1.1 z hz)
    · rw [if_neg hx]
      refine List.pairwise_cons.2 ⟨fun z hz => ?_, wins_sorted x t h1.2⟩
      rcases List.mem_cons.1 ((wins_perm x t).subset hz) with rfl | hz
      · unfold wle at *; omega
      · exact h1.1 z hz
theorem wsort_sorted : ∀ l, (wsort l).Pairwise wle
  | [] => .nil
  | x :: t => wins_sorted x _ (wsort_sorted t)
theorem wle_anti {a b : Wd} (h : wle a b) (k : wle b a) : a = b := by
  unfold wle at *
  have h1 : a.1 = b.1 := by omega
  have h2 : a.2 = b.2 := by omega
  exact Prod.ext h1 h2
theorem wsort_uniq {a l : List Wd} (h : a.Perm l) (hs : a.Pairwise wle) : a = wsort l :=
  uniq wle _ _ (h.trans (wsort_perm l).symm) hs (wsort_sorted l) (fun _ _ _ _ h k => wle_anti h k)
theorem uws_mem : ∀ (l : List Nat) (i : Nat) (p : Wd), p ∈ uws i l ↔ ∃ j, p.1 = i + j ∧ l[j]? = some p.2 ∧ p.2 ≠ 0
  | [], i, p => by simp [uws]
  | w :: l, i, p => by
    have ih := uws_mem l (i + 1) p
    unfold uws
    constructor
    · intro h
      by_cases hw : w = 0
      · rw [if_pos hw] at h
        obtain ⟨j, h1, h2, h3⟩ := ih.1 h
        exact ⟨j + 1, by omega, by simpa using h2, h3⟩
      · rw [if_neg hw] at h
        rcases List.mem_cons.1 h with rfl | h
        · exact ⟨0, by simp, by simp, hw⟩
        · obtain ⟨j, h1, h2, h3⟩ := ih.1 h
          exact ⟨j + 1, by omega, by simpa using h2, h3⟩
    · rintro ⟨j, h1, h2, h3⟩
      cases j with
      | zero =>
        simp at h2
        subst h2
        rw [if_neg h3]
        exact List.mem_cons.2 (.inl (Prod.ext (by simpa using h1) rfl))
      | succ j =>
        have := ih.2 ⟨j, by omega, by simpa using h2, h3⟩
        split
        · exact this
        · exact List.mem_cons_of_mem _ this
theorem uws_sorted : ∀ (l : List Nat) (i : Nat), (uws i l).Pairwise (fun a b => a.1 < b.1)
  | [], i => .nil
  | w :: l, i => by
    unfold uws
    split
    · exact uws_sorted l (i + 1)
    · refine List.pairwise_cons.2 ⟨fun p hp => ?_, uws_sorted l (i + 1)⟩
      obtain ⟨j, h1, _, _⟩ := (uws_mem l (i + 1) p).1 hp
      simp; omega
/-- The room that words take. -/
def tot : List Wd → Nat
  | [] => 0
  | p :: t => 2 ^ (24 - p.2) + tot t
theorem tot_perm {a b : List Wd} (h : a.Perm b) : tot a = tot b := by
  induction h with
  | nil => rfl
  | cons x _ ih => simp [tot, ih]
  | swap x y l => simp [tot]; omega
  | trans _ _ i1 i2 => exact i1.trans i2
theorem tot_uws : ∀ (l : List Nat) (i : Nat), tot (uws i l) = tkn l
  | [], i => rfl
  | w :: l, i => by
    unfold uws tkn tk
    split
    · rw [tot_uws l (i + 1)]; omega
    · simp only [tot]; rw [tot_uws l (i + 1)]

/-- Words with their numbers, from a place on. -/
def wn : Nat → List Wd → List (Nat × Nat × Nat)
  | _, [] => []
  | a, p :: t => (p.1, p.2, a / 2 ^ (24 - p.2)) :: wn (a + 2 ^ (24 - p.2)) t
theorem wn_fst : ∀ (t : List Wd) (a : Nat), (wn a t).map (fun x => (x.1, x.2.1)) = t
  | [], a => rfl
  | p :: t, a => by simp [wn, wn_fst t]
theorem wn_length (t : List Wd) (a : Nat) : (wn a t).length = t.length := by
  have := congrArg List.length (wn_fst t a)
  simpa using this
def st (x : Nat × Nat × Nat) : Nat := x.2.2 * 2 ^ (24 - x.2.1)
def en (x : Nat × Nat × Nat) : Nat := (x.2.2 + 1) * 2 ^ (24 - x.2.1)
theorem en_st (x : Nat × Nat × Nat) : en x = st x + 2 ^ (24 - x.2.1) := by unfold en st; rw [Nat.add_mul, Nat.one_mul]
theorem pow_dvd {a b : Nat} (h : a ≤ b) : 2 ^ a ∣ 2 ^ b := Nat.pow_dvd_pow 2 h
theorem wn_all : ∀ (t : List Wd) (a : Nat), (∀ p ∈ t, 1 ≤ p.2 ∧ p.2 ≤ 24) → t.Pairwise (fun p q => p.2 ≤ q.2) → (∀ p ∈ t, 2 ^ (24 - p.2) ∣ a) →
    (∀ x ∈ wn a t, a ≤ st x ∧ en x ≤ a + tot t) ∧ (wn a t).Pairwise (fun x y => en x ≤ st y)
  | [], a, _, _, _ => by simp [wn]
  | p :: t, a, hb, hs, hd => by
    have h1 := List.pairwise_cons.1 hs
    have hp := hd p List.mem_cons_self
    have e0 : a / 2 ^ (24 - p.2) * 2 ^ (24 - p.2) = a := Nat.div_mul_cancel hp
    have s0 : st (p.1, p.2, a / 2 ^ (24 - p.2)) = a := e0
    have ih := wn_all t (a + 2 ^ (24 - p.2)) (fun q hq => hb q (List.mem_cons_of_mem _ hq)) h1.2 (fun q hq => Nat.dvd_add (hd q (List.mem_cons_of_mem _ hq)) (pow_dvd (by have := h1.1 q hq; omega)))
    have en0 : en (p.1, p.2, a / 2 ^ (24 - p.2)) = a + 2 ^ (24 - p.2) := by rw [en_st, s0]
    unfold wn tot
    refine ⟨fun x hx => ?_, List.pairwise_cons.2 ⟨fun y hy => ?_, ih.2⟩⟩
    · rcases List.mem_cons.1 hx with rfl | hx
      · rw [s0, en0]; omega
      · have := ih.1 x hx; omega
    · rw [en0]; exact (ih.1 y hy).1
/-- Each number is the one ahead, and one, at more bits. -/
theorem wn_step (p q : Wd) (t : List Wd) (a : Nat) (h1 : 2 ^ (24 - p.2) ∣ a) (hq : p.2 ≤ q.2) (h24 : q.2 ≤ 24) : (a + 2 ^ (24 - p.2)) / 2 ^ (24 - q.2) = (a / 2 ^ (24 - p.2) + 1) * 2 ^ (q.2 - p.2) := by
  have e : 24 - p.2 = (q.2 - p.2) + (24 - q.2) := by omega
  obtain ⟨k, rfl⟩ := h1
  rw [Nat.mul_div_cancel_left _ (Nat.two_pow_pos _)]
  have : 2 ^ (24 - p.2) * k + 2 ^ (24 - p.2) = (k + 1) * 2 ^ (q.2 - p.2) * 2 ^ (24 - q.2) := by
    rw [Nat.mul_assoc, ← Nat.pow_add, ← e, Nat.add_mul, Nat.one_mul, Nat.mul_comm k]
  rw [this, Nat.mul_div_cancel _ (Nat.two_pow_pos _)]
end

section
set_option linter.unusedVariables false

abbrev Wn := Nat × Nat × Nat
def words (l : List Nat) : List Wn := wn 0 (wsort (uws 0 l))
def code (x : Wn) : List Bool := nb x.2.2 x.2.1
theorem code_length (x : Wn) : (code x).length = x.2.1 := nb_length _ _

theorem pair_or {α : Type} {R : α → α → Prop} : ∀ {l : List α}, l.Pairwise R → ∀ {x y : α}, x ∈ l → y ∈ l → x ≠ y → R x y ∨ R y x
  | [], _, x, y, h, _, _ => by simp at h
  | a :: t, hp, x, y, hx, hy, hn => by
    have h := List.pairwise_cons.1 hp
    rcases List.mem_cons.1 hx with e1 | k1
    · rcases List.mem_cons.1 hy with e2 | k2
      · exact absurd (e1.trans e2.symm) hn
      · exact .inl (e1 ▸ h.1 y k2)
    · rcases List.mem_cons.1 hy with e2 | k2
      · exact .inr (e2 ▸ h.1 x k1)
      · exact pair_or h.2 k1 k2 hn

/-- What words of lengths are. -/
structure Words (l : List Nat) (W : List Wn) : Prop where
  mem : ∀ x ∈ W, l[x.1]? = some x.2.1 ∧ 1 ≤ x.2.1 ∧ x.2.1 ≤ 24
  has : ∀ s w, l[s]? = some w → w ≠ 0 → ∃ n, (s, w, n) ∈ W
  row : W.Pairwise (fun x y => en x ≤ st y ∧ wle (x.1, x.2.1) (y.1, y.2.1) ∧ x.1 ≠ y.1)
  top : ∀ x ∈ W, en x ≤ tkn l
theorem words_map (l : List Nat) : (words l).map (fun x => (x.1, x.2.1)) = wsort (uws 0 l) := wn_fst _ _
theorem words_ok (l : List Nat) (h24 : ∀ w ∈ l, w ≤ 24) : Words l (words l) := by
  have hp := wsort_perm (uws 0 l)
  have hs := wsort_sorted (uws 0 l)
  have hm := words_map l
  have hb : ∀ p ∈ wsort (uws 0 l), 1 ≤ p.2 ∧ p.2 ≤ 24 := by
    intro p hpp
    obtain ⟨j, h1, h2, h3⟩ := (uws_mem l 0 p).1 (hp.subset hpp)
    exact ⟨by omega, h24 _ (List.mem_of_getElem? h2)⟩
  have ha := wn_all (wsort (uws 0 l)) 0 hb (hs.imp (fun h => by unfold wle at h; omega)) (fun p _ => Nat.dvd_zero _)
  rw [tot_perm hp, tot_uws, Nat.zero_add] at ha
  have hd : (wsort (uws 0 l)).Pairwise (fun a b => a.1 ≠ b.1) :=
    (hp.symm.pairwise_iff (R := fun a b : Wd => a.1 ≠ b.1) (fun h => h.symm)).1 ((uws_sorted l 0).imp (fun h => by omega))
  have mem : ∀ x ∈ words l, (x.1, x.2.1) ∈ wsort (uws 0 l) := fun x hx => by
    rw [← hm]; exact List.mem_map_of_mem hx
  refine ⟨fun x hx => ?_, fun s w h h0 => ?_, ?_, fun x hx => (ha.1 x hx).2⟩
  · have := mem x hx
    obtain ⟨j, h1, h2, h3⟩ := (uws_mem l 0 _).1 (hp.subset this)
    have h4 := hb _ this
    simp at h1 h2 h4
    subst h1
    exact ⟨h2, h4.1, h4.2⟩
  · have : (s, w) ∈ wsort (uws 0 l) := hp.symm.subset ((uws_mem l 0 (s, w)).2 ⟨s, by simp, h, h0⟩)
    rw [← hm] at this
    obtain ⟨x, hx, e⟩ := List.mem_map.1 this
    simp only [Prod.mk.injEq] at e
    exact ⟨x.2.2, by rw [← e.1, ← e.2]; exact hx⟩
  · rw [← hm] at hs hd
    exact ha.2.and ((List.pairwise_map.1 hs).and ((List.pairwise_map (f := fun x : Wn => (x.1, x.2.1)) (R := fun a b : Wd => a.1 ≠ b.1)).1 hd))

theorem words_lt {l : List Nat} {W : List Wn} (h : Words l W) (hr : tkn l ≤ 2 ^ 24) {x : Wn} (hx : x ∈ W) : x.2.2 + 1 ≤ 2 ^ x.2.1 := by
  have h1 := h.top x hx
  have h2 := (h.mem x hx).2
  unfold en at h1
  have e : 2 ^ 24 = 2 ^ x.2.1 * 2 ^ (24 - x.2.1) := by rw [← Nat.pow_add]; congr 1; omega
  rw [e] at hr
  exact Nat.le_of_mul_le_mul_right (Nat.le_trans h1 hr) (Nat.two_pow_pos _)
theorem words_num {l : List Nat} {W : List Wn} (h : Words l W) (hr : tkn l ≤ 2 ^ 24) {x : Wn} (hx : x ∈ W) : num (code x) = x.2.2 := by
  unfold code
  rw [num_nb, Nat.mod_eq_of_lt (by have := words_lt h hr hx; omega)]
theorem words_pf {l : List Nat} {W : List Wn} (h : Words l W) (hr : tkn l ≤ 2 ^ 24) {x y : Wn} (hx : x ∈ W) (hy : y ∈ W) (hxy : en x ≤ st y) : pf (code x) (code y) := by
  have nx := words_num h hr hx
  have ny := words_num h hr hy
  have bx := (h.mem x hx).2
  have by' := (h.mem y hy).2
  constructor
  · intro hp
    obtain ⟨hl, hn⟩ := (prefix_num _ _).1 hp
    rw [nx, ny, code_length, code_length] at hn
    rw [code_length, code_length] at hl
    have h1 := Nat.lt_div_mul_add (a := y.2.2) (Nat.two_pow_pos (y.2.1 - x.2.1))
    rw [← hn] at h1
    have h2 : y.2.2 < (x.2.2 + 1) * 2 ^ (y.2.1 - x.2.1) := by rw [Nat.add_mul, Nat.one_mul]; exact h1
    have h3 : st y < (x.2.2 + 1) * 2 ^ (y.2.1 - x.2.1) * 2 ^ (24 - y.2.1) := Nat.mul_lt_mul_of_pos_right h2 (Nat.two_pow_pos _)
    rw [Nat.mul_assoc, ← Nat.pow_add, show y.2.1 - x.2.1 + (24 - y.2.1) = 24 - x.2.1 by omega] at h3
    unfold en at hxy
    omega
  · intro hp
    obtain ⟨hl, hn⟩ := (prefix_num _ _).1 hp
    rw [nx, ny, code_length, code_length] at hn
    rw [code_length, code_length] at hl
    have h1 : y.2.2 * 2 ^ (x.2.1 - y.2.1) ≤ x.2.2 := by rw [hn]; exact Nat.div_mul_le_self _ _
    have h3 : y.2.2 * 2 ^ (x.2.1 - y.2.1) * 2 ^ (24 - x.2.1) ≤ x.2.2 * 2 ^ (24 - x.2.1) := Nat.mul_le_mul_right _ h1
    rw [Nat.mul_assoc, ← Nat.pow_add, show x.2.1 - y.2.1 + (24 - x.2.1) = 24 - y.2.1 by omega] at h3
    have := en_st x
    have := Nat.two_pow_pos (24 - x.2.1)
    unfold st at *
    omega
theorem words_row {l : List Nat} {W : List Wn} (h : Words l W) (hr : tkn l ≤ 2 ^ 24) {x y : Wn} (hx : x ∈ W) (hy : y ∈ W) (hn : x ≠ y) : pf (code x) (code y) := by
  rcases pair_or h.row hx hy hn with k | k
  · exact words_pf h hr hx hy k.1
  · exact pf_symm (words_pf h hr hy hx k.1)
theorem words_same {l : List Nat} {W : List Wn} (h : Words l W) {x y : Wn} (hx : x ∈ W) (hy : y ∈ W) (he : x.1 = y.1) : x = y := by
  by_cases hn : x = y
  · exact hn
  · rcases pair_or h.row hx hy hn with k | k
    · exact absurd he k.2.2
    · exact absurd he.symm k.2.2

/-! ### The code of each sign -/
def codOf (W : List Wn) (s : Nat) : List Bool := match W.find? (fun x => x.1 == s) with
  | some x => code x
  | none => []
def codes (l : List Nat) : List (List Bool) := (List.range l.length).map (codOf (words l))
theorem codes_length (l : List Nat) : (codes l).length = l.length := by simp [codes]
theorem codOf_mem {l : List Nat} {W : List Wn} (h : Words l W) {x : Wn} (hx : x ∈ W) : codOf W x.1 = code x := by
  unfold codOf
  cases hf : W.find? (fun y => y.1 == x.1) with
  | none => have := List.find?_eq_none.1 hf x hx; simp at this
  | some y =>
    have h1 := List.find?_some hf
    have h2 := List.mem_of_find?_eq_some hf
    rw [words_same h h2 hx (by simpa using h1)]
theorem codOf_none {l : List Nat} {W : List Wn} (h : Words l W) {s : Nat} (hs : ∀ w, l[s]? = some w → w = 0) : codOf W s = [] := by
  unfold codOf
  cases hf : W.find? (fun y => y.1 == s) with
  | none => rfl
  | some y =>
    have h1 := List.find?_some hf
    have h2 := h.mem y (List.mem_of_find?_eq_some hf)
    have e : y.1 = s := by simpa using h1
    rw [e] at h2
    have := hs _ h2.1
    omega
theorem codOf_len {l : List Nat} {W : List Wn} (h : Words l W) {s : Nat} (hs : s < l.length) : (codOf W s).length = l[s]?.getD 0 := by
  have e : l[s]? = some l[s] := List.getElem?_eq_getElem hs
  by_cases h0 : l[s] = 0
  · rw [codOf_none h (fun w hw => by rw [e] at hw; cases hw; exact h0), e]; simp [h0]
  · obtain ⟨n, hn⟩ := h.has s _ e h0
    rw [codOf_mem h hn, code_length, e]; rfl
theorem codes_get (l : List Nat) {s : Nat} (hs : s < l.length) : (codes l)[s]?.getD [] = codOf (words l) s := by
  unfold codes
  rw [List.getElem?_map, List.getElem?_range hs]; rfl

/-! ### Which sign stands there -/
def sgn (left : List Bool) : List Wn → Nat × Nat × Int
  | [] => (0, 0, 5)
  | x :: t => if num (left.take (min x.2.1 left.length)) = x.2.2 / 2 ^ (x.2.1 - min x.2.1 left.length) then (if min x.2.1 left.length < x.2.1 then (0, 0, 7) else (x.1, x.2.1, 0)) else sgn left t
def hit (left : List Bool) (x : Wn) : Prop := code x <+: left ∨ left <+: code x
theorem hit_iff {left : List Bool} {x : Wn} (hn : num (code x) = x.2.2) : num (left.take (min x.2.1 left.length)) = x.2.2 / 2 ^ (x.2.1 - min x.2.1 left.length) ↔ hit left x := by
  unfold hit
  rw [prefix_num, prefix_num, code_length, hn]
  rcases Nat.le_total x.2.1 left.length with h | h
  · rw [Nat.min_eq_left h, Nat.sub_self, Nat.pow_zero, Nat.div_one, num_take _ _ h]
    constructor
    · intro e; exact .inl ⟨h, e.symm⟩
    · rintro (⟨_, e⟩ | ⟨h2, e⟩)
      · exact e.symm
      · have : x.2.1 = left.length := by omega
        rw [this] at e ⊢
        simpa using e
  · rw [Nat.min_eq_right h, List.take_length]
    constructor
    · intro e; exact .inr ⟨h, e⟩
    · rintro (⟨h2, e⟩ | ⟨_, e⟩)
      · have : x.2.1 = left.length := by omega
        rw [this] at e ⊢
        simpa using e.symm
      · exact e
theorem sgn_found {l : List Nat} {V : List Wn} (h : Words l V) (hr : tkn l ≤ 2 ^ 24) {left : List Bool} {x : Wn} (hx : code x <+: left) : ∀ W : List Wn, (∀ y ∈ W, y ∈ V) → x ∈ W → sgn left W = (x.1, x.2.1, 0)
  | [], _, hm => by simp at hm
  | y :: t, hs, hm => by
    have hy := hs y List.mem_cons_self
    have hxV := hs x hm
    have ny := words_num h hr hy
    have hl := hx.length_le
    rw [code_length] at hl
    unfold sgn
    by_cases he : x = y
    · subst he
      rw [if_pos ((hit_iff ny).2 (.inl hx)), if_neg (by omega)]
    · have hp := words_row h hr hxV hy he
      rw [if_neg (fun k => by
        rcases (hit_iff ny).1 k with k | k
        · rcases Nat.le_total (code x).length (code y).length with hle | hle
          · exact hp.1 (List.prefix_of_prefix_length_le hx k hle)
          · exact hp.2 (List.prefix_of_prefix_length_le k hx hle)
        · exact hp.1 (hx.trans k))]
      rcases List.mem_cons.1 hm with e | hm
      · exact absurd e he
      · exact sgn_found h hr hx t (fun z hz => hs z (List.mem_cons_of_mem _ hz)) hm
theorem sgn_cases {l : List Nat} {V : List Wn} (h : Words l V) (hr : tkn l ≤ 2 ^ 24) (left : List Bool) : ∀ W : List Wn, (∀ y ∈ W, y ∈ V) →
    (∃ x ∈ W, code x <+: left ∧ sgn left W = (x.1, x.2.1, 0)) ∨ (∃ x ∈ W, left <+: code x ∧ left.length < x.2.1 ∧ sgn left W = (0, 0, 7)) ∨ ((∀ x ∈ W, ¬ hit left x) ∧ sgn left W = (0, 0, 5))
  | [], _ => .inr (.inr ⟨by simp, rfl⟩)
  | y :: t, hs => by
    have ny := words_num h hr (hs y List.mem_cons_self)
    unfold sgn
    by_cases hh : hit left y
    · rw [if_pos ((hit_iff ny).2 hh)]
      by_cases hl : min y.2.1 left.length < y.2.1
      · rw [if_pos hl]
        refine .inr (.inl ⟨y, List.mem_cons_self, ?_, by omega, rfl⟩)
        rcases hh with k | k
        · have := k.length_le; rw [code_length] at this; omega
        · exact k
      · rw [if_neg hl]
        refine .inl ⟨y, List.mem_cons_self, ?_, rfl⟩
        rcases hh with k | k
        · exact k
        · have h1 := k.length_le
          rw [code_length] at h1
          rw [k.eq_of_length (by rw [code_length]; omega)]
          exact List.prefix_refl _
    · rw [if_neg (fun k => hh ((hit_iff ny).1 k))]
      rcases sgn_cases h hr left t (fun z hz => hs z (List.mem_cons_of_mem _ hz)) with ⟨x, h1, h2⟩ | ⟨x, h1, h2⟩ | ⟨h1, h2⟩
      · exact .inl ⟨x, List.mem_cons_of_mem _ h1, h2⟩
      · exact .inr (.inl ⟨x, List.mem_cons_of_mem _ h1, h2⟩)
      · refine .inr (.inr ⟨fun x hx => ?_, h2⟩)
        rcases List.mem_cons.1 hx with rfl | hx
        · exact hh
        · exact h1 x hx

/-! ### Where no room is left -/
theorem wn_cover : ∀ (t : List Wd) (a v : Nat), (∀ p ∈ t, 2 ^ (24 - p.2) ∣ a) → t.Pairwise (fun p q => p.2 ≤ q.2) → a ≤ v → v < a + tot t → ∃ x ∈ wn a t, st x ≤ v ∧ v < en x
  | [], a, v, _, _, h1, h2 => by simp [tot] at h2; omega
  | p :: t, a, v, hd, hs, h1, h2 => by
    have e0 : a / 2 ^ (24 - p.2) * 2 ^ (24 - p.2) = a := Nat.div_mul_cancel (hd p List.mem_cons_self)
    have s0 : st (p.1, p.2, a / 2 ^ (24 - p.2)) = a := e0
    have hp := List.pairwise_cons.1 hs
    by_cases hv : v < a + 2 ^ (24 - p.2)
    · refine ⟨(p.1, p.2, a / 2 ^ (24 - p.2)), List.mem_cons_self, ?_, ?_⟩
      · rw [s0]; exact h1
      · rw [en_st, s0]; exact hv
    · unfold tot at h2
      obtain ⟨x, hx, h⟩ := wn_cover t (a + 2 ^ (24 - p.2)) v (fun q hq => Nat.dvd_add (hd q (List.mem_cons_of_mem _ hq)) (pow_dvd (by have := hp.1 q hq; omega))) hp.2 (by omega) (by omega)
      exact ⟨x, List.mem_cons_of_mem _ hx, h⟩
theorem full_hit (l : List Nat) (h24 : ∀ w ∈ l, w ≤ 24) (hr : tkn l = 2 ^ 24) (left : List Bool) : ∃ x ∈ words l, hit left x ∧ (24 ≤ left.length → code x <+: left) := by
  have h := words_ok l h24
  have hp := wsort_perm (uws 0 l)
  have key : ∀ v, v < 2 ^ 24 → ∃ x ∈ words l, st x ≤ v ∧ v < en x := fun v hv =>
    wn_cover _ 0 v (fun _ _ => Nat.dvd_zero _) ((wsort_sorted _).imp (fun h => by unfold wle at h; omega)) (Nat.zero_le _) (by rw [tot_perm hp, tot_uws, hr]; omega)
  have quot : ∀ x : Wn, ∀ v, st x ≤ v → v < en x → v / 2 ^ (24 - x.2.1) = x.2.2 := fun x v h1 h2 => by
    unfold st at h1; unfold en at h2
    exact Nat.div_eq_of_lt_le h1 (by exact h2)
  rcases Nat.lt_or_ge left.length 24 with hl | hl
  · have hv : num left * 2 ^ (24 - left.length) < 2 ^ 24 := by
      have := Nat.mul_lt_mul_of_pos_right (num_lt left) (Nat.two_pow_pos (24 - left.length))
      rwa [← Nat.pow_add, show left.length + (24 - left.length) = 24 by omega] at this
    obtain ⟨x, hx, h1, h2⟩ := key _ hv
    have hq := quot x _ h1 h2
    have hn := words_num h (by omega) hx
    have hb := (h.mem x hx).2
    refine ⟨x, hx, ?_, fun h => by omega⟩
    unfold hit
    rw [prefix_num, prefix_num, code_length, hn]
    rcases Nat.le_total x.2.1 left.length with hw | hw
    · refine .inl ⟨hw, ?_⟩
      rw [← hq, show 24 - x.2.1 = (left.length - x.2.1) + (24 - left.length) by omega, Nat.pow_add, Nat.mul_div_mul_right _ _ (Nat.two_pow_pos _)]
    · refine .inr ⟨hw, ?_⟩
      rw [← hq, show 24 - left.length = (x.2.1 - left.length) + (24 - x.2.1) by omega, Nat.pow_add, ← Nat.mul_assoc, Nat.mul_div_cancel _ (Nat.two_pow_pos _), Nat.mul_div_cancel _ (Nat.two_pow_pos _)]
  · have hv := num_lt (left.take 24)
    have hlen : (left.take 24).length = 24 := by simp; omega
    rw [hlen] at hv
    obtain ⟨x, hx, h1, h2⟩ := key _ hv
    have hq := quot x _ h1 h2
    have hn := words_num h (by omega) hx
    have hb := (h.mem x hx).2
    have : code x <+: left.take 24 := (prefix_num _ _).2 ⟨by rw [code_length]; omega, by rw [hn, hlen, code_length]; exact hq.symm⟩
    have := this.trans (List.take_prefix 24 left)
    exact ⟨x, hx, .inl this, fun _ => this⟩
theorem ones_miss (l : List Nat) (h24 : ∀ w ∈ l, w ≤ 24) (hr : tkn l < 2 ^ 24) : sgn (List.replicate 24 true) (words l) = (0, 0, 5) := by
  have h := words_ok l h24
  have hn : num (List.replicate 24 true) = 2 ^ 24 - 1 := by decide
  have miss : ∀ x ∈ words l, ¬ hit (List.replicate 24 true) x := by
    intro x hx hh
    have hb := (h.mem x hx).2
    have nx := words_num h (by omega) hx
    have ht := h.top x hx
    have hp : code x <+: List.replicate 24 true := by
      rcases hh with k | k
      · exact k
      · have h1 := k.length_le
        rw [code_length, List.length_replicate] at h1
        rw [k.eq_of_length (by rw [code_length, List.length_replicate]; omega)]
        exact List.prefix_refl _
    have e := ((prefix_num _ _).1 hp).2
    rw [nx, hn, List.length_replicate, code_length] at e
    have h2 := Nat.lt_div_mul_add (a := 2 ^ 24 - 1) (Nat.two_pow_pos (24 - x.2.1))
    rw [← e] at h2
    unfold en at ht
    rw [Nat.add_mul, Nat.one_mul] at ht
    omega
  rcases sgn_cases h (by omega) (List.replicate 24 true) (words l) (fun y hy => hy) with ⟨x, h1, h2, _⟩ | ⟨x, h1, h2, _⟩ | ⟨_, h2⟩
  · exact absurd (.inl h2) (miss x h1)
  · exact absurd (.inr h2) (miss x h1)
  · exact h2
end

section
set_option linter.unusedVariables false

/-- A group: its weight, its least sign, its signs. -/
abbrev Gp := Nat × Nat × List Nat
def gle (a b : Gp) : Prop := a.1 < b.1 ∨ (a.1 = b.1 ∧ a.2.1 ≤ b.2.1)
instance (a b : Gp) : Decidable (gle a b) := by unfold gle; exact inferInstance
def gins (x : Gp) : List Gp → List Gp
  | [] => [x]
  | y :: t => if gle x y then x :: y :: t else y :: gins x t
def gsort : List Gp → List Gp
  | [] => []
  | x :: t => gins x (gsort t)
theorem gins_perm (x : Gp) : ∀ t, (gins x t).Perm (x :: t)
  | [] => .refl _
  | y :: t => by
    unfold gins
    split
    · exact .refl _
    · exact ((gins_perm x t).cons y).trans (.swap x y t)
theorem gsort_perm : ∀ l, (gsort l).Perm l
  | [] => .refl _
  | x :: t => (gins_perm x _).trans ((gsort_perm t).cons x)
theorem gle_trans {a b c : Gp} (h : gle a b) (k : gle b c) : gle a c := by unfold gle at *; omega
theorem gins_sorted (x : Gp) : ∀ t, t.Pairwise gle → (gins x t).Pairwise gle
  | [], _ => by simp [gins]
  | y :: t, h => by
    have h1 := List.pairwise_cons.1 h
    unfold gins
    by_cases hx : gle x y
    · rw [if_pos hx]
      refine List.pairwise_cons.2 ⟨fun z hz => ?_, h⟩
      rcases List.mem_cons.1 hz with rfl | hz
      · exact hx
      · exact gle_trans hx (h1.1 z hz)
    · rw [if_neg hx]
      refine List.pairwise_cons.2 ⟨fun z hz => ?_, gins_sorted x t h1.2⟩
      rcases List.mem_cons.1 ((gins_perm x t).subset hz) with rfl | hz
      · unfold gle at *; omega
      · exact h1.1 z hz
theorem gsort_sorted : ∀ l, (gsort l).Pairwise gle
  | [] => .nil
  | x :: t => gins_sorted x _ (gsort_sorted t)
theorem gsort_wt (l : List Gp) : isort (l.map (·.1)) = (gsort l).map (·.1) := by
  rw [isort_eq (((gsort_perm l).map (·.1)).symm)]
  exact isort_id (List.pairwise_map.2 ((gsort_sorted l).imp (fun h => by unfold gle at h; omega)))

def usd : Nat → List Nat → List Nat
  | _, [] => []
  | i, n :: t => if n = 0 then usd (i + 1) t else i :: usd (i + 1) t
def groups : Nat → List Nat → List Gp
  | _, [] => []
  | i, n :: t => if n = 0 then groups (i + 1) t else (n, i, [i]) :: groups (i + 1) t
def joinG (a b : Gp) : Gp := (a.1 + b.1, min a.2.1 b.2.1, a.2.2 ++ b.2.2)
def bump (L : Nat → Nat) (S : List Nat) : Nat → Nat := fun s => L s + S.count s
def hrun : Nat → List Gp → (Nat → Nat) → (Nat → Nat)
  | 0, _, L => L
  | n + 1, gs, L => match gsort gs with
    | a :: b :: r => hrun n (r ++ [joinG a b]) (bump L (a.2.2 ++ b.2.2))
    | _ => L
def lens (os : List Nat) : Nat → Nat := match groups 0 os with
  | [g] => fun s => if s = g.2.1 then 1 else 0
  | gs => hrun (gs.length - 1) gs (fun _ => 0)
def hl (os : List Nat) : List Nat := (List.range os.length).map (lens os)
theorem hl_length (os : List Nat) : (hl os).length = os.length := by simp [hl]

def flat (gs : List Gp) : List Nat := gs.flatMap (·.2.2)
theorem flat_perm {a b : List Gp} (h : a.Perm b) : (flat a).Perm (flat b) := h.flatMap_right _
theorem flat_groups : ∀ (os : List Nat) (i : Nat), flat (groups i os) = usd i os
  | [], i => rfl
  | n :: t, i => by
    unfold groups usd
    split
    · exact flat_groups t (i + 1)
    · have := flat_groups t (i + 1)
      unfold flat at *
      simp [this]
theorem usd_mem : ∀ (os : List Nat) (i s : Nat), s ∈ usd i os ↔ ∃ j, s = i + j ∧ ∃ n, os[j]? = some n ∧ n ≠ 0
  | [], i, s => by simp [usd]
  | m :: t, i, s => by
    have ih := usd_mem t (i + 1) s
    unfold usd
    constructor
    · intro h
      by_cases hm : m = 0
      · rw [if_pos hm] at h
        obtain ⟨j, h1, h2⟩ := ih.1 h
        exact ⟨j + 1, by omega, by simpa using h2⟩
      · rw [if_neg hm] at h
        rcases List.mem_cons.1 h with rfl | h
        · exact ⟨0, by simp, m, by simp, hm⟩
        · obtain ⟨j, h1, h2⟩ := ih.1 h
          exact ⟨j + 1, by omega, by simpa using h2⟩
    · rintro ⟨j, h1, n, h2, h3⟩
      cases j with
      | zero =>
        simp at h2
        subst h2
        rw [if_neg h3]
        exact List.mem_cons.2 (.inl (by simpa using h1))
      | succ j =>
        have := ih.2 ⟨j, by omega, n, by simpa using h2, h3⟩
        split
        · exact this
        · exact List.mem_cons_of_mem _ this
theorem usd_sorted : ∀ (os : List Nat) (i : Nat), (usd i os).Pairwise (· < ·)
  | [], i => .nil
  | m :: t, i => by
    unfold usd
    split
    · exact usd_sorted t (i + 1)
    · refine List.pairwise_cons.2 ⟨fun s hs => ?_, usd_sorted t (i + 1)⟩
      obtain ⟨j, h1, _⟩ := (usd_mem t (i + 1) s).1 hs
      omega
theorem usd_nodup (os : List Nat) : (usd 0 os).Nodup := (usd_sorted os 0).imp (fun h => by omega)

/-- Groups that are right: weights are those of their signs. -/
def osum (o : Nat → Nat) : List Nat → Nat
  | [] => 0
  | s :: t => o s + osum o t
theorem osum_append (o : Nat → Nat) : ∀ a b, osum o (a ++ b) = osum o a + osum o b
  | [], b => by simp [osum]
  | x :: a, b => by simp [osum, osum_append o a b]; omega
/-- A sum over the first ones. -/
def sumN (f : Nat → Nat) : Nat → Nat
  | 0 => 0
  | n + 1 => sumN f n + f n
theorem sumN_add (f g : Nat → Nat) : ∀ n, sumN (fun s => f s + g s) n = sumN f n + sumN g n
  | 0 => rfl
  | n + 1 => by simp [sumN, sumN_add f g n]; omega
theorem sumN_zero (f : Nat → Nat) : ∀ n, (∀ s, s < n → f s = 0) → sumN f n = 0
  | 0, _ => rfl
  | n + 1, h => by simp [sumN, sumN_zero f n (fun s hs => h s (by omega)), h n (by omega)]
theorem sumN_one (f : Nat → Nat) (x : Nat) : ∀ n, (∀ s, s < n → s ≠ x → f s = 0) → x < n → sumN f n = f x
  | 0, _, h => by omega
  | n + 1, h, hx => by
    unfold sumN
    by_cases e : x = n
    · subst e; rw [sumN_zero f x (fun s hs => h s (by omega) (by omega)), Nat.zero_add]
    · rw [sumN_one f x n (fun s hs hn => h s (by omega) hn) (by omega), h n (by omega) (fun e' => e e'.symm)]; rfl
theorem sumN_count (o : Nat → Nat) (m : Nat) : ∀ S : List Nat, (∀ s ∈ S, s < m) → sumN (fun s => o s * S.count s) m = osum o S
  | [], _ => sumN_zero _ _ (fun s _ => by simp)
  | x :: t, h => by
    have ih := sumN_count o m t (fun s hs => h s (List.mem_cons_of_mem _ hs))
    have e : (fun s => o s * (x :: t).count s) = fun s => o s * t.count s + (if s = x then o s else 0) := by
      funext s
      rw [List.count_cons]
      by_cases hs : s = x
      · subst hs; simp [Nat.mul_add]
      · have : (x == s) = false := by simpa using fun e => hs e.symm
        simp [hs, this]
    rw [e, sumN_add, ih, sumN_one _ x m (fun s _ hs => by simp [hs]) (h x List.mem_cons_self)]
    simp [osum]; omega
theorem hrun_cost (o : Nat → Nat) (m : Nat) : ∀ (n : Nat) (gs : List Gp) (L : Nat → Nat), gs.length = n + 1 → (∀ g ∈ gs, g.1 = osum o g.2.2) → (∀ s ∈ flat gs, s < m) →
    sumN (fun s => o s * hrun n gs L s) m = sumN (fun s => o s * L s) m + hcs n (gs.map (·.1))
  | 0, gs, L, _, _, _ => rfl
  | n + 1, gs, L, hl, hw, hm => by
    have hp := gsort_perm gs
    unfold hrun hcs
    rw [gsort_wt]
    have hlen := hp.length_eq
    have hw' : ∀ g ∈ gsort gs, g.1 = osum o g.2.2 := fun g hg => hw g (hp.subset hg)
    have hm' : ∀ s ∈ flat (gsort gs), s < m := fun s hs => hm s ((flat_perm hp).subset hs)
    generalize gsort gs = ss at *
    match ss, hlen, hw', hm' with
    | [], h, _, _ => simp at h; omega
    | [_], h, _, _ => simp at h; omega
    | a :: b :: r, h, hw', hm' =>
      have wa := hw' a List.mem_cons_self
      have wb := hw' b (List.mem_cons_of_mem _ List.mem_cons_self)
      have ma : ∀ s ∈ a.2.2 ++ b.2.2, s < m := fun s hs => hm' s (by simp [flat]; rcases List.mem_append.1 hs with h | h <;> simp [h])
      have ih := hrun_cost o m n (r ++ [joinG a b]) (bump L (a.2.2 ++ b.2.2)) (by simp at h ⊢; omega) (fun g hg => by
        rcases List.mem_append.1 hg with hg | hg
        · exact hw' g (List.mem_cons_of_mem _ (List.mem_cons_of_mem _ hg))
        · have : g = joinG a b := by simpa using hg
          subst this
          simp only [joinG, osum_append]; omega) (fun s hs => by
        unfold flat at hs
        rw [List.flatMap_append] at hs
        rcases List.mem_append.1 hs with hs | hs
        · exact hm' s (by simp [flat] at hs ⊢; exact .inr (.inr hs))
        · exact ma s (by simpa [joinG] using hs))
      show sumN (fun s => o s * hrun n (r ++ [joinG a b]) (bump L (a.2.2 ++ b.2.2)) s) m = _
      rw [ih]
      have e : sumN (fun s => o s * bump L (a.2.2 ++ b.2.2) s) m = sumN (fun s => o s * L s) m + (a.1 + b.1) := by
        have : (fun s => o s * bump L (a.2.2 ++ b.2.2) s) = fun s => o s * L s + o s * (a.2.2 ++ b.2.2).count s := by funext s; unfold bump; rw [Nat.mul_add]
        rw [this, sumN_add, sumN_count o m _ ma, osum_append, wa, wb]
      rw [e]
      simp only [List.map_append, List.map_cons, List.map_nil, joinG]
      omega

/-- Signs fill all room. -/
def full (L : Nat → Nat) (S : List Nat) : Prop := ∀ d, (∀ s ∈ S, L s ≤ d) → ksum d (S.map L) = 2 ^ d
theorem full_congr {L L' : Nat → Nat} {S : List Nat} (h : full L S) (e : ∀ s ∈ S, L' s = L s) : full L' S := fun d hd => by
  rw [List.map_congr_left e]
  exact h d (fun s hs => by rw [← e s hs]; exact hd s hs)
theorem full_perm {L : Nat → Nat} {S T : List Nat} (h : full L S) (p : S.Perm T) : full L T := fun d hd => by
  rw [← ksum_perm d (p.map L)]
  exact h d (fun s hs => hd s (p.subset hs))
theorem full_ne {L : Nat → Nat} {S : List Nat} (h : full L S) : S ≠ [] := by
  rintro rfl
  have := h 0 (by simp)
  simp [ksum] at this
theorem full_join {L L' : Nat → Nat} {A B : List Nat} (ha : full L A) (hb : full L B) (e : ∀ s ∈ A ++ B, L' s = L s + 1) : full L' (A ++ B) := by
  intro d hd
  obtain ⟨x, hx⟩ := List.exists_mem_of_ne_nil _ (full_ne ha)
  have h1 := hd x (List.mem_append_left _ hx)
  rw [e x (List.mem_append_left _ hx)] at h1
  obtain ⟨c, rfl⟩ : ∃ c, d = c + 1 := ⟨d - 1, by omega⟩
  have key : ∀ S : List Nat, (∀ s ∈ S, L' s = L s + 1) → ksum (c + 1) (S.map L') = ksum c (S.map L) := by
    intro S hS
    induction S with
    | nil => rfl
    | cons s t ih =>
      simp only [List.map_cons, ksum, ih (fun s hs => hS s (List.mem_cons_of_mem _ hs)), hS s List.mem_cons_self]
      rw [show c + 1 - (L s + 1) = c - L s by omega]
  have hle : ∀ s ∈ A ++ B, L s ≤ c := fun s hs => by have := hd s hs; rw [e s hs] at this; omega
  rw [List.map_append, ksum_append, key A (fun s hs => e s (List.mem_append_left _ hs)), key B (fun s hs => e s (List.mem_append_right _ hs)), ha c (fun s hs => hle s (List.mem_append_left _ hs)), hb c (fun s hs => hle s (List.mem_append_right _ hs)), Nat.pow_succ]
  omega
theorem hrun_full : ∀ (n : Nat) (gs : List Gp) (L : Nat → Nat), gs.length = n + 1 → (flat gs).Nodup → (∀ g ∈ gs, full L g.2.2) → full (hrun n gs L) (flat gs)
  | 0, gs, L, hl, _, hf => by
    match gs, hl with
    | [g], _ => unfold hrun; simpa [flat] using hf g List.mem_cons_self
  | n + 1, gs, L, hl, hn, hf => by
    have hp := gsort_perm gs
    have hlen := hp.length_eq
    have hn' : (flat (gsort gs)).Nodup := (flat_perm hp).nodup_iff.2 hn
    have hf' : ∀ g ∈ gsort gs, full L g.2.2 := fun g hg => hf g (hp.subset hg)
    refine full_perm ?_ (flat_perm hp)
    unfold hrun
    generalize gsort gs = ss at *
    match ss, hlen, hn', hf' with
    | [], h, _, _ => simp at h; omega
    | [_], h, _, _ => simp at h; omega
    | a :: b :: r, h, hn', hf' =>
      have e0 : flat (a :: b :: r) = (a.2.2 ++ b.2.2) ++ flat r := by simp [flat]
      have e1 : flat (r ++ [joinG a b]) = flat r ++ (a.2.2 ++ b.2.2) := by simp [flat, joinG]
      have hpm : (flat (r ++ [joinG a b])).Perm (flat (a :: b :: r)) := by rw [e0, e1]; exact List.perm_append_comm
      rw [e0] at hn'
      have nd := List.nodup_append.1 hn'
      have cnt : ∀ s ∈ a.2.2 ++ b.2.2, bump L (a.2.2 ++ b.2.2) s = L s + 1 := fun s hs => by unfold bump; rw [List.Nodup.count nd.1, if_pos hs]
      have cnt0 : ∀ s ∈ flat r, bump L (a.2.2 ++ b.2.2) s = L s := fun s hs => by
        unfold bump
        rw [List.count_eq_zero.2 (fun h => nd.2.2 s h s hs rfl)]; rfl
      refine full_perm (hrun_full n (r ++ [joinG a b]) _ (by simp at h ⊢; omega) ?_ (fun g hg => ?_)) hpm
      · rw [hpm.nodup_iff, e0]; exact hn'
      · rcases List.mem_append.1 hg with hg | hg
        · exact full_congr (hf' g (List.mem_cons_of_mem _ (List.mem_cons_of_mem _ hg))) (fun s hs => cnt0 s (List.mem_flatMap.2 ⟨g, hg, hs⟩))
        · have : g = joinG a b := by simpa using hg
          subst this
          exact full_join (hf' a List.mem_cons_self) (hf' b (List.mem_cons_of_mem _ List.mem_cons_self)) cnt
theorem hrun_ge : ∀ (n : Nat) (gs : List Gp) (L : Nat → Nat) (s : Nat), L s ≤ hrun n gs L s
  | 0, gs, L, s => Nat.le_refl _
  | n + 1, gs, L, s => by
    unfold hrun
    generalize gsort gs = ss
    match ss with
    | [] => exact Nat.le_refl _
    | [_] => exact Nat.le_refl _
    | a :: b :: r => exact Nat.le_trans (Nat.le_add_right _ _) (hrun_ge n _ (bump L (a.2.2 ++ b.2.2)) s)
theorem hrun_pos : ∀ (n : Nat) (gs : List Gp) (L : Nat → Nat) (s : Nat), gs.length = n + 2 → s ∈ flat gs → 1 ≤ hrun (n + 1) gs L s
  | n, gs, L, s, hl, hs => by
    have hp := gsort_perm gs
    have hlen := hp.length_eq
    have hs' : s ∈ flat (gsort gs) := (flat_perm hp).symm.subset hs
    unfold hrun
    generalize gsort gs = ss at *
    match ss, hlen, hs' with
    | [], h, _ => simp at h; omega
    | [_], h, _ => simp at h; omega
    | a :: b :: r, h, hs' =>
      show 1 ≤ hrun n (r ++ [joinG a b]) (bump L (a.2.2 ++ b.2.2)) s
      by_cases hc : s ∈ a.2.2 ++ b.2.2
      · refine Nat.le_trans ?_ (hrun_ge n _ _ s)
        unfold bump
        have := List.count_pos_iff.2 hc
        omega
      · have hr : s ∈ flat r := by
          simp only [flat, List.flatMap_cons] at hs'
          rw [← List.append_assoc] at hs'
          rcases List.mem_append.1 hs' with h | h
          · exact absurd h hc
          · exact h
        cases n with
        | zero =>
          have : r = [] := List.eq_nil_of_length_eq_zero (by simp at h; omega)
          subst this
          simp [flat] at hr
        | succ n => exact hrun_pos n _ _ s (by simp at h ⊢; omega) (by simp [flat] at hr ⊢; exact .inl hr)
theorem hrun_out : ∀ (n : Nat) (gs : List Gp) (L : Nat → Nat) (s : Nat), s ∉ flat gs → hrun n gs L s = L s
  | 0, gs, L, s, _ => rfl
  | n + 1, gs, L, s, hs => by
    have hp := gsort_perm gs
    have hs' : s ∉ flat (gsort gs) := fun h => hs ((flat_perm hp).subset h)
    unfold hrun
    generalize gsort gs = ss at *
    match ss, hs' with
    | [], _ => rfl
    | [_], _ => rfl
    | a :: b :: r, hs' =>
      have hc : s ∉ a.2.2 ++ b.2.2 := fun h => hs' (by simp only [flat, List.flatMap_cons]; rw [← List.append_assoc]; exact List.mem_append_left _ h)
      show hrun n (r ++ [joinG a b]) (bump L (a.2.2 ++ b.2.2)) s = L s
      rw [hrun_out n _ _ s (fun h => hs' (by
        simp only [flat, List.flatMap_append, List.flatMap_cons, List.flatMap_nil, List.append_nil, joinG] at h ⊢
        rw [← List.append_assoc]
        rcases List.mem_append.1 h with h | h
        · exact List.mem_append_right _ h
        · exact List.mem_append_left _ h))]
      unfold bump
      rw [List.count_eq_zero.2 hc]; rfl
end

section
set_option linter.unusedVariables false

/-- Those that stand, with their lengths. -/
def sel : List Nat → List Nat → List (Nat × Nat)
  | o :: os, l :: ls => if o = 0 then sel os ls else (o, l) :: sel os ls
  | _, _ => []
theorem sel_cost : ∀ os ls, costp (sel os ls) = dot os ls
  | [], ls => rfl
  | o :: os, [] => rfl
  | o :: os, l :: ls => by
    unfold sel dot
    split
    · rename_i h; rw [h, sel_cost os ls]; simp
    · simp [costp, sel_cost os ls]
theorem sel_fst : ∀ (os ls : List Nat) (i : Nat), os.length = ls.length → (sel os ls).map (·.1) = (groups i os).map (·.1)
  | [], ls, i, _ => rfl
  | o :: os, [], i, h => by simp at h
  | o :: os, l :: ls, i, h => by
    unfold sel groups
    split
    · exact sel_fst os ls (i + 1) (by simpa using h)
    · simp [sel_fst os ls (i + 1) (by simpa using h)]
theorem sel_room : ∀ os ls, os.length = ls.length → (∀ i o l : Nat, os[i]? = some o → ls[i]? = some l → o ≠ 0 → l ≠ 0) → ksum 24 ((sel os ls).map (·.2)) ≤ tkn ls
  | [], ls, _, _ => Nat.zero_le _
  | o :: os, [], h, _ => by simp at h
  | o :: os, l :: ls, h, h0 => by
    have ih := sel_room os ls (by simpa using h) (fun i o l h1 h2 => h0 (i + 1) o l (by simpa using h1) (by simpa using h2))
    unfold sel tkn
    split
    · omega
    · rename_i ho
      have := h0 0 o l rfl rfl ho
      simp only [List.map_cons, ksum, tk, if_neg this]
      omega
theorem sel_mem : ∀ (os ls : List Nat) (p : Nat × Nat), p ∈ sel os ls → p.2 ∈ ls
  | [], ls, p, h => by simp [sel] at h
  | o :: os, [], p, h => by simp [sel] at h
  | o :: os, l :: ls, p, h => by
    unfold sel at h
    split at h
    · exact List.mem_cons_of_mem _ (sel_mem os ls p h)
    · rcases List.mem_cons.1 h with rfl | h
      · exact List.mem_cons_self
      · exact List.mem_cons_of_mem _ (sel_mem os ls p h)

/-- How many stand. -/
def stand (os : List Nat) : Nat := (groups 0 os).length
theorem usd_stand (os : List Nat) : (usd 0 os).length = stand os := by
  have : ∀ (os : List Nat) (i : Nat), (usd i os).length = (groups i os).length := by
    intro os
    induction os with
    | nil => intro i; rfl
    | cons o t ih => intro i; unfold usd groups; split <;> simp [ih]
  exact this os 0

def oAt (os : List Nat) (s : Nat) : Nat := os[s]?.getD 0
theorem usd_pos (os : List Nat) (s : Nat) : s ∈ usd 0 os ↔ oAt os s ≠ 0 := by
  rw [usd_mem]
  unfold oAt
  constructor
  · rintro ⟨j, rfl, n, h1, h2⟩
    rw [Nat.zero_add, h1]; exact h2
  · intro h
    cases e : os[s]? with
    | none => rw [e] at h; simp at h
    | some n => rw [e] at h; exact ⟨s, by simp, n, e, h⟩
theorem groups_osum : ∀ (os : List Nat) (i : Nat) (f : Nat → Nat), (∀ j, f (i + j) = os[j]?.getD 0) → ∀ g ∈ groups i os, g.1 = osum f g.2.2
  | [], i, f, _, g, h => by simp [groups] at h
  | o :: t, i, f, hf, g, h => by
    have ih := groups_osum t (i + 1) f (fun j => by have := hf (j + 1); rw [show i + (j + 1) = i + 1 + j by omega] at this; simpa using this)
    unfold groups at h
    split at h
    · exact ih g h
    · rcases List.mem_cons.1 h with rfl | h
      · have := hf 0
        simp [osum] at this ⊢
        exact this.symm
      · exact ih g h
theorem groups_one : ∀ (os : List Nat) (i : Nat), ∀ g ∈ groups i os, g.2.2 = [g.2.1]
  | [], i, g, h => by simp [groups] at h
  | o :: t, i, g, h => by
    unfold groups at h
    split at h
    · exact groups_one t (i + 1) g h
    · rcases List.mem_cons.1 h with rfl | h
      · rfl
      · exact groups_one t (i + 1) g h
theorem dot_sumN : ∀ (os ls : List Nat), os.length = ls.length → dot os ls = sumN (fun s => oAt os s * oAt ls s) os.length := by
  intro os ls h
  have shift : ∀ (f : Nat → Nat) n, sumN f (n + 1) = f 0 + sumN (fun s => f (s + 1)) n := by
    intro f n
    induction n with
    | zero => simp [sumN]
    | succ n ih => rw [sumN, ih]; simp [sumN]; omega
  induction os generalizing ls with
  | nil => rfl
  | cons o t ih =>
    cases ls with
    | nil => simp at h
    | cons l t' =>
      rw [List.length_cons, shift]
      simp only [dot]
      rw [ih t' (by simpa using h)]
      simp [oAt]
theorem hl_at (os : List Nat) {s : Nat} (hs : s < os.length) : oAt (hl os) s = lens os s := by
  unfold oAt hl
  rw [List.getElem?_map, List.getElem?_range hs]; rfl
theorem lens_one (os : List Nat) (g : Gp) (h : groups 0 os = [g]) : lens os = fun s => if s = g.2.1 then 1 else 0 := by unfold lens; rw [h]
theorem lens_many (os : List Nat) (h : stand os ≠ 1) : lens os = hrun (stand os - 1) (groups 0 os) (fun _ => 0) := by
  unfold lens stand at *
  match hg : groups 0 os, h with
  | [], _ => rfl
  | [_], h => simp at h
  | _ :: _ :: _, _ => rfl
theorem oAt_lt {os : List Nat} {s : Nat} (h : oAt os s ≠ 0) : s < os.length := by
  rcases Nat.lt_or_ge s os.length with h' | h'
  · exact h'
  · unfold oAt at h; rw [List.getElem?_eq_none h'] at h; simp at h
/-- Who stands has bits; who never stands has none. -/
theorem lens_pos (os : List Nat) (s : Nat) : lens os s ≠ 0 ↔ oAt os s ≠ 0 := by
  have hf := flat_groups os 0
  rw [← usd_pos]
  by_cases h1 : stand os = 1
  · obtain ⟨g, hg⟩ := List.length_eq_one_iff.1 h1
    rw [lens_one os g hg]
    have : usd 0 os = [g.2.1] := by
      rw [← hf, hg]
      have := groups_one os 0 g (by rw [hg]; exact List.mem_cons_self)
      simp [flat, this]
    rw [this]
    by_cases hs : s = g.2.1 <;> simp [hs]
  · rw [lens_many os h1]
    by_cases hs : s ∈ usd 0 os
    · have h0 : stand os ≠ 0 := by
        rw [← usd_stand]
        intro h
        rw [List.eq_nil_of_length_eq_zero h] at hs
        simp at hs
      obtain ⟨n, hn⟩ : ∃ n, stand os = n + 2 := ⟨stand os - 2, by omega⟩
      have := hrun_pos n (groups 0 os) (fun _ => 0) s hn (by rw [hf]; exact hs)
      rw [hn]
      simp only [hs, iff_true]
      show hrun (n + 1) _ _ s ≠ 0
      omega
    · rw [hrun_out _ _ _ s (by rw [hf]; exact hs)]
      simp [hs]
/-- Where two stand, or more, no room is left. -/
theorem lens_full (os : List Nat) (h2 : 2 ≤ stand os) : full (lens os) (usd 0 os) := by
  rw [lens_many os (by omega), ← flat_groups os 0]
  refine hrun_full _ _ _ (by unfold stand at *; omega) (by rw [flat_groups]; exact usd_nodup os) (fun g hg => ?_)
  rw [groups_one os 0 g hg]
  intro d hd
  simp [ksum]
/-- What the lengths cost. -/
theorem hl_cost (os : List Nat) (h2 : stand os ≠ 1) : dot os (hl os) = hcs (stand os - 1) ((groups 0 os).map (·.1)) := by
  rw [dot_sumN os (hl os) (hl_length os).symm]
  have e : sumN (fun s => oAt os s * oAt (hl os) s) os.length = sumN (fun s => oAt os s * lens os s) os.length := by
    have : ∀ n, n ≤ os.length → sumN (fun s => oAt os s * oAt (hl os) s) n = sumN (fun s => oAt os s * lens os s) n := by
      intro n
      induction n with
      | zero => intro _; rfl
      | succ n ih => intro hn; simp only [sumN]; rw [ih (by omega), hl_at os (by omega)]
    exact this _ (Nat.le_refl _)
  rw [e, lens_many os h2]
  by_cases h0 : stand os = 0
  · have hg : groups 0 os = [] := List.eq_nil_of_length_eq_zero h0
    rw [h0, hg]
    exact sumN_zero _ _ (fun s _ => rfl)
  · have := hrun_cost (oAt os) os.length (stand os - 1) (groups 0 os) (fun _ => 0) (by unfold stand at *; omega) (groups_osum os 0 (oAt os) (fun j => by rw [Nat.zero_add]; rfl)) (fun s hs => by
      rw [flat_groups, usd_pos] at hs
      exact oAt_lt hs)
    rw [this, sumN_zero _ _ (fun s _ => Nat.mul_zero _), Nat.zero_add]
/-- HUFFMAN: no lengths for which there is room cost less. -/
theorem least (os ls : List Nat) (hlen : os.length = ls.length) (h0 : ∀ i o l : Nat, os[i]? = some o → ls[i]? = some l → o ≠ 0 → l ≠ 0) (h24 : ∀ l ∈ ls, l ≤ 24) (hr : tkn ls ≤ 2 ^ 24) : dot os (hl os) ≤ dot os ls := by
  have hsf := sel_fst os ls 0 hlen
  have hl1 : (sel os ls).length = stand os := by have := congrArg List.length hsf; simpa [stand] using this
  rw [← sel_cost os ls]
  by_cases h1 : stand os = 1
  · obtain ⟨g, hg⟩ := List.length_eq_one_iff.1 h1
    rw [hg] at hsf
    obtain ⟨p, hp⟩ := List.length_eq_one_iff.1 (hl1.trans h1)
    rw [← sel_cost os (hl os)]
    have hsf2 := sel_fst os (hl os) 0 (hl_length os).symm
    rw [hg] at hsf2
    have hl2 : (sel os (hl os)).length = 1 := by have := congrArg List.length hsf2; simpa using this
    obtain ⟨q, hq⟩ := List.length_eq_one_iff.1 hl2
    rw [hp] at hsf
    rw [hq] at hsf2
    rw [hp, hq]
    simp at hsf hsf2
    have hq2 : q.2 ≤ 1 := by
      have : q.2 ∈ hl os := sel_mem os (hl os) q (by rw [hq]; exact List.mem_cons_self)
      unfold hl at this
      obtain ⟨s, _, e⟩ := List.mem_map.1 this
      rw [lens_one os g hg] at e
      rw [← e]
      by_cases hs : s = g.2.1 <;> simp [hs]
    have hp2 : p.2 ≠ 0 := by
      have key : ∀ (os ls : List Nat), (∀ i o l : Nat, os[i]? = some o → ls[i]? = some l → o ≠ 0 → l ≠ 0) → ∀ p ∈ sel os ls, p.2 ≠ 0 := by
        intro os
        induction os with
        | nil => intro ls _ p hp; simp [sel] at hp
        | cons o t ih =>
          intro ls h p hp
          cases ls with
          | nil => simp [sel] at hp
          | cons l t' =>
            have ih' := ih t' (fun i o l h1 h2 => h (i + 1) o l (by simpa using h1) (by simpa using h2))
            unfold sel at hp
            by_cases ho : o = 0
            · rw [if_pos ho] at hp; exact ih' p hp
            · rw [if_neg ho] at hp
              rcases List.mem_cons.1 hp with rfl | hp
              · exact h 0 o l rfl rfl ho
              · exact ih' p hp
      exact key os ls h0 p (by rw [hp]; exact List.mem_cons_self)
    simp only [costp]
    rw [hsf, hsf2]
    have := Nat.mul_le_mul_left g.1 (show q.2 ≤ p.2 by omega)
    omega
  · rw [hl_cost os h1, ← hsf]
    by_cases hs0 : stand os = 0
    · rw [hs0]; exact Nat.zero_le _
    · exact huffman (stand os - 1) (sel os ls) (by omega) ⟨24, fun x hx => by
        obtain ⟨p, hp, rfl⟩ := List.mem_map.1 hx
        exact h24 _ (sel_mem os ls p hp), Nat.le_trans (sel_room os ls hlen h0) hr⟩

/-- Room that lengths take, said by those that stand. -/
theorem tkn_range (L : Nat → Nat) (os : List Nat) (h : ∀ s, s < os.length → (L s ≠ 0 ↔ oAt os s ≠ 0)) : tkn ((List.range os.length).map L) = ksum 24 ((usd 0 os).map L) := by
  have key : ∀ (t : List Nat) (i : Nat), (∀ j, j < t.length → (L (i + j) ≠ 0 ↔ t[j]?.getD 0 ≠ 0)) → tkn ((List.range' i t.length).map L) = ksum 24 ((usd i t).map L) := by
    intro t
    induction t with
    | nil => intro i _; rfl
    | cons o t ih =>
      intro i h
      have h' := ih (i + 1) (fun j hj => by have := h (j + 1) (by simp; omega); rw [show i + (j + 1) = i + 1 + j by omega] at this; simpa using this)
      have h0 := h 0 (by simp)
      simp only [Nat.add_zero, List.getElem?_cons_zero, Option.getD_some] at h0
      rw [List.length_cons, List.range'_succ, List.map_cons]
      unfold usd tkn tk
      rw [h']
      by_cases ho : o = 0
      · rw [if_pos ho, if_pos (by omega)]; omega
      · rw [if_neg ho, if_neg (h0.2 ho)]
        simp [ksum]
  rw [List.range_eq_range']
  exact key os 0 (fun j hj => by rw [Nat.zero_add]; exact h j hj)
theorem hl_room2 (os : List Nat) (h2 : 2 ≤ stand os) (h24 : ∀ l ∈ hl os, l ≤ 24) : tkn (hl os) = 2 ^ 24 := by
  unfold hl
  rw [tkn_range (lens os) os (fun s _ => lens_pos os s)]
  exact lens_full os h2 24 (fun s hs => by
    have hlt := oAt_lt ((usd_pos os s).1 hs)
    have : lens os s ∈ hl os := List.mem_map.2 ⟨s, List.mem_range.2 hlt, rfl⟩
    exact h24 _ this)
theorem hl_room1 (os : List Nat) (h2 : stand os = 1) : tkn (hl os) = 2 ^ 23 := by
  unfold hl
  rw [tkn_range (lens os) os (fun s _ => lens_pos os s)]
  obtain ⟨g, hg⟩ := List.length_eq_one_iff.1 h2
  have : usd 0 os = [g.2.1] := by
    rw [← flat_groups os 0, hg]
    have := groups_one os 0 g (by rw [hg]; exact List.mem_cons_self)
    simp [flat, this]
  rw [this, lens_one os g hg]
  simp [ksum]
theorem hl_room0 (os : List Nat) (h2 : stand os = 0) : tkn (hl os) = 0 := by
  unfold hl
  rw [tkn_range (lens os) os (fun s _ => lens_pos os s)]
  have : usd 0 os = [] := List.eq_nil_of_length_eq_zero (by rw [usd_stand]; exact h2)
  rw [this]; rfl
theorem hl_room (os : List Nat) (h24 : ∀ l ∈ hl os, l ≤ 24) : tkn (hl os) ≤ 2 ^ 24 := by
  rcases (show stand os = 0 ∨ stand os = 1 ∨ 2 ≤ stand os by omega) with h | h | h
  · rw [hl_room0 os h]; exact Nat.zero_le _
  · rw [hl_room1 os h]; decide
  · rw [hl_room2 os h h24]; exact Nat.le_refl _
theorem hl_pos (os : List Nat) : ∀ i o l : Nat, os[i]? = some o → (hl os)[i]? = some l → (o ≠ 0 ↔ l ≠ 0) := by
  intro i o l h1 h2
  have h3 := lens_pos os i
  have hlt : i < os.length := (List.getElem?_eq_some_iff.1 h1).1
  rw [← hl_at os hlt] at h3
  unfold oAt at h3
  rw [h1, h2] at h3
  exact h3.symm

/-! ### What follows -/
theorem dot_set : ∀ (os ls : List Nat) (i v : Nat), i < os.length → i < ls.length → dot os (ls.set i v) + oAt os i * oAt ls i = dot os ls + oAt os i * v
  | [], ls, i, v, h, _ => by simp at h
  | o :: os, [], i, v, _, h => by simp at h
  | o :: os, l :: ls, 0, v, _, _ => by simp [dot, oAt]; omega
  | o :: os, l :: ls, i + 1, v, h1, h2 => by
    have ih := dot_set os ls i v (by simpa using h1) (by simpa using h2)
    simp only [List.set_cons_succ, dot, oAt, List.getElem?_cons_succ] at ih ⊢
    omega
theorem tkn_set : ∀ (ls : List Nat) (i v : Nat), i < ls.length → tkn (ls.set i v) + tk (oAt ls i) = tkn ls + tk v
  | [], i, v, h => by simp at h
  | l :: ls, 0, v, _ => by simp [tkn, oAt]; omega
  | l :: ls, i + 1, v, h => by
    have ih := tkn_set ls i v (by simpa using h)
    simp only [List.set_cons_succ, tkn, oAt, List.getElem?_cons_succ] at ih ⊢
    omega
theorem oAt_set (ls : List Nat) (i v j : Nat) (hi : i < ls.length) : oAt (ls.set i v) j = if j = i then v else oAt ls j := by
  unfold oAt
  rw [List.getElem?_set]
  by_cases h : i = j
  · subst h; simp [hi]
  · rw [if_neg h, if_neg (fun e => h e.symm)]
/-- WHO STANDS MORE OFTEN HAS NO MORE BITS. -/
theorem often_le (os : List Nat) (h24 : ∀ l ∈ hl os, l ≤ 24) (s t : Nat) (hs : s < os.length) (ht : t < os.length) (h : oAt os t < oAt os s) (h0 : oAt os t ≠ 0) : oAt (hl os) s ≤ oAt (hl os) t := by
  rcases Nat.lt_or_ge (oAt (hl os) t) (oAt (hl os) s) with hlt | hge
  · exfalso
    have hst : s ≠ t := by rintro rfl; omega
    have ll := hl_length os
    have hs' : s < (hl os).length := by omega
    have ht' : t < (hl os).length := by omega
    have h1 := dot_set os (hl os) s (oAt (hl os) t) hs hs'
    have h2 := dot_set os ((hl os).set s (oAt (hl os) t)) t (oAt (hl os) s) ht (by simpa using ht')
    have k1 := tkn_set (hl os) s (oAt (hl os) t) hs'
    have k2 := tkn_set ((hl os).set s (oAt (hl os) t)) t (oAt (hl os) s) (by simpa using ht')
    rw [oAt_set _ _ _ _ hs', if_neg (fun e => hst e.symm)] at h2 k2
    have m1 : oAt (hl os) s ∈ hl os := by unfold oAt; rw [List.getElem?_eq_getElem hs']; exact List.getElem_mem hs'
    have m2 : oAt (hl os) t ∈ hl os := by unfold oAt; rw [List.getElem?_eq_getElem ht']; exact List.getElem_mem ht'
    have hroom := hl_room os h24
    have hle := least os (((hl os).set s (oAt (hl os) t)).set t (oAt (hl os) s)) (by simp [ll]) (fun i o l e1 e2 ho => by
      have p : ∀ i, oAt os i ≠ 0 → oAt (hl os) i ≠ 0 := fun i hi => by rw [hl_at os (oAt_lt hi)]; exact (lens_pos os i).2 hi
      have e3 : l = oAt (((hl os).set s (oAt (hl os) t)).set t (oAt (hl os) s)) i := by unfold oAt at e2 ⊢; rw [e2]; rfl
      rw [e3, oAt_set _ _ _ _ (by simpa using ht'), oAt_set _ _ _ _ hs']
      have e4 : oAt os i = o := by unfold oAt; rw [e1]; rfl
      split
      · exact p s (by omega)
      · split
        · exact p t h0
        · exact p i (by omega)) (fun l hl' => by
      rcases List.mem_or_eq_of_mem_set hl' with hl' | rfl
      · rcases List.mem_or_eq_of_mem_set hl' with hl' | rfl
        · exact h24 l hl'
        · exact h24 _ m2
      · exact h24 _ m1) (by omega)
    generalize dot os (((hl os).set s (oAt (hl os) t)).set t (oAt (hl os) s)) = D2 at *
    generalize dot os ((hl os).set s (oAt (hl os) t)) = D1 at *
    clear k1 k2 m1 m2
    obtain ⟨d, hd⟩ := Nat.exists_eq_add_of_lt h
    obtain ⟨e, he⟩ := Nat.exists_eq_add_of_lt hlt
    rw [hd, he] at h1
    rw [he] at h2
    simp only [Nat.add_mul, Nat.mul_add, Nat.mul_one, Nat.one_mul] at h1 h2
    omega
  · exact hge
/-- WHERE ALL STAND SO MANY TIMES AS OFTEN the lengths are the same. -/
def scale (k : Nat) (g : Gp) : Gp := (k * g.1, g.2)
theorem gle_scale (k : Nat) (hk : 1 ≤ k) (a b : Gp) : gle (scale k a) (scale k b) ↔ gle a b := by
  unfold gle scale
  simp only
  rw [Nat.mul_lt_mul_left hk, Nat.mul_right_inj (by omega)]
theorem gins_scale (k : Nat) (hk : 1 ≤ k) (x : Gp) : ∀ t, gins (scale k x) (t.map (scale k)) = (gins x t).map (scale k)
  | [] => rfl
  | y :: t => by
    simp only [List.map_cons, gins, gle_scale k hk]
    split
    · rfl
    · simp [gins_scale k hk x t]
theorem gsort_scale (k : Nat) (hk : 1 ≤ k) : ∀ l, gsort (l.map (scale k)) = (gsort l).map (scale k)
  | [] => rfl
  | x :: t => by simp only [List.map_cons, gsort, gsort_scale k hk t, gins_scale k hk]
theorem hrun_scale (k : Nat) (hk : 1 ≤ k) : ∀ n gs L, hrun n (gs.map (scale k)) L = hrun n gs L
  | 0, gs, L => rfl
  | n + 1, gs, L => by
    unfold hrun
    rw [gsort_scale k hk]
    generalize gsort gs = ss
    match ss with
    | [] => rfl
    | [_] => rfl
    | a :: b :: r =>
      show hrun n (r.map (scale k) ++ [joinG (scale k a) (scale k b)]) (bump L (a.2.2 ++ b.2.2)) = hrun n (r ++ [joinG a b]) (bump L (a.2.2 ++ b.2.2))
      have e : r.map (scale k) ++ [joinG (scale k a) (scale k b)] = (r ++ [joinG a b]).map (scale k) := by simp [joinG, scale, Nat.mul_add]
      rw [e, hrun_scale k hk n]
theorem groups_scale (k : Nat) (hk : 1 ≤ k) : ∀ (os : List Nat) (i : Nat), groups i (os.map (k * ·)) = (groups i os).map (scale k)
  | [], i => rfl
  | o :: t, i => by
    unfold groups
    simp only [List.map_cons]
    have : k * o = 0 ↔ o = 0 := by
      constructor
      · intro h
        rcases Nat.mul_eq_zero.1 h with h | h
        · omega
        · exact h
      · intro h; rw [h]; rfl
    by_cases ho : o = 0
    · rw [if_pos (this.2 ho), if_pos ho, groups_scale k hk t]
    · rw [if_neg (fun h => ho (this.1 h)), if_neg ho, groups_scale k hk t]; rfl
theorem hl_scale (k : Nat) (hk : 1 ≤ k) (os : List Nat) : hl (os.map (k * ·)) = hl os := by
  have : lens (os.map (k * ·)) = lens os := by
    unfold lens
    rw [groups_scale k hk]
    match groups 0 os with
    | [] => rfl
    | [g] => rfl
    | a :: b :: t => 
      show hrun _ ((a :: b :: t).map (scale k)) _ = _
      rw [hrun_scale k hk]; simp
  unfold hl
  rw [this, List.length_map]
theorem dot_scale (k : Nat) : ∀ os ls : List Nat, dot (os.map (k * ·)) ls = k * dot os ls
  | [], ls => rfl
  | o :: os, [] => rfl
  | o :: os, l :: ls => by simp only [List.map_cons, dot, dot_scale k os ls, Nat.mul_add, Nat.mul_assoc]
/-- WHICHEVER SIGN COMES FIRST all cost as much. -/
theorem dot_snoc : ∀ (os ls : List Nat) (o l : Nat), os.length = ls.length → dot (os ++ [o]) (ls ++ [l]) = dot os ls + o * l
  | [], [], o, l, _ => by simp [dot]
  | [], _ :: _, o, l, h => by simp at h
  | _ :: _, [], o, l, h => by simp at h
  | a :: os, b :: ls, o, l, h => by simp only [List.cons_append, dot, dot_snoc os ls o l (by simpa using h)]; omega
theorem dot_reverse : ∀ (os ls : List Nat), os.length = ls.length → dot os.reverse ls.reverse = dot os ls
  | [], [], _ => rfl
  | [], _ :: _, h => by simp at h
  | _ :: _, [], h => by simp at h
  | a :: os, b :: ls, h => by
    have h' : os.length = ls.length := by simpa using h
    rw [List.reverse_cons, List.reverse_cons, dot_snoc _ _ _ _ (by simpa using h'), dot_reverse os ls h']
    simp only [dot]; omega
theorem turn_le (os : List Nat) (h24 : ∀ l ∈ hl os.reverse, l ≤ 24) : dot os (hl os) ≤ dot os.reverse (hl os.reverse) := by
  have e : dot os (hl os.reverse).reverse = dot os.reverse (hl os.reverse) := by
    have := dot_reverse os.reverse (hl os.reverse) (hl_length _).symm
    rwa [List.reverse_reverse] at this
  rw [← e]
  have ll := hl_length os.reverse
  rw [List.length_reverse] at ll
  refine least os _ (by rw [List.length_reverse, ll]) (fun i o l h1 h2 ho => ?_) (fun l hl' => h24 l (List.mem_reverse.1 hl')) (by rw [tkn_reverse]; exact hl_room _ h24)
  have hi : i < os.length := (List.getElem?_eq_some_iff.1 h1).1
  rw [List.getElem?_reverse (by omega)] at h2
  have h3 : os.reverse[(hl os.reverse).length - 1 - i]? = some o := by
    rw [List.getElem?_reverse (by omega), ll]
    rw [show os.length - 1 - (os.length - 1 - i) = i by omega]; exact h1
  exact (hl_pos os.reverse _ o l h3 h2).1 ho
theorem turn_eq (os : List Nat) (h24 : ∀ l ∈ hl os, l ≤ 24) (h24' : ∀ l ∈ hl os.reverse, l ≤ 24) : dot os (hl os) = dot os.reverse (hl os.reverse) := by
  have h1 := turn_le os h24'
  have h2 := turn_le os.reverse (by rw [List.reverse_reverse]; exact h24)
  rw [List.reverse_reverse] at h2
  omega
/-- WHERE A SIGN STANDS ONCE MORE. -/
theorem dot_mono : ∀ (os qs ls : List Nat), os.length = qs.length → (∀ i, oAt os i ≤ oAt qs i) → dot os ls ≤ dot qs ls
  | [], [], ls, _, _ => Nat.le_refl _
  | [], _ :: _, ls, h, _ => by simp at h
  | _ :: _, [], ls, h, _ => by simp at h
  | a :: os, b :: qs, [], h, _ => Nat.le_refl _
  | a :: os, b :: qs, l :: ls, h, hle => by
    have := dot_mono os qs ls (by simpa using h) (fun i => by have := hle (i + 1); simpa [oAt] using this)
    have h0 := hle 0
    simp [oAt] at h0
    have := Nat.mul_le_mul_right l h0
    simp only [dot]; omega
theorem dot_set_l : ∀ (os ls : List Nat) (i v : Nat), i < os.length → i < ls.length → dot (os.set i v) ls + oAt os i * oAt ls i = dot os ls + v * oAt ls i
  | [], ls, i, v, h, _ => by simp at h
  | o :: os, [], i, v, _, h => by simp at h
  | o :: os, l :: ls, 0, v, _, _ => by simp [dot, oAt]; omega
  | o :: os, l :: ls, i + 1, v, h1, h2 => by
    have ih := dot_set_l os ls i v (by simpa using h1) (by simpa using h2)
    simp only [List.set_cons_succ, dot, oAt, List.getElem?_cons_succ] at ih ⊢
    omega
theorem at_some {l : List Nat} {i o : Nat} (h : l[i]? = some o) : oAt l i = o := by unfold oAt; rw [h]; rfl
theorem more_ge (os : List Nat) (i : Nat) (hi : i < os.length) (h24 : ∀ l ∈ hl (os.set i (oAt os i + 1)), l ≤ 24) :
    dot os (hl os) ≤ dot (os.set i (oAt os i + 1)) (hl (os.set i (oAt os i + 1))) := by
  have ll := hl_length (os.set i (oAt os i + 1))
  rw [List.length_set] at ll
  refine Nat.le_trans (least os (hl (os.set i (oAt os i + 1))) ll.symm (fun j o l h1 h2 ho => ?_) h24 (hl_room _ h24)) (dot_mono os _ _ (by simp) (fun j => ?_))
  · have hj : j < os.length := (List.getElem?_eq_some_iff.1 h1).1
    have h3 : oAt (os.set i (oAt os i + 1)) j ≠ 0 := by
      rw [oAt_set _ _ _ _ hi]
      split
      · omega
      · rw [at_some h1]; exact ho
    have h4 := (lens_pos _ j).2 h3
    rw [← hl_at _ (by rw [List.length_set]; exact hj), at_some h2] at h4
    exact h4
  · rw [oAt_set _ _ _ _ hi]
    split
    · rename_i h; subst h; omega
    · exact Nat.le_refl _
theorem more_le (os : List Nat) (i : Nat) (hi : i < os.length) (h0 : oAt os i ≠ 0) (h24 : ∀ l ∈ hl os, l ≤ 24) :
    dot (os.set i (oAt os i + 1)) (hl (os.set i (oAt os i + 1))) ≤ dot os (hl os) + oAt (hl os) i := by
  have ll := hl_length os
  have h1 := least (os.set i (oAt os i + 1)) (hl os) (by simp [ll]) (fun j o l h1 h2 ho => by
    have hj : j < os.length := by have := (List.getElem?_eq_some_iff.1 h1).1; simpa using this
    have h3 : oAt os j ≠ 0 := by
      have := at_some h1
      rw [oAt_set _ _ _ _ hi] at this
      by_cases e : j = i
      · subst e; exact h0
      · rw [if_neg e] at this; omega
    have h4 := (lens_pos os j).2 h3
    rw [← hl_at os hj, at_some h2] at h4
    exact h4) h24 (hl_room _ h24)
  have h2 := dot_set_l os (hl os) i (oAt os i + 1) hi (by omega)
  rw [Nat.add_mul, Nat.one_mul] at h2
  omega
end

section
set_option maxRecDepth 100000
set_option linter.unusedVariables false
open Go.RowKit Go.Shelf

/-- Cells of numbers with signs. -/
def zc (xs : List Int) : List Value := xs.map (Value.int .i64)
theorem zc_length (xs : List Int) : (zc xs).length = xs.length := by simp [zc]
theorem zc_get (xs : List Int) (i : Nat) (h : i < xs.length) : (zc xs)[i]? = some (.int .i64 (xs[i]?.getD 0)) := by
  simp [zc, List.getElem?_map, List.getElem?_eq_getElem h]
theorem zc_append (a b : List Int) : zc (a ++ b) = zc a ++ zc b := by simp [zc]
theorem zc_one (xs : List Int) : ∀ u ∈ zc xs, u.oneCell' = true := by
  intro u hu
  simp only [zc, List.mem_map] at hu
  obtain ⟨x, _, rfl⟩ := hu
  rfl
/-- The first error. -/
def eachE {α : Type} (f : α → Int) : List α → Int
  | [] => 0
  | x :: t => if f x = 0 then eachE f t else f x
theorem eachE_at {α : Type} [Inhabited α] (f : α → Int) : ∀ (l : List α) (i : Nat), i < l.length → (∀ j, j < i → f (l[j]?.getD default) = 0) → f (l[i]?.getD default) ≠ 0 → eachE f l = f (l[i]?.getD default)
  | [], i, h, _, _ => by simp at h
  | x :: t, 0, _, _, h => by simp at h; simp [eachE, h]
  | x :: t, i + 1, h, h0, h1 => by
    have := h0 0 (by omega)
    simp at this
    unfold eachE
    rw [if_pos this]
    simpa using eachE_at f t i (by simpa using h) (fun j hj => by have := h0 (j + 1) (by omega); simpa using this) (by simpa using h1)
theorem eachE_zero {α : Type} [Inhabited α] (f : α → Int) : ∀ l : List α, eachE f l = 0 ↔ ∀ x ∈ l, f x = 0
  | [] => by simp [eachE]
  | x :: t => by
    unfold eachE
    by_cases h : f x = 0
    · rw [if_pos h, eachE_zero f t]; simp [h]
    · rw [if_neg h]; simp [h]
theorem eachE_all {α : Type} [Inhabited α] (f : α → Int) (l : List α) (h : ∀ j, j < l.length → f (l[j]?.getD default) = 0) : eachE f l = 0 := by
  rw [eachE_zero]
  intro x hx
  obtain ⟨j, hj, rfl⟩ := List.getElem_of_mem hx
  have := h j hj
  rwa [List.getElem?_eq_getElem hj] at this

theorem ret_i64 {a b : Int} (h : a = b) : Ending.returned (.int .i64 a) = .returned (.int .i64 b) := by rw [h]
/-- At each round's head: the first i have none. -/
def EchRel (f : Int → Int) (xs : List Int) (w : World) (p : Value) (wr : World) : Prop :=
  ∃ i : Nat, i ≤ xs.length ∧ p = .int .i64 (i : Int) ∧ (∀ j, j < i → f (xs[j]?.getD default) = 0) ∧ Below w.heap.size w wr

set_option maxHeartbeats 1000000 in
theorem each_int (g : Nat) (cb : Array Value) (f : Int → Int) (xs : List Int) (n : Nat) (hn : xs.length = n) (hn2 : n ≤ 9223372036854775807) (A : Option Addr) (c : Nat) (w : World) (h : RdV w w.heap.size A (zc xs))
    (eg : ∀ args w, (callFunc g args).run Tryz.prog w = .ok (.enter g args) w)
    (hg : ∀ (x : Int) (V : World), Below w.heap.size w V → Calls Tryz.prog g (#[.int .i64 x] ++ cb) V fun e w' => e = .returned (.int .i64 (f x)) ∧ Below V.heap.size V w') :
    Calls Tryz.prog 46 #[.slice A n c, .func (.func g) #[] cb] w fun e w' => e = .returned (.int .i64 (eachE f xs)) ∧ Below w.heap.size w w' := by
  have HR := Lib.hid h; clear h
  have HN := Lib.hid hn; clear hn
  have HG := Lib.hid hg; clear hg
  go_enter Tryz.func46, Tryz.ntmps46
  go_wp2
  go_loopw [10] (fun p wr => EchRel f xs w p wr) (fun p _ => n - (intOf p).toNat)
  case atStart => exact ⟨0, Nat.zero_le _, rfl, fun j hj => absurd hj (Nat.not_lt_zero _), Below.refl _ _⟩
  case round =>
    obtain ⟨i, hi, rfl, ht, hbel⟩ := hrel
    rw [HN.out] at hi
    by_cases hlt : i < n
    · have hin : i < xs.length := by rw [HN.out]; exact hlt
      have hR := HR.out.below hbel hbel.size
      obtain ⟨b, off, rfl, hb, hc⟩ := hR.at_ (zc_get xs i hin)
      have hat := eachE_at f xs i hin ht
      have HT := Lib.hid ht; clear ht
      obtain ⟨x, HED⟩ : ∃ x, Hid (xs[i]?.getD default = x) := ⟨_, rfl⟩
      rw [show xs[i]?.getD 0 = x from HED.out] at hc
      rw [HED.out] at hat
      have HC := Lib.hid (HG.out x wr hbel)
      have HB := Lib.hid hbel; clear hbel hR
      by_cases hf : f x = 0
      · have HF := Lib.hid hf
        rw [hf] at HC
        clear hf hat
        go_wp2_with fail
        refine HC.out.mono ?_
        rintro e w1 ⟨rfl, b1⟩
        have HB1 := Lib.hid b1; clear b1
        go_wp2
        go_roundw
        case rel => exact ⟨i + 1, by rw [HN.out]; omega, by go_num, fun j hj => by
          rcases Nat.lt_or_ge j i with h | h
          · exact HT.out j h
          · obtain rfl : j = i := by omega
            rw [HED.out]; exact HF.out, HB.out.trans (HB1.out.mono HB.out.size)⟩
        case measure => simp [intOf]; omega
      · have HE := Lib.hid (hat hf)
        have t0 : (f x == 0) = false := by simpa using hf
        clear hat
        generalize f x = y at *
        go_wp2_with fail
        refine HC.out.mono ?_
        rintro e w1 ⟨rfl, b1⟩
        have HB1 := Lib.hid b1; clear b1
        go_wp2
        go_ret
        exact ⟨ret_i64 HE.out.symm, HB.out.trans (HB1.out.mono HB.out.size)⟩
    · have HT : Hid (eachE f xs = 0) := eachE_all f xs (fun j hj => ht j (by rw [HN.out] at hj; omega))
      clear ht
      have HB := Lib.hid hbel; clear hbel
      go_wp2
      go_ret
      exact ⟨ret_i64 HT.out.symm, HB.out⟩

/-- What is asked of one number: is it from 0 to m? -/
def rg (m x : Int) : Int := if x < 0 ∨ m < x then 3 else 0
theorem rg_eq (m x : Int) : rgE 0 [decide (0 ≤ x), decide (x ≤ m)] = rg m x := by
  unfold rgE rg
  by_cases h1 : x < 0
  · have : decide (0 ≤ x) = false := by simp; omega
    rw [this, if_pos (by simp), if_pos (.inl h1)]
  · have e1 : decide (0 ≤ x) = true := by simp; omega
    by_cases h2 : m < x
    · have : decide (x ≤ m) = false := by simp; omega
      rw [e1, this, if_pos (by simp), if_pos (.inr h2)]
    · have : decide (x ≤ m) = true := by simp; omega
      rw [e1, this, if_neg (by simp), if_neg (by omega)]
theorem rg_zero (m x : Int) : rg m x = 0 ↔ 0 ≤ x ∧ x ≤ m := by unfold rg; split <;> omega
theorem rg_or (m x : Int) : rg m x = 0 ∨ rg m x = 3 := by unfold rg; split <;> simp
set_option maxHeartbeats 400000 in
theorem checkWidth (x : Int) (w : World) : Calls Tryz.prog 100 #[.int .i64 x] w fun e w' => e = .returned (.int .i64 (rg 24 x)) ∧ Below w.heap.size w w' := by
  have HR := Lib.hid (range2 0 (decide (0 ≤ x)) (decide (x ≤ 24)) _ (rg_eq 24 x))
  generalize rg 24 x = r at *
  go_enter Tryz.func100, Tryz.ntmps100
  go_wp2_with fail
  refine (HR.out _ _ rfl).mono ?_
  rintro e w1 ⟨rfl, B1⟩
  go_wp2
  go_ret
  exact ⟨rfl, B1⟩
theorem entersCheck1 : ∀ args w, (callFunc 100 args).run Tryz.prog w = .ok (.enter 100 args) w := enters_of Tryz.func100 (by kernel_rfl) rfl

/-- What kraft.Check answers. -/
def kchk (xs : List Int) : Int := if 64 < xs.length then 2 else eachE (rg 24) xs
set_option maxHeartbeats 400000 in
theorem kcheck_any (xs : List Int) (n : Nat) (hn : xs.length = n) (hn2 : n ≤ 9223372036854775807) (A : Option Addr) (c : Nat) (w : World) (h : RdV w w.heap.size A (zc xs)) :
    Calls Tryz.prog 53 #[.slice A n c] w fun e w' => e = .returned (.int .i64 (kchk xs)) ∧ Below w.heap.size w w' := by
  unfold kchk
  rw [hn]
  by_cases h64 : 64 < n
  · rw [if_pos h64]
    go_enter Tryz.func53, Tryz.ntmps53
    go_wp2
    go_ret
    exact ⟨rfl, Below.refl _ _⟩
  · rw [if_neg h64]
    have HC := Lib.hid (each_int 100 #[] (rg 24) xs n hn hn2 A c w h entersCheck1 (fun x V _ => checkWidth x V))
    generalize eachE (rg 24) xs = r at *
    clear hn h
    go_enter Tryz.func53, Tryz.ntmps53
    go_wp2_with fail
    refine HC.out.mono ?_
    rintro e w1 ⟨rfl, B1⟩
    go_wp2
    go_ret
    exact ⟨rfl, B1⟩

/-- Numbers that are right are lengths. -/
theorem kchk_zero (xs : List Int) (h : kchk xs = 0) : ∃ l : List Nat, xs = l.map (fun (x : Nat) => (x : Int)) ∧ l.length ≤ 64 ∧ ∀ x ∈ l, x ≤ 24 := by
  unfold kchk at h
  by_cases h64 : 64 < xs.length
  · rw [if_pos h64] at h; omega
  · rw [if_neg h64, eachE_zero] at h
    refine ⟨xs.map Int.toNat, ?_, by simp; omega, fun x hx => ?_⟩
    · rw [List.map_map]
      conv => lhs; rw [← List.map_id xs]
      refine List.map_congr_left fun x hx => ?_
      have := (rg_zero 24 x).1 (h x hx)
      simp; omega
    · obtain ⟨z, hz, rfl⟩ := List.mem_map.1 hx
      have := (rg_zero 24 z).1 (h z hz)
      omega
theorem kchk_ok (l : List Nat) (h64 : l.length ≤ 64) (h24 : ∀ x ∈ l, x ≤ 24) : kchk (l.map (fun (x : Nat) => (x : Int))) = 0 := by
  unfold kchk
  rw [if_neg (by simp; omega), eachE_zero]
  intro x hx
  obtain ⟨z, hz, rfl⟩ := List.mem_map.1 hx
  have := h24 z hz
  exact (rg_zero 24 _).2 ⟨by omega, by omega⟩

/-- At each round's head: the room that the first i leave. -/
def RoomRel (l : List Nat) (w : World) (v p : Value) (wr : World) : Prop :=
  ∃ i : Nat, i ≤ l.length ∧ p = .int .i64 (i : Int) ∧ v = .int .i64 (16777216 - (tkn (l.take i) : Int)) ∧ Below w.heap.size w wr
theorem tkn_take (l : List Nat) (i : Nat) (h : i < l.length) : tkn (l.take (i + 1)) = tkn (l.take i) + tk (l[i]?.getD 0) := by
  rw [take_snoc l i h, tkn_append]; simp [tkn]
theorem tkn_bd : ∀ l : List Nat, tkn l ≤ l.length * 8388608
  | [] => by simp [tkn]
  | x :: t => by have := tkn_bd t; have := tk_le x; simp [tkn]; omega
def ns (l : List Nat) : List Int := l.map (fun (x : Nat) => (x : Int))
theorem ns_length (l : List Nat) : (ns l).length = l.length := by simp [ns]
theorem ns_get (l : List Nat) (i : Nat) (h : i < l.length) : (zc (ns l))[i]? = some (.int .i64 ((l[i]?.getD 0 : Nat) : Int)) := by
  simp [zc, ns, List.getElem?_map, List.getElem?_eq_getElem h]
theorem at_mem (l : List Nat) (i : Nat) (h : i < l.length) : l[i]?.getD 0 ∈ l := by rw [List.getElem?_eq_getElem h]; exact List.getElem_mem h

set_option maxHeartbeats 1000000 in
theorem room_ok (l : List Nat) (n : Nat) (hn : l.length = n) (h64 : n ≤ 64) (h24 : ∀ x ∈ l, x ≤ 24) (A : Option Addr) (c : Nat) (w : World) (h : RdV w w.heap.size A (zc (ns l))) :
    Calls Tryz.prog 17 #[.slice A n c] w fun e w' => e = .returned (.tuple #[.int .i64 (16777216 - (tkn l : Int)), .int .i64 0]) ∧ Below w.heap.size w w' := by
  have HC0 := kcheck_any (ns l) n (by rw [ns_length]; exact hn) (by omega) A c w h
  rw [show kchk (ns l) = 0 from kchk_ok l (by omega) h24] at HC0
  have HC := Lib.hid HC0; clear HC0
  have HR := Lib.hid h; clear h
  have HN := Lib.hid hn; clear hn
  have H24 := Lib.hid h24; clear h24
  go_enter Tryz.func17, Tryz.ntmps17
  go_wp2_with fail
  refine HC.out.mono ?_
  rintro e w1 ⟨rfl, b1⟩
  have HB1 := Lib.hid b1; clear b1
  go_wp2
  go_loopw [5, 15] (fun v p wr => RoomRel l w v p wr) (fun _ p _ => n - (intOf p).toNat)
  case atStart => exact ⟨0, Nat.zero_le _, rfl, rfl, HB1.out⟩
  case round =>
    obtain ⟨i, hi, rfl, rfl, hbel⟩ := hrel
    rw [HN.out] at hi
    have hbd := tkn_bd (l.take i)
    have hti : (l.take i).length ≤ 64 := by rw [List.length_take]; omega
    by_cases hlt : i < n
    · have hin : i < l.length := by rw [HN.out]; exact hlt
      have hR := HR.out.below hbel hbel.size
      obtain ⟨b, off, rfl, hb, hc⟩ := hR.at_ (ns_get l i hin)
      have htk := tkn_take l i hin
      have hx24 := H24.out _ (at_mem l i hin)
      have HB := Lib.hid hbel; clear hbel hR
      have hT : tkn (l.take i) ≤ 536870912 := by omega
      clear hbd hti
      generalize tkn (l.take i) = T at *
      generalize l[i]?.getD 0 = x at *
      by_cases hx : x = 0
      · subst hx
        have HT := Lib.hid htk; clear htk
        go_wp2
        go_roundw
        case rel => exact ⟨i + 1, by rw [HN.out]; omega, by go_num, by rw [HT.out]; rfl, HB.out⟩
        case measure => simp [intOf]; omega
      · have hp : (2 : Nat) ^ (24 - x) ≤ 8388608 := by have := tk_le x; unfold tk at this; rw [if_neg hx] at this; exact this
        have htk' : tkn (l.take (i + 1)) = T + 2 ^ (24 - x) := by rw [htk]; unfold tk; rw [if_neg hx]
        obtain ⟨q, hq⟩ : ∃ q : Nat, 2 ^ (24 - x) = q := ⟨_, rfl⟩
        have hq2 : (2 : Int) ^ (24 - x) = (q : Int) := by rw [← hq]; simp
        rw [hq] at hp htk'
        have HT := Lib.hid htk'; clear htk htk'
        have HP : Hid ((24 - (x : Int)).toNat = 24 - x) := by show _ = _; omega
        have hx0 : 0 < x := by omega
        have t0 : decide ((0 : Int) < (x : Int)) = true := by simp; omega
        have e2 : (2 : Int) ^ (24 - (x : Int)).toNat = (q : Int) := by rw [HP.out]; exact hq2
        have HQ2 := Lib.hid hq2
        clear hq hq2 hx
        go_wp2
        go_roundw
        case rel => exact ⟨i + 1, by rw [HN.out]; omega, by go_num, by rw [HT.out, HQ2.out]; congr 1; rw [IntWalk.wrap64_in (q : Int) (by omega), IntWalk.wrap64_in _ (by omega)]; omega, HB.out⟩
        case measure => simp [intOf]; omega
    · have HT : Hid (tkn (l.take i) = tkn l) := by show _ = _; rw [List.take_of_length_le (by rw [HN.out]; omega)]
      have HB := Lib.hid hbel; clear hbel hbd hti
      go_wp2
      go_ret2
      exact ⟨by rw [HT.out]; rfl, HB.out⟩
set_option maxHeartbeats 400000 in
theorem room_e (xs : List Int) (n : Nat) (hn : xs.length = n) (hn2 : n ≤ 9223372036854775807) (r : Int) (hr : kchk xs = r) (h0 : r ≠ 0) (A : Option Addr) (c : Nat) (w : World) (h : RdV w w.heap.size A (zc xs)) :
    Calls Tryz.prog 17 #[.slice A n c] w fun e w' => e = .returned (.tuple #[.int .i64 0, .int .i64 r]) ∧ Below w.heap.size w w' := by
  have HC0 := kcheck_any xs n hn hn2 A c w h
  rw [hr] at HC0
  have HC := Lib.hid HC0; clear HC0 h hn hr
  have t0 : (r == 0) = false := by simpa using h0
  clear h0
  go_enter Tryz.func17, Tryz.ntmps17
  go_wp2_with fail
  refine HC.out.mono ?_
  rintro e w1 ⟨rfl, b1⟩
  go_wp2
  go_ret2
  exact ⟨rfl, b1⟩
end

section
open Go.RowKit

/-- The unary code of a number, and of a list. -/
def uc (n : Nat) : List Bool := List.replicate n false ++ [true]
def ucs (ns : List Nat) : List Bool := ns.flatMap uc
theorem uc_length (n : Nat) : (uc n).length = n + 1 := by simp [uc]
theorem ucs_nil : ucs [] = [] := rfl
theorem ucs_append (a b : List Nat) : ucs (a ++ b) = ucs a ++ ucs b := by simp [ucs]
theorem ucs_snoc (a : List Nat) (n : Nat) : ucs (a ++ [n]) = ucs a ++ uc n := by rw [ucs_append]; simp [ucs]
theorem ucs_take_le (ns : List Nat) (i : Nat) : (ucs (ns.take i)).length ≤ (ucs ns).length := by
  have e : ns = ns.take i ++ ns.drop i := (List.take_append_drop i ns).symm
  have h2 : (ucs ns).length = (ucs (ns.take i)).length + (ucs (ns.drop i)).length := by
    conv => lhs; rw [e]
    rw [ucs_append, List.length_append]
  omega

theorem nb_one (z : Nat) : nb 1 (z + 1) = uc z := by
  rw [nb_snoc]
  have e : (1 : Nat) / 2 = 0 := rfl
  rw [e, nb_zeros]
  rfl

/-- What Many answers. -/
def manyE (ns : List Nat) : Int := if ns.any (fun n => decide (8192 ≤ n)) = true then 3 else if 8192 < (ucs ns).length then 8 else 0

/-- Block K holds bits that are right, in a writer of unary. -/
def UW (w : World) (K : Nat) (l : List Bool) : Prop :=
  ∃ A c, w.heap[K]? = some (.cells #[.int .i64 (l.length : Int), .slice A (pack l).length c] 304 (0, 0)) ∧ Rd w w.heap.size A (pack l)
end
end Go.Proofs.YtndiocehkdbjkaaGreat
