/- The law FibTells, in letters: its ways, the first part. -/
import Derived.Test.YtjogccpnhcnedaaDoorFRefR
import Derived.Test.YtjogccpnhcnedaaDoorFLNextA
namespace Go.Proofs.YtjogccpnhcnedaaDoor
set_option maxRecDepth 100000
set_option linter.unusedVariables false
open Go.RowKit Go.Shelf

/-- Where a list does not lie. -/
def Off (K : Nat) (A : Option Addr) (vs : List Value) : Prop := vs = [] ∨ ∀ b o, A = some ⟨b, o, none⟩ → b ≠ K
theorem rdv_off {w : World} {A : Option Addr} {vs : List Value} (h : RdV w w.heap.size A vs) : Off w.heap.size A vs := by
  rcases h with h | ⟨b, off, rfl, hb, _⟩
  · exact .inl h
  · refine .inr fun b' o e => ?_
    simp only [Option.some.injEq, Addr.mk.injEq, and_true] at e
    omega
/-- set_box, for lists of values that do not lie there. -/
theorem set_boxV {w : World} {K : Nat} {a : Int} {A : Option Addr} {n c : Nat} (u v : Value) (h : w.heap[K]? = some (.cells #[.int .i64 a, .slice A n c] 26 (0, 0))) :
    ∀ B vs, Off K B vs → RdV w w.heap.size B vs → RdV ((w.setCell ⟨K, 0, none⟩ u).setCell ⟨K, 1, none⟩ v) ((w.setCell ⟨K, 0, none⟩ u).setCell ⟨K, 1, none⟩ v).heap.size B vs := by
  intro B vs ho hr
  have hs := set_box u v h
  rw [hs.1.2.2]
  rcases hr with h0 | ⟨b, off, rfl, hlt, hc⟩
  · exact .inl h0
  · rcases ho with h0 | ho
    · exact .inl h0
    · exact .inr ⟨b, off, rfl, hlt, fun i u hi => (hs.2.1 b _ (ho b off rfl)).trans (hc i u hi)⟩

set_option maxHeartbeats 8000000 in
theorem ftells_lo_11 (i : Int) (n : Nat) (A : Option Addr) (c ll : Nat) (L : List Value) (len : Int) (B : Option Addr) (d bl : Nat) (bs : List Nat) (at_ : Int) (nv : Nat) (ne pe se ue e0 : Int) (sv v to lc ncl pl fl ql : Nat) (Pv Fv Qv : List Value) (bcl : List Nat) (w : World) (hA : RdV w w.heap.size A L) (hB : Rd w w.heap.size B bs) (hN : Nm w)
    (H1 : Hid (∀ w, Nm w → Calls Tryd.prog 9 #[.int .i64 i] w fun e w' => e = .returned (.tuple #[.int .u64 (nv : Int), .int .i64 ne]) ∧ Below w.heap.size w w'))
    (H2 : Hid (∀ w, Nm w → Calls Tryd.prog 10 #[.int .u64 (n : Int)] w fun e w' => ∃ A c, e = .returned (.tuple #[.slice A pl c, .int .i64 0]) ∧ RdV w' w'.heap.size A Pv ∧ Below w.heap.size w w'))
    (H3 : Hid (∀ w, RdV w w.heap.size A L → Nm w → Calls Tryd.prog 11 #[.slice A ll c] w fun e w' => e = .returned (.tuple #[.int .u64 (sv : Int), .int .i64 se]) ∧ Below w.heap.size w w'))
    (H4 : Hid (∀ w, Nm w → Calls Tryd.prog 12 #[.int .u64 (n : Int)] w (Gv w (lc : Int) ncl bcl 0)))
    (H5 : Hid (∀ w, Rd w w.heap.size B bs → Nm w → Calls Tryd.prog 13 #[.agg #[.int .i64 len, .slice B bl d], .int .i64 at_] w (FP w v to e0)))
    (H7 : Hid (∀ w, Calls Tryd.prog 15 #[.int .u64 (n : Int)] w fun e w' => ∃ A c, e = .returned (.slice A pl c) ∧ (∀ b o, A = some ⟨b, o, none⟩ → w.heap.size ≤ b) ∧ RdV w' w'.heap.size A Pv ∧ Below w.heap.size w w'))
    (H8 : Hid (∀ w, Calls Tryd.prog 17 #[.int .u64 (n : Int)] w fun e w' => ∃ A c, e = .returned (.slice A fl c) ∧ RdV w' w'.heap.size A Fv ∧ Below w.heap.size w w'))
    (H9 : Hid (∀ A c w, RdV w w.heap.size A Fv → Calls Tryd.prog 16 #[.slice A fl c] w fun e w' => ∃ A c, e = .returned (.agg #[.int .i64 (lc : Int), .slice A ncl c]) ∧ Rd w' w'.heap.size A bcl ∧ Below w.heap.size w w'))
    (H10 : Hid (∀ w, RdV w w.heap.size A L → Calls Tryd.prog 18 #[.slice A ll c] w fun e w' => e = .returned (.tuple #[.int .u64 (sv : Int), .int .i64 se]) ∧ Below w.heap.size w w'))
    (H11 : Hid (∀ w, Rd w w.heap.size B bs → Calls Tryd.prog 19 #[.agg #[.int .i64 len, .slice B bl d], .int .i64 at_] w fun e w' => e = .returned (.int .i64 0) ∧ Below w.heap.size w w'))
    (H12 : Hid (∀ w, Rd w w.heap.size B bs → Calls Tryd.prog 21 #[.agg #[.int .i64 len, .slice B bl d]] w fun e w' => ∃ A c, e = .returned (.slice A ql c) ∧ RdV w' w'.heap.size A Qv ∧ Below w.heap.size w w'))
    (H13 : Hid (∀ A c w, RdV w w.heap.size A Qv → Calls Tryd.prog 20 #[.slice A ql c, .int .i64 at_] w (FP w v to e0)))
    (H14 : Hid (∀ A1 c1 A2 c2 w, RdV w w.heap.size A1 Pv → RdV w w.heap.size A2 Pv → Calls Tryd.prog 23 #[.slice A1 pl c1, .slice A2 pl c2] w fun e w' => e = .returned (.bool true) ∧ Below w.heap.size w w'))
    (H15 : Hid (∀ A1 c1 A2 c2 w, Rd w w.heap.size A1 bcl → Rd w w.heap.size A2 bcl → Calls Tryd.prog 24 #[.agg #[.int .i64 (lc : Int), .slice A1 ncl c1], .agg #[.int .i64 (lc : Int), .slice A2 ncl c2]] w fun e w' => e = .returned (.bool true) ∧ Below w.heap.size w w'))
    (hi : i < 0) (hne : ne = 3) (hnv : nv = 0)
    (hn : n ≤ 1099511627776) :
    Calls Tryd.prog 3 #[.int .i64 i, .int .u64 (n : Int), .slice A ll c, .agg #[.int .i64 len, .slice B bl d], .int .i64 at_] w fun e w' => e = .returned (.bool true) ∧ Below w.heap.size w w' := by
  have HN := Lib.hid hN
  have HN0 := Lib.hid hN.pos; clear hN
  have HL := Lib.hid hA; clear hA
  have HBs := Lib.hid hB; clear hB
  have t1 : decide (i < 0) = true := decide_eq_true hi
  subst hne hnv
  have t3 : decide ((1099511627776 : Int) < (n : Int)) = false := by simp; omega
  clear hi hn
  go_enter Tryd.func3, Tryd.ntmps3
  go_wp2_with fail
  refine (H1.out _ (HN.out.on (one_below _ _))).mono ?_
  rintro e w1_ ⟨rfl, Bq⟩
  rw [World.size_alloc] at Bq
  have Sq : Below w.heap.size w w1_ := (one_below w _).trans (Bq.mono (by omega))
  have zz : w.heap.size < w1_.heap.size := by have := Bq.size; rw [World.size_alloc] at this; omega
  obtain ⟨pz, qz⟩ := box_at Bq
  have HB : Hid (Below w.heap.size w w1_) := Sq
  replace HN := Lib.hid (HN.out.on Sq)
  replace HL := Lib.hid (HL.out.on Sq)
  replace HBs := Lib.hid (HBs.out.on Sq)
  clear Bq Sq
  go_wp2_with fail
  refine (H2.out w1_ HN.out).mono ?_
  rintro e w2_ ⟨A1, c1, rfl, Rq, Bq⟩
  have Sq : Below w1_.heap.size w1_ w2_ := Bq
  replace pz := (Sq.cell (p := ⟨w.heap.size, 0, none⟩) zz).trans pz
  replace qz := (Sq.cell (p := ⟨w.heap.size, 1, none⟩) zz).trans qz
  replace zz : w.heap.size < w2_.heap.size := Nat.lt_of_lt_of_le zz Sq.size
  replace HB : Hid (Below w.heap.size w w2_) := HB.out.trans (Sq.mono HB.out.size)
  replace HN := Lib.hid (HN.out.on Sq)
  replace HL := Lib.hid (HL.out.on Sq)
  replace HBs := Lib.hid (HBs.out.on Sq)
  clear Bq Sq
  have HP := Lib.hid Rq; clear Rq
  go_wp2_with fail
  refine (H3.out w2_ HL.out HN.out).mono ?_
  rintro e w3_ ⟨rfl, Bq⟩
  have Sq : Below w2_.heap.size w2_ w3_ := Bq
  replace pz := (Sq.cell (p := ⟨w.heap.size, 0, none⟩) zz).trans pz
  replace qz := (Sq.cell (p := ⟨w.heap.size, 1, none⟩) zz).trans qz
  replace zz : w.heap.size < w3_.heap.size := Nat.lt_of_lt_of_le zz Sq.size
  replace HB : Hid (Below w.heap.size w w3_) := HB.out.trans (Sq.mono HB.out.size)
  replace HN := Lib.hid (HN.out.on Sq)
  replace HL := Lib.hid (HL.out.on Sq)
  replace HBs := Lib.hid (HBs.out.on Sq)
  replace HP := Lib.hid (HP.out.on Sq)
  clear Bq Sq
  go_wp2_with fail
  refine (H4.out w3_ HN.out).mono ?_
  rintro e w4_ ⟨A2, c2, rfl, Rq, Bq⟩
  have Sq : Below w3_.heap.size w3_ w4_ := Bq
  replace pz := (Sq.cell (p := ⟨w.heap.size, 0, none⟩) zz).trans pz
  replace qz := (Sq.cell (p := ⟨w.heap.size, 1, none⟩) zz).trans qz
  replace zz : w.heap.size < w4_.heap.size := Nat.lt_of_lt_of_le zz Sq.size
  replace HB : Hid (Below w.heap.size w w4_) := HB.out.trans (Sq.mono HB.out.size)
  replace HN := Lib.hid (HN.out.on Sq)
  replace HL := Lib.hid (HL.out.on Sq)
  replace HBs := Lib.hid (HBs.out.on Sq)
  replace HP := Lib.hid (HP.out.on Sq)
  clear Bq Sq
  have HC := Lib.hid Rq; clear Rq
  go_wp2_with fail
  refine (H5.out _ (HBs.out.on (one_below _ _)) (HN.out.on (one_below _ _))).mono ?_
  rintro e w5_ ⟨rfl, Bq⟩
  rw [World.size_alloc] at Bq
  have Sq : Below w4_.heap.size w4_ w5_ := (one_below w4_ _).trans (Bq.mono (by omega))
  have zc : w4_.heap.size < w5_.heap.size := by have := Bq.size; rw [World.size_alloc] at this; omega
  obtain ⟨pc, qc⟩ := box_at Bq
  replace pz := (Sq.cell (p := ⟨w.heap.size, 0, none⟩) zz).trans pz
  replace qz := (Sq.cell (p := ⟨w.heap.size, 1, none⟩) zz).trans qz
  replace zz : w.heap.size < w5_.heap.size := Nat.lt_of_lt_of_le zz Sq.size
  replace HB : Hid (Below w.heap.size w w5_) := HB.out.trans (Sq.mono HB.out.size)
  replace HN := Lib.hid (HN.out.on Sq)
  replace HL := Lib.hid (HL.out.on Sq)
  replace HBs := Lib.hid (HBs.out.on Sq)
  replace HP := Lib.hid (HP.out.on Sq)
  replace HC := Lib.hid (HC.out.on Sq)
  clear Bq Sq
  have nz : w.heap.size ≠ w5_.heap.size := by omega
  have nc : w4_.heap.size ≠ w5_.heap.size := by omega
  have hwp : w.heap.size ≤ w5_.heap.size := HB.out.size
  have hgp : 0 < w5_.heap.size := Nat.lt_of_lt_of_le HN0.out hwp
  have HLk := Lib.hid (rdv_off HL.out)
  have HPk := Lib.hid (rdv_off HP.out)
  go_wp2_with fail
  refine (H7.out _).mono ?_
  rintro e w6_ ⟨A3, c3, rfl, Ro, Rq, Bq⟩
  rw [World.size_alloc] at Bq
  have Sq : Below w5_.heap.size w5_ w6_ := (one_below w5_ _).trans (Bq.mono (by omega))
  have zr : w5_.heap.size < w6_.heap.size := by have := Bq.size; rw [World.size_alloc] at this; omega
  obtain ⟨pr, qr⟩ := box_at Bq
  replace pz := (Sq.cell (p := ⟨w.heap.size, 0, none⟩) zz).trans pz
  replace qz := (Sq.cell (p := ⟨w.heap.size, 1, none⟩) zz).trans qz
  replace zz : w.heap.size < w6_.heap.size := Nat.lt_of_lt_of_le zz Sq.size
  replace pc := (Sq.cell (p := ⟨w4_.heap.size, 0, none⟩) zc).trans pc
  replace qc := (Sq.cell (p := ⟨w4_.heap.size, 1, none⟩) zc).trans qc
  replace zc : w4_.heap.size < w6_.heap.size := Nat.lt_of_lt_of_le zc Sq.size
  replace HB : Hid (Below w.heap.size w w6_) := HB.out.trans (Sq.mono HB.out.size)
  replace HN := Lib.hid (HN.out.on Sq)
  replace HL := Lib.hid (HL.out.on Sq)
  replace HBs := Lib.hid (HBs.out.on Sq)
  replace HP := Lib.hid (HP.out.on Sq)
  replace HC := Lib.hid (HC.out.on Sq)
  have BH : Hid (w6_.heap[w5_.heap.size]? = some (.cells #[.int .i64 0, .slice none 0 0] 26 (0, 0))) := (Bq.block _ (by omega)).trans (World.alloc_heap_new w5_ _)
  clear Bq Sq
  have HP2 := Lib.hid Rq; clear Rq
  have HP2k : Hid (Off w5_.heap.size A3 Pv) := .inr fun b o h => by have := Ro b o h; rw [World.size_alloc] at this; omega
  clear Ro
  go_wp2_with fail
  refine (H8.out w6_).mono ?_
  rintro e w7_ ⟨A4, c4, rfl, Rq, Bq⟩
  have Sq : Below w6_.heap.size w6_ w7_ := Bq
  replace pz := (Sq.cell (p := ⟨w.heap.size, 0, none⟩) zz).trans pz
  replace qz := (Sq.cell (p := ⟨w.heap.size, 1, none⟩) zz).trans qz
  replace zz : w.heap.size < w7_.heap.size := Nat.lt_of_lt_of_le zz Sq.size
  replace pc := (Sq.cell (p := ⟨w4_.heap.size, 0, none⟩) zc).trans pc
  replace qc := (Sq.cell (p := ⟨w4_.heap.size, 1, none⟩) zc).trans qc
  replace zc : w4_.heap.size < w7_.heap.size := Nat.lt_of_lt_of_le zc Sq.size
  replace pr := (Sq.cell (p := ⟨w5_.heap.size, 0, none⟩) zr).trans pr
  replace qr := (Sq.cell (p := ⟨w5_.heap.size, 1, none⟩) zr).trans qr
  replace zr : w5_.heap.size < w7_.heap.size := Nat.lt_of_lt_of_le zr Sq.size
  replace HB : Hid (Below w.heap.size w w7_) := HB.out.trans (Sq.mono HB.out.size)
  replace HN := Lib.hid (HN.out.on Sq)
  replace HL := Lib.hid (HL.out.on Sq)
  replace HBs := Lib.hid (HBs.out.on Sq)
  replace HP := Lib.hid (HP.out.on Sq)
  replace HC := Lib.hid (HC.out.on Sq)
  replace HP2 := Lib.hid (HP2.out.on Sq)
  replace BH : Hid (w7_.heap[w5_.heap.size]? = _) := (Sq.block _ (Array.getElem?_eq_some_iff.1 BH.out).1).trans BH.out
  clear Bq Sq
  have HF := Lib.hid Rq; clear Rq
  go_wp2_with fail
  refine (H9.out A4 c4 w7_ HF.out).mono ?_
  rintro e w8_ ⟨A5, c5, rfl, Rq, Bq⟩
  have Sq : Below w7_.heap.size w7_ w8_ := Bq
  replace pz := (Sq.cell (p := ⟨w.heap.size, 0, none⟩) zz).trans pz
  replace qz := (Sq.cell (p := ⟨w.heap.size, 1, none⟩) zz).trans qz
  replace zz : w.heap.size < w8_.heap.size := Nat.lt_of_lt_of_le zz Sq.size
  replace pc := (Sq.cell (p := ⟨w4_.heap.size, 0, none⟩) zc).trans pc
  replace qc := (Sq.cell (p := ⟨w4_.heap.size, 1, none⟩) zc).trans qc
  replace zc : w4_.heap.size < w8_.heap.size := Nat.lt_of_lt_of_le zc Sq.size
  replace pr := (Sq.cell (p := ⟨w5_.heap.size, 0, none⟩) zr).trans pr
  replace qr := (Sq.cell (p := ⟨w5_.heap.size, 1, none⟩) zr).trans qr
  replace zr : w5_.heap.size < w8_.heap.size := Nat.lt_of_lt_of_le zr Sq.size
  replace HB : Hid (Below w.heap.size w w8_) := HB.out.trans (Sq.mono HB.out.size)
  replace HN := Lib.hid (HN.out.on Sq)
  replace HL := Lib.hid (HL.out.on Sq)
  replace HBs := Lib.hid (HBs.out.on Sq)
  replace HP := Lib.hid (HP.out.on Sq)
  replace HC := Lib.hid (HC.out.on Sq)
  replace HP2 := Lib.hid (HP2.out.on Sq)
  replace HF := Lib.hid (HF.out.on Sq)
  replace BH : Hid (w8_.heap[w5_.heap.size]? = _) := (Sq.block _ (Array.getElem?_eq_some_iff.1 BH.out).1).trans BH.out
  clear Bq Sq
  have HC2 := Lib.hid Rq; clear Rq
  obtain ⟨-, -, fh0, fh1⟩ := blk_cells BH.out
  have HST := Lib.hid (set_box (w := w8_) (K := w5_.heap.size) (.int .i64 (lc : Int)) (.slice A5 ncl c5) BH.out)
  have HSV := Lib.hid (set_boxV (w := w8_) (K := w5_.heap.size) (.int .i64 (lc : Int)) (.slice A5 ncl c5) BH.out)
  obtain ⟨pr_, qr_, hsz⟩ := HST.out.1
  have pz_ := (HST.out.2.1 w.heap.size 0 nz).trans pz
  have qz_ := (HST.out.2.1 w.heap.size 1 nz).trans qz
  have pc_ := (HST.out.2.1 w4_.heap.size 0 nc).trans pc
  have qc_ := (HST.out.2.1 w4_.heap.size 1 nc).trans qc
  replace HBs := Lib.hid (HST.out.2.2.1 _ _ HBs.out)
  replace HC := Lib.hid (HST.out.2.2.1 _ _ HC.out)
  replace HC2 := Lib.hid (HST.out.2.2.1 _ _ HC2.out)
  replace HL := Lib.hid (HSV.out _ _ HLk.out HL.out)
  replace HP := Lib.hid (HSV.out _ _ HPk.out HP.out)
  replace HP2 := Lib.hid (HSV.out _ _ HP2k.out HP2.out)
  clear HF
  replace HN := Lib.hid (HN.out.set_box hgp HST.out.2.1)
  replace HB := Lib.hid (HST.out.2.2.2 _ _ hwp HB.out)
  clear HST HSV HLk HPk HP2k
  go_wp2_with fail
  generalize hW : ((w8_.setCell ⟨w5_.heap.size, 0, none⟩ (.int .i64 (lc : Int))).setCell ⟨w5_.heap.size, 1, none⟩ (.slice A5 ncl c5)) = w8_ at *
  clear hW
  have zz_ : w.heap.size < w8_.heap.size := by omega
  have zc_ : w4_.heap.size < w8_.heap.size := by omega
  have zr_ : w5_.heap.size < w8_.heap.size := by omega
  clear pz qz zz
  clear pc qc zc
  clear pr qr zr
  have pz := pz_; have qz := qz_; have zz := zz_; clear pz_ qz_ zz_
  have pc := pc_; have qc := qc_; have zc := zc_; clear pc_ qc_ zc_
  have pr := pr_; have qr := qr_; have zr := zr_; clear pr_ qr_ zr_
  clear hsz BH fh0 fh1
  refine (H10.out w8_ HL.out).mono ?_
  rintro e w9_ ⟨rfl, Bq⟩
  have Sq : Below w8_.heap.size w8_ w9_ := Bq
  replace pz := (Sq.cell (p := ⟨w.heap.size, 0, none⟩) zz).trans pz
  replace qz := (Sq.cell (p := ⟨w.heap.size, 1, none⟩) zz).trans qz
  replace zz : w.heap.size < w9_.heap.size := Nat.lt_of_lt_of_le zz Sq.size
  replace pc := (Sq.cell (p := ⟨w4_.heap.size, 0, none⟩) zc).trans pc
  replace qc := (Sq.cell (p := ⟨w4_.heap.size, 1, none⟩) zc).trans qc
  replace zc : w4_.heap.size < w9_.heap.size := Nat.lt_of_lt_of_le zc Sq.size
  replace pr := (Sq.cell (p := ⟨w5_.heap.size, 0, none⟩) zr).trans pr
  replace qr := (Sq.cell (p := ⟨w5_.heap.size, 1, none⟩) zr).trans qr
  replace zr : w5_.heap.size < w9_.heap.size := Nat.lt_of_lt_of_le zr Sq.size
  replace HB : Hid (Below w.heap.size w w9_) := HB.out.trans (Sq.mono HB.out.size)
  replace HN := Lib.hid (HN.out.on Sq)
  replace HL := Lib.hid (HL.out.on Sq)
  replace HBs := Lib.hid (HBs.out.on Sq)
  replace HP := Lib.hid (HP.out.on Sq)
  replace HC := Lib.hid (HC.out.on Sq)
  replace HP2 := Lib.hid (HP2.out.on Sq)
  replace HC2 := Lib.hid (HC2.out.on Sq)
  clear Bq Sq
  go_wp2_with fail
  refine (H11.out w9_ HBs.out).mono ?_
  rintro e w10_ ⟨rfl, Bq⟩
  have Sq : Below w9_.heap.size w9_ w10_ := Bq
  replace pz := (Sq.cell (p := ⟨w.heap.size, 0, none⟩) zz).trans pz
  replace qz := (Sq.cell (p := ⟨w.heap.size, 1, none⟩) zz).trans qz
  replace zz : w.heap.size < w10_.heap.size := Nat.lt_of_lt_of_le zz Sq.size
  replace pc := (Sq.cell (p := ⟨w4_.heap.size, 0, none⟩) zc).trans pc
  replace qc := (Sq.cell (p := ⟨w4_.heap.size, 1, none⟩) zc).trans qc
  replace zc : w4_.heap.size < w10_.heap.size := Nat.lt_of_lt_of_le zc Sq.size
  replace pr := (Sq.cell (p := ⟨w5_.heap.size, 0, none⟩) zr).trans pr
  replace qr := (Sq.cell (p := ⟨w5_.heap.size, 1, none⟩) zr).trans qr
  replace zr : w5_.heap.size < w10_.heap.size := Nat.lt_of_lt_of_le zr Sq.size
  replace HB : Hid (Below w.heap.size w w10_) := HB.out.trans (Sq.mono HB.out.size)
  replace HN := Lib.hid (HN.out.on Sq)
  replace HL := Lib.hid (HL.out.on Sq)
  replace HBs := Lib.hid (HBs.out.on Sq)
  replace HP := Lib.hid (HP.out.on Sq)
  replace HC := Lib.hid (HC.out.on Sq)
  replace HP2 := Lib.hid (HP2.out.on Sq)
  replace HC2 := Lib.hid (HC2.out.on Sq)
  clear Bq Sq
  go_wp2_with fail
  refine (H12.out w10_ HBs.out).mono ?_
  rintro e w11_ ⟨A6, c6, rfl, Rq, Bq⟩
  have Sq : Below w10_.heap.size w10_ w11_ := Bq
  replace pz := (Sq.cell (p := ⟨w.heap.size, 0, none⟩) zz).trans pz
  replace qz := (Sq.cell (p := ⟨w.heap.size, 1, none⟩) zz).trans qz
  replace zz : w.heap.size < w11_.heap.size := Nat.lt_of_lt_of_le zz Sq.size
  replace pc := (Sq.cell (p := ⟨w4_.heap.size, 0, none⟩) zc).trans pc
  replace qc := (Sq.cell (p := ⟨w4_.heap.size, 1, none⟩) zc).trans qc
  replace zc : w4_.heap.size < w11_.heap.size := Nat.lt_of_lt_of_le zc Sq.size
  replace pr := (Sq.cell (p := ⟨w5_.heap.size, 0, none⟩) zr).trans pr
  replace qr := (Sq.cell (p := ⟨w5_.heap.size, 1, none⟩) zr).trans qr
  replace zr : w5_.heap.size < w11_.heap.size := Nat.lt_of_lt_of_le zr Sq.size
  replace HB : Hid (Below w.heap.size w w11_) := HB.out.trans (Sq.mono HB.out.size)
  replace HN := Lib.hid (HN.out.on Sq)
  replace HL := Lib.hid (HL.out.on Sq)
  replace HBs := Lib.hid (HBs.out.on Sq)
  replace HP := Lib.hid (HP.out.on Sq)
  replace HC := Lib.hid (HC.out.on Sq)
  replace HP2 := Lib.hid (HP2.out.on Sq)
  replace HC2 := Lib.hid (HC2.out.on Sq)
  clear Bq Sq
  have HQ := Lib.hid Rq; clear Rq
  go_wp2_with fail
  refine (H13.out A6 c6 w11_ HQ.out).mono ?_
  rintro e w12_ ⟨rfl, Bq⟩
  have Sq : Below w11_.heap.size w11_ w12_ := Bq
  replace pz := (Sq.cell (p := ⟨w.heap.size, 0, none⟩) zz).trans pz
  replace qz := (Sq.cell (p := ⟨w.heap.size, 1, none⟩) zz).trans qz
  replace zz : w.heap.size < w12_.heap.size := Nat.lt_of_lt_of_le zz Sq.size
  replace pc := (Sq.cell (p := ⟨w4_.heap.size, 0, none⟩) zc).trans pc
  replace qc := (Sq.cell (p := ⟨w4_.heap.size, 1, none⟩) zc).trans qc
  replace zc : w4_.heap.size < w12_.heap.size := Nat.lt_of_lt_of_le zc Sq.size
  replace pr := (Sq.cell (p := ⟨w5_.heap.size, 0, none⟩) zr).trans pr
  replace qr := (Sq.cell (p := ⟨w5_.heap.size, 1, none⟩) zr).trans qr
  replace zr : w5_.heap.size < w12_.heap.size := Nat.lt_of_lt_of_le zr Sq.size
  replace HB : Hid (Below w.heap.size w w12_) := HB.out.trans (Sq.mono HB.out.size)
  replace HN := Lib.hid (HN.out.on Sq)
  replace HL := Lib.hid (HL.out.on Sq)
  replace HBs := Lib.hid (HBs.out.on Sq)
  replace HP := Lib.hid (HP.out.on Sq)
  replace HC := Lib.hid (HC.out.on Sq)
  replace HP2 := Lib.hid (HP2.out.on Sq)
  replace HC2 := Lib.hid (HC2.out.on Sq)
  replace HQ := Lib.hid (HQ.out.on Sq)
  clear Bq Sq
  go_wp2_with fail
  refine (fbegun_true w12_ HN.out).mono ?_
  rintro e w13_ ⟨rfl, Bq⟩
  have Sq : Below w12_.heap.size w12_ w13_ := Bq
  replace pz := (Sq.cell (p := ⟨w.heap.size, 0, none⟩) zz).trans pz
  replace qz := (Sq.cell (p := ⟨w.heap.size, 1, none⟩) zz).trans qz
  replace zz : w.heap.size < w13_.heap.size := Nat.lt_of_lt_of_le zz Sq.size
  replace pc := (Sq.cell (p := ⟨w4_.heap.size, 0, none⟩) zc).trans pc
  replace qc := (Sq.cell (p := ⟨w4_.heap.size, 1, none⟩) zc).trans qc
  replace zc : w4_.heap.size < w13_.heap.size := Nat.lt_of_lt_of_le zc Sq.size
  replace pr := (Sq.cell (p := ⟨w5_.heap.size, 0, none⟩) zr).trans pr
  replace qr := (Sq.cell (p := ⟨w5_.heap.size, 1, none⟩) zr).trans qr
  replace zr : w5_.heap.size < w13_.heap.size := Nat.lt_of_lt_of_le zr Sq.size
  replace HB : Hid (Below w.heap.size w w13_) := HB.out.trans (Sq.mono HB.out.size)
  replace HN := Lib.hid (HN.out.on Sq)
  replace HL := Lib.hid (HL.out.on Sq)
  replace HBs := Lib.hid (HBs.out.on Sq)
  replace HP := Lib.hid (HP.out.on Sq)
  replace HC := Lib.hid (HC.out.on Sq)
  replace HP2 := Lib.hid (HP2.out.on Sq)
  replace HC2 := Lib.hid (HC2.out.on Sq)
  replace HQ := Lib.hid (HQ.out.on Sq)
  clear Bq Sq
  go_wp2_with fail
  refine (H14.out A1 c1 A3 c3 w13_ HP.out HP2.out).mono ?_
  rintro e w14_ ⟨rfl, Bq⟩
  have Sq : Below w13_.heap.size w13_ w14_ := Bq
  replace pz := (Sq.cell (p := ⟨w.heap.size, 0, none⟩) zz).trans pz
  replace qz := (Sq.cell (p := ⟨w.heap.size, 1, none⟩) zz).trans qz
  replace zz : w.heap.size < w14_.heap.size := Nat.lt_of_lt_of_le zz Sq.size
  replace pc := (Sq.cell (p := ⟨w4_.heap.size, 0, none⟩) zc).trans pc
  replace qc := (Sq.cell (p := ⟨w4_.heap.size, 1, none⟩) zc).trans qc
  replace zc : w4_.heap.size < w14_.heap.size := Nat.lt_of_lt_of_le zc Sq.size
  replace pr := (Sq.cell (p := ⟨w5_.heap.size, 0, none⟩) zr).trans pr
  replace qr := (Sq.cell (p := ⟨w5_.heap.size, 1, none⟩) zr).trans qr
  replace zr : w5_.heap.size < w14_.heap.size := Nat.lt_of_lt_of_le zr Sq.size
  replace HB : Hid (Below w.heap.size w w14_) := HB.out.trans (Sq.mono HB.out.size)
  replace HN := Lib.hid (HN.out.on Sq)
  replace HL := Lib.hid (HL.out.on Sq)
  replace HBs := Lib.hid (HBs.out.on Sq)
  replace HP := Lib.hid (HP.out.on Sq)
  replace HC := Lib.hid (HC.out.on Sq)
  replace HP2 := Lib.hid (HP2.out.on Sq)
  replace HC2 := Lib.hid (HC2.out.on Sq)
  replace HQ := Lib.hid (HQ.out.on Sq)
  clear Bq Sq
  go_wp2_with fail
  refine (H15.out A2 c2 A5 c5 w14_ HC.out HC2.out).mono ?_
  rintro e w15_ ⟨rfl, Bq⟩
  have Sq : Below w14_.heap.size w14_ w15_ := Bq
  replace pz := (Sq.cell (p := ⟨w.heap.size, 0, none⟩) zz).trans pz
  replace qz := (Sq.cell (p := ⟨w.heap.size, 1, none⟩) zz).trans qz
  replace zz : w.heap.size < w15_.heap.size := Nat.lt_of_lt_of_le zz Sq.size
  replace pc := (Sq.cell (p := ⟨w4_.heap.size, 0, none⟩) zc).trans pc
  replace qc := (Sq.cell (p := ⟨w4_.heap.size, 1, none⟩) zc).trans qc
  replace zc : w4_.heap.size < w15_.heap.size := Nat.lt_of_lt_of_le zc Sq.size
  replace pr := (Sq.cell (p := ⟨w5_.heap.size, 0, none⟩) zr).trans pr
  replace qr := (Sq.cell (p := ⟨w5_.heap.size, 1, none⟩) zr).trans qr
  replace zr : w5_.heap.size < w15_.heap.size := Nat.lt_of_lt_of_le zr Sq.size
  replace HB : Hid (Below w.heap.size w w15_) := HB.out.trans (Sq.mono HB.out.size)
  replace HN := Lib.hid (HN.out.on Sq)
  replace HL := Lib.hid (HL.out.on Sq)
  replace HBs := Lib.hid (HBs.out.on Sq)
  replace HP := Lib.hid (HP.out.on Sq)
  replace HC := Lib.hid (HC.out.on Sq)
  replace HP2 := Lib.hid (HP2.out.on Sq)
  replace HC2 := Lib.hid (HC2.out.on Sq)
  replace HQ := Lib.hid (HQ.out.on Sq)
  clear Bq Sq
  go_wp2
  go_ret
  exact ⟨rfl, HB.out⟩

set_option maxHeartbeats 8000000 in
theorem ftells_lo_10 (i : Int) (n : Nat) (A : Option Addr) (c ll : Nat) (L : List Value) (len : Int) (B : Option Addr) (d bl : Nat) (bs : List Nat) (at_ : Int) (nv : Nat) (ne pe se ue e0 : Int) (sv v to lc ncl pl fl ql : Nat) (Pv Fv Qv : List Value) (bcl : List Nat) (w : World) (hA : RdV w w.heap.size A L) (hB : Rd w w.heap.size B bs) (hN : Nm w)
    (H1 : Hid (∀ w, Nm w → Calls Tryd.prog 9 #[.int .i64 i] w fun e w' => e = .returned (.tuple #[.int .u64 (nv : Int), .int .i64 ne]) ∧ Below w.heap.size w w'))
    (H2 : Hid (∀ w, Nm w → Calls Tryd.prog 10 #[.int .u64 (n : Int)] w fun e w' => ∃ A c, e = .returned (.tuple #[.slice A pl c, .int .i64 0]) ∧ RdV w' w'.heap.size A Pv ∧ Below w.heap.size w w'))
    (H3 : Hid (∀ w, RdV w w.heap.size A L → Nm w → Calls Tryd.prog 11 #[.slice A ll c] w fun e w' => e = .returned (.tuple #[.int .u64 (sv : Int), .int .i64 se]) ∧ Below w.heap.size w w'))
    (H4 : Hid (∀ w, Nm w → Calls Tryd.prog 12 #[.int .u64 (n : Int)] w (Gv w (lc : Int) ncl bcl 0)))
    (H5 : Hid (∀ w, Rd w w.heap.size B bs → Nm w → Calls Tryd.prog 13 #[.agg #[.int .i64 len, .slice B bl d], .int .i64 at_] w (FP w 0 0 ue)))
    (H7 : Hid (∀ w, Calls Tryd.prog 15 #[.int .u64 (n : Int)] w fun e w' => ∃ A c, e = .returned (.slice A pl c) ∧ (∀ b o, A = some ⟨b, o, none⟩ → w.heap.size ≤ b) ∧ RdV w' w'.heap.size A Pv ∧ Below w.heap.size w w'))
    (H8 : Hid (∀ w, Calls Tryd.prog 17 #[.int .u64 (n : Int)] w fun e w' => ∃ A c, e = .returned (.slice A fl c) ∧ RdV w' w'.heap.size A Fv ∧ Below w.heap.size w w'))
    (H9 : Hid (∀ A c w, RdV w w.heap.size A Fv → Calls Tryd.prog 16 #[.slice A fl c] w fun e w' => ∃ A c, e = .returned (.agg #[.int .i64 (lc : Int), .slice A ncl c]) ∧ Rd w' w'.heap.size A bcl ∧ Below w.heap.size w w'))
    (H10 : Hid (∀ w, RdV w w.heap.size A L → Calls Tryd.prog 18 #[.slice A ll c] w fun e w' => e = .returned (.tuple #[.int .u64 (sv : Int), .int .i64 se]) ∧ Below w.heap.size w w'))
    (H11 : Hid (∀ w, Rd w w.heap.size B bs → Calls Tryd.prog 19 #[.agg #[.int .i64 len, .slice B bl d], .int .i64 at_] w fun e w' => e = .returned (.int .i64 ue) ∧ Below w.heap.size w w'))
    (H14 : Hid (∀ A1 c1 A2 c2 w, RdV w w.heap.size A1 Pv → RdV w w.heap.size A2 Pv → Calls Tryd.prog 23 #[.slice A1 pl c1, .slice A2 pl c2] w fun e w' => e = .returned (.bool true) ∧ Below w.heap.size w w'))
    (H15 : Hid (∀ A1 c1 A2 c2 w, Rd w w.heap.size A1 bcl → Rd w w.heap.size A2 bcl → Calls Tryd.prog 24 #[.agg #[.int .i64 (lc : Int), .slice A1 ncl c1], .agg #[.int .i64 (lc : Int), .slice A2 ncl c2]] w fun e w' => e = .returned (.bool true) ∧ Below w.heap.size w w'))
    (hi : i < 0) (hne : ne = 3) (hnv : nv = 0)
    (hn : n ≤ 1099511627776)
    (hu : ue ≠ 0) :
    Calls Tryd.prog 3 #[.int .i64 i, .int .u64 (n : Int), .slice A ll c, .agg #[.int .i64 len, .slice B bl d], .int .i64 at_] w fun e w' => e = .returned (.bool true) ∧ Below w.heap.size w w' := by
  have HN := Lib.hid hN
  have HN0 := Lib.hid hN.pos; clear hN
  have HL := Lib.hid hA; clear hA
  have HBs := Lib.hid hB; clear hB
  have t1 : decide (i < 0) = true := decide_eq_true hi
  subst hne hnv
  have t3 : decide ((1099511627776 : Int) < (n : Int)) = false := by simp; omega
  have t4 : (ue == 0) = false := by simpa using hu
  clear hu
  clear hi hn
  go_enter Tryd.func3, Tryd.ntmps3
  go_wp2_with fail
  refine (H1.out _ (HN.out.on (one_below _ _))).mono ?_
  rintro e w1_ ⟨rfl, Bq⟩
  rw [World.size_alloc] at Bq
  have Sq : Below w.heap.size w w1_ := (one_below w _).trans (Bq.mono (by omega))
  have zz : w.heap.size < w1_.heap.size := by have := Bq.size; rw [World.size_alloc] at this; omega
  obtain ⟨pz, qz⟩ := box_at Bq
  have HB : Hid (Below w.heap.size w w1_) := Sq
  replace HN := Lib.hid (HN.out.on Sq)
  replace HL := Lib.hid (HL.out.on Sq)
  replace HBs := Lib.hid (HBs.out.on Sq)
  clear Bq Sq
  go_wp2_with fail
  refine (H2.out w1_ HN.out).mono ?_
  rintro e w2_ ⟨A1, c1, rfl, Rq, Bq⟩
  have Sq : Below w1_.heap.size w1_ w2_ := Bq
  replace pz := (Sq.cell (p := ⟨w.heap.size, 0, none⟩) zz).trans pz
  replace qz := (Sq.cell (p := ⟨w.heap.size, 1, none⟩) zz).trans qz
  replace zz : w.heap.size < w2_.heap.size := Nat.lt_of_lt_of_le zz Sq.size
  replace HB : Hid (Below w.heap.size w w2_) := HB.out.trans (Sq.mono HB.out.size)
  replace HN := Lib.hid (HN.out.on Sq)
  replace HL := Lib.hid (HL.out.on Sq)
  replace HBs := Lib.hid (HBs.out.on Sq)
  clear Bq Sq
  have HP := Lib.hid Rq; clear Rq
  go_wp2_with fail
  refine (H3.out w2_ HL.out HN.out).mono ?_
  rintro e w3_ ⟨rfl, Bq⟩
  have Sq : Below w2_.heap.size w2_ w3_ := Bq
  replace pz := (Sq.cell (p := ⟨w.heap.size, 0, none⟩) zz).trans pz
  replace qz := (Sq.cell (p := ⟨w.heap.size, 1, none⟩) zz).trans qz
  replace zz : w.heap.size < w3_.heap.size := Nat.lt_of_lt_of_le zz Sq.size
  replace HB : Hid (Below w.heap.size w w3_) := HB.out.trans (Sq.mono HB.out.size)
  replace HN := Lib.hid (HN.out.on Sq)
  replace HL := Lib.hid (HL.out.on Sq)
  replace HBs := Lib.hid (HBs.out.on Sq)
  replace HP := Lib.hid (HP.out.on Sq)
  clear Bq Sq
  go_wp2_with fail
  refine (H4.out w3_ HN.out).mono ?_
  rintro e w4_ ⟨A2, c2, rfl, Rq, Bq⟩
  have Sq : Below w3_.heap.size w3_ w4_ := Bq
  replace pz := (Sq.cell (p := ⟨w.heap.size, 0, none⟩) zz).trans pz
  replace qz := (Sq.cell (p := ⟨w.heap.size, 1, none⟩) zz).trans qz
  replace zz : w.heap.size < w4_.heap.size := Nat.lt_of_lt_of_le zz Sq.size
  replace HB : Hid (Below w.heap.size w w4_) := HB.out.trans (Sq.mono HB.out.size)
  replace HN := Lib.hid (HN.out.on Sq)
  replace HL := Lib.hid (HL.out.on Sq)
  replace HBs := Lib.hid (HBs.out.on Sq)
  replace HP := Lib.hid (HP.out.on Sq)
  clear Bq Sq
  have HC := Lib.hid Rq; clear Rq
  go_wp2_with fail
  refine (H5.out _ (HBs.out.on (one_below _ _)) (HN.out.on (one_below _ _))).mono ?_
  rintro e w5_ ⟨rfl, Bq⟩
  rw [World.size_alloc] at Bq
  have Sq : Below w4_.heap.size w4_ w5_ := (one_below w4_ _).trans (Bq.mono (by omega))
  have zc : w4_.heap.size < w5_.heap.size := by have := Bq.size; rw [World.size_alloc] at this; omega
  obtain ⟨pc, qc⟩ := box_at Bq
  replace pz := (Sq.cell (p := ⟨w.heap.size, 0, none⟩) zz).trans pz
  replace qz := (Sq.cell (p := ⟨w.heap.size, 1, none⟩) zz).trans qz
  replace zz : w.heap.size < w5_.heap.size := Nat.lt_of_lt_of_le zz Sq.size
  replace HB : Hid (Below w.heap.size w w5_) := HB.out.trans (Sq.mono HB.out.size)
  replace HN := Lib.hid (HN.out.on Sq)
  replace HL := Lib.hid (HL.out.on Sq)
  replace HBs := Lib.hid (HBs.out.on Sq)
  replace HP := Lib.hid (HP.out.on Sq)
  replace HC := Lib.hid (HC.out.on Sq)
  clear Bq Sq
  have nz : w.heap.size ≠ w5_.heap.size := by omega
  have nc : w4_.heap.size ≠ w5_.heap.size := by omega
  have hwp : w.heap.size ≤ w5_.heap.size := HB.out.size
  have hgp : 0 < w5_.heap.size := Nat.lt_of_lt_of_le HN0.out hwp
  have HLk := Lib.hid (rdv_off HL.out)
  have HPk := Lib.hid (rdv_off HP.out)
  go_wp2_with fail
  refine (H7.out _).mono ?_
  rintro e w6_ ⟨A3, c3, rfl, Ro, Rq, Bq⟩
  rw [World.size_alloc] at Bq
  have Sq : Below w5_.heap.size w5_ w6_ := (one_below w5_ _).trans (Bq.mono (by omega))
  have zr : w5_.heap.size < w6_.heap.size := by have := Bq.size; rw [World.size_alloc] at this; omega
  obtain ⟨pr, qr⟩ := box_at Bq
  replace pz := (Sq.cell (p := ⟨w.heap.size, 0, none⟩) zz).trans pz
  replace qz := (Sq.cell (p := ⟨w.heap.size, 1, none⟩) zz).trans qz
  replace zz : w.heap.size < w6_.heap.size := Nat.lt_of_lt_of_le zz Sq.size
  replace pc := (Sq.cell (p := ⟨w4_.heap.size, 0, none⟩) zc).trans pc
  replace qc := (Sq.cell (p := ⟨w4_.heap.size, 1, none⟩) zc).trans qc
  replace zc : w4_.heap.size < w6_.heap.size := Nat.lt_of_lt_of_le zc Sq.size
  replace HB : Hid (Below w.heap.size w w6_) := HB.out.trans (Sq.mono HB.out.size)
  replace HN := Lib.hid (HN.out.on Sq)
  replace HL := Lib.hid (HL.out.on Sq)
  replace HBs := Lib.hid (HBs.out.on Sq)
  replace HP := Lib.hid (HP.out.on Sq)
  replace HC := Lib.hid (HC.out.on Sq)
  have BH : Hid (w6_.heap[w5_.heap.size]? = some (.cells #[.int .i64 0, .slice none 0 0] 26 (0, 0))) := (Bq.block _ (by omega)).trans (World.alloc_heap_new w5_ _)
  clear Bq Sq
  have HP2 := Lib.hid Rq; clear Rq
  have HP2k : Hid (Off w5_.heap.size A3 Pv) := .inr fun b o h => by have := Ro b o h; rw [World.size_alloc] at this; omega
  clear Ro
  go_wp2_with fail
  refine (H8.out w6_).mono ?_
  rintro e w7_ ⟨A4, c4, rfl, Rq, Bq⟩
  have Sq : Below w6_.heap.size w6_ w7_ := Bq
  replace pz := (Sq.cell (p := ⟨w.heap.size, 0, none⟩) zz).trans pz
  replace qz := (Sq.cell (p := ⟨w.heap.size, 1, none⟩) zz).trans qz
  replace zz : w.heap.size < w7_.heap.size := Nat.lt_of_lt_of_le zz Sq.size
  replace pc := (Sq.cell (p := ⟨w4_.heap.size, 0, none⟩) zc).trans pc
  replace qc := (Sq.cell (p := ⟨w4_.heap.size, 1, none⟩) zc).trans qc
  replace zc : w4_.heap.size < w7_.heap.size := Nat.lt_of_lt_of_le zc Sq.size
  replace pr := (Sq.cell (p := ⟨w5_.heap.size, 0, none⟩) zr).trans pr
  replace qr := (Sq.cell (p := ⟨w5_.heap.size, 1, none⟩) zr).trans qr
  replace zr : w5_.heap.size < w7_.heap.size := Nat.lt_of_lt_of_le zr Sq.size
  replace HB : Hid (Below w.heap.size w w7_) := HB.out.trans (Sq.mono HB.out.size)
  replace HN := Lib.hid (HN.out.on Sq)
  replace HL := Lib.hid (HL.out.on Sq)
  replace HBs := Lib.hid (HBs.out.on Sq)
  replace HP := Lib.hid (HP.out.on Sq)
  replace HC := Lib.hid (HC.out.on Sq)
  replace HP2 := Lib.hid (HP2.out.on Sq)
  replace BH : Hid (w7_.heap[w5_.heap.size]? = _) := (Sq.block _ (Array.getElem?_eq_some_iff.1 BH.out).1).trans BH.out
  clear Bq Sq
  have HF := Lib.hid Rq; clear Rq
  go_wp2_with fail
  refine (H9.out A4 c4 w7_ HF.out).mono ?_
  rintro e w8_ ⟨A5, c5, rfl, Rq, Bq⟩
  have Sq : Below w7_.heap.size w7_ w8_ := Bq
  replace pz := (Sq.cell (p := ⟨w.heap.size, 0, none⟩) zz).trans pz
  replace qz := (Sq.cell (p := ⟨w.heap.size, 1, none⟩) zz).trans qz
  replace zz : w.heap.size < w8_.heap.size := Nat.lt_of_lt_of_le zz Sq.size
  replace pc := (Sq.cell (p := ⟨w4_.heap.size, 0, none⟩) zc).trans pc
  replace qc := (Sq.cell (p := ⟨w4_.heap.size, 1, none⟩) zc).trans qc
  replace zc : w4_.heap.size < w8_.heap.size := Nat.lt_of_lt_of_le zc Sq.size
  replace pr := (Sq.cell (p := ⟨w5_.heap.size, 0, none⟩) zr).trans pr
  replace qr := (Sq.cell (p := ⟨w5_.heap.size, 1, none⟩) zr).trans qr
  replace zr : w5_.heap.size < w8_.heap.size := Nat.lt_of_lt_of_le zr Sq.size
  replace HB : Hid (Below w.heap.size w w8_) := HB.out.trans (Sq.mono HB.out.size)
  replace HN := Lib.hid (HN.out.on Sq)
  replace HL := Lib.hid (HL.out.on Sq)
  replace HBs := Lib.hid (HBs.out.on Sq)
  replace HP := Lib.hid (HP.out.on Sq)
  replace HC := Lib.hid (HC.out.on Sq)
  replace HP2 := Lib.hid (HP2.out.on Sq)
  replace HF := Lib.hid (HF.out.on Sq)
  replace BH : Hid (w8_.heap[w5_.heap.size]? = _) := (Sq.block _ (Array.getElem?_eq_some_iff.1 BH.out).1).trans BH.out
  clear Bq Sq
  have HC2 := Lib.hid Rq; clear Rq
  obtain ⟨-, -, fh0, fh1⟩ := blk_cells BH.out
  have HST := Lib.hid (set_box (w := w8_) (K := w5_.heap.size) (.int .i64 (lc : Int)) (.slice A5 ncl c5) BH.out)
  have HSV := Lib.hid (set_boxV (w := w8_) (K := w5_.heap.size) (.int .i64 (lc : Int)) (.slice A5 ncl c5) BH.out)
  obtain ⟨pr_, qr_, hsz⟩ := HST.out.1
  have pz_ := (HST.out.2.1 w.heap.size 0 nz).trans pz
  have qz_ := (HST.out.2.1 w.heap.size 1 nz).trans qz
  have pc_ := (HST.out.2.1 w4_.heap.size 0 nc).trans pc
  have qc_ := (HST.out.2.1 w4_.heap.size 1 nc).trans qc
  replace HBs := Lib.hid (HST.out.2.2.1 _ _ HBs.out)
  replace HC := Lib.hid (HST.out.2.2.1 _ _ HC.out)
  replace HC2 := Lib.hid (HST.out.2.2.1 _ _ HC2.out)
  replace HL := Lib.hid (HSV.out _ _ HLk.out HL.out)
  replace HP := Lib.hid (HSV.out _ _ HPk.out HP.out)
  replace HP2 := Lib.hid (HSV.out _ _ HP2k.out HP2.out)
  clear HF
  replace HN := Lib.hid (HN.out.set_box hgp HST.out.2.1)
  replace HB := Lib.hid (HST.out.2.2.2 _ _ hwp HB.out)
  clear HST HSV HLk HPk HP2k
  go_wp2_with fail
  generalize hW : ((w8_.setCell ⟨w5_.heap.size, 0, none⟩ (.int .i64 (lc : Int))).setCell ⟨w5_.heap.size, 1, none⟩ (.slice A5 ncl c5)) = w8_ at *
  clear hW
  have zz_ : w.heap.size < w8_.heap.size := by omega
  have zc_ : w4_.heap.size < w8_.heap.size := by omega
  have zr_ : w5_.heap.size < w8_.heap.size := by omega
  clear pz qz zz
  clear pc qc zc
  clear pr qr zr
  have pz := pz_; have qz := qz_; have zz := zz_; clear pz_ qz_ zz_
  have pc := pc_; have qc := qc_; have zc := zc_; clear pc_ qc_ zc_
  have pr := pr_; have qr := qr_; have zr := zr_; clear pr_ qr_ zr_
  clear hsz BH fh0 fh1
  refine (H10.out w8_ HL.out).mono ?_
  rintro e w9_ ⟨rfl, Bq⟩
  have Sq : Below w8_.heap.size w8_ w9_ := Bq
  replace pz := (Sq.cell (p := ⟨w.heap.size, 0, none⟩) zz).trans pz
  replace qz := (Sq.cell (p := ⟨w.heap.size, 1, none⟩) zz).trans qz
  replace zz : w.heap.size < w9_.heap.size := Nat.lt_of_lt_of_le zz Sq.size
  replace pc := (Sq.cell (p := ⟨w4_.heap.size, 0, none⟩) zc).trans pc
  replace qc := (Sq.cell (p := ⟨w4_.heap.size, 1, none⟩) zc).trans qc
  replace zc : w4_.heap.size < w9_.heap.size := Nat.lt_of_lt_of_le zc Sq.size
  replace pr := (Sq.cell (p := ⟨w5_.heap.size, 0, none⟩) zr).trans pr
  replace qr := (Sq.cell (p := ⟨w5_.heap.size, 1, none⟩) zr).trans qr
  replace zr : w5_.heap.size < w9_.heap.size := Nat.lt_of_lt_of_le zr Sq.size
  replace HB : Hid (Below w.heap.size w w9_) := HB.out.trans (Sq.mono HB.out.size)
  replace HN := Lib.hid (HN.out.on Sq)
  replace HL := Lib.hid (HL.out.on Sq)
  replace HBs := Lib.hid (HBs.out.on Sq)
  replace HP := Lib.hid (HP.out.on Sq)
  replace HC := Lib.hid (HC.out.on Sq)
  replace HP2 := Lib.hid (HP2.out.on Sq)
  replace HC2 := Lib.hid (HC2.out.on Sq)
  clear Bq Sq
  go_wp2_with fail
  refine (H11.out w9_ HBs.out).mono ?_
  rintro e w10_ ⟨rfl, Bq⟩
  have Sq : Below w9_.heap.size w9_ w10_ := Bq
  replace pz := (Sq.cell (p := ⟨w.heap.size, 0, none⟩) zz).trans pz
  replace qz := (Sq.cell (p := ⟨w.heap.size, 1, none⟩) zz).trans qz
  replace zz : w.heap.size < w10_.heap.size := Nat.lt_of_lt_of_le zz Sq.size
  replace pc := (Sq.cell (p := ⟨w4_.heap.size, 0, none⟩) zc).trans pc
  replace qc := (Sq.cell (p := ⟨w4_.heap.size, 1, none⟩) zc).trans qc
  replace zc : w4_.heap.size < w10_.heap.size := Nat.lt_of_lt_of_le zc Sq.size
  replace pr := (Sq.cell (p := ⟨w5_.heap.size, 0, none⟩) zr).trans pr
  replace qr := (Sq.cell (p := ⟨w5_.heap.size, 1, none⟩) zr).trans qr
  replace zr : w5_.heap.size < w10_.heap.size := Nat.lt_of_lt_of_le zr Sq.size
  replace HB : Hid (Below w.heap.size w w10_) := HB.out.trans (Sq.mono HB.out.size)
  replace HN := Lib.hid (HN.out.on Sq)
  replace HL := Lib.hid (HL.out.on Sq)
  replace HBs := Lib.hid (HBs.out.on Sq)
  replace HP := Lib.hid (HP.out.on Sq)
  replace HC := Lib.hid (HC.out.on Sq)
  replace HP2 := Lib.hid (HP2.out.on Sq)
  replace HC2 := Lib.hid (HC2.out.on Sq)
  clear Bq Sq
  go_wp2_with fail
  refine (fbegun_true w10_ HN.out).mono ?_
  rintro e w11_ ⟨rfl, Bq⟩
  have Sq : Below w10_.heap.size w10_ w11_ := Bq
  replace pz := (Sq.cell (p := ⟨w.heap.size, 0, none⟩) zz).trans pz
  replace qz := (Sq.cell (p := ⟨w.heap.size, 1, none⟩) zz).trans qz
  replace zz : w.heap.size < w11_.heap.size := Nat.lt_of_lt_of_le zz Sq.size
  replace pc := (Sq.cell (p := ⟨w4_.heap.size, 0, none⟩) zc).trans pc
  replace qc := (Sq.cell (p := ⟨w4_.heap.size, 1, none⟩) zc).trans qc
  replace zc : w4_.heap.size < w11_.heap.size := Nat.lt_of_lt_of_le zc Sq.size
  replace pr := (Sq.cell (p := ⟨w5_.heap.size, 0, none⟩) zr).trans pr
  replace qr := (Sq.cell (p := ⟨w5_.heap.size, 1, none⟩) zr).trans qr
  replace zr : w5_.heap.size < w11_.heap.size := Nat.lt_of_lt_of_le zr Sq.size
  replace HB : Hid (Below w.heap.size w w11_) := HB.out.trans (Sq.mono HB.out.size)
  replace HN := Lib.hid (HN.out.on Sq)
  replace HL := Lib.hid (HL.out.on Sq)
  replace HBs := Lib.hid (HBs.out.on Sq)
  replace HP := Lib.hid (HP.out.on Sq)
  replace HC := Lib.hid (HC.out.on Sq)
  replace HP2 := Lib.hid (HP2.out.on Sq)
  replace HC2 := Lib.hid (HC2.out.on Sq)
  clear Bq Sq
  go_wp2_with fail
  refine (H14.out A1 c1 A3 c3 w11_ HP.out HP2.out).mono ?_
  rintro e w12_ ⟨rfl, Bq⟩
  have Sq : Below w11_.heap.size w11_ w12_ := Bq
  replace pz := (Sq.cell (p := ⟨w.heap.size, 0, none⟩) zz).trans pz
  replace qz := (Sq.cell (p := ⟨w.heap.size, 1, none⟩) zz).trans qz
  replace zz : w.heap.size < w12_.heap.size := Nat.lt_of_lt_of_le zz Sq.size
  replace pc := (Sq.cell (p := ⟨w4_.heap.size, 0, none⟩) zc).trans pc
  replace qc := (Sq.cell (p := ⟨w4_.heap.size, 1, none⟩) zc).trans qc
  replace zc : w4_.heap.size < w12_.heap.size := Nat.lt_of_lt_of_le zc Sq.size
  replace pr := (Sq.cell (p := ⟨w5_.heap.size, 0, none⟩) zr).trans pr
  replace qr := (Sq.cell (p := ⟨w5_.heap.size, 1, none⟩) zr).trans qr
  replace zr : w5_.heap.size < w12_.heap.size := Nat.lt_of_lt_of_le zr Sq.size
  replace HB : Hid (Below w.heap.size w w12_) := HB.out.trans (Sq.mono HB.out.size)
  replace HN := Lib.hid (HN.out.on Sq)
  replace HL := Lib.hid (HL.out.on Sq)
  replace HBs := Lib.hid (HBs.out.on Sq)
  replace HP := Lib.hid (HP.out.on Sq)
  replace HC := Lib.hid (HC.out.on Sq)
  replace HP2 := Lib.hid (HP2.out.on Sq)
  replace HC2 := Lib.hid (HC2.out.on Sq)
  clear Bq Sq
  go_wp2_with fail
  refine (H15.out A2 c2 A5 c5 w12_ HC.out HC2.out).mono ?_
  rintro e w13_ ⟨rfl, Bq⟩
  have Sq : Below w12_.heap.size w12_ w13_ := Bq
  replace pz := (Sq.cell (p := ⟨w.heap.size, 0, none⟩) zz).trans pz
  replace qz := (Sq.cell (p := ⟨w.heap.size, 1, none⟩) zz).trans qz
  replace zz : w.heap.size < w13_.heap.size := Nat.lt_of_lt_of_le zz Sq.size
  replace pc := (Sq.cell (p := ⟨w4_.heap.size, 0, none⟩) zc).trans pc
  replace qc := (Sq.cell (p := ⟨w4_.heap.size, 1, none⟩) zc).trans qc
  replace zc : w4_.heap.size < w13_.heap.size := Nat.lt_of_lt_of_le zc Sq.size
  replace pr := (Sq.cell (p := ⟨w5_.heap.size, 0, none⟩) zr).trans pr
  replace qr := (Sq.cell (p := ⟨w5_.heap.size, 1, none⟩) zr).trans qr
  replace zr : w5_.heap.size < w13_.heap.size := Nat.lt_of_lt_of_le zr Sq.size
  replace HB : Hid (Below w.heap.size w w13_) := HB.out.trans (Sq.mono HB.out.size)
  replace HN := Lib.hid (HN.out.on Sq)
  replace HL := Lib.hid (HL.out.on Sq)
  replace HBs := Lib.hid (HBs.out.on Sq)
  replace HP := Lib.hid (HP.out.on Sq)
  replace HC := Lib.hid (HC.out.on Sq)
  replace HP2 := Lib.hid (HP2.out.on Sq)
  replace HC2 := Lib.hid (HC2.out.on Sq)
  clear Bq Sq
  go_wp2
  go_ret
  exact ⟨rfl, HB.out⟩

set_option maxHeartbeats 8000000 in
theorem ftells_lo_01 (i : Int) (n : Nat) (A : Option Addr) (c ll : Nat) (L : List Value) (len : Int) (B : Option Addr) (d bl : Nat) (bs : List Nat) (at_ : Int) (nv : Nat) (ne pe se ue e0 : Int) (sv v to lc ncl pl fl ql : Nat) (Pv Fv Qv : List Value) (bcl : List Nat) (w : World) (hA : RdV w w.heap.size A L) (hB : Rd w w.heap.size B bs) (hN : Nm w)
    (H1 : Hid (∀ w, Nm w → Calls Tryd.prog 9 #[.int .i64 i] w fun e w' => e = .returned (.tuple #[.int .u64 (nv : Int), .int .i64 ne]) ∧ Below w.heap.size w w'))
    (H2 : Hid (∀ w, Nm w → Calls Tryd.prog 10 #[.int .u64 (n : Int)] w fun e w' => ∃ A c, e = .returned (.tuple #[.slice A 0 c, .int .i64 3]) ∧ RdV w' w'.heap.size A [] ∧ Below w.heap.size w w'))
    (H3 : Hid (∀ w, RdV w w.heap.size A L → Nm w → Calls Tryd.prog 11 #[.slice A ll c] w fun e w' => e = .returned (.tuple #[.int .u64 (sv : Int), .int .i64 se]) ∧ Below w.heap.size w w'))
    (H4 : Hid (∀ w, Nm w → Calls Tryd.prog 12 #[.int .u64 (n : Int)] w (Gv w 0 0 [] 3)))
    (H5 : Hid (∀ w, Rd w w.heap.size B bs → Nm w → Calls Tryd.prog 13 #[.agg #[.int .i64 len, .slice B bl d], .int .i64 at_] w (FP w v to e0)))
    (H10 : Hid (∀ w, RdV w w.heap.size A L → Calls Tryd.prog 18 #[.slice A ll c] w fun e w' => e = .returned (.tuple #[.int .u64 (sv : Int), .int .i64 se]) ∧ Below w.heap.size w w'))
    (H11 : Hid (∀ w, Rd w w.heap.size B bs → Calls Tryd.prog 19 #[.agg #[.int .i64 len, .slice B bl d], .int .i64 at_] w fun e w' => e = .returned (.int .i64 0) ∧ Below w.heap.size w w'))
    (H12 : Hid (∀ w, Rd w w.heap.size B bs → Calls Tryd.prog 21 #[.agg #[.int .i64 len, .slice B bl d]] w fun e w' => ∃ A c, e = .returned (.slice A ql c) ∧ RdV w' w'.heap.size A Qv ∧ Below w.heap.size w w'))
    (H13 : Hid (∀ A c w, RdV w w.heap.size A Qv → Calls Tryd.prog 20 #[.slice A ql c, .int .i64 at_] w (FP w v to e0)))
    (H14 : Hid (∀ A1 c1 w, Calls Tryd.prog 23 #[.slice A1 0 c1, .slice none 0 0] w fun e w' => e = .returned (.bool true) ∧ Below w.heap.size w w'))
    (H15 : Hid (∀ A1 c1 w, Calls Tryd.prog 24 #[.agg #[.int .i64 0, .slice A1 0 c1], .agg #[.int .i64 0, .slice none 0 0]] w fun e w' => e = .returned (.bool true) ∧ Below w.heap.size w w'))
    (hi : i < 0) (hne : ne = 3) (hnv : nv = 0)
    (hn : 1099511627776 < n) :
    Calls Tryd.prog 3 #[.int .i64 i, .int .u64 (n : Int), .slice A ll c, .agg #[.int .i64 len, .slice B bl d], .int .i64 at_] w fun e w' => e = .returned (.bool true) ∧ Below w.heap.size w w' := by
  have HN := Lib.hid hN
  have HN0 := Lib.hid hN.pos; clear hN
  have HL := Lib.hid hA; clear hA
  have HBs := Lib.hid hB; clear hB
  have t1 : decide (i < 0) = true := decide_eq_true hi
  subst hne hnv
  have t3 : decide ((1099511627776 : Int) < (n : Int)) = true := decide_eq_true (by omega)
  clear hi hn
  go_enter Tryd.func3, Tryd.ntmps3
  go_wp2_with fail
  refine (H1.out _ (HN.out.on (one_below _ _))).mono ?_
  rintro e w1_ ⟨rfl, Bq⟩
  rw [World.size_alloc] at Bq
  have Sq : Below w.heap.size w w1_ := (one_below w _).trans (Bq.mono (by omega))
  have zz : w.heap.size < w1_.heap.size := by have := Bq.size; rw [World.size_alloc] at this; omega
  obtain ⟨pz, qz⟩ := box_at Bq
  have HB : Hid (Below w.heap.size w w1_) := Sq
  replace HN := Lib.hid (HN.out.on Sq)
  replace HL := Lib.hid (HL.out.on Sq)
  replace HBs := Lib.hid (HBs.out.on Sq)
  clear Bq Sq
  go_wp2_with fail
  refine (H2.out w1_ HN.out).mono ?_
  rintro e w2_ ⟨A1, c1, rfl, Rq, Bq⟩
  have Sq : Below w1_.heap.size w1_ w2_ := Bq
  replace pz := (Sq.cell (p := ⟨w.heap.size, 0, none⟩) zz).trans pz
  replace qz := (Sq.cell (p := ⟨w.heap.size, 1, none⟩) zz).trans qz
  replace zz : w.heap.size < w2_.heap.size := Nat.lt_of_lt_of_le zz Sq.size
  replace HB : Hid (Below w.heap.size w w2_) := HB.out.trans (Sq.mono HB.out.size)
  replace HN := Lib.hid (HN.out.on Sq)
  replace HL := Lib.hid (HL.out.on Sq)
  replace HBs := Lib.hid (HBs.out.on Sq)
  clear Bq Sq
  have HP := Lib.hid Rq; clear Rq
  go_wp2_with fail
  refine (H3.out w2_ HL.out HN.out).mono ?_
  rintro e w3_ ⟨rfl, Bq⟩
  have Sq : Below w2_.heap.size w2_ w3_ := Bq
  replace pz := (Sq.cell (p := ⟨w.heap.size, 0, none⟩) zz).trans pz
  replace qz := (Sq.cell (p := ⟨w.heap.size, 1, none⟩) zz).trans qz
  replace zz : w.heap.size < w3_.heap.size := Nat.lt_of_lt_of_le zz Sq.size
  replace HB : Hid (Below w.heap.size w w3_) := HB.out.trans (Sq.mono HB.out.size)
  replace HN := Lib.hid (HN.out.on Sq)
  replace HL := Lib.hid (HL.out.on Sq)
  replace HBs := Lib.hid (HBs.out.on Sq)
  replace HP := Lib.hid (HP.out.on Sq)
  clear Bq Sq
  go_wp2_with fail
  refine (H4.out w3_ HN.out).mono ?_
  rintro e w4_ ⟨A2, c2, rfl, Rq, Bq⟩
  have Sq : Below w3_.heap.size w3_ w4_ := Bq
  replace pz := (Sq.cell (p := ⟨w.heap.size, 0, none⟩) zz).trans pz
  replace qz := (Sq.cell (p := ⟨w.heap.size, 1, none⟩) zz).trans qz
  replace zz : w.heap.size < w4_.heap.size := Nat.lt_of_lt_of_le zz Sq.size
  replace HB : Hid (Below w.heap.size w w4_) := HB.out.trans (Sq.mono HB.out.size)
  replace HN := Lib.hid (HN.out.on Sq)
  replace HL := Lib.hid (HL.out.on Sq)
  replace HBs := Lib.hid (HBs.out.on Sq)
  replace HP := Lib.hid (HP.out.on Sq)
  clear Bq Sq
  have HC := Lib.hid Rq; clear Rq
  go_wp2_with fail
  refine (H5.out _ (HBs.out.on (one_below _ _)) (HN.out.on (one_below _ _))).mono ?_
  rintro e w5_ ⟨rfl, Bq⟩
  rw [World.size_alloc] at Bq
  have Sq : Below w4_.heap.size w4_ w5_ := (one_below w4_ _).trans (Bq.mono (by omega))
  have zc : w4_.heap.size < w5_.heap.size := by have := Bq.size; rw [World.size_alloc] at this; omega
  obtain ⟨pc, qc⟩ := box_at Bq
  replace pz := (Sq.cell (p := ⟨w.heap.size, 0, none⟩) zz).trans pz
  replace qz := (Sq.cell (p := ⟨w.heap.size, 1, none⟩) zz).trans qz
  replace zz : w.heap.size < w5_.heap.size := Nat.lt_of_lt_of_le zz Sq.size
  replace HB : Hid (Below w.heap.size w w5_) := HB.out.trans (Sq.mono HB.out.size)
  replace HN := Lib.hid (HN.out.on Sq)
  replace HL := Lib.hid (HL.out.on Sq)
  replace HBs := Lib.hid (HBs.out.on Sq)
  replace HP := Lib.hid (HP.out.on Sq)
  replace HC := Lib.hid (HC.out.on Sq)
  clear Bq Sq
  go_wp2_with fail
  refine (H10.out _ (HL.out.on (one_below _ _))).mono ?_
  rintro e w6_ ⟨rfl, Bq⟩
  rw [World.size_alloc] at Bq
  have Sq : Below w5_.heap.size w5_ w6_ := (one_below w5_ _).trans (Bq.mono (by omega))
  have zr : w5_.heap.size < w6_.heap.size := by have := Bq.size; rw [World.size_alloc] at this; omega
  obtain ⟨pr, qr⟩ := box_at Bq
  replace pz := (Sq.cell (p := ⟨w.heap.size, 0, none⟩) zz).trans pz
  replace qz := (Sq.cell (p := ⟨w.heap.size, 1, none⟩) zz).trans qz
  replace zz : w.heap.size < w6_.heap.size := Nat.lt_of_lt_of_le zz Sq.size
  replace pc := (Sq.cell (p := ⟨w4_.heap.size, 0, none⟩) zc).trans pc
  replace qc := (Sq.cell (p := ⟨w4_.heap.size, 1, none⟩) zc).trans qc
  replace zc : w4_.heap.size < w6_.heap.size := Nat.lt_of_lt_of_le zc Sq.size
  replace HB : Hid (Below w.heap.size w w6_) := HB.out.trans (Sq.mono HB.out.size)
  replace HN := Lib.hid (HN.out.on Sq)
  replace HL := Lib.hid (HL.out.on Sq)
  replace HBs := Lib.hid (HBs.out.on Sq)
  replace HP := Lib.hid (HP.out.on Sq)
  replace HC := Lib.hid (HC.out.on Sq)
  clear Bq Sq
  go_wp2_with fail
  refine (H11.out w6_ HBs.out).mono ?_
  rintro e w7_ ⟨rfl, Bq⟩
  have Sq : Below w6_.heap.size w6_ w7_ := Bq
  replace pz := (Sq.cell (p := ⟨w.heap.size, 0, none⟩) zz).trans pz
  replace qz := (Sq.cell (p := ⟨w.heap.size, 1, none⟩) zz).trans qz
  replace zz : w.heap.size < w7_.heap.size := Nat.lt_of_lt_of_le zz Sq.size
  replace pc := (Sq.cell (p := ⟨w4_.heap.size, 0, none⟩) zc).trans pc
  replace qc := (Sq.cell (p := ⟨w4_.heap.size, 1, none⟩) zc).trans qc
  replace zc : w4_.heap.size < w7_.heap.size := Nat.lt_of_lt_of_le zc Sq.size
  replace pr := (Sq.cell (p := ⟨w5_.heap.size, 0, none⟩) zr).trans pr
  replace qr := (Sq.cell (p := ⟨w5_.heap.size, 1, none⟩) zr).trans qr
  replace zr : w5_.heap.size < w7_.heap.size := Nat.lt_of_lt_of_le zr Sq.size
  replace HB : Hid (Below w.heap.size w w7_) := HB.out.trans (Sq.mono HB.out.size)
  replace HN := Lib.hid (HN.out.on Sq)
  replace HL := Lib.hid (HL.out.on Sq)
  replace HBs := Lib.hid (HBs.out.on Sq)
  replace HP := Lib.hid (HP.out.on Sq)
  replace HC := Lib.hid (HC.out.on Sq)
  clear Bq Sq
  go_wp2_with fail
  refine (H12.out w7_ HBs.out).mono ?_
  rintro e w8_ ⟨A6, c6, rfl, Rq, Bq⟩
  have Sq : Below w7_.heap.size w7_ w8_ := Bq
  replace pz := (Sq.cell (p := ⟨w.heap.size, 0, none⟩) zz).trans pz
  replace qz := (Sq.cell (p := ⟨w.heap.size, 1, none⟩) zz).trans qz
  replace zz : w.heap.size < w8_.heap.size := Nat.lt_of_lt_of_le zz Sq.size
  replace pc := (Sq.cell (p := ⟨w4_.heap.size, 0, none⟩) zc).trans pc
  replace qc := (Sq.cell (p := ⟨w4_.heap.size, 1, none⟩) zc).trans qc
  replace zc : w4_.heap.size < w8_.heap.size := Nat.lt_of_lt_of_le zc Sq.size
  replace pr := (Sq.cell (p := ⟨w5_.heap.size, 0, none⟩) zr).trans pr
  replace qr := (Sq.cell (p := ⟨w5_.heap.size, 1, none⟩) zr).trans qr
  replace zr : w5_.heap.size < w8_.heap.size := Nat.lt_of_lt_of_le zr Sq.size
  replace HB : Hid (Below w.heap.size w w8_) := HB.out.trans (Sq.mono HB.out.size)
  replace HN := Lib.hid (HN.out.on Sq)
  replace HL := Lib.hid (HL.out.on Sq)
  replace HBs := Lib.hid (HBs.out.on Sq)
  replace HP := Lib.hid (HP.out.on Sq)
  replace HC := Lib.hid (HC.out.on Sq)
  clear Bq Sq
  have HQ := Lib.hid Rq; clear Rq
  go_wp2_with fail
  refine (H13.out A6 c6 w8_ HQ.out).mono ?_
  rintro e w9_ ⟨rfl, Bq⟩
  have Sq : Below w8_.heap.size w8_ w9_ := Bq
  replace pz := (Sq.cell (p := ⟨w.heap.size, 0, none⟩) zz).trans pz
  replace qz := (Sq.cell (p := ⟨w.heap.size, 1, none⟩) zz).trans qz
  replace zz : w.heap.size < w9_.heap.size := Nat.lt_of_lt_of_le zz Sq.size
  replace pc := (Sq.cell (p := ⟨w4_.heap.size, 0, none⟩) zc).trans pc
  replace qc := (Sq.cell (p := ⟨w4_.heap.size, 1, none⟩) zc).trans qc
  replace zc : w4_.heap.size < w9_.heap.size := Nat.lt_of_lt_of_le zc Sq.size
  replace pr := (Sq.cell (p := ⟨w5_.heap.size, 0, none⟩) zr).trans pr
  replace qr := (Sq.cell (p := ⟨w5_.heap.size, 1, none⟩) zr).trans qr
  replace zr : w5_.heap.size < w9_.heap.size := Nat.lt_of_lt_of_le zr Sq.size
  replace HB : Hid (Below w.heap.size w w9_) := HB.out.trans (Sq.mono HB.out.size)
  replace HN := Lib.hid (HN.out.on Sq)
  replace HL := Lib.hid (HL.out.on Sq)
  replace HBs := Lib.hid (HBs.out.on Sq)
  replace HP := Lib.hid (HP.out.on Sq)
  replace HC := Lib.hid (HC.out.on Sq)
  replace HQ := Lib.hid (HQ.out.on Sq)
  clear Bq Sq
  go_wp2_with fail
  refine (fbegun_true w9_ HN.out).mono ?_
  rintro e w10_ ⟨rfl, Bq⟩
  have Sq : Below w9_.heap.size w9_ w10_ := Bq
  replace pz := (Sq.cell (p := ⟨w.heap.size, 0, none⟩) zz).trans pz
  replace qz := (Sq.cell (p := ⟨w.heap.size, 1, none⟩) zz).trans qz
  replace zz : w.heap.size < w10_.heap.size := Nat.lt_of_lt_of_le zz Sq.size
  replace pc := (Sq.cell (p := ⟨w4_.heap.size, 0, none⟩) zc).trans pc
  replace qc := (Sq.cell (p := ⟨w4_.heap.size, 1, none⟩) zc).trans qc
  replace zc : w4_.heap.size < w10_.heap.size := Nat.lt_of_lt_of_le zc Sq.size
  replace pr := (Sq.cell (p := ⟨w5_.heap.size, 0, none⟩) zr).trans pr
  replace qr := (Sq.cell (p := ⟨w5_.heap.size, 1, none⟩) zr).trans qr
  replace zr : w5_.heap.size < w10_.heap.size := Nat.lt_of_lt_of_le zr Sq.size
  replace HB : Hid (Below w.heap.size w w10_) := HB.out.trans (Sq.mono HB.out.size)
  replace HN := Lib.hid (HN.out.on Sq)
  replace HL := Lib.hid (HL.out.on Sq)
  replace HBs := Lib.hid (HBs.out.on Sq)
  replace HP := Lib.hid (HP.out.on Sq)
  replace HC := Lib.hid (HC.out.on Sq)
  replace HQ := Lib.hid (HQ.out.on Sq)
  clear Bq Sq
  go_wp2_with fail
  refine (H14.out A1 c1 w10_).mono ?_
  rintro e w11_ ⟨rfl, Bq⟩
  have Sq : Below w10_.heap.size w10_ w11_ := Bq
  replace pz := (Sq.cell (p := ⟨w.heap.size, 0, none⟩) zz).trans pz
  replace qz := (Sq.cell (p := ⟨w.heap.size, 1, none⟩) zz).trans qz
  replace zz : w.heap.size < w11_.heap.size := Nat.lt_of_lt_of_le zz Sq.size
  replace pc := (Sq.cell (p := ⟨w4_.heap.size, 0, none⟩) zc).trans pc
  replace qc := (Sq.cell (p := ⟨w4_.heap.size, 1, none⟩) zc).trans qc
  replace zc : w4_.heap.size < w11_.heap.size := Nat.lt_of_lt_of_le zc Sq.size
  replace pr := (Sq.cell (p := ⟨w5_.heap.size, 0, none⟩) zr).trans pr
  replace qr := (Sq.cell (p := ⟨w5_.heap.size, 1, none⟩) zr).trans qr
  replace zr : w5_.heap.size < w11_.heap.size := Nat.lt_of_lt_of_le zr Sq.size
  replace HB : Hid (Below w.heap.size w w11_) := HB.out.trans (Sq.mono HB.out.size)
  replace HN := Lib.hid (HN.out.on Sq)
  replace HL := Lib.hid (HL.out.on Sq)
  replace HBs := Lib.hid (HBs.out.on Sq)
  replace HP := Lib.hid (HP.out.on Sq)
  replace HC := Lib.hid (HC.out.on Sq)
  replace HQ := Lib.hid (HQ.out.on Sq)
  clear Bq Sq
  go_wp2_with fail
  refine (H15.out A2 c2 w11_).mono ?_
  rintro e w12_ ⟨rfl, Bq⟩
  have Sq : Below w11_.heap.size w11_ w12_ := Bq
  replace pz := (Sq.cell (p := ⟨w.heap.size, 0, none⟩) zz).trans pz
  replace qz := (Sq.cell (p := ⟨w.heap.size, 1, none⟩) zz).trans qz
  replace zz : w.heap.size < w12_.heap.size := Nat.lt_of_lt_of_le zz Sq.size
  replace pc := (Sq.cell (p := ⟨w4_.heap.size, 0, none⟩) zc).trans pc
  replace qc := (Sq.cell (p := ⟨w4_.heap.size, 1, none⟩) zc).trans qc
  replace zc : w4_.heap.size < w12_.heap.size := Nat.lt_of_lt_of_le zc Sq.size
  replace pr := (Sq.cell (p := ⟨w5_.heap.size, 0, none⟩) zr).trans pr
  replace qr := (Sq.cell (p := ⟨w5_.heap.size, 1, none⟩) zr).trans qr
  replace zr : w5_.heap.size < w12_.heap.size := Nat.lt_of_lt_of_le zr Sq.size
  replace HB : Hid (Below w.heap.size w w12_) := HB.out.trans (Sq.mono HB.out.size)
  replace HN := Lib.hid (HN.out.on Sq)
  replace HL := Lib.hid (HL.out.on Sq)
  replace HBs := Lib.hid (HBs.out.on Sq)
  replace HP := Lib.hid (HP.out.on Sq)
  replace HC := Lib.hid (HC.out.on Sq)
  replace HQ := Lib.hid (HQ.out.on Sq)
  clear Bq Sq
  go_wp2
  go_ret
  exact ⟨rfl, HB.out⟩

set_option maxHeartbeats 8000000 in
theorem ftells_lo_00 (i : Int) (n : Nat) (A : Option Addr) (c ll : Nat) (L : List Value) (len : Int) (B : Option Addr) (d bl : Nat) (bs : List Nat) (at_ : Int) (nv : Nat) (ne pe se ue e0 : Int) (sv v to lc ncl pl fl ql : Nat) (Pv Fv Qv : List Value) (bcl : List Nat) (w : World) (hA : RdV w w.heap.size A L) (hB : Rd w w.heap.size B bs) (hN : Nm w)
    (H1 : Hid (∀ w, Nm w → Calls Tryd.prog 9 #[.int .i64 i] w fun e w' => e = .returned (.tuple #[.int .u64 (nv : Int), .int .i64 ne]) ∧ Below w.heap.size w w'))
    (H2 : Hid (∀ w, Nm w → Calls Tryd.prog 10 #[.int .u64 (n : Int)] w fun e w' => ∃ A c, e = .returned (.tuple #[.slice A 0 c, .int .i64 3]) ∧ RdV w' w'.heap.size A [] ∧ Below w.heap.size w w'))
    (H3 : Hid (∀ w, RdV w w.heap.size A L → Nm w → Calls Tryd.prog 11 #[.slice A ll c] w fun e w' => e = .returned (.tuple #[.int .u64 (sv : Int), .int .i64 se]) ∧ Below w.heap.size w w'))
    (H4 : Hid (∀ w, Nm w → Calls Tryd.prog 12 #[.int .u64 (n : Int)] w (Gv w 0 0 [] 3)))
    (H5 : Hid (∀ w, Rd w w.heap.size B bs → Nm w → Calls Tryd.prog 13 #[.agg #[.int .i64 len, .slice B bl d], .int .i64 at_] w (FP w 0 0 ue)))
    (H10 : Hid (∀ w, RdV w w.heap.size A L → Calls Tryd.prog 18 #[.slice A ll c] w fun e w' => e = .returned (.tuple #[.int .u64 (sv : Int), .int .i64 se]) ∧ Below w.heap.size w w'))
    (H11 : Hid (∀ w, Rd w w.heap.size B bs → Calls Tryd.prog 19 #[.agg #[.int .i64 len, .slice B bl d], .int .i64 at_] w fun e w' => e = .returned (.int .i64 ue) ∧ Below w.heap.size w w'))
    (H14 : Hid (∀ A1 c1 w, Calls Tryd.prog 23 #[.slice A1 0 c1, .slice none 0 0] w fun e w' => e = .returned (.bool true) ∧ Below w.heap.size w w'))
    (H15 : Hid (∀ A1 c1 w, Calls Tryd.prog 24 #[.agg #[.int .i64 0, .slice A1 0 c1], .agg #[.int .i64 0, .slice none 0 0]] w fun e w' => e = .returned (.bool true) ∧ Below w.heap.size w w'))
    (hi : i < 0) (hne : ne = 3) (hnv : nv = 0)
    (hn : 1099511627776 < n)
    (hu : ue ≠ 0) :
    Calls Tryd.prog 3 #[.int .i64 i, .int .u64 (n : Int), .slice A ll c, .agg #[.int .i64 len, .slice B bl d], .int .i64 at_] w fun e w' => e = .returned (.bool true) ∧ Below w.heap.size w w' := by
  have HN := Lib.hid hN
  have HN0 := Lib.hid hN.pos; clear hN
  have HL := Lib.hid hA; clear hA
  have HBs := Lib.hid hB; clear hB
  have t1 : decide (i < 0) = true := decide_eq_true hi
  subst hne hnv
  have t3 : decide ((1099511627776 : Int) < (n : Int)) = true := decide_eq_true (by omega)
  have t4 : (ue == 0) = false := by simpa using hu
  clear hu
  clear hi hn
  go_enter Tryd.func3, Tryd.ntmps3
  go_wp2_with fail
  refine (H1.out _ (HN.out.on (one_below _ _))).mono ?_
  rintro e w1_ ⟨rfl, Bq⟩
  rw [World.size_alloc] at Bq
  have Sq : Below w.heap.size w w1_ := (one_below w _).trans (Bq.mono (by omega))
  have zz : w.heap.size < w1_.heap.size := by have := Bq.size; rw [World.size_alloc] at this; omega
  obtain ⟨pz, qz⟩ := box_at Bq
  have HB : Hid (Below w.heap.size w w1_) := Sq
  replace HN := Lib.hid (HN.out.on Sq)
  replace HL := Lib.hid (HL.out.on Sq)
  replace HBs := Lib.hid (HBs.out.on Sq)
  clear Bq Sq
  go_wp2_with fail
  refine (H2.out w1_ HN.out).mono ?_
  rintro e w2_ ⟨A1, c1, rfl, Rq, Bq⟩
  have Sq : Below w1_.heap.size w1_ w2_ := Bq
  replace pz := (Sq.cell (p := ⟨w.heap.size, 0, none⟩) zz).trans pz
  replace qz := (Sq.cell (p := ⟨w.heap.size, 1, none⟩) zz).trans qz
  replace zz : w.heap.size < w2_.heap.size := Nat.lt_of_lt_of_le zz Sq.size
  replace HB : Hid (Below w.heap.size w w2_) := HB.out.trans (Sq.mono HB.out.size)
  replace HN := Lib.hid (HN.out.on Sq)
  replace HL := Lib.hid (HL.out.on Sq)
  replace HBs := Lib.hid (HBs.out.on Sq)
  clear Bq Sq
  have HP := Lib.hid Rq; clear Rq
  go_wp2_with fail
  refine (H3.out w2_ HL.out HN.out).mono ?_
  rintro e w3_ ⟨rfl, Bq⟩
  have Sq : Below w2_.heap.size w2_ w3_ := Bq
  replace pz := (Sq.cell (p := ⟨w.heap.size, 0, none⟩) zz).trans pz
  replace qz := (Sq.cell (p := ⟨w.heap.size, 1, none⟩) zz).trans qz
  replace zz : w.heap.size < w3_.heap.size := Nat.lt_of_lt_of_le zz Sq.size
  replace HB : Hid (Below w.heap.size w w3_) := HB.out.trans (Sq.mono HB.out.size)
  replace HN := Lib.hid (HN.out.on Sq)
  replace HL := Lib.hid (HL.out.on Sq)
  replace HBs := Lib.hid (HBs.out.on Sq)
  replace HP := Lib.hid (HP.out.on Sq)
  clear Bq Sq
  go_wp2_with fail
  refine (H4.out w3_ HN.out).mono ?_
  rintro e w4_ ⟨A2, c2, rfl, Rq, Bq⟩
  have Sq : Below w3_.heap.size w3_ w4_ := Bq
  replace pz := (Sq.cell (p := ⟨w.heap.size, 0, none⟩) zz).trans pz
  replace qz := (Sq.cell (p := ⟨w.heap.size, 1, none⟩) zz).trans qz
  replace zz : w.heap.size < w4_.heap.size := Nat.lt_of_lt_of_le zz Sq.size
  replace HB : Hid (Below w.heap.size w w4_) := HB.out.trans (Sq.mono HB.out.size)
  replace HN := Lib.hid (HN.out.on Sq)
  replace HL := Lib.hid (HL.out.on Sq)
  replace HBs := Lib.hid (HBs.out.on Sq)
  replace HP := Lib.hid (HP.out.on Sq)
  clear Bq Sq
  have HC := Lib.hid Rq; clear Rq
  go_wp2_with fail
  refine (H5.out _ (HBs.out.on (one_below _ _)) (HN.out.on (one_below _ _))).mono ?_
  rintro e w5_ ⟨rfl, Bq⟩
  rw [World.size_alloc] at Bq
  have Sq : Below w4_.heap.size w4_ w5_ := (one_below w4_ _).trans (Bq.mono (by omega))
  have zc : w4_.heap.size < w5_.heap.size := by have := Bq.size; rw [World.size_alloc] at this; omega
  obtain ⟨pc, qc⟩ := box_at Bq
  replace pz := (Sq.cell (p := ⟨w.heap.size, 0, none⟩) zz).trans pz
  replace qz := (Sq.cell (p := ⟨w.heap.size, 1, none⟩) zz).trans qz
  replace zz : w.heap.size < w5_.heap.size := Nat.lt_of_lt_of_le zz Sq.size
  replace HB : Hid (Below w.heap.size w w5_) := HB.out.trans (Sq.mono HB.out.size)
  replace HN := Lib.hid (HN.out.on Sq)
  replace HL := Lib.hid (HL.out.on Sq)
  replace HBs := Lib.hid (HBs.out.on Sq)
  replace HP := Lib.hid (HP.out.on Sq)
  replace HC := Lib.hid (HC.out.on Sq)
  clear Bq Sq
  go_wp2_with fail
  refine (H10.out _ (HL.out.on (one_below _ _))).mono ?_
  rintro e w6_ ⟨rfl, Bq⟩
  rw [World.size_alloc] at Bq
  have Sq : Below w5_.heap.size w5_ w6_ := (one_below w5_ _).trans (Bq.mono (by omega))
  have zr : w5_.heap.size < w6_.heap.size := by have := Bq.size; rw [World.size_alloc] at this; omega
  obtain ⟨pr, qr⟩ := box_at Bq
  replace pz := (Sq.cell (p := ⟨w.heap.size, 0, none⟩) zz).trans pz
  replace qz := (Sq.cell (p := ⟨w.heap.size, 1, none⟩) zz).trans qz
  replace zz : w.heap.size < w6_.heap.size := Nat.lt_of_lt_of_le zz Sq.size
  replace pc := (Sq.cell (p := ⟨w4_.heap.size, 0, none⟩) zc).trans pc
  replace qc := (Sq.cell (p := ⟨w4_.heap.size, 1, none⟩) zc).trans qc
  replace zc : w4_.heap.size < w6_.heap.size := Nat.lt_of_lt_of_le zc Sq.size
  replace HB : Hid (Below w.heap.size w w6_) := HB.out.trans (Sq.mono HB.out.size)
  replace HN := Lib.hid (HN.out.on Sq)
  replace HL := Lib.hid (HL.out.on Sq)
  replace HBs := Lib.hid (HBs.out.on Sq)
  replace HP := Lib.hid (HP.out.on Sq)
  replace HC := Lib.hid (HC.out.on Sq)
  clear Bq Sq
  go_wp2_with fail
  refine (H11.out w6_ HBs.out).mono ?_
  rintro e w7_ ⟨rfl, Bq⟩
  have Sq : Below w6_.heap.size w6_ w7_ := Bq
  replace pz := (Sq.cell (p := ⟨w.heap.size, 0, none⟩) zz).trans pz
  replace qz := (Sq.cell (p := ⟨w.heap.size, 1, none⟩) zz).trans qz
  replace zz : w.heap.size < w7_.heap.size := Nat.lt_of_lt_of_le zz Sq.size
  replace pc := (Sq.cell (p := ⟨w4_.heap.size, 0, none⟩) zc).trans pc
  replace qc := (Sq.cell (p := ⟨w4_.heap.size, 1, none⟩) zc).trans qc
  replace zc : w4_.heap.size < w7_.heap.size := Nat.lt_of_lt_of_le zc Sq.size
  replace pr := (Sq.cell (p := ⟨w5_.heap.size, 0, none⟩) zr).trans pr
  replace qr := (Sq.cell (p := ⟨w5_.heap.size, 1, none⟩) zr).trans qr
  replace zr : w5_.heap.size < w7_.heap.size := Nat.lt_of_lt_of_le zr Sq.size
  replace HB : Hid (Below w.heap.size w w7_) := HB.out.trans (Sq.mono HB.out.size)
  replace HN := Lib.hid (HN.out.on Sq)
  replace HL := Lib.hid (HL.out.on Sq)
  replace HBs := Lib.hid (HBs.out.on Sq)
  replace HP := Lib.hid (HP.out.on Sq)
  replace HC := Lib.hid (HC.out.on Sq)
  clear Bq Sq
  go_wp2_with fail
  refine (fbegun_true w7_ HN.out).mono ?_
  rintro e w8_ ⟨rfl, Bq⟩
  have Sq : Below w7_.heap.size w7_ w8_ := Bq
  replace pz := (Sq.cell (p := ⟨w.heap.size, 0, none⟩) zz).trans pz
  replace qz := (Sq.cell (p := ⟨w.heap.size, 1, none⟩) zz).trans qz
  replace zz : w.heap.size < w8_.heap.size := Nat.lt_of_lt_of_le zz Sq.size
  replace pc := (Sq.cell (p := ⟨w4_.heap.size, 0, none⟩) zc).trans pc
  replace qc := (Sq.cell (p := ⟨w4_.heap.size, 1, none⟩) zc).trans qc
  replace zc : w4_.heap.size < w8_.heap.size := Nat.lt_of_lt_of_le zc Sq.size
  replace pr := (Sq.cell (p := ⟨w5_.heap.size, 0, none⟩) zr).trans pr
  replace qr := (Sq.cell (p := ⟨w5_.heap.size, 1, none⟩) zr).trans qr
  replace zr : w5_.heap.size < w8_.heap.size := Nat.lt_of_lt_of_le zr Sq.size
  replace HB : Hid (Below w.heap.size w w8_) := HB.out.trans (Sq.mono HB.out.size)
  replace HN := Lib.hid (HN.out.on Sq)
  replace HL := Lib.hid (HL.out.on Sq)
  replace HBs := Lib.hid (HBs.out.on Sq)
  replace HP := Lib.hid (HP.out.on Sq)
  replace HC := Lib.hid (HC.out.on Sq)
  clear Bq Sq
  go_wp2_with fail
  refine (H14.out A1 c1 w8_).mono ?_
  rintro e w9_ ⟨rfl, Bq⟩
  have Sq : Below w8_.heap.size w8_ w9_ := Bq
  replace pz := (Sq.cell (p := ⟨w.heap.size, 0, none⟩) zz).trans pz
  replace qz := (Sq.cell (p := ⟨w.heap.size, 1, none⟩) zz).trans qz
  replace zz : w.heap.size < w9_.heap.size := Nat.lt_of_lt_of_le zz Sq.size
  replace pc := (Sq.cell (p := ⟨w4_.heap.size, 0, none⟩) zc).trans pc
  replace qc := (Sq.cell (p := ⟨w4_.heap.size, 1, none⟩) zc).trans qc
  replace zc : w4_.heap.size < w9_.heap.size := Nat.lt_of_lt_of_le zc Sq.size
  replace pr := (Sq.cell (p := ⟨w5_.heap.size, 0, none⟩) zr).trans pr
  replace qr := (Sq.cell (p := ⟨w5_.heap.size, 1, none⟩) zr).trans qr
  replace zr : w5_.heap.size < w9_.heap.size := Nat.lt_of_lt_of_le zr Sq.size
  replace HB : Hid (Below w.heap.size w w9_) := HB.out.trans (Sq.mono HB.out.size)
  replace HN := Lib.hid (HN.out.on Sq)
  replace HL := Lib.hid (HL.out.on Sq)
  replace HBs := Lib.hid (HBs.out.on Sq)
  replace HP := Lib.hid (HP.out.on Sq)
  replace HC := Lib.hid (HC.out.on Sq)
  clear Bq Sq
  go_wp2_with fail
  refine (H15.out A2 c2 w9_).mono ?_
  rintro e w10_ ⟨rfl, Bq⟩
  have Sq : Below w9_.heap.size w9_ w10_ := Bq
  replace pz := (Sq.cell (p := ⟨w.heap.size, 0, none⟩) zz).trans pz
  replace qz := (Sq.cell (p := ⟨w.heap.size, 1, none⟩) zz).trans qz
  replace zz : w.heap.size < w10_.heap.size := Nat.lt_of_lt_of_le zz Sq.size
  replace pc := (Sq.cell (p := ⟨w4_.heap.size, 0, none⟩) zc).trans pc
  replace qc := (Sq.cell (p := ⟨w4_.heap.size, 1, none⟩) zc).trans qc
  replace zc : w4_.heap.size < w10_.heap.size := Nat.lt_of_lt_of_le zc Sq.size
  replace pr := (Sq.cell (p := ⟨w5_.heap.size, 0, none⟩) zr).trans pr
  replace qr := (Sq.cell (p := ⟨w5_.heap.size, 1, none⟩) zr).trans qr
  replace zr : w5_.heap.size < w10_.heap.size := Nat.lt_of_lt_of_le zr Sq.size
  replace HB : Hid (Below w.heap.size w w10_) := HB.out.trans (Sq.mono HB.out.size)
  replace HN := Lib.hid (HN.out.on Sq)
  replace HL := Lib.hid (HL.out.on Sq)
  replace HBs := Lib.hid (HBs.out.on Sq)
  replace HP := Lib.hid (HP.out.on Sq)
  replace HC := Lib.hid (HC.out.on Sq)
  clear Bq Sq
  go_wp2
  go_ret
  exact ⟨rfl, HB.out⟩

set_option maxHeartbeats 8000000 in
theorem ftells_hi_11 (i : Int) (n : Nat) (A : Option Addr) (c ll : Nat) (L : List Value) (len : Int) (B : Option Addr) (d bl : Nat) (bs : List Nat) (at_ : Int) (nv : Nat) (ne pe se ue e0 : Int) (sv v to lc ncl pl fl ql : Nat) (Pv Fv Qv : List Value) (bcl : List Nat) (w : World) (hA : RdV w w.heap.size A L) (hB : Rd w w.heap.size B bs) (hN : Nm w)
    (H1 : Hid (∀ w, Nm w → Calls Tryd.prog 9 #[.int .i64 i] w fun e w' => e = .returned (.tuple #[.int .u64 (nv : Int), .int .i64 ne]) ∧ Below w.heap.size w w'))
    (H2 : Hid (∀ w, Nm w → Calls Tryd.prog 10 #[.int .u64 (n : Int)] w fun e w' => ∃ A c, e = .returned (.tuple #[.slice A pl c, .int .i64 0]) ∧ RdV w' w'.heap.size A Pv ∧ Below w.heap.size w w'))
    (H3 : Hid (∀ w, RdV w w.heap.size A L → Nm w → Calls Tryd.prog 11 #[.slice A ll c] w fun e w' => e = .returned (.tuple #[.int .u64 (sv : Int), .int .i64 se]) ∧ Below w.heap.size w w'))
    (H4 : Hid (∀ w, Nm w → Calls Tryd.prog 12 #[.int .u64 (n : Int)] w (Gv w (lc : Int) ncl bcl 0)))
    (H5 : Hid (∀ w, Rd w w.heap.size B bs → Nm w → Calls Tryd.prog 13 #[.agg #[.int .i64 len, .slice B bl d], .int .i64 at_] w (FP w v to e0)))
    (H7 : Hid (∀ w, Calls Tryd.prog 15 #[.int .u64 (n : Int)] w fun e w' => ∃ A c, e = .returned (.slice A pl c) ∧ (∀ b o, A = some ⟨b, o, none⟩ → w.heap.size ≤ b) ∧ RdV w' w'.heap.size A Pv ∧ Below w.heap.size w w'))
    (H8 : Hid (∀ w, Calls Tryd.prog 17 #[.int .u64 (n : Int)] w fun e w' => ∃ A c, e = .returned (.slice A fl c) ∧ RdV w' w'.heap.size A Fv ∧ Below w.heap.size w w'))
    (H9 : Hid (∀ A c w, RdV w w.heap.size A Fv → Calls Tryd.prog 16 #[.slice A fl c] w fun e w' => ∃ A c, e = .returned (.agg #[.int .i64 (lc : Int), .slice A ncl c]) ∧ Rd w' w'.heap.size A bcl ∧ Below w.heap.size w w'))
    (H10 : Hid (∀ w, RdV w w.heap.size A L → Calls Tryd.prog 18 #[.slice A ll c] w fun e w' => e = .returned (.tuple #[.int .u64 (sv : Int), .int .i64 se]) ∧ Below w.heap.size w w'))
    (H11 : Hid (∀ w, Rd w w.heap.size B bs → Calls Tryd.prog 19 #[.agg #[.int .i64 len, .slice B bl d], .int .i64 at_] w fun e w' => e = .returned (.int .i64 0) ∧ Below w.heap.size w w'))
    (H12 : Hid (∀ w, Rd w w.heap.size B bs → Calls Tryd.prog 21 #[.agg #[.int .i64 len, .slice B bl d]] w fun e w' => ∃ A c, e = .returned (.slice A ql c) ∧ RdV w' w'.heap.size A Qv ∧ Below w.heap.size w w'))
    (H13 : Hid (∀ A c w, RdV w w.heap.size A Qv → Calls Tryd.prog 20 #[.slice A ql c, .int .i64 at_] w (FP w v to e0)))
    (H14 : Hid (∀ A1 c1 A2 c2 w, RdV w w.heap.size A1 Pv → RdV w w.heap.size A2 Pv → Calls Tryd.prog 23 #[.slice A1 pl c1, .slice A2 pl c2] w fun e w' => e = .returned (.bool true) ∧ Below w.heap.size w w'))
    (H15 : Hid (∀ A1 c1 A2 c2 w, Rd w w.heap.size A1 bcl → Rd w w.heap.size A2 bcl → Calls Tryd.prog 24 #[.agg #[.int .i64 (lc : Int), .slice A1 ncl c1], .agg #[.int .i64 (lc : Int), .slice A2 ncl c2]] w fun e w' => e = .returned (.bool true) ∧ Below w.heap.size w w'))
    (hi : 63 < i) (hne : ne = 3) (hnv : nv = 0)
    (hn : n ≤ 1099511627776) :
    Calls Tryd.prog 3 #[.int .i64 i, .int .u64 (n : Int), .slice A ll c, .agg #[.int .i64 len, .slice B bl d], .int .i64 at_] w fun e w' => e = .returned (.bool true) ∧ Below w.heap.size w w' := by
  have HN := Lib.hid hN
  have HN0 := Lib.hid hN.pos; clear hN
  have HL := Lib.hid hA; clear hA
  have HBs := Lib.hid hB; clear hB
  have t1 : decide (i < 0) = false := by simp; omega
  have t2 : decide (63 < i) = true := decide_eq_true hi
  subst hne hnv
  have t3 : decide ((1099511627776 : Int) < (n : Int)) = false := by simp; omega
  clear hi hn
  go_enter Tryd.func3, Tryd.ntmps3
  go_wp2_with fail
  refine (H1.out _ (HN.out.on (one_below _ _))).mono ?_
  rintro e w1_ ⟨rfl, Bq⟩
  rw [World.size_alloc] at Bq
  have Sq : Below w.heap.size w w1_ := (one_below w _).trans (Bq.mono (by omega))
  have zz : w.heap.size < w1_.heap.size := by have := Bq.size; rw [World.size_alloc] at this; omega
  obtain ⟨pz, qz⟩ := box_at Bq
  have HB : Hid (Below w.heap.size w w1_) := Sq
  replace HN := Lib.hid (HN.out.on Sq)
  replace HL := Lib.hid (HL.out.on Sq)
  replace HBs := Lib.hid (HBs.out.on Sq)
  clear Bq Sq
  go_wp2_with fail
  refine (H2.out w1_ HN.out).mono ?_
  rintro e w2_ ⟨A1, c1, rfl, Rq, Bq⟩
  have Sq : Below w1_.heap.size w1_ w2_ := Bq
  replace pz := (Sq.cell (p := ⟨w.heap.size, 0, none⟩) zz).trans pz
  replace qz := (Sq.cell (p := ⟨w.heap.size, 1, none⟩) zz).trans qz
  replace zz : w.heap.size < w2_.heap.size := Nat.lt_of_lt_of_le zz Sq.size
  replace HB : Hid (Below w.heap.size w w2_) := HB.out.trans (Sq.mono HB.out.size)
  replace HN := Lib.hid (HN.out.on Sq)
  replace HL := Lib.hid (HL.out.on Sq)
  replace HBs := Lib.hid (HBs.out.on Sq)
  clear Bq Sq
  have HP := Lib.hid Rq; clear Rq
  go_wp2_with fail
  refine (H3.out w2_ HL.out HN.out).mono ?_
  rintro e w3_ ⟨rfl, Bq⟩
  have Sq : Below w2_.heap.size w2_ w3_ := Bq
  replace pz := (Sq.cell (p := ⟨w.heap.size, 0, none⟩) zz).trans pz
  replace qz := (Sq.cell (p := ⟨w.heap.size, 1, none⟩) zz).trans qz
  replace zz : w.heap.size < w3_.heap.size := Nat.lt_of_lt_of_le zz Sq.size
  replace HB : Hid (Below w.heap.size w w3_) := HB.out.trans (Sq.mono HB.out.size)
  replace HN := Lib.hid (HN.out.on Sq)
  replace HL := Lib.hid (HL.out.on Sq)
  replace HBs := Lib.hid (HBs.out.on Sq)
  replace HP := Lib.hid (HP.out.on Sq)
  clear Bq Sq
  go_wp2_with fail
  refine (H4.out w3_ HN.out).mono ?_
  rintro e w4_ ⟨A2, c2, rfl, Rq, Bq⟩
  have Sq : Below w3_.heap.size w3_ w4_ := Bq
  replace pz := (Sq.cell (p := ⟨w.heap.size, 0, none⟩) zz).trans pz
  replace qz := (Sq.cell (p := ⟨w.heap.size, 1, none⟩) zz).trans qz
  replace zz : w.heap.size < w4_.heap.size := Nat.lt_of_lt_of_le zz Sq.size
  replace HB : Hid (Below w.heap.size w w4_) := HB.out.trans (Sq.mono HB.out.size)
  replace HN := Lib.hid (HN.out.on Sq)
  replace HL := Lib.hid (HL.out.on Sq)
  replace HBs := Lib.hid (HBs.out.on Sq)
  replace HP := Lib.hid (HP.out.on Sq)
  clear Bq Sq
  have HC := Lib.hid Rq; clear Rq
  go_wp2_with fail
  refine (H5.out _ (HBs.out.on (one_below _ _)) (HN.out.on (one_below _ _))).mono ?_
  rintro e w5_ ⟨rfl, Bq⟩
  rw [World.size_alloc] at Bq
  have Sq : Below w4_.heap.size w4_ w5_ := (one_below w4_ _).trans (Bq.mono (by omega))
  have zc : w4_.heap.size < w5_.heap.size := by have := Bq.size; rw [World.size_alloc] at this; omega
  obtain ⟨pc, qc⟩ := box_at Bq
  replace pz := (Sq.cell (p := ⟨w.heap.size, 0, none⟩) zz).trans pz
  replace qz := (Sq.cell (p := ⟨w.heap.size, 1, none⟩) zz).trans qz
  replace zz : w.heap.size < w5_.heap.size := Nat.lt_of_lt_of_le zz Sq.size
  replace HB : Hid (Below w.heap.size w w5_) := HB.out.trans (Sq.mono HB.out.size)
  replace HN := Lib.hid (HN.out.on Sq)
  replace HL := Lib.hid (HL.out.on Sq)
  replace HBs := Lib.hid (HBs.out.on Sq)
  replace HP := Lib.hid (HP.out.on Sq)
  replace HC := Lib.hid (HC.out.on Sq)
  clear Bq Sq
  have nz : w.heap.size ≠ w5_.heap.size := by omega
  have nc : w4_.heap.size ≠ w5_.heap.size := by omega
  have hwp : w.heap.size ≤ w5_.heap.size := HB.out.size
  have hgp : 0 < w5_.heap.size := Nat.lt_of_lt_of_le HN0.out hwp
  have HLk := Lib.hid (rdv_off HL.out)
  have HPk := Lib.hid (rdv_off HP.out)
  go_wp2_with fail
  refine (H7.out _).mono ?_
  rintro e w6_ ⟨A3, c3, rfl, Ro, Rq, Bq⟩
  rw [World.size_alloc] at Bq
  have Sq : Below w5_.heap.size w5_ w6_ := (one_below w5_ _).trans (Bq.mono (by omega))
  have zr : w5_.heap.size < w6_.heap.size := by have := Bq.size; rw [World.size_alloc] at this; omega
  obtain ⟨pr, qr⟩ := box_at Bq
  replace pz := (Sq.cell (p := ⟨w.heap.size, 0, none⟩) zz).trans pz
  replace qz := (Sq.cell (p := ⟨w.heap.size, 1, none⟩) zz).trans qz
  replace zz : w.heap.size < w6_.heap.size := Nat.lt_of_lt_of_le zz Sq.size
  replace pc := (Sq.cell (p := ⟨w4_.heap.size, 0, none⟩) zc).trans pc
  replace qc := (Sq.cell (p := ⟨w4_.heap.size, 1, none⟩) zc).trans qc
  replace zc : w4_.heap.size < w6_.heap.size := Nat.lt_of_lt_of_le zc Sq.size
  replace HB : Hid (Below w.heap.size w w6_) := HB.out.trans (Sq.mono HB.out.size)
  replace HN := Lib.hid (HN.out.on Sq)
  replace HL := Lib.hid (HL.out.on Sq)
  replace HBs := Lib.hid (HBs.out.on Sq)
  replace HP := Lib.hid (HP.out.on Sq)
  replace HC := Lib.hid (HC.out.on Sq)
  have BH : Hid (w6_.heap[w5_.heap.size]? = some (.cells #[.int .i64 0, .slice none 0 0] 26 (0, 0))) := (Bq.block _ (by omega)).trans (World.alloc_heap_new w5_ _)
  clear Bq Sq
  have HP2 := Lib.hid Rq; clear Rq
  have HP2k : Hid (Off w5_.heap.size A3 Pv) := .inr fun b o h => by have := Ro b o h; rw [World.size_alloc] at this; omega
  clear Ro
  go_wp2_with fail
  refine (H8.out w6_).mono ?_
  rintro e w7_ ⟨A4, c4, rfl, Rq, Bq⟩
  have Sq : Below w6_.heap.size w6_ w7_ := Bq
  replace pz := (Sq.cell (p := ⟨w.heap.size, 0, none⟩) zz).trans pz
  replace qz := (Sq.cell (p := ⟨w.heap.size, 1, none⟩) zz).trans qz
  replace zz : w.heap.size < w7_.heap.size := Nat.lt_of_lt_of_le zz Sq.size
  replace pc := (Sq.cell (p := ⟨w4_.heap.size, 0, none⟩) zc).trans pc
  replace qc := (Sq.cell (p := ⟨w4_.heap.size, 1, none⟩) zc).trans qc
  replace zc : w4_.heap.size < w7_.heap.size := Nat.lt_of_lt_of_le zc Sq.size
  replace pr := (Sq.cell (p := ⟨w5_.heap.size, 0, none⟩) zr).trans pr
  replace qr := (Sq.cell (p := ⟨w5_.heap.size, 1, none⟩) zr).trans qr
  replace zr : w5_.heap.size < w7_.heap.size := Nat.lt_of_lt_of_le zr Sq.size
  replace HB : Hid (Below w.heap.size w w7_) := HB.out.trans (Sq.mono HB.out.size)
  replace HN := Lib.hid (HN.out.on Sq)
  replace HL := Lib.hid (HL.out.on Sq)
  replace HBs := Lib.hid (HBs.out.on Sq)
  replace HP := Lib.hid (HP.out.on Sq)
  replace HC := Lib.hid (HC.out.on Sq)
  replace HP2 := Lib.hid (HP2.out.on Sq)
  replace BH : Hid (w7_.heap[w5_.heap.size]? = _) := (Sq.block _ (Array.getElem?_eq_some_iff.1 BH.out).1).trans BH.out
  clear Bq Sq
  have HF := Lib.hid Rq; clear Rq
  go_wp2_with fail
  refine (H9.out A4 c4 w7_ HF.out).mono ?_
  rintro e w8_ ⟨A5, c5, rfl, Rq, Bq⟩
  have Sq : Below w7_.heap.size w7_ w8_ := Bq
  replace pz := (Sq.cell (p := ⟨w.heap.size, 0, none⟩) zz).trans pz
  replace qz := (Sq.cell (p := ⟨w.heap.size, 1, none⟩) zz).trans qz
  replace zz : w.heap.size < w8_.heap.size := Nat.lt_of_lt_of_le zz Sq.size
  replace pc := (Sq.cell (p := ⟨w4_.heap.size, 0, none⟩) zc).trans pc
  replace qc := (Sq.cell (p := ⟨w4_.heap.size, 1, none⟩) zc).trans qc
  replace zc : w4_.heap.size < w8_.heap.size := Nat.lt_of_lt_of_le zc Sq.size
  replace pr := (Sq.cell (p := ⟨w5_.heap.size, 0, none⟩) zr).trans pr
  replace qr := (Sq.cell (p := ⟨w5_.heap.size, 1, none⟩) zr).trans qr
  replace zr : w5_.heap.size < w8_.heap.size := Nat.lt_of_lt_of_le zr Sq.size
  replace HB : Hid (Below w.heap.size w w8_) := HB.out.trans (Sq.mono HB.out.size)
  replace HN := Lib.hid (HN.out.on Sq)
  replace HL := Lib.hid (HL.out.on Sq)
  replace HBs := Lib.hid (HBs.out.on Sq)
  replace HP := Lib.hid (HP.out.on Sq)
  replace HC := Lib.hid (HC.out.on Sq)
  replace HP2 := Lib.hid (HP2.out.on Sq)
  replace HF := Lib.hid (HF.out.on Sq)
  replace BH : Hid (w8_.heap[w5_.heap.size]? = _) := (Sq.block _ (Array.getElem?_eq_some_iff.1 BH.out).1).trans BH.out
  clear Bq Sq
  have HC2 := Lib.hid Rq; clear Rq
  obtain ⟨-, -, fh0, fh1⟩ := blk_cells BH.out
  have HST := Lib.hid (set_box (w := w8_) (K := w5_.heap.size) (.int .i64 (lc : Int)) (.slice A5 ncl c5) BH.out)
  have HSV := Lib.hid (set_boxV (w := w8_) (K := w5_.heap.size) (.int .i64 (lc : Int)) (.slice A5 ncl c5) BH.out)
  obtain ⟨pr_, qr_, hsz⟩ := HST.out.1
  have pz_ := (HST.out.2.1 w.heap.size 0 nz).trans pz
  have qz_ := (HST.out.2.1 w.heap.size 1 nz).trans qz
  have pc_ := (HST.out.2.1 w4_.heap.size 0 nc).trans pc
  have qc_ := (HST.out.2.1 w4_.heap.size 1 nc).trans qc
  replace HBs := Lib.hid (HST.out.2.2.1 _ _ HBs.out)
  replace HC := Lib.hid (HST.out.2.2.1 _ _ HC.out)
  replace HC2 := Lib.hid (HST.out.2.2.1 _ _ HC2.out)
  replace HL := Lib.hid (HSV.out _ _ HLk.out HL.out)
  replace HP := Lib.hid (HSV.out _ _ HPk.out HP.out)
  replace HP2 := Lib.hid (HSV.out _ _ HP2k.out HP2.out)
  clear HF
  replace HN := Lib.hid (HN.out.set_box hgp HST.out.2.1)
  replace HB := Lib.hid (HST.out.2.2.2 _ _ hwp HB.out)
  clear HST HSV HLk HPk HP2k
  go_wp2_with fail
  generalize hW : ((w8_.setCell ⟨w5_.heap.size, 0, none⟩ (.int .i64 (lc : Int))).setCell ⟨w5_.heap.size, 1, none⟩ (.slice A5 ncl c5)) = w8_ at *
  clear hW
  have zz_ : w.heap.size < w8_.heap.size := by omega
  have zc_ : w4_.heap.size < w8_.heap.size := by omega
  have zr_ : w5_.heap.size < w8_.heap.size := by omega
  clear pz qz zz
  clear pc qc zc
  clear pr qr zr
  have pz := pz_; have qz := qz_; have zz := zz_; clear pz_ qz_ zz_
  have pc := pc_; have qc := qc_; have zc := zc_; clear pc_ qc_ zc_
  have pr := pr_; have qr := qr_; have zr := zr_; clear pr_ qr_ zr_
  clear hsz BH fh0 fh1
  refine (H10.out w8_ HL.out).mono ?_
  rintro e w9_ ⟨rfl, Bq⟩
  have Sq : Below w8_.heap.size w8_ w9_ := Bq
  replace pz := (Sq.cell (p := ⟨w.heap.size, 0, none⟩) zz).trans pz
  replace qz := (Sq.cell (p := ⟨w.heap.size, 1, none⟩) zz).trans qz
  replace zz : w.heap.size < w9_.heap.size := Nat.lt_of_lt_of_le zz Sq.size
  replace pc := (Sq.cell (p := ⟨w4_.heap.size, 0, none⟩) zc).trans pc
  replace qc := (Sq.cell (p := ⟨w4_.heap.size, 1, none⟩) zc).trans qc
  replace zc : w4_.heap.size < w9_.heap.size := Nat.lt_of_lt_of_le zc Sq.size
  replace pr := (Sq.cell (p := ⟨w5_.heap.size, 0, none⟩) zr).trans pr
  replace qr := (Sq.cell (p := ⟨w5_.heap.size, 1, none⟩) zr).trans qr
  replace zr : w5_.heap.size < w9_.heap.size := Nat.lt_of_lt_of_le zr Sq.size
  replace HB : Hid (Below w.heap.size w w9_) := HB.out.trans (Sq.mono HB.out.size)
  replace HN := Lib.hid (HN.out.on Sq)
  replace HL := Lib.hid (HL.out.on Sq)
  replace HBs := Lib.hid (HBs.out.on Sq)
  replace HP := Lib.hid (HP.out.on Sq)
  replace HC := Lib.hid (HC.out.on Sq)
  replace HP2 := Lib.hid (HP2.out.on Sq)
  replace HC2 := Lib.hid (HC2.out.on Sq)
  clear Bq Sq
  go_wp2_with fail
  refine (H11.out w9_ HBs.out).mono ?_
  rintro e w10_ ⟨rfl, Bq⟩
  have Sq : Below w9_.heap.size w9_ w10_ := Bq
  replace pz := (Sq.cell (p := ⟨w.heap.size, 0, none⟩) zz).trans pz
  replace qz := (Sq.cell (p := ⟨w.heap.size, 1, none⟩) zz).trans qz
  replace zz : w.heap.size < w10_.heap.size := Nat.lt_of_lt_of_le zz Sq.size
  replace pc := (Sq.cell (p := ⟨w4_.heap.size, 0, none⟩) zc).trans pc
  replace qc := (Sq.cell (p := ⟨w4_.heap.size, 1, none⟩) zc).trans qc
  replace zc : w4_.heap.size < w10_.heap.size := Nat.lt_of_lt_of_le zc Sq.size
  replace pr := (Sq.cell (p := ⟨w5_.heap.size, 0, none⟩) zr).trans pr
  replace qr := (Sq.cell (p := ⟨w5_.heap.size, 1, none⟩) zr).trans qr
  replace zr : w5_.heap.size < w10_.heap.size := Nat.lt_of_lt_of_le zr Sq.size
  replace HB : Hid (Below w.heap.size w w10_) := HB.out.trans (Sq.mono HB.out.size)
  replace HN := Lib.hid (HN.out.on Sq)
  replace HL := Lib.hid (HL.out.on Sq)
  replace HBs := Lib.hid (HBs.out.on Sq)
  replace HP := Lib.hid (HP.out.on Sq)
  replace HC := Lib.hid (HC.out.on Sq)
  replace HP2 := Lib.hid (HP2.out.on Sq)
  replace HC2 := Lib.hid (HC2.out.on Sq)
  clear Bq Sq
  go_wp2_with fail
  refine (H12.out w10_ HBs.out).mono ?_
  rintro e w11_ ⟨A6, c6, rfl, Rq, Bq⟩
  have Sq : Below w10_.heap.size w10_ w11_ := Bq
  replace pz := (Sq.cell (p := ⟨w.heap.size, 0, none⟩) zz).trans pz
  replace qz := (Sq.cell (p := ⟨w.heap.size, 1, none⟩) zz).trans qz
  replace zz : w.heap.size < w11_.heap.size := Nat.lt_of_lt_of_le zz Sq.size
  replace pc := (Sq.cell (p := ⟨w4_.heap.size, 0, none⟩) zc).trans pc
  replace qc := (Sq.cell (p := ⟨w4_.heap.size, 1, none⟩) zc).trans qc
  replace zc : w4_.heap.size < w11_.heap.size := Nat.lt_of_lt_of_le zc Sq.size
  replace pr := (Sq.cell (p := ⟨w5_.heap.size, 0, none⟩) zr).trans pr
  replace qr := (Sq.cell (p := ⟨w5_.heap.size, 1, none⟩) zr).trans qr
  replace zr : w5_.heap.size < w11_.heap.size := Nat.lt_of_lt_of_le zr Sq.size
  replace HB : Hid (Below w.heap.size w w11_) := HB.out.trans (Sq.mono HB.out.size)
  replace HN := Lib.hid (HN.out.on Sq)
  replace HL := Lib.hid (HL.out.on Sq)
  replace HBs := Lib.hid (HBs.out.on Sq)
  replace HP := Lib.hid (HP.out.on Sq)
  replace HC := Lib.hid (HC.out.on Sq)
  replace HP2 := Lib.hid (HP2.out.on Sq)
  replace HC2 := Lib.hid (HC2.out.on Sq)
  clear Bq Sq
  have HQ := Lib.hid Rq; clear Rq
  go_wp2_with fail
  refine (H13.out A6 c6 w11_ HQ.out).mono ?_
  rintro e w12_ ⟨rfl, Bq⟩
  have Sq : Below w11_.heap.size w11_ w12_ := Bq
  replace pz := (Sq.cell (p := ⟨w.heap.size, 0, none⟩) zz).trans pz
  replace qz := (Sq.cell (p := ⟨w.heap.size, 1, none⟩) zz).trans qz
  replace zz : w.heap.size < w12_.heap.size := Nat.lt_of_lt_of_le zz Sq.size
  replace pc := (Sq.cell (p := ⟨w4_.heap.size, 0, none⟩) zc).trans pc
  replace qc := (Sq.cell (p := ⟨w4_.heap.size, 1, none⟩) zc).trans qc
  replace zc : w4_.heap.size < w12_.heap.size := Nat.lt_of_lt_of_le zc Sq.size
  replace pr := (Sq.cell (p := ⟨w5_.heap.size, 0, none⟩) zr).trans pr
  replace qr := (Sq.cell (p := ⟨w5_.heap.size, 1, none⟩) zr).trans qr
  replace zr : w5_.heap.size < w12_.heap.size := Nat.lt_of_lt_of_le zr Sq.size
  replace HB : Hid (Below w.heap.size w w12_) := HB.out.trans (Sq.mono HB.out.size)
  replace HN := Lib.hid (HN.out.on Sq)
  replace HL := Lib.hid (HL.out.on Sq)
  replace HBs := Lib.hid (HBs.out.on Sq)
  replace HP := Lib.hid (HP.out.on Sq)
  replace HC := Lib.hid (HC.out.on Sq)
  replace HP2 := Lib.hid (HP2.out.on Sq)
  replace HC2 := Lib.hid (HC2.out.on Sq)
  replace HQ := Lib.hid (HQ.out.on Sq)
  clear Bq Sq
  go_wp2_with fail
  refine (fbegun_true w12_ HN.out).mono ?_
  rintro e w13_ ⟨rfl, Bq⟩
  have Sq : Below w12_.heap.size w12_ w13_ := Bq
  replace pz := (Sq.cell (p := ⟨w.heap.size, 0, none⟩) zz).trans pz
  replace qz := (Sq.cell (p := ⟨w.heap.size, 1, none⟩) zz).trans qz
  replace zz : w.heap.size < w13_.heap.size := Nat.lt_of_lt_of_le zz Sq.size
  replace pc := (Sq.cell (p := ⟨w4_.heap.size, 0, none⟩) zc).trans pc
  replace qc := (Sq.cell (p := ⟨w4_.heap.size, 1, none⟩) zc).trans qc
  replace zc : w4_.heap.size < w13_.heap.size := Nat.lt_of_lt_of_le zc Sq.size
  replace pr := (Sq.cell (p := ⟨w5_.heap.size, 0, none⟩) zr).trans pr
  replace qr := (Sq.cell (p := ⟨w5_.heap.size, 1, none⟩) zr).trans qr
  replace zr : w5_.heap.size < w13_.heap.size := Nat.lt_of_lt_of_le zr Sq.size
  replace HB : Hid (Below w.heap.size w w13_) := HB.out.trans (Sq.mono HB.out.size)
  replace HN := Lib.hid (HN.out.on Sq)
  replace HL := Lib.hid (HL.out.on Sq)
  replace HBs := Lib.hid (HBs.out.on Sq)
  replace HP := Lib.hid (HP.out.on Sq)
  replace HC := Lib.hid (HC.out.on Sq)
  replace HP2 := Lib.hid (HP2.out.on Sq)
  replace HC2 := Lib.hid (HC2.out.on Sq)
  replace HQ := Lib.hid (HQ.out.on Sq)
  clear Bq Sq
  go_wp2_with fail
  refine (H14.out A1 c1 A3 c3 w13_ HP.out HP2.out).mono ?_
  rintro e w14_ ⟨rfl, Bq⟩
  have Sq : Below w13_.heap.size w13_ w14_ := Bq
  replace pz := (Sq.cell (p := ⟨w.heap.size, 0, none⟩) zz).trans pz
  replace qz := (Sq.cell (p := ⟨w.heap.size, 1, none⟩) zz).trans qz
  replace zz : w.heap.size < w14_.heap.size := Nat.lt_of_lt_of_le zz Sq.size
  replace pc := (Sq.cell (p := ⟨w4_.heap.size, 0, none⟩) zc).trans pc
  replace qc := (Sq.cell (p := ⟨w4_.heap.size, 1, none⟩) zc).trans qc
  replace zc : w4_.heap.size < w14_.heap.size := Nat.lt_of_lt_of_le zc Sq.size
  replace pr := (Sq.cell (p := ⟨w5_.heap.size, 0, none⟩) zr).trans pr
  replace qr := (Sq.cell (p := ⟨w5_.heap.size, 1, none⟩) zr).trans qr
  replace zr : w5_.heap.size < w14_.heap.size := Nat.lt_of_lt_of_le zr Sq.size
  replace HB : Hid (Below w.heap.size w w14_) := HB.out.trans (Sq.mono HB.out.size)
  replace HN := Lib.hid (HN.out.on Sq)
  replace HL := Lib.hid (HL.out.on Sq)
  replace HBs := Lib.hid (HBs.out.on Sq)
  replace HP := Lib.hid (HP.out.on Sq)
  replace HC := Lib.hid (HC.out.on Sq)
  replace HP2 := Lib.hid (HP2.out.on Sq)
  replace HC2 := Lib.hid (HC2.out.on Sq)
  replace HQ := Lib.hid (HQ.out.on Sq)
  clear Bq Sq
  go_wp2_with fail
  refine (H15.out A2 c2 A5 c5 w14_ HC.out HC2.out).mono ?_
  rintro e w15_ ⟨rfl, Bq⟩
  have Sq : Below w14_.heap.size w14_ w15_ := Bq
  replace pz := (Sq.cell (p := ⟨w.heap.size, 0, none⟩) zz).trans pz
  replace qz := (Sq.cell (p := ⟨w.heap.size, 1, none⟩) zz).trans qz
  replace zz : w.heap.size < w15_.heap.size := Nat.lt_of_lt_of_le zz Sq.size
  replace pc := (Sq.cell (p := ⟨w4_.heap.size, 0, none⟩) zc).trans pc
  replace qc := (Sq.cell (p := ⟨w4_.heap.size, 1, none⟩) zc).trans qc
  replace zc : w4_.heap.size < w15_.heap.size := Nat.lt_of_lt_of_le zc Sq.size
  replace pr := (Sq.cell (p := ⟨w5_.heap.size, 0, none⟩) zr).trans pr
  replace qr := (Sq.cell (p := ⟨w5_.heap.size, 1, none⟩) zr).trans qr
  replace zr : w5_.heap.size < w15_.heap.size := Nat.lt_of_lt_of_le zr Sq.size
  replace HB : Hid (Below w.heap.size w w15_) := HB.out.trans (Sq.mono HB.out.size)
  replace HN := Lib.hid (HN.out.on Sq)
  replace HL := Lib.hid (HL.out.on Sq)
  replace HBs := Lib.hid (HBs.out.on Sq)
  replace HP := Lib.hid (HP.out.on Sq)
  replace HC := Lib.hid (HC.out.on Sq)
  replace HP2 := Lib.hid (HP2.out.on Sq)
  replace HC2 := Lib.hid (HC2.out.on Sq)
  replace HQ := Lib.hid (HQ.out.on Sq)
  clear Bq Sq
  go_wp2
  go_ret
  exact ⟨rfl, HB.out⟩

set_option maxHeartbeats 8000000 in
theorem ftells_hi_10 (i : Int) (n : Nat) (A : Option Addr) (c ll : Nat) (L : List Value) (len : Int) (B : Option Addr) (d bl : Nat) (bs : List Nat) (at_ : Int) (nv : Nat) (ne pe se ue e0 : Int) (sv v to lc ncl pl fl ql : Nat) (Pv Fv Qv : List Value) (bcl : List Nat) (w : World) (hA : RdV w w.heap.size A L) (hB : Rd w w.heap.size B bs) (hN : Nm w)
    (H1 : Hid (∀ w, Nm w → Calls Tryd.prog 9 #[.int .i64 i] w fun e w' => e = .returned (.tuple #[.int .u64 (nv : Int), .int .i64 ne]) ∧ Below w.heap.size w w'))
    (H2 : Hid (∀ w, Nm w → Calls Tryd.prog 10 #[.int .u64 (n : Int)] w fun e w' => ∃ A c, e = .returned (.tuple #[.slice A pl c, .int .i64 0]) ∧ RdV w' w'.heap.size A Pv ∧ Below w.heap.size w w'))
    (H3 : Hid (∀ w, RdV w w.heap.size A L → Nm w → Calls Tryd.prog 11 #[.slice A ll c] w fun e w' => e = .returned (.tuple #[.int .u64 (sv : Int), .int .i64 se]) ∧ Below w.heap.size w w'))
    (H4 : Hid (∀ w, Nm w → Calls Tryd.prog 12 #[.int .u64 (n : Int)] w (Gv w (lc : Int) ncl bcl 0)))
    (H5 : Hid (∀ w, Rd w w.heap.size B bs → Nm w → Calls Tryd.prog 13 #[.agg #[.int .i64 len, .slice B bl d], .int .i64 at_] w (FP w 0 0 ue)))
    (H7 : Hid (∀ w, Calls Tryd.prog 15 #[.int .u64 (n : Int)] w fun e w' => ∃ A c, e = .returned (.slice A pl c) ∧ (∀ b o, A = some ⟨b, o, none⟩ → w.heap.size ≤ b) ∧ RdV w' w'.heap.size A Pv ∧ Below w.heap.size w w'))
    (H8 : Hid (∀ w, Calls Tryd.prog 17 #[.int .u64 (n : Int)] w fun e w' => ∃ A c, e = .returned (.slice A fl c) ∧ RdV w' w'.heap.size A Fv ∧ Below w.heap.size w w'))
    (H9 : Hid (∀ A c w, RdV w w.heap.size A Fv → Calls Tryd.prog 16 #[.slice A fl c] w fun e w' => ∃ A c, e = .returned (.agg #[.int .i64 (lc : Int), .slice A ncl c]) ∧ Rd w' w'.heap.size A bcl ∧ Below w.heap.size w w'))
    (H10 : Hid (∀ w, RdV w w.heap.size A L → Calls Tryd.prog 18 #[.slice A ll c] w fun e w' => e = .returned (.tuple #[.int .u64 (sv : Int), .int .i64 se]) ∧ Below w.heap.size w w'))
    (H11 : Hid (∀ w, Rd w w.heap.size B bs → Calls Tryd.prog 19 #[.agg #[.int .i64 len, .slice B bl d], .int .i64 at_] w fun e w' => e = .returned (.int .i64 ue) ∧ Below w.heap.size w w'))
    (H14 : Hid (∀ A1 c1 A2 c2 w, RdV w w.heap.size A1 Pv → RdV w w.heap.size A2 Pv → Calls Tryd.prog 23 #[.slice A1 pl c1, .slice A2 pl c2] w fun e w' => e = .returned (.bool true) ∧ Below w.heap.size w w'))
    (H15 : Hid (∀ A1 c1 A2 c2 w, Rd w w.heap.size A1 bcl → Rd w w.heap.size A2 bcl → Calls Tryd.prog 24 #[.agg #[.int .i64 (lc : Int), .slice A1 ncl c1], .agg #[.int .i64 (lc : Int), .slice A2 ncl c2]] w fun e w' => e = .returned (.bool true) ∧ Below w.heap.size w w'))
    (hi : 63 < i) (hne : ne = 3) (hnv : nv = 0)
    (hn : n ≤ 1099511627776)
    (hu : ue ≠ 0) :
    Calls Tryd.prog 3 #[.int .i64 i, .int .u64 (n : Int), .slice A ll c, .agg #[.int .i64 len, .slice B bl d], .int .i64 at_] w fun e w' => e = .returned (.bool true) ∧ Below w.heap.size w w' := by
  have HN := Lib.hid hN
  have HN0 := Lib.hid hN.pos; clear hN
  have HL := Lib.hid hA; clear hA
  have HBs := Lib.hid hB; clear hB
  have t1 : decide (i < 0) = false := by simp; omega
  have t2 : decide (63 < i) = true := decide_eq_true hi
  subst hne hnv
  have t3 : decide ((1099511627776 : Int) < (n : Int)) = false := by simp; omega
  have t4 : (ue == 0) = false := by simpa using hu
  clear hu
  clear hi hn
  go_enter Tryd.func3, Tryd.ntmps3
  go_wp2_with fail
  refine (H1.out _ (HN.out.on (one_below _ _))).mono ?_
  rintro e w1_ ⟨rfl, Bq⟩
  rw [World.size_alloc] at Bq
  have Sq : Below w.heap.size w w1_ := (one_below w _).trans (Bq.mono (by omega))
  have zz : w.heap.size < w1_.heap.size := by have := Bq.size; rw [World.size_alloc] at this; omega
  obtain ⟨pz, qz⟩ := box_at Bq
  have HB : Hid (Below w.heap.size w w1_) := Sq
  replace HN := Lib.hid (HN.out.on Sq)
  replace HL := Lib.hid (HL.out.on Sq)
  replace HBs := Lib.hid (HBs.out.on Sq)
  clear Bq Sq
  go_wp2_with fail
  refine (H2.out w1_ HN.out).mono ?_
  rintro e w2_ ⟨A1, c1, rfl, Rq, Bq⟩
  have Sq : Below w1_.heap.size w1_ w2_ := Bq
  replace pz := (Sq.cell (p := ⟨w.heap.size, 0, none⟩) zz).trans pz
  replace qz := (Sq.cell (p := ⟨w.heap.size, 1, none⟩) zz).trans qz
  replace zz : w.heap.size < w2_.heap.size := Nat.lt_of_lt_of_le zz Sq.size
  replace HB : Hid (Below w.heap.size w w2_) := HB.out.trans (Sq.mono HB.out.size)
  replace HN := Lib.hid (HN.out.on Sq)
  replace HL := Lib.hid (HL.out.on Sq)
  replace HBs := Lib.hid (HBs.out.on Sq)
  clear Bq Sq
  have HP := Lib.hid Rq; clear Rq
  go_wp2_with fail
  refine (H3.out w2_ HL.out HN.out).mono ?_
  rintro e w3_ ⟨rfl, Bq⟩
  have Sq : Below w2_.heap.size w2_ w3_ := Bq
  replace pz := (Sq.cell (p := ⟨w.heap.size, 0, none⟩) zz).trans pz
  replace qz := (Sq.cell (p := ⟨w.heap.size, 1, none⟩) zz).trans qz
  replace zz : w.heap.size < w3_.heap.size := Nat.lt_of_lt_of_le zz Sq.size
  replace HB : Hid (Below w.heap.size w w3_) := HB.out.trans (Sq.mono HB.out.size)
  replace HN := Lib.hid (HN.out.on Sq)
  replace HL := Lib.hid (HL.out.on Sq)
  replace HBs := Lib.hid (HBs.out.on Sq)
  replace HP := Lib.hid (HP.out.on Sq)
  clear Bq Sq
  go_wp2_with fail
  refine (H4.out w3_ HN.out).mono ?_
  rintro e w4_ ⟨A2, c2, rfl, Rq, Bq⟩
  have Sq : Below w3_.heap.size w3_ w4_ := Bq
  replace pz := (Sq.cell (p := ⟨w.heap.size, 0, none⟩) zz).trans pz
  replace qz := (Sq.cell (p := ⟨w.heap.size, 1, none⟩) zz).trans qz
  replace zz : w.heap.size < w4_.heap.size := Nat.lt_of_lt_of_le zz Sq.size
  replace HB : Hid (Below w.heap.size w w4_) := HB.out.trans (Sq.mono HB.out.size)
  replace HN := Lib.hid (HN.out.on Sq)
  replace HL := Lib.hid (HL.out.on Sq)
  replace HBs := Lib.hid (HBs.out.on Sq)
  replace HP := Lib.hid (HP.out.on Sq)
  clear Bq Sq
  have HC := Lib.hid Rq; clear Rq
  go_wp2_with fail
  refine (H5.out _ (HBs.out.on (one_below _ _)) (HN.out.on (one_below _ _))).mono ?_
  rintro e w5_ ⟨rfl, Bq⟩
  rw [World.size_alloc] at Bq
  have Sq : Below w4_.heap.size w4_ w5_ := (one_below w4_ _).trans (Bq.mono (by omega))
  have zc : w4_.heap.size < w5_.heap.size := by have := Bq.size; rw [World.size_alloc] at this; omega
  obtain ⟨pc, qc⟩ := box_at Bq
  replace pz := (Sq.cell (p := ⟨w.heap.size, 0, none⟩) zz).trans pz
  replace qz := (Sq.cell (p := ⟨w.heap.size, 1, none⟩) zz).trans qz
  replace zz : w.heap.size < w5_.heap.size := Nat.lt_of_lt_of_le zz Sq.size
  replace HB : Hid (Below w.heap.size w w5_) := HB.out.trans (Sq.mono HB.out.size)
  replace HN := Lib.hid (HN.out.on Sq)
  replace HL := Lib.hid (HL.out.on Sq)
  replace HBs := Lib.hid (HBs.out.on Sq)
  replace HP := Lib.hid (HP.out.on Sq)
  replace HC := Lib.hid (HC.out.on Sq)
  clear Bq Sq
  have nz : w.heap.size ≠ w5_.heap.size := by omega
  have nc : w4_.heap.size ≠ w5_.heap.size := by omega
  have hwp : w.heap.size ≤ w5_.heap.size := HB.out.size
  have hgp : 0 < w5_.heap.size := Nat.lt_of_lt_of_le HN0.out hwp
  have HLk := Lib.hid (rdv_off HL.out)
  have HPk := Lib.hid (rdv_off HP.out)
  go_wp2_with fail
  refine (H7.out _).mono ?_
  rintro e w6_ ⟨A3, c3, rfl, Ro, Rq, Bq⟩
  rw [World.size_alloc] at Bq
  have Sq : Below w5_.heap.size w5_ w6_ := (one_below w5_ _).trans (Bq.mono (by omega))
  have zr : w5_.heap.size < w6_.heap.size := by have := Bq.size; rw [World.size_alloc] at this; omega
  obtain ⟨pr, qr⟩ := box_at Bq
  replace pz := (Sq.cell (p := ⟨w.heap.size, 0, none⟩) zz).trans pz
  replace qz := (Sq.cell (p := ⟨w.heap.size, 1, none⟩) zz).trans qz
  replace zz : w.heap.size < w6_.heap.size := Nat.lt_of_lt_of_le zz Sq.size
  replace pc := (Sq.cell (p := ⟨w4_.heap.size, 0, none⟩) zc).trans pc
  replace qc := (Sq.cell (p := ⟨w4_.heap.size, 1, none⟩) zc).trans qc
  replace zc : w4_.heap.size < w6_.heap.size := Nat.lt_of_lt_of_le zc Sq.size
  replace HB : Hid (Below w.heap.size w w6_) := HB.out.trans (Sq.mono HB.out.size)
  replace HN := Lib.hid (HN.out.on Sq)
  replace HL := Lib.hid (HL.out.on Sq)
  replace HBs := Lib.hid (HBs.out.on Sq)
  replace HP := Lib.hid (HP.out.on Sq)
  replace HC := Lib.hid (HC.out.on Sq)
  have BH : Hid (w6_.heap[w5_.heap.size]? = some (.cells #[.int .i64 0, .slice none 0 0] 26 (0, 0))) := (Bq.block _ (by omega)).trans (World.alloc_heap_new w5_ _)
  clear Bq Sq
  have HP2 := Lib.hid Rq; clear Rq
  have HP2k : Hid (Off w5_.heap.size A3 Pv) := .inr fun b o h => by have := Ro b o h; rw [World.size_alloc] at this; omega
  clear Ro
  go_wp2_with fail
  refine (H8.out w6_).mono ?_
  rintro e w7_ ⟨A4, c4, rfl, Rq, Bq⟩
  have Sq : Below w6_.heap.size w6_ w7_ := Bq
  replace pz := (Sq.cell (p := ⟨w.heap.size, 0, none⟩) zz).trans pz
  replace qz := (Sq.cell (p := ⟨w.heap.size, 1, none⟩) zz).trans qz
  replace zz : w.heap.size < w7_.heap.size := Nat.lt_of_lt_of_le zz Sq.size
  replace pc := (Sq.cell (p := ⟨w4_.heap.size, 0, none⟩) zc).trans pc
  replace qc := (Sq.cell (p := ⟨w4_.heap.size, 1, none⟩) zc).trans qc
  replace zc : w4_.heap.size < w7_.heap.size := Nat.lt_of_lt_of_le zc Sq.size
  replace pr := (Sq.cell (p := ⟨w5_.heap.size, 0, none⟩) zr).trans pr
  replace qr := (Sq.cell (p := ⟨w5_.heap.size, 1, none⟩) zr).trans qr
  replace zr : w5_.heap.size < w7_.heap.size := Nat.lt_of_lt_of_le zr Sq.size
  replace HB : Hid (Below w.heap.size w w7_) := HB.out.trans (Sq.mono HB.out.size)
  replace HN := Lib.hid (HN.out.on Sq)
  replace HL := Lib.hid (HL.out.on Sq)
  replace HBs := Lib.hid (HBs.out.on Sq)
  replace HP := Lib.hid (HP.out.on Sq)
  replace HC := Lib.hid (HC.out.on Sq)
  replace HP2 := Lib.hid (HP2.out.on Sq)
  replace BH : Hid (w7_.heap[w5_.heap.size]? = _) := (Sq.block _ (Array.getElem?_eq_some_iff.1 BH.out).1).trans BH.out
  clear Bq Sq
  have HF := Lib.hid Rq; clear Rq
  go_wp2_with fail
  refine (H9.out A4 c4 w7_ HF.out).mono ?_
  rintro e w8_ ⟨A5, c5, rfl, Rq, Bq⟩
  have Sq : Below w7_.heap.size w7_ w8_ := Bq
  replace pz := (Sq.cell (p := ⟨w.heap.size, 0, none⟩) zz).trans pz
  replace qz := (Sq.cell (p := ⟨w.heap.size, 1, none⟩) zz).trans qz
  replace zz : w.heap.size < w8_.heap.size := Nat.lt_of_lt_of_le zz Sq.size
  replace pc := (Sq.cell (p := ⟨w4_.heap.size, 0, none⟩) zc).trans pc
  replace qc := (Sq.cell (p := ⟨w4_.heap.size, 1, none⟩) zc).trans qc
  replace zc : w4_.heap.size < w8_.heap.size := Nat.lt_of_lt_of_le zc Sq.size
  replace pr := (Sq.cell (p := ⟨w5_.heap.size, 0, none⟩) zr).trans pr
  replace qr := (Sq.cell (p := ⟨w5_.heap.size, 1, none⟩) zr).trans qr
  replace zr : w5_.heap.size < w8_.heap.size := Nat.lt_of_lt_of_le zr Sq.size
  replace HB : Hid (Below w.heap.size w w8_) := HB.out.trans (Sq.mono HB.out.size)
  replace HN := Lib.hid (HN.out.on Sq)
  replace HL := Lib.hid (HL.out.on Sq)
  replace HBs := Lib.hid (HBs.out.on Sq)
  replace HP := Lib.hid (HP.out.on Sq)
  replace HC := Lib.hid (HC.out.on Sq)
  replace HP2 := Lib.hid (HP2.out.on Sq)
  replace HF := Lib.hid (HF.out.on Sq)
  replace BH : Hid (w8_.heap[w5_.heap.size]? = _) := (Sq.block _ (Array.getElem?_eq_some_iff.1 BH.out).1).trans BH.out
  clear Bq Sq
  have HC2 := Lib.hid Rq; clear Rq
  obtain ⟨-, -, fh0, fh1⟩ := blk_cells BH.out
  have HST := Lib.hid (set_box (w := w8_) (K := w5_.heap.size) (.int .i64 (lc : Int)) (.slice A5 ncl c5) BH.out)
  have HSV := Lib.hid (set_boxV (w := w8_) (K := w5_.heap.size) (.int .i64 (lc : Int)) (.slice A5 ncl c5) BH.out)
  obtain ⟨pr_, qr_, hsz⟩ := HST.out.1
  have pz_ := (HST.out.2.1 w.heap.size 0 nz).trans pz
  have qz_ := (HST.out.2.1 w.heap.size 1 nz).trans qz
  have pc_ := (HST.out.2.1 w4_.heap.size 0 nc).trans pc
  have qc_ := (HST.out.2.1 w4_.heap.size 1 nc).trans qc
  replace HBs := Lib.hid (HST.out.2.2.1 _ _ HBs.out)
  replace HC := Lib.hid (HST.out.2.2.1 _ _ HC.out)
  replace HC2 := Lib.hid (HST.out.2.2.1 _ _ HC2.out)
  replace HL := Lib.hid (HSV.out _ _ HLk.out HL.out)
  replace HP := Lib.hid (HSV.out _ _ HPk.out HP.out)
  replace HP2 := Lib.hid (HSV.out _ _ HP2k.out HP2.out)
  clear HF
  replace HN := Lib.hid (HN.out.set_box hgp HST.out.2.1)
  replace HB := Lib.hid (HST.out.2.2.2 _ _ hwp HB.out)
  clear HST HSV HLk HPk HP2k
  go_wp2_with fail
  generalize hW : ((w8_.setCell ⟨w5_.heap.size, 0, none⟩ (.int .i64 (lc : Int))).setCell ⟨w5_.heap.size, 1, none⟩ (.slice A5 ncl c5)) = w8_ at *
  clear hW
  have zz_ : w.heap.size < w8_.heap.size := by omega
  have zc_ : w4_.heap.size < w8_.heap.size := by omega
  have zr_ : w5_.heap.size < w8_.heap.size := by omega
  clear pz qz zz
  clear pc qc zc
  clear pr qr zr
  have pz := pz_; have qz := qz_; have zz := zz_; clear pz_ qz_ zz_
  have pc := pc_; have qc := qc_; have zc := zc_; clear pc_ qc_ zc_
  have pr := pr_; have qr := qr_; have zr := zr_; clear pr_ qr_ zr_
  clear hsz BH fh0 fh1
  refine (H10.out w8_ HL.out).mono ?_
  rintro e w9_ ⟨rfl, Bq⟩
  have Sq : Below w8_.heap.size w8_ w9_ := Bq
  replace pz := (Sq.cell (p := ⟨w.heap.size, 0, none⟩) zz).trans pz
  replace qz := (Sq.cell (p := ⟨w.heap.size, 1, none⟩) zz).trans qz
  replace zz : w.heap.size < w9_.heap.size := Nat.lt_of_lt_of_le zz Sq.size
  replace pc := (Sq.cell (p := ⟨w4_.heap.size, 0, none⟩) zc).trans pc
  replace qc := (Sq.cell (p := ⟨w4_.heap.size, 1, none⟩) zc).trans qc
  replace zc : w4_.heap.size < w9_.heap.size := Nat.lt_of_lt_of_le zc Sq.size
  replace pr := (Sq.cell (p := ⟨w5_.heap.size, 0, none⟩) zr).trans pr
  replace qr := (Sq.cell (p := ⟨w5_.heap.size, 1, none⟩) zr).trans qr
  replace zr : w5_.heap.size < w9_.heap.size := Nat.lt_of_lt_of_le zr Sq.size
  replace HB : Hid (Below w.heap.size w w9_) := HB.out.trans (Sq.mono HB.out.size)
  replace HN := Lib.hid (HN.out.on Sq)
  replace HL := Lib.hid (HL.out.on Sq)
  replace HBs := Lib.hid (HBs.out.on Sq)
  replace HP := Lib.hid (HP.out.on Sq)
  replace HC := Lib.hid (HC.out.on Sq)
  replace HP2 := Lib.hid (HP2.out.on Sq)
  replace HC2 := Lib.hid (HC2.out.on Sq)
  clear Bq Sq
  go_wp2_with fail
  refine (H11.out w9_ HBs.out).mono ?_
  rintro e w10_ ⟨rfl, Bq⟩
  have Sq : Below w9_.heap.size w9_ w10_ := Bq
  replace pz := (Sq.cell (p := ⟨w.heap.size, 0, none⟩) zz).trans pz
  replace qz := (Sq.cell (p := ⟨w.heap.size, 1, none⟩) zz).trans qz
  replace zz : w.heap.size < w10_.heap.size := Nat.lt_of_lt_of_le zz Sq.size
  replace pc := (Sq.cell (p := ⟨w4_.heap.size, 0, none⟩) zc).trans pc
  replace qc := (Sq.cell (p := ⟨w4_.heap.size, 1, none⟩) zc).trans qc
  replace zc : w4_.heap.size < w10_.heap.size := Nat.lt_of_lt_of_le zc Sq.size
  replace pr := (Sq.cell (p := ⟨w5_.heap.size, 0, none⟩) zr).trans pr
  replace qr := (Sq.cell (p := ⟨w5_.heap.size, 1, none⟩) zr).trans qr
  replace zr : w5_.heap.size < w10_.heap.size := Nat.lt_of_lt_of_le zr Sq.size
  replace HB : Hid (Below w.heap.size w w10_) := HB.out.trans (Sq.mono HB.out.size)
  replace HN := Lib.hid (HN.out.on Sq)
  replace HL := Lib.hid (HL.out.on Sq)
  replace HBs := Lib.hid (HBs.out.on Sq)
  replace HP := Lib.hid (HP.out.on Sq)
  replace HC := Lib.hid (HC.out.on Sq)
  replace HP2 := Lib.hid (HP2.out.on Sq)
  replace HC2 := Lib.hid (HC2.out.on Sq)
  clear Bq Sq
  go_wp2_with fail
  refine (fbegun_true w10_ HN.out).mono ?_
  rintro e w11_ ⟨rfl, Bq⟩
  have Sq : Below w10_.heap.size w10_ w11_ := Bq
  replace pz := (Sq.cell (p := ⟨w.heap.size, 0, none⟩) zz).trans pz
  replace qz := (Sq.cell (p := ⟨w.heap.size, 1, none⟩) zz).trans qz
  replace zz : w.heap.size < w11_.heap.size := Nat.lt_of_lt_of_le zz Sq.size
  replace pc := (Sq.cell (p := ⟨w4_.heap.size, 0, none⟩) zc).trans pc
  replace qc := (Sq.cell (p := ⟨w4_.heap.size, 1, none⟩) zc).trans qc
  replace zc : w4_.heap.size < w11_.heap.size := Nat.lt_of_lt_of_le zc Sq.size
  replace pr := (Sq.cell (p := ⟨w5_.heap.size, 0, none⟩) zr).trans pr
  replace qr := (Sq.cell (p := ⟨w5_.heap.size, 1, none⟩) zr).trans qr
  replace zr : w5_.heap.size < w11_.heap.size := Nat.lt_of_lt_of_le zr Sq.size
  replace HB : Hid (Below w.heap.size w w11_) := HB.out.trans (Sq.mono HB.out.size)
  replace HN := Lib.hid (HN.out.on Sq)
  replace HL := Lib.hid (HL.out.on Sq)
  replace HBs := Lib.hid (HBs.out.on Sq)
  replace HP := Lib.hid (HP.out.on Sq)
  replace HC := Lib.hid (HC.out.on Sq)
  replace HP2 := Lib.hid (HP2.out.on Sq)
  replace HC2 := Lib.hid (HC2.out.on Sq)
  clear Bq Sq
  go_wp2_with fail
  refine (H14.out A1 c1 A3 c3 w11_ HP.out HP2.out).mono ?_
  rintro e w12_ ⟨rfl, Bq⟩
  have Sq : Below w11_.heap.size w11_ w12_ := Bq
  replace pz := (Sq.cell (p := ⟨w.heap.size, 0, none⟩) zz).trans pz
  replace qz := (Sq.cell (p := ⟨w.heap.size, 1, none⟩) zz).trans qz
  replace zz : w.heap.size < w12_.heap.size := Nat.lt_of_lt_of_le zz Sq.size
  replace pc := (Sq.cell (p := ⟨w4_.heap.size, 0, none⟩) zc).trans pc
  replace qc := (Sq.cell (p := ⟨w4_.heap.size, 1, none⟩) zc).trans qc
  replace zc : w4_.heap.size < w12_.heap.size := Nat.lt_of_lt_of_le zc Sq.size
  replace pr := (Sq.cell (p := ⟨w5_.heap.size, 0, none⟩) zr).trans pr
  replace qr := (Sq.cell (p := ⟨w5_.heap.size, 1, none⟩) zr).trans qr
  replace zr : w5_.heap.size < w12_.heap.size := Nat.lt_of_lt_of_le zr Sq.size
  replace HB : Hid (Below w.heap.size w w12_) := HB.out.trans (Sq.mono HB.out.size)
  replace HN := Lib.hid (HN.out.on Sq)
  replace HL := Lib.hid (HL.out.on Sq)
  replace HBs := Lib.hid (HBs.out.on Sq)
  replace HP := Lib.hid (HP.out.on Sq)
  replace HC := Lib.hid (HC.out.on Sq)
  replace HP2 := Lib.hid (HP2.out.on Sq)
  replace HC2 := Lib.hid (HC2.out.on Sq)
  clear Bq Sq
  go_wp2_with fail
  refine (H15.out A2 c2 A5 c5 w12_ HC.out HC2.out).mono ?_
  rintro e w13_ ⟨rfl, Bq⟩
  have Sq : Below w12_.heap.size w12_ w13_ := Bq
  replace pz := (Sq.cell (p := ⟨w.heap.size, 0, none⟩) zz).trans pz
  replace qz := (Sq.cell (p := ⟨w.heap.size, 1, none⟩) zz).trans qz
  replace zz : w.heap.size < w13_.heap.size := Nat.lt_of_lt_of_le zz Sq.size
  replace pc := (Sq.cell (p := ⟨w4_.heap.size, 0, none⟩) zc).trans pc
  replace qc := (Sq.cell (p := ⟨w4_.heap.size, 1, none⟩) zc).trans qc
  replace zc : w4_.heap.size < w13_.heap.size := Nat.lt_of_lt_of_le zc Sq.size
  replace pr := (Sq.cell (p := ⟨w5_.heap.size, 0, none⟩) zr).trans pr
  replace qr := (Sq.cell (p := ⟨w5_.heap.size, 1, none⟩) zr).trans qr
  replace zr : w5_.heap.size < w13_.heap.size := Nat.lt_of_lt_of_le zr Sq.size
  replace HB : Hid (Below w.heap.size w w13_) := HB.out.trans (Sq.mono HB.out.size)
  replace HN := Lib.hid (HN.out.on Sq)
  replace HL := Lib.hid (HL.out.on Sq)
  replace HBs := Lib.hid (HBs.out.on Sq)
  replace HP := Lib.hid (HP.out.on Sq)
  replace HC := Lib.hid (HC.out.on Sq)
  replace HP2 := Lib.hid (HP2.out.on Sq)
  replace HC2 := Lib.hid (HC2.out.on Sq)
  clear Bq Sq
  go_wp2
  go_ret
  exact ⟨rfl, HB.out⟩

set_option maxHeartbeats 8000000 in
theorem ftells_hi_01 (i : Int) (n : Nat) (A : Option Addr) (c ll : Nat) (L : List Value) (len : Int) (B : Option Addr) (d bl : Nat) (bs : List Nat) (at_ : Int) (nv : Nat) (ne pe se ue e0 : Int) (sv v to lc ncl pl fl ql : Nat) (Pv Fv Qv : List Value) (bcl : List Nat) (w : World) (hA : RdV w w.heap.size A L) (hB : Rd w w.heap.size B bs) (hN : Nm w)
    (H1 : Hid (∀ w, Nm w → Calls Tryd.prog 9 #[.int .i64 i] w fun e w' => e = .returned (.tuple #[.int .u64 (nv : Int), .int .i64 ne]) ∧ Below w.heap.size w w'))
    (H2 : Hid (∀ w, Nm w → Calls Tryd.prog 10 #[.int .u64 (n : Int)] w fun e w' => ∃ A c, e = .returned (.tuple #[.slice A 0 c, .int .i64 3]) ∧ RdV w' w'.heap.size A [] ∧ Below w.heap.size w w'))
    (H3 : Hid (∀ w, RdV w w.heap.size A L → Nm w → Calls Tryd.prog 11 #[.slice A ll c] w fun e w' => e = .returned (.tuple #[.int .u64 (sv : Int), .int .i64 se]) ∧ Below w.heap.size w w'))
    (H4 : Hid (∀ w, Nm w → Calls Tryd.prog 12 #[.int .u64 (n : Int)] w (Gv w 0 0 [] 3)))
    (H5 : Hid (∀ w, Rd w w.heap.size B bs → Nm w → Calls Tryd.prog 13 #[.agg #[.int .i64 len, .slice B bl d], .int .i64 at_] w (FP w v to e0)))
    (H10 : Hid (∀ w, RdV w w.heap.size A L → Calls Tryd.prog 18 #[.slice A ll c] w fun e w' => e = .returned (.tuple #[.int .u64 (sv : Int), .int .i64 se]) ∧ Below w.heap.size w w'))
    (H11 : Hid (∀ w, Rd w w.heap.size B bs → Calls Tryd.prog 19 #[.agg #[.int .i64 len, .slice B bl d], .int .i64 at_] w fun e w' => e = .returned (.int .i64 0) ∧ Below w.heap.size w w'))
    (H12 : Hid (∀ w, Rd w w.heap.size B bs → Calls Tryd.prog 21 #[.agg #[.int .i64 len, .slice B bl d]] w fun e w' => ∃ A c, e = .returned (.slice A ql c) ∧ RdV w' w'.heap.size A Qv ∧ Below w.heap.size w w'))
    (H13 : Hid (∀ A c w, RdV w w.heap.size A Qv → Calls Tryd.prog 20 #[.slice A ql c, .int .i64 at_] w (FP w v to e0)))
    (H14 : Hid (∀ A1 c1 w, Calls Tryd.prog 23 #[.slice A1 0 c1, .slice none 0 0] w fun e w' => e = .returned (.bool true) ∧ Below w.heap.size w w'))
    (H15 : Hid (∀ A1 c1 w, Calls Tryd.prog 24 #[.agg #[.int .i64 0, .slice A1 0 c1], .agg #[.int .i64 0, .slice none 0 0]] w fun e w' => e = .returned (.bool true) ∧ Below w.heap.size w w'))
    (hi : 63 < i) (hne : ne = 3) (hnv : nv = 0)
    (hn : 1099511627776 < n) :
    Calls Tryd.prog 3 #[.int .i64 i, .int .u64 (n : Int), .slice A ll c, .agg #[.int .i64 len, .slice B bl d], .int .i64 at_] w fun e w' => e = .returned (.bool true) ∧ Below w.heap.size w w' := by
  have HN := Lib.hid hN
  have HN0 := Lib.hid hN.pos; clear hN
  have HL := Lib.hid hA; clear hA
  have HBs := Lib.hid hB; clear hB
  have t1 : decide (i < 0) = false := by simp; omega
  have t2 : decide (63 < i) = true := decide_eq_true hi
  subst hne hnv
  have t3 : decide ((1099511627776 : Int) < (n : Int)) = true := decide_eq_true (by omega)
  clear hi hn
  go_enter Tryd.func3, Tryd.ntmps3
  go_wp2_with fail
  refine (H1.out _ (HN.out.on (one_below _ _))).mono ?_
  rintro e w1_ ⟨rfl, Bq⟩
  rw [World.size_alloc] at Bq
  have Sq : Below w.heap.size w w1_ := (one_below w _).trans (Bq.mono (by omega))
  have zz : w.heap.size < w1_.heap.size := by have := Bq.size; rw [World.size_alloc] at this; omega
  obtain ⟨pz, qz⟩ := box_at Bq
  have HB : Hid (Below w.heap.size w w1_) := Sq
  replace HN := Lib.hid (HN.out.on Sq)
  replace HL := Lib.hid (HL.out.on Sq)
  replace HBs := Lib.hid (HBs.out.on Sq)
  clear Bq Sq
  go_wp2_with fail
  refine (H2.out w1_ HN.out).mono ?_
  rintro e w2_ ⟨A1, c1, rfl, Rq, Bq⟩
  have Sq : Below w1_.heap.size w1_ w2_ := Bq
  replace pz := (Sq.cell (p := ⟨w.heap.size, 0, none⟩) zz).trans pz
  replace qz := (Sq.cell (p := ⟨w.heap.size, 1, none⟩) zz).trans qz
  replace zz : w.heap.size < w2_.heap.size := Nat.lt_of_lt_of_le zz Sq.size
  replace HB : Hid (Below w.heap.size w w2_) := HB.out.trans (Sq.mono HB.out.size)
  replace HN := Lib.hid (HN.out.on Sq)
  replace HL := Lib.hid (HL.out.on Sq)
  replace HBs := Lib.hid (HBs.out.on Sq)
  clear Bq Sq
  have HP := Lib.hid Rq; clear Rq
  go_wp2_with fail
  refine (H3.out w2_ HL.out HN.out).mono ?_
  rintro e w3_ ⟨rfl, Bq⟩
  have Sq : Below w2_.heap.size w2_ w3_ := Bq
  replace pz := (Sq.cell (p := ⟨w.heap.size, 0, none⟩) zz).trans pz
  replace qz := (Sq.cell (p := ⟨w.heap.size, 1, none⟩) zz).trans qz
  replace zz : w.heap.size < w3_.heap.size := Nat.lt_of_lt_of_le zz Sq.size
  replace HB : Hid (Below w.heap.size w w3_) := HB.out.trans (Sq.mono HB.out.size)
  replace HN := Lib.hid (HN.out.on Sq)
  replace HL := Lib.hid (HL.out.on Sq)
  replace HBs := Lib.hid (HBs.out.on Sq)
  replace HP := Lib.hid (HP.out.on Sq)
  clear Bq Sq
  go_wp2_with fail
  refine (H4.out w3_ HN.out).mono ?_
  rintro e w4_ ⟨A2, c2, rfl, Rq, Bq⟩
  have Sq : Below w3_.heap.size w3_ w4_ := Bq
  replace pz := (Sq.cell (p := ⟨w.heap.size, 0, none⟩) zz).trans pz
  replace qz := (Sq.cell (p := ⟨w.heap.size, 1, none⟩) zz).trans qz
  replace zz : w.heap.size < w4_.heap.size := Nat.lt_of_lt_of_le zz Sq.size
  replace HB : Hid (Below w.heap.size w w4_) := HB.out.trans (Sq.mono HB.out.size)
  replace HN := Lib.hid (HN.out.on Sq)
  replace HL := Lib.hid (HL.out.on Sq)
  replace HBs := Lib.hid (HBs.out.on Sq)
  replace HP := Lib.hid (HP.out.on Sq)
  clear Bq Sq
  have HC := Lib.hid Rq; clear Rq
  go_wp2_with fail
  refine (H5.out _ (HBs.out.on (one_below _ _)) (HN.out.on (one_below _ _))).mono ?_
  rintro e w5_ ⟨rfl, Bq⟩
  rw [World.size_alloc] at Bq
  have Sq : Below w4_.heap.size w4_ w5_ := (one_below w4_ _).trans (Bq.mono (by omega))
  have zc : w4_.heap.size < w5_.heap.size := by have := Bq.size; rw [World.size_alloc] at this; omega
  obtain ⟨pc, qc⟩ := box_at Bq
  replace pz := (Sq.cell (p := ⟨w.heap.size, 0, none⟩) zz).trans pz
  replace qz := (Sq.cell (p := ⟨w.heap.size, 1, none⟩) zz).trans qz
  replace zz : w.heap.size < w5_.heap.size := Nat.lt_of_lt_of_le zz Sq.size
  replace HB : Hid (Below w.heap.size w w5_) := HB.out.trans (Sq.mono HB.out.size)
  replace HN := Lib.hid (HN.out.on Sq)
  replace HL := Lib.hid (HL.out.on Sq)
  replace HBs := Lib.hid (HBs.out.on Sq)
  replace HP := Lib.hid (HP.out.on Sq)
  replace HC := Lib.hid (HC.out.on Sq)
  clear Bq Sq
  go_wp2_with fail
  refine (H10.out _ (HL.out.on (one_below _ _))).mono ?_
  rintro e w6_ ⟨rfl, Bq⟩
  rw [World.size_alloc] at Bq
  have Sq : Below w5_.heap.size w5_ w6_ := (one_below w5_ _).trans (Bq.mono (by omega))
  have zr : w5_.heap.size < w6_.heap.size := by have := Bq.size; rw [World.size_alloc] at this; omega
  obtain ⟨pr, qr⟩ := box_at Bq
  replace pz := (Sq.cell (p := ⟨w.heap.size, 0, none⟩) zz).trans pz
  replace qz := (Sq.cell (p := ⟨w.heap.size, 1, none⟩) zz).trans qz
  replace zz : w.heap.size < w6_.heap.size := Nat.lt_of_lt_of_le zz Sq.size
  replace pc := (Sq.cell (p := ⟨w4_.heap.size, 0, none⟩) zc).trans pc
  replace qc := (Sq.cell (p := ⟨w4_.heap.size, 1, none⟩) zc).trans qc
  replace zc : w4_.heap.size < w6_.heap.size := Nat.lt_of_lt_of_le zc Sq.size
  replace HB : Hid (Below w.heap.size w w6_) := HB.out.trans (Sq.mono HB.out.size)
  replace HN := Lib.hid (HN.out.on Sq)
  replace HL := Lib.hid (HL.out.on Sq)
  replace HBs := Lib.hid (HBs.out.on Sq)
  replace HP := Lib.hid (HP.out.on Sq)
  replace HC := Lib.hid (HC.out.on Sq)
  clear Bq Sq
  go_wp2_with fail
  refine (H11.out w6_ HBs.out).mono ?_
  rintro e w7_ ⟨rfl, Bq⟩
  have Sq : Below w6_.heap.size w6_ w7_ := Bq
  replace pz := (Sq.cell (p := ⟨w.heap.size, 0, none⟩) zz).trans pz
  replace qz := (Sq.cell (p := ⟨w.heap.size, 1, none⟩) zz).trans qz
  replace zz : w.heap.size < w7_.heap.size := Nat.lt_of_lt_of_le zz Sq.size
  replace pc := (Sq.cell (p := ⟨w4_.heap.size, 0, none⟩) zc).trans pc
  replace qc := (Sq.cell (p := ⟨w4_.heap.size, 1, none⟩) zc).trans qc
  replace zc : w4_.heap.size < w7_.heap.size := Nat.lt_of_lt_of_le zc Sq.size
  replace pr := (Sq.cell (p := ⟨w5_.heap.size, 0, none⟩) zr).trans pr
  replace qr := (Sq.cell (p := ⟨w5_.heap.size, 1, none⟩) zr).trans qr
  replace zr : w5_.heap.size < w7_.heap.size := Nat.lt_of_lt_of_le zr Sq.size
  replace HB : Hid (Below w.heap.size w w7_) := HB.out.trans (Sq.mono HB.out.size)
  replace HN := Lib.hid (HN.out.on Sq)
  replace HL := Lib.hid (HL.out.on Sq)
  replace HBs := Lib.hid (HBs.out.on Sq)
  replace HP := Lib.hid (HP.out.on Sq)
  replace HC := Lib.hid (HC.out.on Sq)
  clear Bq Sq
  go_wp2_with fail
  refine (H12.out w7_ HBs.out).mono ?_
  rintro e w8_ ⟨A6, c6, rfl, Rq, Bq⟩
  have Sq : Below w7_.heap.size w7_ w8_ := Bq
  replace pz := (Sq.cell (p := ⟨w.heap.size, 0, none⟩) zz).trans pz
  replace qz := (Sq.cell (p := ⟨w.heap.size, 1, none⟩) zz).trans qz
  replace zz : w.heap.size < w8_.heap.size := Nat.lt_of_lt_of_le zz Sq.size
  replace pc := (Sq.cell (p := ⟨w4_.heap.size, 0, none⟩) zc).trans pc
  replace qc := (Sq.cell (p := ⟨w4_.heap.size, 1, none⟩) zc).trans qc
  replace zc : w4_.heap.size < w8_.heap.size := Nat.lt_of_lt_of_le zc Sq.size
  replace pr := (Sq.cell (p := ⟨w5_.heap.size, 0, none⟩) zr).trans pr
  replace qr := (Sq.cell (p := ⟨w5_.heap.size, 1, none⟩) zr).trans qr
  replace zr : w5_.heap.size < w8_.heap.size := Nat.lt_of_lt_of_le zr Sq.size
  replace HB : Hid (Below w.heap.size w w8_) := HB.out.trans (Sq.mono HB.out.size)
  replace HN := Lib.hid (HN.out.on Sq)
  replace HL := Lib.hid (HL.out.on Sq)
  replace HBs := Lib.hid (HBs.out.on Sq)
  replace HP := Lib.hid (HP.out.on Sq)
  replace HC := Lib.hid (HC.out.on Sq)
  clear Bq Sq
  have HQ := Lib.hid Rq; clear Rq
  go_wp2_with fail
  refine (H13.out A6 c6 w8_ HQ.out).mono ?_
  rintro e w9_ ⟨rfl, Bq⟩
  have Sq : Below w8_.heap.size w8_ w9_ := Bq
  replace pz := (Sq.cell (p := ⟨w.heap.size, 0, none⟩) zz).trans pz
  replace qz := (Sq.cell (p := ⟨w.heap.size, 1, none⟩) zz).trans qz
  replace zz : w.heap.size < w9_.heap.size := Nat.lt_of_lt_of_le zz Sq.size
  replace pc := (Sq.cell (p := ⟨w4_.heap.size, 0, none⟩) zc).trans pc
  replace qc := (Sq.cell (p := ⟨w4_.heap.size, 1, none⟩) zc).trans qc
  replace zc : w4_.heap.size < w9_.heap.size := Nat.lt_of_lt_of_le zc Sq.size
  replace pr := (Sq.cell (p := ⟨w5_.heap.size, 0, none⟩) zr).trans pr
  replace qr := (Sq.cell (p := ⟨w5_.heap.size, 1, none⟩) zr).trans qr
  replace zr : w5_.heap.size < w9_.heap.size := Nat.lt_of_lt_of_le zr Sq.size
  replace HB : Hid (Below w.heap.size w w9_) := HB.out.trans (Sq.mono HB.out.size)
  replace HN := Lib.hid (HN.out.on Sq)
  replace HL := Lib.hid (HL.out.on Sq)
  replace HBs := Lib.hid (HBs.out.on Sq)
  replace HP := Lib.hid (HP.out.on Sq)
  replace HC := Lib.hid (HC.out.on Sq)
  replace HQ := Lib.hid (HQ.out.on Sq)
  clear Bq Sq
  go_wp2_with fail
  refine (fbegun_true w9_ HN.out).mono ?_
  rintro e w10_ ⟨rfl, Bq⟩
  have Sq : Below w9_.heap.size w9_ w10_ := Bq
  replace pz := (Sq.cell (p := ⟨w.heap.size, 0, none⟩) zz).trans pz
  replace qz := (Sq.cell (p := ⟨w.heap.size, 1, none⟩) zz).trans qz
  replace zz : w.heap.size < w10_.heap.size := Nat.lt_of_lt_of_le zz Sq.size
  replace pc := (Sq.cell (p := ⟨w4_.heap.size, 0, none⟩) zc).trans pc
  replace qc := (Sq.cell (p := ⟨w4_.heap.size, 1, none⟩) zc).trans qc
  replace zc : w4_.heap.size < w10_.heap.size := Nat.lt_of_lt_of_le zc Sq.size
  replace pr := (Sq.cell (p := ⟨w5_.heap.size, 0, none⟩) zr).trans pr
  replace qr := (Sq.cell (p := ⟨w5_.heap.size, 1, none⟩) zr).trans qr
  replace zr : w5_.heap.size < w10_.heap.size := Nat.lt_of_lt_of_le zr Sq.size
  replace HB : Hid (Below w.heap.size w w10_) := HB.out.trans (Sq.mono HB.out.size)
  replace HN := Lib.hid (HN.out.on Sq)
  replace HL := Lib.hid (HL.out.on Sq)
  replace HBs := Lib.hid (HBs.out.on Sq)
  replace HP := Lib.hid (HP.out.on Sq)
  replace HC := Lib.hid (HC.out.on Sq)
  replace HQ := Lib.hid (HQ.out.on Sq)
  clear Bq Sq
  go_wp2_with fail
  refine (H14.out A1 c1 w10_).mono ?_
  rintro e w11_ ⟨rfl, Bq⟩
  have Sq : Below w10_.heap.size w10_ w11_ := Bq
  replace pz := (Sq.cell (p := ⟨w.heap.size, 0, none⟩) zz).trans pz
  replace qz := (Sq.cell (p := ⟨w.heap.size, 1, none⟩) zz).trans qz
  replace zz : w.heap.size < w11_.heap.size := Nat.lt_of_lt_of_le zz Sq.size
  replace pc := (Sq.cell (p := ⟨w4_.heap.size, 0, none⟩) zc).trans pc
  replace qc := (Sq.cell (p := ⟨w4_.heap.size, 1, none⟩) zc).trans qc
  replace zc : w4_.heap.size < w11_.heap.size := Nat.lt_of_lt_of_le zc Sq.size
  replace pr := (Sq.cell (p := ⟨w5_.heap.size, 0, none⟩) zr).trans pr
  replace qr := (Sq.cell (p := ⟨w5_.heap.size, 1, none⟩) zr).trans qr
  replace zr : w5_.heap.size < w11_.heap.size := Nat.lt_of_lt_of_le zr Sq.size
  replace HB : Hid (Below w.heap.size w w11_) := HB.out.trans (Sq.mono HB.out.size)
  replace HN := Lib.hid (HN.out.on Sq)
  replace HL := Lib.hid (HL.out.on Sq)
  replace HBs := Lib.hid (HBs.out.on Sq)
  replace HP := Lib.hid (HP.out.on Sq)
  replace HC := Lib.hid (HC.out.on Sq)
  replace HQ := Lib.hid (HQ.out.on Sq)
  clear Bq Sq
  go_wp2_with fail
  refine (H15.out A2 c2 w11_).mono ?_
  rintro e w12_ ⟨rfl, Bq⟩
  have Sq : Below w11_.heap.size w11_ w12_ := Bq
  replace pz := (Sq.cell (p := ⟨w.heap.size, 0, none⟩) zz).trans pz
  replace qz := (Sq.cell (p := ⟨w.heap.size, 1, none⟩) zz).trans qz
  replace zz : w.heap.size < w12_.heap.size := Nat.lt_of_lt_of_le zz Sq.size
  replace pc := (Sq.cell (p := ⟨w4_.heap.size, 0, none⟩) zc).trans pc
  replace qc := (Sq.cell (p := ⟨w4_.heap.size, 1, none⟩) zc).trans qc
  replace zc : w4_.heap.size < w12_.heap.size := Nat.lt_of_lt_of_le zc Sq.size
  replace pr := (Sq.cell (p := ⟨w5_.heap.size, 0, none⟩) zr).trans pr
  replace qr := (Sq.cell (p := ⟨w5_.heap.size, 1, none⟩) zr).trans qr
  replace zr : w5_.heap.size < w12_.heap.size := Nat.lt_of_lt_of_le zr Sq.size
  replace HB : Hid (Below w.heap.size w w12_) := HB.out.trans (Sq.mono HB.out.size)
  replace HN := Lib.hid (HN.out.on Sq)
  replace HL := Lib.hid (HL.out.on Sq)
  replace HBs := Lib.hid (HBs.out.on Sq)
  replace HP := Lib.hid (HP.out.on Sq)
  replace HC := Lib.hid (HC.out.on Sq)
  replace HQ := Lib.hid (HQ.out.on Sq)
  clear Bq Sq
  go_wp2
  go_ret
  exact ⟨rfl, HB.out⟩

set_option maxHeartbeats 8000000 in
theorem ftells_hi_00 (i : Int) (n : Nat) (A : Option Addr) (c ll : Nat) (L : List Value) (len : Int) (B : Option Addr) (d bl : Nat) (bs : List Nat) (at_ : Int) (nv : Nat) (ne pe se ue e0 : Int) (sv v to lc ncl pl fl ql : Nat) (Pv Fv Qv : List Value) (bcl : List Nat) (w : World) (hA : RdV w w.heap.size A L) (hB : Rd w w.heap.size B bs) (hN : Nm w)
    (H1 : Hid (∀ w, Nm w → Calls Tryd.prog 9 #[.int .i64 i] w fun e w' => e = .returned (.tuple #[.int .u64 (nv : Int), .int .i64 ne]) ∧ Below w.heap.size w w'))
    (H2 : Hid (∀ w, Nm w → Calls Tryd.prog 10 #[.int .u64 (n : Int)] w fun e w' => ∃ A c, e = .returned (.tuple #[.slice A 0 c, .int .i64 3]) ∧ RdV w' w'.heap.size A [] ∧ Below w.heap.size w w'))
    (H3 : Hid (∀ w, RdV w w.heap.size A L → Nm w → Calls Tryd.prog 11 #[.slice A ll c] w fun e w' => e = .returned (.tuple #[.int .u64 (sv : Int), .int .i64 se]) ∧ Below w.heap.size w w'))
    (H4 : Hid (∀ w, Nm w → Calls Tryd.prog 12 #[.int .u64 (n : Int)] w (Gv w 0 0 [] 3)))
    (H5 : Hid (∀ w, Rd w w.heap.size B bs → Nm w → Calls Tryd.prog 13 #[.agg #[.int .i64 len, .slice B bl d], .int .i64 at_] w (FP w 0 0 ue)))
    (H10 : Hid (∀ w, RdV w w.heap.size A L → Calls Tryd.prog 18 #[.slice A ll c] w fun e w' => e = .returned (.tuple #[.int .u64 (sv : Int), .int .i64 se]) ∧ Below w.heap.size w w'))
    (H11 : Hid (∀ w, Rd w w.heap.size B bs → Calls Tryd.prog 19 #[.agg #[.int .i64 len, .slice B bl d], .int .i64 at_] w fun e w' => e = .returned (.int .i64 ue) ∧ Below w.heap.size w w'))
    (H14 : Hid (∀ A1 c1 w, Calls Tryd.prog 23 #[.slice A1 0 c1, .slice none 0 0] w fun e w' => e = .returned (.bool true) ∧ Below w.heap.size w w'))
    (H15 : Hid (∀ A1 c1 w, Calls Tryd.prog 24 #[.agg #[.int .i64 0, .slice A1 0 c1], .agg #[.int .i64 0, .slice none 0 0]] w fun e w' => e = .returned (.bool true) ∧ Below w.heap.size w w'))
    (hi : 63 < i) (hne : ne = 3) (hnv : nv = 0)
    (hn : 1099511627776 < n)
    (hu : ue ≠ 0) :
    Calls Tryd.prog 3 #[.int .i64 i, .int .u64 (n : Int), .slice A ll c, .agg #[.int .i64 len, .slice B bl d], .int .i64 at_] w fun e w' => e = .returned (.bool true) ∧ Below w.heap.size w w' := by
  have HN := Lib.hid hN
  have HN0 := Lib.hid hN.pos; clear hN
  have HL := Lib.hid hA; clear hA
  have HBs := Lib.hid hB; clear hB
  have t1 : decide (i < 0) = false := by simp; omega
  have t2 : decide (63 < i) = true := decide_eq_true hi
  subst hne hnv
  have t3 : decide ((1099511627776 : Int) < (n : Int)) = true := decide_eq_true (by omega)
  have t4 : (ue == 0) = false := by simpa using hu
  clear hu
  clear hi hn
  go_enter Tryd.func3, Tryd.ntmps3
  go_wp2_with fail
  refine (H1.out _ (HN.out.on (one_below _ _))).mono ?_
  rintro e w1_ ⟨rfl, Bq⟩
  rw [World.size_alloc] at Bq
  have Sq : Below w.heap.size w w1_ := (one_below w _).trans (Bq.mono (by omega))
  have zz : w.heap.size < w1_.heap.size := by have := Bq.size; rw [World.size_alloc] at this; omega
  obtain ⟨pz, qz⟩ := box_at Bq
  have HB : Hid (Below w.heap.size w w1_) := Sq
  replace HN := Lib.hid (HN.out.on Sq)
  replace HL := Lib.hid (HL.out.on Sq)
  replace HBs := Lib.hid (HBs.out.on Sq)
  clear Bq Sq
  go_wp2_with fail
  refine (H2.out w1_ HN.out).mono ?_
  rintro e w2_ ⟨A1, c1, rfl, Rq, Bq⟩
  have Sq : Below w1_.heap.size w1_ w2_ := Bq
  replace pz := (Sq.cell (p := ⟨w.heap.size, 0, none⟩) zz).trans pz
  replace qz := (Sq.cell (p := ⟨w.heap.size, 1, none⟩) zz).trans qz
  replace zz : w.heap.size < w2_.heap.size := Nat.lt_of_lt_of_le zz Sq.size
  replace HB : Hid (Below w.heap.size w w2_) := HB.out.trans (Sq.mono HB.out.size)
  replace HN := Lib.hid (HN.out.on Sq)
  replace HL := Lib.hid (HL.out.on Sq)
  replace HBs := Lib.hid (HBs.out.on Sq)
  clear Bq Sq
  have HP := Lib.hid Rq; clear Rq
  go_wp2_with fail
  refine (H3.out w2_ HL.out HN.out).mono ?_
  rintro e w3_ ⟨rfl, Bq⟩
  have Sq : Below w2_.heap.size w2_ w3_ := Bq
  replace pz := (Sq.cell (p := ⟨w.heap.size, 0, none⟩) zz).trans pz
  replace qz := (Sq.cell (p := ⟨w.heap.size, 1, none⟩) zz).trans qz
  replace zz : w.heap.size < w3_.heap.size := Nat.lt_of_lt_of_le zz Sq.size
  replace HB : Hid (Below w.heap.size w w3_) := HB.out.trans (Sq.mono HB.out.size)
  replace HN := Lib.hid (HN.out.on Sq)
  replace HL := Lib.hid (HL.out.on Sq)
  replace HBs := Lib.hid (HBs.out.on Sq)
  replace HP := Lib.hid (HP.out.on Sq)
  clear Bq Sq
  go_wp2_with fail
  refine (H4.out w3_ HN.out).mono ?_
  rintro e w4_ ⟨A2, c2, rfl, Rq, Bq⟩
  have Sq : Below w3_.heap.size w3_ w4_ := Bq
  replace pz := (Sq.cell (p := ⟨w.heap.size, 0, none⟩) zz).trans pz
  replace qz := (Sq.cell (p := ⟨w.heap.size, 1, none⟩) zz).trans qz
  replace zz : w.heap.size < w4_.heap.size := Nat.lt_of_lt_of_le zz Sq.size
  replace HB : Hid (Below w.heap.size w w4_) := HB.out.trans (Sq.mono HB.out.size)
  replace HN := Lib.hid (HN.out.on Sq)
  replace HL := Lib.hid (HL.out.on Sq)
  replace HBs := Lib.hid (HBs.out.on Sq)
  replace HP := Lib.hid (HP.out.on Sq)
  clear Bq Sq
  have HC := Lib.hid Rq; clear Rq
  go_wp2_with fail
  refine (H5.out _ (HBs.out.on (one_below _ _)) (HN.out.on (one_below _ _))).mono ?_
  rintro e w5_ ⟨rfl, Bq⟩
  rw [World.size_alloc] at Bq
  have Sq : Below w4_.heap.size w4_ w5_ := (one_below w4_ _).trans (Bq.mono (by omega))
  have zc : w4_.heap.size < w5_.heap.size := by have := Bq.size; rw [World.size_alloc] at this; omega
  obtain ⟨pc, qc⟩ := box_at Bq
  replace pz := (Sq.cell (p := ⟨w.heap.size, 0, none⟩) zz).trans pz
  replace qz := (Sq.cell (p := ⟨w.heap.size, 1, none⟩) zz).trans qz
  replace zz : w.heap.size < w5_.heap.size := Nat.lt_of_lt_of_le zz Sq.size
  replace HB : Hid (Below w.heap.size w w5_) := HB.out.trans (Sq.mono HB.out.size)
  replace HN := Lib.hid (HN.out.on Sq)
  replace HL := Lib.hid (HL.out.on Sq)
  replace HBs := Lib.hid (HBs.out.on Sq)
  replace HP := Lib.hid (HP.out.on Sq)
  replace HC := Lib.hid (HC.out.on Sq)
  clear Bq Sq
  go_wp2_with fail
  refine (H10.out _ (HL.out.on (one_below _ _))).mono ?_
  rintro e w6_ ⟨rfl, Bq⟩
  rw [World.size_alloc] at Bq
  have Sq : Below w5_.heap.size w5_ w6_ := (one_below w5_ _).trans (Bq.mono (by omega))
  have zr : w5_.heap.size < w6_.heap.size := by have := Bq.size; rw [World.size_alloc] at this; omega
  obtain ⟨pr, qr⟩ := box_at Bq
  replace pz := (Sq.cell (p := ⟨w.heap.size, 0, none⟩) zz).trans pz
  replace qz := (Sq.cell (p := ⟨w.heap.size, 1, none⟩) zz).trans qz
  replace zz : w.heap.size < w6_.heap.size := Nat.lt_of_lt_of_le zz Sq.size
  replace pc := (Sq.cell (p := ⟨w4_.heap.size, 0, none⟩) zc).trans pc
  replace qc := (Sq.cell (p := ⟨w4_.heap.size, 1, none⟩) zc).trans qc
  replace zc : w4_.heap.size < w6_.heap.size := Nat.lt_of_lt_of_le zc Sq.size
  replace HB : Hid (Below w.heap.size w w6_) := HB.out.trans (Sq.mono HB.out.size)
  replace HN := Lib.hid (HN.out.on Sq)
  replace HL := Lib.hid (HL.out.on Sq)
  replace HBs := Lib.hid (HBs.out.on Sq)
  replace HP := Lib.hid (HP.out.on Sq)
  replace HC := Lib.hid (HC.out.on Sq)
  clear Bq Sq
  go_wp2_with fail
  refine (H11.out w6_ HBs.out).mono ?_
  rintro e w7_ ⟨rfl, Bq⟩
  have Sq : Below w6_.heap.size w6_ w7_ := Bq
  replace pz := (Sq.cell (p := ⟨w.heap.size, 0, none⟩) zz).trans pz
  replace qz := (Sq.cell (p := ⟨w.heap.size, 1, none⟩) zz).trans qz
  replace zz : w.heap.size < w7_.heap.size := Nat.lt_of_lt_of_le zz Sq.size
  replace pc := (Sq.cell (p := ⟨w4_.heap.size, 0, none⟩) zc).trans pc
  replace qc := (Sq.cell (p := ⟨w4_.heap.size, 1, none⟩) zc).trans qc
  replace zc : w4_.heap.size < w7_.heap.size := Nat.lt_of_lt_of_le zc Sq.size
  replace pr := (Sq.cell (p := ⟨w5_.heap.size, 0, none⟩) zr).trans pr
  replace qr := (Sq.cell (p := ⟨w5_.heap.size, 1, none⟩) zr).trans qr
  replace zr : w5_.heap.size < w7_.heap.size := Nat.lt_of_lt_of_le zr Sq.size
  replace HB : Hid (Below w.heap.size w w7_) := HB.out.trans (Sq.mono HB.out.size)
  replace HN := Lib.hid (HN.out.on Sq)
  replace HL := Lib.hid (HL.out.on Sq)
  replace HBs := Lib.hid (HBs.out.on Sq)
  replace HP := Lib.hid (HP.out.on Sq)
  replace HC := Lib.hid (HC.out.on Sq)
  clear Bq Sq
  go_wp2_with fail
  refine (fbegun_true w7_ HN.out).mono ?_
  rintro e w8_ ⟨rfl, Bq⟩
  have Sq : Below w7_.heap.size w7_ w8_ := Bq
  replace pz := (Sq.cell (p := ⟨w.heap.size, 0, none⟩) zz).trans pz
  replace qz := (Sq.cell (p := ⟨w.heap.size, 1, none⟩) zz).trans qz
  replace zz : w.heap.size < w8_.heap.size := Nat.lt_of_lt_of_le zz Sq.size
  replace pc := (Sq.cell (p := ⟨w4_.heap.size, 0, none⟩) zc).trans pc
  replace qc := (Sq.cell (p := ⟨w4_.heap.size, 1, none⟩) zc).trans qc
  replace zc : w4_.heap.size < w8_.heap.size := Nat.lt_of_lt_of_le zc Sq.size
  replace pr := (Sq.cell (p := ⟨w5_.heap.size, 0, none⟩) zr).trans pr
  replace qr := (Sq.cell (p := ⟨w5_.heap.size, 1, none⟩) zr).trans qr
  replace zr : w5_.heap.size < w8_.heap.size := Nat.lt_of_lt_of_le zr Sq.size
  replace HB : Hid (Below w.heap.size w w8_) := HB.out.trans (Sq.mono HB.out.size)
  replace HN := Lib.hid (HN.out.on Sq)
  replace HL := Lib.hid (HL.out.on Sq)
  replace HBs := Lib.hid (HBs.out.on Sq)
  replace HP := Lib.hid (HP.out.on Sq)
  replace HC := Lib.hid (HC.out.on Sq)
  clear Bq Sq
  go_wp2_with fail
  refine (H14.out A1 c1 w8_).mono ?_
  rintro e w9_ ⟨rfl, Bq⟩
  have Sq : Below w8_.heap.size w8_ w9_ := Bq
  replace pz := (Sq.cell (p := ⟨w.heap.size, 0, none⟩) zz).trans pz
  replace qz := (Sq.cell (p := ⟨w.heap.size, 1, none⟩) zz).trans qz
  replace zz : w.heap.size < w9_.heap.size := Nat.lt_of_lt_of_le zz Sq.size
  replace pc := (Sq.cell (p := ⟨w4_.heap.size, 0, none⟩) zc).trans pc
  replace qc := (Sq.cell (p := ⟨w4_.heap.size, 1, none⟩) zc).trans qc
  replace zc : w4_.heap.size < w9_.heap.size := Nat.lt_of_lt_of_le zc Sq.size
  replace pr := (Sq.cell (p := ⟨w5_.heap.size, 0, none⟩) zr).trans pr
  replace qr := (Sq.cell (p := ⟨w5_.heap.size, 1, none⟩) zr).trans qr
  replace zr : w5_.heap.size < w9_.heap.size := Nat.lt_of_lt_of_le zr Sq.size
  replace HB : Hid (Below w.heap.size w w9_) := HB.out.trans (Sq.mono HB.out.size)
  replace HN := Lib.hid (HN.out.on Sq)
  replace HL := Lib.hid (HL.out.on Sq)
  replace HBs := Lib.hid (HBs.out.on Sq)
  replace HP := Lib.hid (HP.out.on Sq)
  replace HC := Lib.hid (HC.out.on Sq)
  clear Bq Sq
  go_wp2_with fail
  refine (H15.out A2 c2 w9_).mono ?_
  rintro e w10_ ⟨rfl, Bq⟩
  have Sq : Below w9_.heap.size w9_ w10_ := Bq
  replace pz := (Sq.cell (p := ⟨w.heap.size, 0, none⟩) zz).trans pz
  replace qz := (Sq.cell (p := ⟨w.heap.size, 1, none⟩) zz).trans qz
  replace zz : w.heap.size < w10_.heap.size := Nat.lt_of_lt_of_le zz Sq.size
  replace pc := (Sq.cell (p := ⟨w4_.heap.size, 0, none⟩) zc).trans pc
  replace qc := (Sq.cell (p := ⟨w4_.heap.size, 1, none⟩) zc).trans qc
  replace zc : w4_.heap.size < w10_.heap.size := Nat.lt_of_lt_of_le zc Sq.size
  replace pr := (Sq.cell (p := ⟨w5_.heap.size, 0, none⟩) zr).trans pr
  replace qr := (Sq.cell (p := ⟨w5_.heap.size, 1, none⟩) zr).trans qr
  replace zr : w5_.heap.size < w10_.heap.size := Nat.lt_of_lt_of_le zr Sq.size
  replace HB : Hid (Below w.heap.size w w10_) := HB.out.trans (Sq.mono HB.out.size)
  replace HN := Lib.hid (HN.out.on Sq)
  replace HL := Lib.hid (HL.out.on Sq)
  replace HBs := Lib.hid (HBs.out.on Sq)
  replace HP := Lib.hid (HP.out.on Sq)
  replace HC := Lib.hid (HC.out.on Sq)
  clear Bq Sq
  go_wp2
  go_ret
  exact ⟨rfl, HB.out⟩

end Go.Proofs.YtjogccpnhcnedaaDoor
