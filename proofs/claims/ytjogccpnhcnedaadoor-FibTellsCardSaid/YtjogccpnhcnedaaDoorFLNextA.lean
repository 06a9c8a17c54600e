/- The law FibNext, in letters: behind a bit that turned reading finds its way again; its ways. -/
import Derived.Test.YtjogccpnhcnedaaDoorFBegun
import Derived.Test.YtjogccpnhcnedaaDoorFSync
namespace Go.Proofs.YtjogccpnhcnedaaDoor
set_option maxRecDepth 100000
set_option linter.unusedVariables false
open Go.RowKit Go.Shelf

/-- A box is stored anew: what it holds then, and what stays. -/
theorem set_box {w : World} {K : Nat} {a : Int} {A : Option Addr} {n c : Nat} (u v : Value) (h : w.heap[K]? = some (.cells #[.int .i64 a, .slice A n c] 26 (0, 0))) :
    (((w.setCell ⟨K, 0, none⟩ u).setCell ⟨K, 1, none⟩ v).cell? ⟨K, 0, none⟩ = some u ∧ ((w.setCell ⟨K, 0, none⟩ u).setCell ⟨K, 1, none⟩ v).cell? ⟨K, 1, none⟩ = some v ∧ ((w.setCell ⟨K, 0, none⟩ u).setCell ⟨K, 1, none⟩ v).heap.size = w.heap.size) ∧
    (∀ b o, b ≠ K → ((w.setCell ⟨K, 0, none⟩ u).setCell ⟨K, 1, none⟩ v).cell? ⟨b, o, none⟩ = w.cell? ⟨b, o, none⟩) ∧
    (∀ B bs, Rd w w.heap.size B bs → Rd ((w.setCell ⟨K, 0, none⟩ u).setCell ⟨K, 1, none⟩ v) ((w.setCell ⟨K, 0, none⟩ u).setCell ⟨K, 1, none⟩ v).heap.size B bs) ∧
    (∀ (w0 : World) B, B ≤ K → Below B w0 w → Below B w0 ((w.setCell ⟨K, 0, none⟩ u).setCell ⟨K, 1, none⟩ v)) := by
  have h1 : (w.setCell ⟨K, 0, none⟩ u).heap[K]? = some (.cells #[u, .slice A n c] 26 (0, 0)) := by
    rw [heap_set_same _ _ _ _ 26 _ h]; simp
  have h2 : ((w.setCell ⟨K, 0, none⟩ u).setCell ⟨K, 1, none⟩ v).heap[K]? = some (.cells #[u, v] 26 (0, 0)) := by
    rw [heap_set_same _ _ _ _ 26 _ h1]; simp
  have hot : ∀ b, b ≠ K → ((w.setCell ⟨K, 0, none⟩ u).setCell ⟨K, 1, none⟩ v).heap[b]? = w.heap[b]? := fun b hb =>
    (Below.heap_setCell _ _ _ b hb).trans (Below.heap_setCell _ _ _ b hb)
  have hz : ((w.setCell ⟨K, 0, none⟩ u).setCell ⟨K, 1, none⟩ v).heap.size = w.heap.size := by simp [World.setCell]
  refine ⟨⟨(blk_cells h2).1, (blk_cells h2).2.1, hz⟩, fun b o hb => World.cell?_of_block (w := w) (a := ⟨b, o, none⟩) (hot b hb), fun B bs hB => ?_, fun w0 B hB hb => (hb.setCell hB _).setCell hB _⟩
  rw [hz]
  rcases hB with h0 | ⟨b, off, rfl, hlt, hc⟩
  · exact .inl h0
  · by_cases hbK : b = K
    · subst hbK
      by_cases hbs : bs = []
      · exact .inl hbs
      · exfalso
        have h0 := hc 0 (by cases bs with | nil => exact absurd rfl hbs | cons _ _ => simp)
        have hcell : w.cell? ⟨b, off + 0, none⟩ = #[Value.int .i64 a, .slice A n c][off + 0]? := by simp [World.cell?, h]
        rw [h0] at hcell
        rcases (show off = 0 ∨ off = 1 ∨ 2 ≤ off by omega) with rfl | rfl | hoff
        · simp at hcell
        · simp at hcell
        · rw [Array.getElem?_eq_none (by simp; omega)] at hcell; cases hcell
    · exact .inr ⟨b, off, rfl, hlt, fun i hi => (World.cell?_of_block (w := w) (a := ⟨b, off + i, none⟩) (hot b hbK)).trans (hc i hi)⟩
theorem Nm.set_box {w W : World} {K : Nat} (h : Nm w) (hK : 0 < K) (hc : ∀ b o, b ≠ K → W.cell? ⟨b, o, none⟩ = w.cell? ⟨b, o, none⟩) : Nm W := fun i hi => (hc _ i (by omega)).trans (h i hi)
/-- At each round's head. -/
def NxRel (V0 : World) (la : Nat) (q : Value) (wr : World) : Prop := ∃ s : Nat, q = .int .i64 (s : Int) ∧ s + 3 ≤ la ∧ Below V0.heap.size V0 wr

set_option maxHeartbeats 8000000 in
theorem fnext_0 (n m la na lb nb_ p nh lt nt lh2 nh2 nx ly ny : Nat) (ba bb bh bt bh2 bx by_ : List Nat) (w : World) (hN : Nm w)
    (H1 : Hid (∀ w, Nm w → Calls Tryd.prog 12 #[.int .u64 (n : Int)] w (Gv w (la : Int) na ba 0)))
    (H2 : Hid (∀ w, Nm w → Calls Tryd.prog 12 #[.int .u64 (m : Int)] w (Gv w (lb : Int) nb_ bb 0)))
    (H3 : Hid (∀ A c w, Rd w w.heap.size A ba → Calls Tryd.prog 27 #[.agg #[.int .i64 (la : Int), .slice A na c], .int .i64 (p : Int), .int .i64 1] w fun e w' => e = .returned (.tuple #[.int .u64 0, .int .i64 0]) ∧ Below w.heap.size w w'))
    (H4 : Hid (∀ A c w, Rd w w.heap.size A ba → Calls Tryd.prog 28 #[.agg #[.int .i64 (la : Int), .slice A na c], .int .i64 0, .int .i64 (p : Int)] w (Gv w (p : Int) nh bh 0)))
    (H5 : Hid (∀ A c w, Rd w w.heap.size A ba → Calls Tryd.prog 28 #[.agg #[.int .i64 (la : Int), .slice A na c], .int .i64 ((p : Int) + 1), .int .i64 (la : Int)] w (Gv w (lt : Int) nt bt 0)))
    (H6 : Hid (∀ A c w, Rd w w.heap.size A bh → Calls Tryd.prog 29 #[.agg #[.int .i64 (p : Int), .slice A nh c], .int .u64 1, .int .i64 1] w (Gv w (lh2 : Int) nh2 bh2 0)))
    (H7 : Hid (∀ A c B d w, Rd w w.heap.size A bh2 → Rd w w.heap.size B bt → Calls Tryd.prog 26 #[.agg #[.int .i64 (lh2 : Int), .slice A nh2 c], .agg #[.int .i64 (lt : Int), .slice B nt d]] w (Gv w (la : Int) nx bx 0)))
    (H8 : Hid (∀ A c B d w, Rd w w.heap.size A bx → Rd w w.heap.size B bb → Calls Tryd.prog 26 #[.agg #[.int .i64 (la : Int), .slice A nx c], .agg #[.int .i64 (lb : Int), .slice B nb_ d]] w (Gv w (ly : Int) ny by_ 0)))
    (H9 : Hid (∀ s, s + 3 ≤ la → ∃ v to : Nat, (s < to ∧ (to = la ∨ to + 3 ≤ la)) ∧ ∀ A c w, Rd w w.heap.size A by_ → Nm w → Calls Tryd.prog 13 #[.agg #[.int .i64 (ly : Int), .slice A ny c], .int .i64 (s : Int)] w (FP w v to 0)))
    (H10 : Hid (∀ A c w, Rd w w.heap.size A by_ → Nm w → Calls Tryd.prog 13 #[.agg #[.int .i64 (ly : Int), .slice A ny c], .int .i64 (la : Int)] w (FP w m ly 0)))
    (hp : p + 3 < la) (hla : la ≤ 100) (hn : n ≤ 274877906944) :
    Calls Tryd.prog 6 #[.int .u64 (n : Int), .int .u64 (m : Int), .int .i64 (p : Int)] w fun e w' => e = .returned (.bool true) ∧ Below w.heap.size w w' := by
  have HN := Lib.hid hN
  have HN0 := Lib.hid hN.pos; clear hN
  have t7 : decide (274877906944 < n) = false := by simp; omega
  have t7' : decide ((274877906944 : Int) < (n : Int)) = false := by simp; omega
  have t8 : decide ((la : Int) - 3 ≤ (p : Int)) = false := by simp; omega
  have h3la : (3 : Int) ≤ (la : Int) := by omega
  go_enter Tryd.func6, Tryd.ntmps6
  go_wp2_with fail
  refine (H1.out w HN.out).mono ?_
  rintro e w1_ ⟨A1, c1, rfl, Rq, Bq⟩
  have Sq : Below w.heap.size w w1_ := Bq
  have HB : Hid (Below w.heap.size w w1_) := Sq
  replace HN := Lib.hid (HN.out.on Sq)
  clear Bq Sq
  have HR1 := Lib.hid Rq; clear Rq
  go_wp2_with fail
  refine (H2.out _ (HN.out.on (one_below _ _))).mono ?_
  rintro e w2_ ⟨A2, c2, rfl, Rq, Bq⟩
  rw [World.size_alloc] at Bq
  have Sq : Below w1_.heap.size w1_ w2_ := (one_below w1_ _).trans (Bq.mono (by omega))
  have za : w1_.heap.size < w2_.heap.size := by have := Bq.size; rw [World.size_alloc] at this; omega
  obtain ⟨pa, qa⟩ := box_at Bq
  replace HB : Hid (Below w.heap.size w w2_) := HB.out.trans (Sq.mono HB.out.size)
  replace HN := Lib.hid (HN.out.on Sq)
  replace HR1 := Lib.hid (HR1.out.on Sq)
  clear Bq Sq
  have HR2 := Lib.hid Rq; clear Rq
  go_wp2_with fail
  refine (fbegun_true _ (HN.out.on (one_below _ _))).mono ?_
  rintro e w3_ ⟨rfl, Bq⟩
  rw [World.size_alloc] at Bq
  have Sq : Below w2_.heap.size w2_ w3_ := (one_below w2_ _).trans (Bq.mono (by omega))
  have zb : w2_.heap.size < w3_.heap.size := by have := Bq.size; rw [World.size_alloc] at this; omega
  obtain ⟨pb, qb⟩ := box_at Bq
  replace pa := (Sq.cell (p := ⟨w1_.heap.size, 0, none⟩) za).trans pa
  replace qa := (Sq.cell (p := ⟨w1_.heap.size, 1, none⟩) za).trans qa
  replace za : w1_.heap.size < w3_.heap.size := Nat.lt_of_lt_of_le za Sq.size
  replace HB : Hid (Below w.heap.size w w3_) := HB.out.trans (Sq.mono HB.out.size)
  replace HN := Lib.hid (HN.out.on Sq)
  replace HR1 := Lib.hid (HR1.out.on Sq)
  replace HR2 := Lib.hid (HR2.out.on Sq)
  clear Bq Sq
  go_wp2_with fail
  refine (begun_true w3_).mono ?_
  rintro e w4_ ⟨rfl, Bq⟩
  have Sq : Below w3_.heap.size w3_ w4_ := Bq
  replace pa := (Sq.cell (p := ⟨w1_.heap.size, 0, none⟩) za).trans pa
  replace qa := (Sq.cell (p := ⟨w1_.heap.size, 1, none⟩) za).trans qa
  replace za : w1_.heap.size < w4_.heap.size := Nat.lt_of_lt_of_le za Sq.size
  replace pb := (Sq.cell (p := ⟨w2_.heap.size, 0, none⟩) zb).trans pb
  replace qb := (Sq.cell (p := ⟨w2_.heap.size, 1, none⟩) zb).trans qb
  replace zb : w2_.heap.size < w4_.heap.size := Nat.lt_of_lt_of_le zb Sq.size
  replace HB : Hid (Below w.heap.size w w4_) := HB.out.trans (Sq.mono HB.out.size)
  replace HN := Lib.hid (HN.out.on Sq)
  replace HR1 := Lib.hid (HR1.out.on Sq)
  replace HR2 := Lib.hid (HR2.out.on Sq)
  clear Bq Sq
  go_wp2_with fail
  refine (H3.out A1 c1 w4_ HR1.out).mono ?_
  rintro e w5_ ⟨rfl, Bq⟩
  have Sq : Below w4_.heap.size w4_ w5_ := Bq
  replace pa := (Sq.cell (p := ⟨w1_.heap.size, 0, none⟩) za).trans pa
  replace qa := (Sq.cell (p := ⟨w1_.heap.size, 1, none⟩) za).trans qa
  replace za : w1_.heap.size < w5_.heap.size := Nat.lt_of_lt_of_le za Sq.size
  replace pb := (Sq.cell (p := ⟨w2_.heap.size, 0, none⟩) zb).trans pb
  replace qb := (Sq.cell (p := ⟨w2_.heap.size, 1, none⟩) zb).trans qb
  replace zb : w2_.heap.size < w5_.heap.size := Nat.lt_of_lt_of_le zb Sq.size
  replace HB : Hid (Below w.heap.size w w5_) := HB.out.trans (Sq.mono HB.out.size)
  replace HN := Lib.hid (HN.out.on Sq)
  replace HR1 := Lib.hid (HR1.out.on Sq)
  replace HR2 := Lib.hid (HR2.out.on Sq)
  clear Bq Sq
  go_wp2_with fail
  refine (H4.out A1 c1 w5_ HR1.out).mono ?_
  rintro e w6_ ⟨A3, c3, rfl, Rq, Bq⟩
  have Sq : Below w5_.heap.size w5_ w6_ := Bq
  replace pa := (Sq.cell (p := ⟨w1_.heap.size, 0, none⟩) za).trans pa
  replace qa := (Sq.cell (p := ⟨w1_.heap.size, 1, none⟩) za).trans qa
  replace za : w1_.heap.size < w6_.heap.size := Nat.lt_of_lt_of_le za Sq.size
  replace pb := (Sq.cell (p := ⟨w2_.heap.size, 0, none⟩) zb).trans pb
  replace qb := (Sq.cell (p := ⟨w2_.heap.size, 1, none⟩) zb).trans qb
  replace zb : w2_.heap.size < w6_.heap.size := Nat.lt_of_lt_of_le zb Sq.size
  replace HB : Hid (Below w.heap.size w w6_) := HB.out.trans (Sq.mono HB.out.size)
  replace HN := Lib.hid (HN.out.on Sq)
  replace HR1 := Lib.hid (HR1.out.on Sq)
  replace HR2 := Lib.hid (HR2.out.on Sq)
  clear Bq Sq
  have HR3 := Lib.hid Rq; clear Rq
  have na : w1_.heap.size ≠ w6_.heap.size := by omega
  have nb : w2_.heap.size ≠ w6_.heap.size := by omega
  have hwp : w.heap.size ≤ w6_.heap.size := HB.out.size
  have hgp : 0 < w6_.heap.size := Nat.lt_of_lt_of_le HN0.out hwp
  go_wp2_with fail
  refine (H5.out A1 c1 _ (HR1.out.on (one_below _ _))).mono ?_
  rintro e w7_ ⟨A4, c4, rfl, Rq, Bq⟩
  rw [World.size_alloc] at Bq
  have Sq : Below w6_.heap.size w6_ w7_ := (one_below w6_ _).trans (Bq.mono (by omega))
  have zh : w6_.heap.size < w7_.heap.size := by have := Bq.size; rw [World.size_alloc] at this; omega
  obtain ⟨ph, qh⟩ := box_at Bq
  replace pa := (Sq.cell (p := ⟨w1_.heap.size, 0, none⟩) za).trans pa
  replace qa := (Sq.cell (p := ⟨w1_.heap.size, 1, none⟩) za).trans qa
  replace za : w1_.heap.size < w7_.heap.size := Nat.lt_of_lt_of_le za Sq.size
  replace pb := (Sq.cell (p := ⟨w2_.heap.size, 0, none⟩) zb).trans pb
  replace qb := (Sq.cell (p := ⟨w2_.heap.size, 1, none⟩) zb).trans qb
  replace zb : w2_.heap.size < w7_.heap.size := Nat.lt_of_lt_of_le zb Sq.size
  replace HB : Hid (Below w.heap.size w w7_) := HB.out.trans (Sq.mono HB.out.size)
  replace HN := Lib.hid (HN.out.on Sq)
  replace HR1 := Lib.hid (HR1.out.on Sq)
  replace HR2 := Lib.hid (HR2.out.on Sq)
  replace HR3 := Lib.hid (HR3.out.on Sq)
  have BH : Hid (w7_.heap[w6_.heap.size]? = some (.cells #[.int .i64 (p : Int), .slice A3 nh c3] 26 (0, 0))) := (Bq.block _ (by omega)).trans (World.alloc_heap_new w6_ _)
  clear Bq Sq
  have HR4 := Lib.hid Rq; clear Rq
  have nt : w7_.heap.size ≠ w6_.heap.size := by omega
  go_wp2_with fail
  refine (H6.out A3 c3 _ (HR3.out.on (one_below _ _))).mono ?_
  rintro e w8_ ⟨A5, c5, rfl, Rq, Bq⟩
  rw [World.size_alloc] at Bq
  have Sq : Below w7_.heap.size w7_ w8_ := (one_below w7_ _).trans (Bq.mono (by omega))
  have zt : w7_.heap.size < w8_.heap.size := by have := Bq.size; rw [World.size_alloc] at this; omega
  obtain ⟨pt, qt⟩ := box_at Bq
  replace pa := (Sq.cell (p := ⟨w1_.heap.size, 0, none⟩) za).trans pa
  replace qa := (Sq.cell (p := ⟨w1_.heap.size, 1, none⟩) za).trans qa
  replace za : w1_.heap.size < w8_.heap.size := Nat.lt_of_lt_of_le za Sq.size
  replace pb := (Sq.cell (p := ⟨w2_.heap.size, 0, none⟩) zb).trans pb
  replace qb := (Sq.cell (p := ⟨w2_.heap.size, 1, none⟩) zb).trans qb
  replace zb : w2_.heap.size < w8_.heap.size := Nat.lt_of_lt_of_le zb Sq.size
  replace ph := (Sq.cell (p := ⟨w6_.heap.size, 0, none⟩) zh).trans ph
  replace qh := (Sq.cell (p := ⟨w6_.heap.size, 1, none⟩) zh).trans qh
  replace zh : w6_.heap.size < w8_.heap.size := Nat.lt_of_lt_of_le zh Sq.size
  replace HB : Hid (Below w.heap.size w w8_) := HB.out.trans (Sq.mono HB.out.size)
  replace HN := Lib.hid (HN.out.on Sq)
  replace HR1 := Lib.hid (HR1.out.on Sq)
  replace HR2 := Lib.hid (HR2.out.on Sq)
  replace HR3 := Lib.hid (HR3.out.on Sq)
  replace HR4 := Lib.hid (HR4.out.on Sq)
  replace BH : Hid (w8_.heap[w6_.heap.size]? = _) := (Sq.block _ (Array.getElem?_eq_some_iff.1 BH.out).1).trans BH.out
  clear Bq Sq
  have HR5 := Lib.hid Rq; clear Rq
  obtain ⟨-, -, fh0, fh1⟩ := blk_cells BH.out
  have HST := Lib.hid (set_box (w := w8_) (K := w6_.heap.size) (.int .i64 (lh2 : Int)) (.slice A5 nh2 c5) BH.out)
  obtain ⟨ph_, qh_, hsz⟩ := HST.out.1
  have pa_ := (HST.out.2.1 w1_.heap.size 0 na).trans pa
  have qa_ := (HST.out.2.1 w1_.heap.size 1 na).trans qa
  have pb_ := (HST.out.2.1 w2_.heap.size 0 nb).trans pb
  have qb_ := (HST.out.2.1 w2_.heap.size 1 nb).trans qb
  have pt_ := (HST.out.2.1 w7_.heap.size 0 nt).trans pt
  have qt_ := (HST.out.2.1 w7_.heap.size 1 nt).trans qt
  replace HR1 := Lib.hid (HST.out.2.2.1 _ _ HR1.out)
  replace HR2 := Lib.hid (HST.out.2.2.1 _ _ HR2.out)
  replace HR3 := Lib.hid (HST.out.2.2.1 _ _ HR3.out)
  replace HR4 := Lib.hid (HST.out.2.2.1 _ _ HR4.out)
  replace HR5 := Lib.hid (HST.out.2.2.1 _ _ HR5.out)
  replace HN := Lib.hid (HN.out.set_box hgp HST.out.2.1)
  replace HB := Lib.hid (HST.out.2.2.2 _ _ hwp HB.out)
  clear HST
  go_wp2_with fail
  generalize hW : ((w8_.setCell ⟨w6_.heap.size, 0, none⟩ (.int .i64 (lh2 : Int))).setCell ⟨w6_.heap.size, 1, none⟩ (.slice A5 nh2 c5)) = w8_ at *
  clear hW
  have za_ : w1_.heap.size < w8_.heap.size := by omega
  have zb_ : w2_.heap.size < w8_.heap.size := by omega
  have zh_ : w6_.heap.size < w8_.heap.size := by omega
  have zt_ : w7_.heap.size < w8_.heap.size := by omega
  clear pa qa za
  clear pb qb zb
  clear ph qh zh
  clear pt qt zt
  have pa := pa_; have qa := qa_; have za := za_; clear pa_ qa_ za_
  have pb := pb_; have qb := qb_; have zb := zb_; clear pb_ qb_ zb_
  have ph := ph_; have qh := qh_; have zh := zh_; clear ph_ qh_ zh_
  have pt := pt_; have qt := qt_; have zt := zt_; clear pt_ qt_ zt_
  clear hsz BH fh0 fh1
  refine (H7.out A5 c5 A4 c4 w8_ HR5.out HR4.out).mono ?_
  rintro e w9_ ⟨A6, c6, rfl, Rq, Bq⟩
  have Sq : Below w8_.heap.size w8_ w9_ := Bq
  replace pa := (Sq.cell (p := ⟨w1_.heap.size, 0, none⟩) za).trans pa
  replace qa := (Sq.cell (p := ⟨w1_.heap.size, 1, none⟩) za).trans qa
  replace za : w1_.heap.size < w9_.heap.size := Nat.lt_of_lt_of_le za Sq.size
  replace pb := (Sq.cell (p := ⟨w2_.heap.size, 0, none⟩) zb).trans pb
  replace qb := (Sq.cell (p := ⟨w2_.heap.size, 1, none⟩) zb).trans qb
  replace zb : w2_.heap.size < w9_.heap.size := Nat.lt_of_lt_of_le zb Sq.size
  replace ph := (Sq.cell (p := ⟨w6_.heap.size, 0, none⟩) zh).trans ph
  replace qh := (Sq.cell (p := ⟨w6_.heap.size, 1, none⟩) zh).trans qh
  replace zh : w6_.heap.size < w9_.heap.size := Nat.lt_of_lt_of_le zh Sq.size
  replace pt := (Sq.cell (p := ⟨w7_.heap.size, 0, none⟩) zt).trans pt
  replace qt := (Sq.cell (p := ⟨w7_.heap.size, 1, none⟩) zt).trans qt
  replace zt : w7_.heap.size < w9_.heap.size := Nat.lt_of_lt_of_le zt Sq.size
  replace HB : Hid (Below w.heap.size w w9_) := HB.out.trans (Sq.mono HB.out.size)
  replace HN := Lib.hid (HN.out.on Sq)
  replace HR1 := Lib.hid (HR1.out.on Sq)
  replace HR2 := Lib.hid (HR2.out.on Sq)
  replace HR3 := Lib.hid (HR3.out.on Sq)
  replace HR4 := Lib.hid (HR4.out.on Sq)
  replace HR5 := Lib.hid (HR5.out.on Sq)
  clear Bq Sq
  have HR6 := Lib.hid Rq; clear Rq
  go_wp2_with fail
  refine (H8.out A6 c6 A2 c2 _ (HR6.out.on (one_below _ _)) (HR2.out.on (one_below _ _))).mono ?_
  rintro e w10_ ⟨A7, c7, rfl, Rq, Bq⟩
  rw [World.size_alloc] at Bq
  have Sq : Below w9_.heap.size w9_ w10_ := (one_below w9_ _).trans (Bq.mono (by omega))
  have zx : w9_.heap.size < w10_.heap.size := by have := Bq.size; rw [World.size_alloc] at this; omega
  obtain ⟨px, qx⟩ := box_at Bq
  replace pa := (Sq.cell (p := ⟨w1_.heap.size, 0, none⟩) za).trans pa
  replace qa := (Sq.cell (p := ⟨w1_.heap.size, 1, none⟩) za).trans qa
  replace za : w1_.heap.size < w10_.heap.size := Nat.lt_of_lt_of_le za Sq.size
  replace pb := (Sq.cell (p := ⟨w2_.heap.size, 0, none⟩) zb).trans pb
  replace qb := (Sq.cell (p := ⟨w2_.heap.size, 1, none⟩) zb).trans qb
  replace zb : w2_.heap.size < w10_.heap.size := Nat.lt_of_lt_of_le zb Sq.size
  replace ph := (Sq.cell (p := ⟨w6_.heap.size, 0, none⟩) zh).trans ph
  replace qh := (Sq.cell (p := ⟨w6_.heap.size, 1, none⟩) zh).trans qh
  replace zh : w6_.heap.size < w10_.heap.size := Nat.lt_of_lt_of_le zh Sq.size
  replace pt := (Sq.cell (p := ⟨w7_.heap.size, 0, none⟩) zt).trans pt
  replace qt := (Sq.cell (p := ⟨w7_.heap.size, 1, none⟩) zt).trans qt
  replace zt : w7_.heap.size < w10_.heap.size := Nat.lt_of_lt_of_le zt Sq.size
  replace HB : Hid (Below w.heap.size w w10_) := HB.out.trans (Sq.mono HB.out.size)
  replace HN := Lib.hid (HN.out.on Sq)
  replace HR1 := Lib.hid (HR1.out.on Sq)
  replace HR2 := Lib.hid (HR2.out.on Sq)
  replace HR3 := Lib.hid (HR3.out.on Sq)
  replace HR4 := Lib.hid (HR4.out.on Sq)
  replace HR5 := Lib.hid (HR5.out.on Sq)
  replace HR6 := Lib.hid (HR6.out.on Sq)
  clear Bq Sq
  have HR7 := Lib.hid Rq; clear Rq
  go_wp2
  have HAll := Lib.hid (World.alloc_heap_new w10_ (.cells #[.int .i64 (ly : Int), .slice A7 ny c7] 26))
  have HBelow : Hid (Below w10_.heap.size w10_ (w10_.alloc (.cells #[.int .i64 (ly : Int), .slice A7 ny c7] 26))) := one_below _ _
  have HSz : Hid (w10_.heap.size < (w10_.alloc (.cells #[.int .i64 (ly : Int), .slice A7 ny c7] 26)).heap.size) := by show _ < _; rw [World.size_alloc]; omega
  generalize hV : w10_.alloc (.cells #[.int .i64 (ly : Int), .slice A7 ny c7] 26) = V0 at *
  clear hV
  replace HB := Lib.hid (HB.out.trans (HBelow.out.mono HB.out.size))
  replace HN := Lib.hid (HN.out.on HBelow.out)
  replace HR7 := Lib.hid (HR7.out.on HBelow.out)
  have HBa : Hid (V0.cell? ⟨w1_.heap.size, 0, none⟩ = some (.int .i64 (la : Int)) ∧ w1_.heap.size < V0.heap.size) := ⟨(HBelow.out.cell (p := ⟨w1_.heap.size, 0, none⟩) za).trans pa, Nat.lt_of_lt_of_le za HBelow.out.size⟩
  have hla0 : 0 + 3 ≤ la := by omega
  clear pa qa za pb qb zb ph qh zh pt qt zt px qx zx
  go_loopw [22] (fun q wr => NxRel V0 la q wr) (fun q _ => la - (intOf q).toNat)
  case atStart => exact ⟨0, rfl, hla0, Below.refl _ _⟩
  case round =>
    obtain ⟨s, rfl, hs, hbel⟩ := hrel
    have HBl := Lib.hid hbel
    obtain ⟨v, to, ⟨hst, hto⟩, hrd⟩ := H9.out s hs
    have HRd := Lib.hid hrd
    have pa := (hbel.cell (p := ⟨w1_.heap.size, 0, none⟩) HBa.out.2).trans HBa.out.1
    have za : w1_.heap.size < wr.heap.size := Nat.lt_of_lt_of_le HBa.out.2 hbel.size
    obtain ⟨py, qy, -, -⟩ := blk_cells ((hbel.block _ HSz.out).trans HAll.out)
    have zy : w10_.heap.size < wr.heap.size := Nat.lt_of_lt_of_le HSz.out hbel.size
    have t9 : decide (s < la) = true := by simp; omega
    clear hrd hbel
    go_wp2_with fail
    refine (HRd.out A7 c7 wr (HR7.out.on HBl.out) (HN.out.on HBl.out)).mono ?_
    rintro e u10_ ⟨rfl, Bq⟩
    have HB10 := Lib.hid (HBl.out.trans (Bq.mono HBl.out.size))
    replace pa := (Bq.cell (p := ⟨w1_.heap.size, 0, none⟩) za).trans pa
    replace za : w1_.heap.size < u10_.heap.size := Nat.lt_of_lt_of_le za Bq.size
    replace py := (Bq.cell (p := ⟨w10_.heap.size, 0, none⟩) zy).trans py
    replace qy := (Bq.cell (p := ⟨w10_.heap.size, 1, none⟩) zy).trans qy
    replace zy : w10_.heap.size < u10_.heap.size := Nat.lt_of_lt_of_le zy Bq.size
    clear Bq HRd
    have t10 : decide (to ≤ s) = false := by simp; omega
    by_cases hend : to = la
    · subst hend
      go_wp2_with fail
      refine (H10.out A7 c7 u10_ (HR7.out.on HB10.out) (HN.out.on HB10.out)).mono ?_
      rintro e u11_ ⟨rfl, Bq⟩
      have HB11 := Lib.hid (HB10.out.trans (Bq.mono HB10.out.size))
      replace py := (Bq.cell (p := ⟨w10_.heap.size, 0, none⟩) zy).trans py
      clear Bq
      go_wp2
      go_ret
      exact ⟨rfl, HB.out.trans (HB11.out.mono HB.out.size)⟩
    · have hto3 : to + 3 ≤ la := by omega
      have t11 : ((to : Int) == (la : Int)) = false := by simp; omega
      have hds : s < to := hst
      clear hend hto hst
      go_wp2
      go_roundw
      case rel => exact ⟨to, rfl, hto3, HB10.out⟩
      case measure => simp [intOf]; omega

set_option maxHeartbeats 8000000 in
theorem fnext_1 (n m la na lb nb_ p nh lt nt lh2 nh2 nx ly ny : Nat) (ba bb bh bt bh2 bx by_ : List Nat) (w : World) (hN : Nm w)
    (H1 : Hid (∀ w, Nm w → Calls Tryd.prog 12 #[.int .u64 (n : Int)] w (Gv w (la : Int) na ba 0)))
    (H2 : Hid (∀ w, Nm w → Calls Tryd.prog 12 #[.int .u64 (m : Int)] w (Gv w (lb : Int) nb_ bb 0)))
    (H3 : Hid (∀ A c w, Rd w w.heap.size A ba → Calls Tryd.prog 27 #[.agg #[.int .i64 (la : Int), .slice A na c], .int .i64 (p : Int), .int .i64 1] w fun e w' => e = .returned (.tuple #[.int .u64 1, .int .i64 0]) ∧ Below w.heap.size w w'))
    (H4 : Hid (∀ A c w, Rd w w.heap.size A ba → Calls Tryd.prog 28 #[.agg #[.int .i64 (la : Int), .slice A na c], .int .i64 0, .int .i64 (p : Int)] w (Gv w (p : Int) nh bh 0)))
    (H5 : Hid (∀ A c w, Rd w w.heap.size A ba → Calls Tryd.prog 28 #[.agg #[.int .i64 (la : Int), .slice A na c], .int .i64 ((p : Int) + 1), .int .i64 (la : Int)] w (Gv w (lt : Int) nt bt 0)))
    (H6 : Hid (∀ A c w, Rd w w.heap.size A bh → Calls Tryd.prog 29 #[.agg #[.int .i64 (p : Int), .slice A nh c], .int .u64 0, .int .i64 1] w (Gv w (lh2 : Int) nh2 bh2 0)))
    (H7 : Hid (∀ A c B d w, Rd w w.heap.size A bh2 → Rd w w.heap.size B bt → Calls Tryd.prog 26 #[.agg #[.int .i64 (lh2 : Int), .slice A nh2 c], .agg #[.int .i64 (lt : Int), .slice B nt d]] w (Gv w (la : Int) nx bx 0)))
    (H8 : Hid (∀ A c B d w, Rd w w.heap.size A bx → Rd w w.heap.size B bb → Calls Tryd.prog 26 #[.agg #[.int .i64 (la : Int), .slice A nx c], .agg #[.int .i64 (lb : Int), .slice B nb_ d]] w (Gv w (ly : Int) ny by_ 0)))
    (H9 : Hid (∀ s, s + 3 ≤ la → ∃ v to : Nat, (s < to ∧ (to = la ∨ to + 3 ≤ la)) ∧ ∀ A c w, Rd w w.heap.size A by_ → Nm w → Calls Tryd.prog 13 #[.agg #[.int .i64 (ly : Int), .slice A ny c], .int .i64 (s : Int)] w (FP w v to 0)))
    (H10 : Hid (∀ A c w, Rd w w.heap.size A by_ → Nm w → Calls Tryd.prog 13 #[.agg #[.int .i64 (ly : Int), .slice A ny c], .int .i64 (la : Int)] w (FP w m ly 0)))
    (hp : p + 3 < la) (hla : la ≤ 100) (hn : n ≤ 274877906944) :
    Calls Tryd.prog 6 #[.int .u64 (n : Int), .int .u64 (m : Int), .int .i64 (p : Int)] w fun e w' => e = .returned (.bool true) ∧ Below w.heap.size w w' := by
  have HN := Lib.hid hN
  have HN0 := Lib.hid hN.pos; clear hN
  have t7 : decide (274877906944 < n) = false := by simp; omega
  have t7' : decide ((274877906944 : Int) < (n : Int)) = false := by simp; omega
  have t8 : decide ((la : Int) - 3 ≤ (p : Int)) = false := by simp; omega
  have h3la : (3 : Int) ≤ (la : Int) := by omega
  go_enter Tryd.func6, Tryd.ntmps6
  go_wp2_with fail
  refine (H1.out w HN.out).mono ?_
  rintro e w1_ ⟨A1, c1, rfl, Rq, Bq⟩
  have Sq : Below w.heap.size w w1_ := Bq
  have HB : Hid (Below w.heap.size w w1_) := Sq
  replace HN := Lib.hid (HN.out.on Sq)
  clear Bq Sq
  have HR1 := Lib.hid Rq; clear Rq
  go_wp2_with fail
  refine (H2.out _ (HN.out.on (one_below _ _))).mono ?_
  rintro e w2_ ⟨A2, c2, rfl, Rq, Bq⟩
  rw [World.size_alloc] at Bq
  have Sq : Below w1_.heap.size w1_ w2_ := (one_below w1_ _).trans (Bq.mono (by omega))
  have za : w1_.heap.size < w2_.heap.size := by have := Bq.size; rw [World.size_alloc] at this; omega
  obtain ⟨pa, qa⟩ := box_at Bq
  replace HB : Hid (Below w.heap.size w w2_) := HB.out.trans (Sq.mono HB.out.size)
  replace HN := Lib.hid (HN.out.on Sq)
  replace HR1 := Lib.hid (HR1.out.on Sq)
  clear Bq Sq
  have HR2 := Lib.hid Rq; clear Rq
  go_wp2_with fail
  refine (fbegun_true _ (HN.out.on (one_below _ _))).mono ?_
  rintro e w3_ ⟨rfl, Bq⟩
  rw [World.size_alloc] at Bq
  have Sq : Below w2_.heap.size w2_ w3_ := (one_below w2_ _).trans (Bq.mono (by omega))
  have zb : w2_.heap.size < w3_.heap.size := by have := Bq.size; rw [World.size_alloc] at this; omega
  obtain ⟨pb, qb⟩ := box_at Bq
  replace pa := (Sq.cell (p := ⟨w1_.heap.size, 0, none⟩) za).trans pa
  replace qa := (Sq.cell (p := ⟨w1_.heap.size, 1, none⟩) za).trans qa
  replace za : w1_.heap.size < w3_.heap.size := Nat.lt_of_lt_of_le za Sq.size
  replace HB : Hid (Below w.heap.size w w3_) := HB.out.trans (Sq.mono HB.out.size)
  replace HN := Lib.hid (HN.out.on Sq)
  replace HR1 := Lib.hid (HR1.out.on Sq)
  replace HR2 := Lib.hid (HR2.out.on Sq)
  clear Bq Sq
  go_wp2_with fail
  refine (begun_true w3_).mono ?_
  rintro e w4_ ⟨rfl, Bq⟩
  have Sq : Below w3_.heap.size w3_ w4_ := Bq
  replace pa := (Sq.cell (p := ⟨w1_.heap.size, 0, none⟩) za).trans pa
  replace qa := (Sq.cell (p := ⟨w1_.heap.size, 1, none⟩) za).trans qa
  replace za : w1_.heap.size < w4_.heap.size := Nat.lt_of_lt_of_le za Sq.size
  replace pb := (Sq.cell (p := ⟨w2_.heap.size, 0, none⟩) zb).trans pb
  replace qb := (Sq.cell (p := ⟨w2_.heap.size, 1, none⟩) zb).trans qb
  replace zb : w2_.heap.size < w4_.heap.size := Nat.lt_of_lt_of_le zb Sq.size
  replace HB : Hid (Below w.heap.size w w4_) := HB.out.trans (Sq.mono HB.out.size)
  replace HN := Lib.hid (HN.out.on Sq)
  replace HR1 := Lib.hid (HR1.out.on Sq)
  replace HR2 := Lib.hid (HR2.out.on Sq)
  clear Bq Sq
  go_wp2_with fail
  refine (H3.out A1 c1 w4_ HR1.out).mono ?_
  rintro e w5_ ⟨rfl, Bq⟩
  have Sq : Below w4_.heap.size w4_ w5_ := Bq
  replace pa := (Sq.cell (p := ⟨w1_.heap.size, 0, none⟩) za).trans pa
  replace qa := (Sq.cell (p := ⟨w1_.heap.size, 1, none⟩) za).trans qa
  replace za : w1_.heap.size < w5_.heap.size := Nat.lt_of_lt_of_le za Sq.size
  replace pb := (Sq.cell (p := ⟨w2_.heap.size, 0, none⟩) zb).trans pb
  replace qb := (Sq.cell (p := ⟨w2_.heap.size, 1, none⟩) zb).trans qb
  replace zb : w2_.heap.size < w5_.heap.size := Nat.lt_of_lt_of_le zb Sq.size
  replace HB : Hid (Below w.heap.size w w5_) := HB.out.trans (Sq.mono HB.out.size)
  replace HN := Lib.hid (HN.out.on Sq)
  replace HR1 := Lib.hid (HR1.out.on Sq)
  replace HR2 := Lib.hid (HR2.out.on Sq)
  clear Bq Sq
  go_wp2_with fail
  refine (H4.out A1 c1 w5_ HR1.out).mono ?_
  rintro e w6_ ⟨A3, c3, rfl, Rq, Bq⟩
  have Sq : Below w5_.heap.size w5_ w6_ := Bq
  replace pa := (Sq.cell (p := ⟨w1_.heap.size, 0, none⟩) za).trans pa
  replace qa := (Sq.cell (p := ⟨w1_.heap.size, 1, none⟩) za).trans qa
  replace za : w1_.heap.size < w6_.heap.size := Nat.lt_of_lt_of_le za Sq.size
  replace pb := (Sq.cell (p := ⟨w2_.heap.size, 0, none⟩) zb).trans pb
  replace qb := (Sq.cell (p := ⟨w2_.heap.size, 1, none⟩) zb).trans qb
  replace zb : w2_.heap.size < w6_.heap.size := Nat.lt_of_lt_of_le zb Sq.size
  replace HB : Hid (Below w.heap.size w w6_) := HB.out.trans (Sq.mono HB.out.size)
  replace HN := Lib.hid (HN.out.on Sq)
  replace HR1 := Lib.hid (HR1.out.on Sq)
  replace HR2 := Lib.hid (HR2.out.on Sq)
  clear Bq Sq
  have HR3 := Lib.hid Rq; clear Rq
  have na : w1_.heap.size ≠ w6_.heap.size := by omega
  have nb : w2_.heap.size ≠ w6_.heap.size := by omega
  have hwp : w.heap.size ≤ w6_.heap.size := HB.out.size
  have hgp : 0 < w6_.heap.size := Nat.lt_of_lt_of_le HN0.out hwp
  go_wp2_with fail
  refine (H5.out A1 c1 _ (HR1.out.on (one_below _ _))).mono ?_
  rintro e w7_ ⟨A4, c4, rfl, Rq, Bq⟩
  rw [World.size_alloc] at Bq
  have Sq : Below w6_.heap.size w6_ w7_ := (one_below w6_ _).trans (Bq.mono (by omega))
  have zh : w6_.heap.size < w7_.heap.size := by have := Bq.size; rw [World.size_alloc] at this; omega
  obtain ⟨ph, qh⟩ := box_at Bq
  replace pa := (Sq.cell (p := ⟨w1_.heap.size, 0, none⟩) za).trans pa
  replace qa := (Sq.cell (p := ⟨w1_.heap.size, 1, none⟩) za).trans qa
  replace za : w1_.heap.size < w7_.heap.size := Nat.lt_of_lt_of_le za Sq.size
  replace pb := (Sq.cell (p := ⟨w2_.heap.size, 0, none⟩) zb).trans pb
  replace qb := (Sq.cell (p := ⟨w2_.heap.size, 1, none⟩) zb).trans qb
  replace zb : w2_.heap.size < w7_.heap.size := Nat.lt_of_lt_of_le zb Sq.size
  replace HB : Hid (Below w.heap.size w w7_) := HB.out.trans (Sq.mono HB.out.size)
  replace HN := Lib.hid (HN.out.on Sq)
  replace HR1 := Lib.hid (HR1.out.on Sq)
  replace HR2 := Lib.hid (HR2.out.on Sq)
  replace HR3 := Lib.hid (HR3.out.on Sq)
  have BH : Hid (w7_.heap[w6_.heap.size]? = some (.cells #[.int .i64 (p : Int), .slice A3 nh c3] 26 (0, 0))) := (Bq.block _ (by omega)).trans (World.alloc_heap_new w6_ _)
  clear Bq Sq
  have HR4 := Lib.hid Rq; clear Rq
  have nt : w7_.heap.size ≠ w6_.heap.size := by omega
  go_wp2_with fail
  refine (H6.out A3 c3 _ (HR3.out.on (one_below _ _))).mono ?_
  rintro e w8_ ⟨A5, c5, rfl, Rq, Bq⟩
  rw [World.size_alloc] at Bq
  have Sq : Below w7_.heap.size w7_ w8_ := (one_below w7_ _).trans (Bq.mono (by omega))
  have zt : w7_.heap.size < w8_.heap.size := by have := Bq.size; rw [World.size_alloc] at this; omega
  obtain ⟨pt, qt⟩ := box_at Bq
  replace pa := (Sq.cell (p := ⟨w1_.heap.size, 0, none⟩) za).trans pa
  replace qa := (Sq.cell (p := ⟨w1_.heap.size, 1, none⟩) za).trans qa
  replace za : w1_.heap.size < w8_.heap.size := Nat.lt_of_lt_of_le za Sq.size
  replace pb := (Sq.cell (p := ⟨w2_.heap.size, 0, none⟩) zb).trans pb
  replace qb := (Sq.cell (p := ⟨w2_.heap.size, 1, none⟩) zb).trans qb
  replace zb : w2_.heap.size < w8_.heap.size := Nat.lt_of_lt_of_le zb Sq.size
  replace ph := (Sq.cell (p := ⟨w6_.heap.size, 0, none⟩) zh).trans ph
  replace qh := (Sq.cell (p := ⟨w6_.heap.size, 1, none⟩) zh).trans qh
  replace zh : w6_.heap.size < w8_.heap.size := Nat.lt_of_lt_of_le zh Sq.size
  replace HB : Hid (Below w.heap.size w w8_) := HB.out.trans (Sq.mono HB.out.size)
  replace HN := Lib.hid (HN.out.on Sq)
  replace HR1 := Lib.hid (HR1.out.on Sq)
  replace HR2 := Lib.hid (HR2.out.on Sq)
  replace HR3 := Lib.hid (HR3.out.on Sq)
  replace HR4 := Lib.hid (HR4.out.on Sq)
  replace BH : Hid (w8_.heap[w6_.heap.size]? = _) := (Sq.block _ (Array.getElem?_eq_some_iff.1 BH.out).1).trans BH.out
  clear Bq Sq
  have HR5 := Lib.hid Rq; clear Rq
  obtain ⟨-, -, fh0, fh1⟩ := blk_cells BH.out
  have HST := Lib.hid (set_box (w := w8_) (K := w6_.heap.size) (.int .i64 (lh2 : Int)) (.slice A5 nh2 c5) BH.out)
  obtain ⟨ph_, qh_, hsz⟩ := HST.out.1
  have pa_ := (HST.out.2.1 w1_.heap.size 0 na).trans pa
  have qa_ := (HST.out.2.1 w1_.heap.size 1 na).trans qa
  have pb_ := (HST.out.2.1 w2_.heap.size 0 nb).trans pb
  have qb_ := (HST.out.2.1 w2_.heap.size 1 nb).trans qb
  have pt_ := (HST.out.2.1 w7_.heap.size 0 nt).trans pt
  have qt_ := (HST.out.2.1 w7_.heap.size 1 nt).trans qt
  replace HR1 := Lib.hid (HST.out.2.2.1 _ _ HR1.out)
  replace HR2 := Lib.hid (HST.out.2.2.1 _ _ HR2.out)
  replace HR3 := Lib.hid (HST.out.2.2.1 _ _ HR3.out)
  replace HR4 := Lib.hid (HST.out.2.2.1 _ _ HR4.out)
  replace HR5 := Lib.hid (HST.out.2.2.1 _ _ HR5.out)
  replace HN := Lib.hid (HN.out.set_box hgp HST.out.2.1)
  replace HB := Lib.hid (HST.out.2.2.2 _ _ hwp HB.out)
  clear HST
  go_wp2_with fail
  generalize hW : ((w8_.setCell ⟨w6_.heap.size, 0, none⟩ (.int .i64 (lh2 : Int))).setCell ⟨w6_.heap.size, 1, none⟩ (.slice A5 nh2 c5)) = w8_ at *
  clear hW
  have za_ : w1_.heap.size < w8_.heap.size := by omega
  have zb_ : w2_.heap.size < w8_.heap.size := by omega
  have zh_ : w6_.heap.size < w8_.heap.size := by omega
  have zt_ : w7_.heap.size < w8_.heap.size := by omega
  clear pa qa za
  clear pb qb zb
  clear ph qh zh
  clear pt qt zt
  have pa := pa_; have qa := qa_; have za := za_; clear pa_ qa_ za_
  have pb := pb_; have qb := qb_; have zb := zb_; clear pb_ qb_ zb_
  have ph := ph_; have qh := qh_; have zh := zh_; clear ph_ qh_ zh_
  have pt := pt_; have qt := qt_; have zt := zt_; clear pt_ qt_ zt_
  clear hsz BH fh0 fh1
  refine (H7.out A5 c5 A4 c4 w8_ HR5.out HR4.out).mono ?_
  rintro e w9_ ⟨A6, c6, rfl, Rq, Bq⟩
  have Sq : Below w8_.heap.size w8_ w9_ := Bq
  replace pa := (Sq.cell (p := ⟨w1_.heap.size, 0, none⟩) za).trans pa
  replace qa := (Sq.cell (p := ⟨w1_.heap.size, 1, none⟩) za).trans qa
  replace za : w1_.heap.size < w9_.heap.size := Nat.lt_of_lt_of_le za Sq.size
  replace pb := (Sq.cell (p := ⟨w2_.heap.size, 0, none⟩) zb).trans pb
  replace qb := (Sq.cell (p := ⟨w2_.heap.size, 1, none⟩) zb).trans qb
  replace zb : w2_.heap.size < w9_.heap.size := Nat.lt_of_lt_of_le zb Sq.size
  replace ph := (Sq.cell (p := ⟨w6_.heap.size, 0, none⟩) zh).trans ph
  replace qh := (Sq.cell (p := ⟨w6_.heap.size, 1, none⟩) zh).trans qh
  replace zh : w6_.heap.size < w9_.heap.size := Nat.lt_of_lt_of_le zh Sq.size
  replace pt := (Sq.cell (p := ⟨w7_.heap.size, 0, none⟩) zt).trans pt
  replace qt := (Sq.cell (p := ⟨w7_.heap.size, 1, none⟩) zt).trans qt
  replace zt : w7_.heap.size < w9_.heap.size := Nat.lt_of_lt_of_le zt Sq.size
  replace HB : Hid (Below w.heap.size w w9_) := HB.out.trans (Sq.mono HB.out.size)
  replace HN := Lib.hid (HN.out.on Sq)
  replace HR1 := Lib.hid (HR1.out.on Sq)
  replace HR2 := Lib.hid (HR2.out.on Sq)
  replace HR3 := Lib.hid (HR3.out.on Sq)
  replace HR4 := Lib.hid (HR4.out.on Sq)
  replace HR5 := Lib.hid (HR5.out.on Sq)
  clear Bq Sq
  have HR6 := Lib.hid Rq; clear Rq
  go_wp2_with fail
  refine (H8.out A6 c6 A2 c2 _ (HR6.out.on (one_below _ _)) (HR2.out.on (one_below _ _))).mono ?_
  rintro e w10_ ⟨A7, c7, rfl, Rq, Bq⟩
  rw [World.size_alloc] at Bq
  have Sq : Below w9_.heap.size w9_ w10_ := (one_below w9_ _).trans (Bq.mono (by omega))
  have zx : w9_.heap.size < w10_.heap.size := by have := Bq.size; rw [World.size_alloc] at this; omega
  obtain ⟨px, qx⟩ := box_at Bq
  replace pa := (Sq.cell (p := ⟨w1_.heap.size, 0, none⟩) za).trans pa
  replace qa := (Sq.cell (p := ⟨w1_.heap.size, 1, none⟩) za).trans qa
  replace za : w1_.heap.size < w10_.heap.size := Nat.lt_of_lt_of_le za Sq.size
  replace pb := (Sq.cell (p := ⟨w2_.heap.size, 0, none⟩) zb).trans pb
  replace qb := (Sq.cell (p := ⟨w2_.heap.size, 1, none⟩) zb).trans qb
  replace zb : w2_.heap.size < w10_.heap.size := Nat.lt_of_lt_of_le zb Sq.size
  replace ph := (Sq.cell (p := ⟨w6_.heap.size, 0, none⟩) zh).trans ph
  replace qh := (Sq.cell (p := ⟨w6_.heap.size, 1, none⟩) zh).trans qh
  replace zh : w6_.heap.size < w10_.heap.size := Nat.lt_of_lt_of_le zh Sq.size
  replace pt := (Sq.cell (p := ⟨w7_.heap.size, 0, none⟩) zt).trans pt
  replace qt := (Sq.cell (p := ⟨w7_.heap.size, 1, none⟩) zt).trans qt
  replace zt : w7_.heap.size < w10_.heap.size := Nat.lt_of_lt_of_le zt Sq.size
  replace HB : Hid (Below w.heap.size w w10_) := HB.out.trans (Sq.mono HB.out.size)
  replace HN := Lib.hid (HN.out.on Sq)
  replace HR1 := Lib.hid (HR1.out.on Sq)
  replace HR2 := Lib.hid (HR2.out.on Sq)
  replace HR3 := Lib.hid (HR3.out.on Sq)
  replace HR4 := Lib.hid (HR4.out.on Sq)
  replace HR5 := Lib.hid (HR5.out.on Sq)
  replace HR6 := Lib.hid (HR6.out.on Sq)
  clear Bq Sq
  have HR7 := Lib.hid Rq; clear Rq
  go_wp2
  have HAll := Lib.hid (World.alloc_heap_new w10_ (.cells #[.int .i64 (ly : Int), .slice A7 ny c7] 26))
  have HBelow : Hid (Below w10_.heap.size w10_ (w10_.alloc (.cells #[.int .i64 (ly : Int), .slice A7 ny c7] 26))) := one_below _ _
  have HSz : Hid (w10_.heap.size < (w10_.alloc (.cells #[.int .i64 (ly : Int), .slice A7 ny c7] 26)).heap.size) := by show _ < _; rw [World.size_alloc]; omega
  generalize hV : w10_.alloc (.cells #[.int .i64 (ly : Int), .slice A7 ny c7] 26) = V0 at *
  clear hV
  replace HB := Lib.hid (HB.out.trans (HBelow.out.mono HB.out.size))
  replace HN := Lib.hid (HN.out.on HBelow.out)
  replace HR7 := Lib.hid (HR7.out.on HBelow.out)
  have HBa : Hid (V0.cell? ⟨w1_.heap.size, 0, none⟩ = some (.int .i64 (la : Int)) ∧ w1_.heap.size < V0.heap.size) := ⟨(HBelow.out.cell (p := ⟨w1_.heap.size, 0, none⟩) za).trans pa, Nat.lt_of_lt_of_le za HBelow.out.size⟩
  have hla0 : 0 + 3 ≤ la := by omega
  clear pa qa za pb qb zb ph qh zh pt qt zt px qx zx
  go_loopw [22] (fun q wr => NxRel V0 la q wr) (fun q _ => la - (intOf q).toNat)
  case atStart => exact ⟨0, rfl, hla0, Below.refl _ _⟩
  case round =>
    obtain ⟨s, rfl, hs, hbel⟩ := hrel
    have HBl := Lib.hid hbel
    obtain ⟨v, to, ⟨hst, hto⟩, hrd⟩ := H9.out s hs
    have HRd := Lib.hid hrd
    have pa := (hbel.cell (p := ⟨w1_.heap.size, 0, none⟩) HBa.out.2).trans HBa.out.1
    have za : w1_.heap.size < wr.heap.size := Nat.lt_of_lt_of_le HBa.out.2 hbel.size
    obtain ⟨py, qy, -, -⟩ := blk_cells ((hbel.block _ HSz.out).trans HAll.out)
    have zy : w10_.heap.size < wr.heap.size := Nat.lt_of_lt_of_le HSz.out hbel.size
    have t9 : decide (s < la) = true := by simp; omega
    clear hrd hbel
    go_wp2_with fail
    refine (HRd.out A7 c7 wr (HR7.out.on HBl.out) (HN.out.on HBl.out)).mono ?_
    rintro e u10_ ⟨rfl, Bq⟩
    have HB10 := Lib.hid (HBl.out.trans (Bq.mono HBl.out.size))
    replace pa := (Bq.cell (p := ⟨w1_.heap.size, 0, none⟩) za).trans pa
    replace za : w1_.heap.size < u10_.heap.size := Nat.lt_of_lt_of_le za Bq.size
    replace py := (Bq.cell (p := ⟨w10_.heap.size, 0, none⟩) zy).trans py
    replace qy := (Bq.cell (p := ⟨w10_.heap.size, 1, none⟩) zy).trans qy
    replace zy : w10_.heap.size < u10_.heap.size := Nat.lt_of_lt_of_le zy Bq.size
    clear Bq HRd
    have t10 : decide (to ≤ s) = false := by simp; omega
    by_cases hend : to = la
    · subst hend
      go_wp2_with fail
      refine (H10.out A7 c7 u10_ (HR7.out.on HB10.out) (HN.out.on HB10.out)).mono ?_
      rintro e u11_ ⟨rfl, Bq⟩
      have HB11 := Lib.hid (HB10.out.trans (Bq.mono HB10.out.size))
      replace py := (Bq.cell (p := ⟨w10_.heap.size, 0, none⟩) zy).trans py
      clear Bq
      go_wp2
      go_ret
      exact ⟨rfl, HB.out.trans (HB11.out.mono HB.out.size)⟩
    · have hto3 : to + 3 ≤ la := by omega
      have t11 : ((to : Int) == (la : Int)) = false := by simp; omega
      have hds : s < to := hst
      clear hend hto hst
      go_wp2
      go_roundw
      case rel => exact ⟨to, rfl, hto3, HB10.out⟩
      case measure => simp [intOf]; omega

end Go.Proofs.YtjogccpnhcnedaaDoor
