/- The law BitsJoin: for whatever three sequences of bits it returns true and leaves what it was handed as it was. -/
import Derived.Test.YtabmmamaihiljaaLists
namespace Go.Proofs.Ytabmmamaihiljaa
open Go.RowKit

theorem up3 (w : World) (o p q : Obj) : Below w.heap.size w (((w.alloc o).alloc p).alloc q) := (((Below.refl _ w).alloc (Nat.le_refl _) _).alloc (by simp) _).alloc (by simp only [World.size_alloc]; omega) _
theorem up3_size (w : World) (o p q : Obj) : (((w.alloc o).alloc p).alloc q).heap.size = w.heap.size + 3 := by simp only [World.size_alloc]
theorem box3_at {w V : World} {a b c d e f : Value} (h : Below (((w.alloc (.cells #[a, b] 24)).alloc (.cells #[c, d] 24)).alloc (.cells #[e, f] 24)).heap.size (((w.alloc (.cells #[a, b] 24)).alloc (.cells #[c, d] 24)).alloc (.cells #[e, f] 24)) V) :
    (V.cell? ⟨w.heap.size, 0, none⟩ = some a ∧ V.cell? ⟨w.heap.size, 1, none⟩ = some b) ∧ (V.cell? ⟨w.heap.size + 1, 0, none⟩ = some c ∧ V.cell? ⟨w.heap.size + 1, 1, none⟩ = some d) ∧ (V.cell? ⟨w.heap.size + 1 + 1, 0, none⟩ = some e ∧ V.cell? ⟨w.heap.size + 1 + 1, 1, none⟩ = some f) ∧ w.heap.size + 1 + 1 < V.heap.size := by
  have hs := h.size
  rw [up3_size] at h hs
  have n0 := World.alloc_heap_new w (.cells #[a, b] 24)
  have n1 := World.alloc_heap_new (w.alloc (.cells #[a, b] 24)) (.cells #[c, d] 24)
  have n2 := World.alloc_heap_new ((w.alloc (.cells #[a, b] 24)).alloc (.cells #[c, d] 24)) (.cells #[e, f] 24)
  simp only [World.size_alloc] at n1 n2
  have e0 : V.heap[w.heap.size]? = some (.cells #[a, b] 24) := by
    rw [h.block _ (by omega), Below.heap_alloc _ _ _ (by simp only [World.size_alloc]; omega), Below.heap_alloc _ _ _ (by simp only [World.size_alloc]; omega)]; exact n0
  have e1 : V.heap[w.heap.size + 1]? = some (.cells #[c, d] 24) := by
    rw [h.block _ (by omega), Below.heap_alloc _ _ _ (by simp only [World.size_alloc]; omega)]; exact n1
  have e2 : V.heap[w.heap.size + 1 + 1]? = some (.cells #[e, f] 24) := (h.block _ (by omega)).trans n2
  exact ⟨⟨(blk_cells e0).1, (blk_cells e0).2.1⟩, ⟨(blk_cells e1).1, (blk_cells e1).2.1⟩, ⟨(blk_cells e2).1, (blk_cells e2).2.1⟩, by omega⟩

/-- Join, whatever it answers. -/
theorem join_gv (lx ly : Int) (A B : Option Addr) (c d : Nat) (xs ys : List Nat) (hx : ∀ b ∈ xs, b < 256) (hy : ∀ b ∈ ys, b < 256) (w : World) (hA : Rd w w.heap.size A xs) (hB : Rd w w.heap.size B ys) (L : List Bool) (hL : L = if joinE lx xs ly ys = 0 then unpack lx.toNat xs ++ unpack ly.toNat ys else []) :
    Calls Try.prog 16 #[.agg #[.int .i64 lx, .slice A xs.length c], .agg #[.int .i64 ly, .slice B ys.length d]] w (Gv w (L.length : Int) (pack L).length (pack L) (joinE lx xs ly ys)) := by
  subst hL
  exact join_any lx ly A B c d xs ys w hx hA hy hB

theorem join_gj (lx ly : Int) (A B : Option Addr) (c d : Nat) (xs ys : List Nat) (hx : ∀ b ∈ xs, b < 256) (hy : ∀ b ∈ ys, b < 256) (L : List Bool) (j : Int) (hj : joinE lx xs ly ys = j) (hL : L = if joinE lx xs ly ys = 0 then unpack lx.toNat xs ++ unpack ly.toNat ys else []) (w : World) (hA : Rd w w.heap.size A xs) (hB : Rd w w.heap.size B ys) :
    Calls Try.prog 16 #[.agg #[.int .i64 lx, .slice A xs.length c], .agg #[.int .i64 ly, .slice B ys.length d]] w (Gv w (L.length : Int) (pack L).length (pack L) j) := by
  rw [← hj]
  exact join_gv lx ly A B c d xs ys hx hy w hA hB L hL

set_option maxRecDepth 100000 in
set_option maxHeartbeats 1000000 in
theorem joins_err (lx ly lz : Int) (A B C : Option Addr) (c d cc : Nat) (xs ys zs : List Nat) (w : World) (hx : ∀ b ∈ xs, b < 256) (hA : Rd w w.heap.size A xs) (hy : ∀ b ∈ ys, b < 256) (hB : Rd w w.heap.size B ys) (hC : Rd w w.heap.size C zs) (e0 : Int) (he : joinE lx xs ly ys = e0) (h0 : e0 ≠ 0) :
    Calls Try.prog 5 #[.agg #[.int .i64 lx, .slice A xs.length c], .agg #[.int .i64 ly, .slice B ys.length d], .agg #[.int .i64 lz, .slice C zs.length cc]] w fun e w' => e = .returned (.bool true) ∧ Below w.heap.size w w' := by
  have HA := Lib.hid hA; clear hA
  have HBb := Lib.hid hB; clear hB
  have HCc := Lib.hid hC; clear hC
  have HE := Lib.hid he; clear he
  have t0 : (e0 != 0) = true := by simpa using h0
  have HE0 := Lib.hid h0; clear h0
  go_enter Try.func5, Try.ntmps5
  go_wp2_with fail
  refine (join_e lx ly A B c d xs ys e0 hx hy HE.out HE0.out _ (HA.out.on (up3 w _ _ _)) (HBb.out.on (up3 w _ _ _))).mono ?_
  rintro e w1_ ⟨A1, c1, rfl, Rq, Bq⟩
  have Sq : Below w.heap.size w w1_ := (up3 w _ _ _).trans (Bq.mono (by rw [up3_size]; omega))
  obtain ⟨⟨pa, qa⟩, ⟨pb, qb⟩, ⟨pc, qc⟩, zc⟩ := box3_at Bq
  have za : w.heap.size < w1_.heap.size := by omega
  have zb : w.heap.size + 1 < w1_.heap.size := by omega
  replace HA : Hid (Rd w1_ w1_.heap.size A xs) := HA.out.on Sq
  replace HBb : Hid (Rd w1_ w1_.heap.size B ys) := HBb.out.on Sq
  replace HCc : Hid (Rd w1_ w1_.heap.size C zs) := HCc.out.on Sq
  have HB : Hid (Below w.heap.size w w1_) := Sq
  clear Bq Sq
  have HP := Lib.hid Rq; clear Rq
  go_wp2_with fail
  refine (begun_true _).mono ?_
  rintro e w2_ ⟨rfl, Bq⟩
  rw [World.size_alloc] at Bq
  have Sq : Below w1_.heap.size w1_ w2_ := (one_below w1_ _).trans (Bq.mono (by omega))
  have zp : w1_.heap.size < w2_.heap.size := by have := Bq.size; rw [World.size_alloc] at this; omega
  obtain ⟨pp, qp⟩ := box_at Bq
  replace pa := (Sq.cell (p := ⟨w.heap.size, 0, none⟩) za).trans pa
  replace qa := (Sq.cell (p := ⟨w.heap.size, 1, none⟩) za).trans qa
  replace za : w.heap.size < w2_.heap.size := Nat.lt_of_lt_of_le za Sq.size
  replace pb := (Sq.cell (p := ⟨(w.heap.size + 1), 0, none⟩) zb).trans pb
  replace qb := (Sq.cell (p := ⟨(w.heap.size + 1), 1, none⟩) zb).trans qb
  replace zb : (w.heap.size + 1) < w2_.heap.size := Nat.lt_of_lt_of_le zb Sq.size
  replace pc := (Sq.cell (p := ⟨(w.heap.size + 1 + 1), 0, none⟩) zc).trans pc
  replace qc := (Sq.cell (p := ⟨(w.heap.size + 1 + 1), 1, none⟩) zc).trans qc
  replace zc : (w.heap.size + 1 + 1) < w2_.heap.size := Nat.lt_of_lt_of_le zc Sq.size
  replace HA : Hid (Rd w2_ w2_.heap.size A xs) := HA.out.on Sq
  replace HBb : Hid (Rd w2_ w2_.heap.size B ys) := HBb.out.on Sq
  replace HCc : Hid (Rd w2_ w2_.heap.size C zs) := HCc.out.on Sq
  replace HP : Hid (Rd w2_ w2_.heap.size A1 (pack [])) := HP.out.on Sq
  replace HB : Hid (Below w.heap.size w w2_) := HB.out.trans (Sq.mono HB.out.size)
  clear Bq Sq
  go_wp2_with fail
  refine (same_0 A1 none c1 0 _ HP.out).mono ?_
  rintro e w3_ ⟨rfl, Bq⟩
  have Sq : Below w2_.heap.size w2_ w3_ := Bq
  replace pa := (Sq.cell (p := ⟨w.heap.size, 0, none⟩) za).trans pa
  replace qa := (Sq.cell (p := ⟨w.heap.size, 1, none⟩) za).trans qa
  replace za : w.heap.size < w3_.heap.size := Nat.lt_of_lt_of_le za Sq.size
  replace pb := (Sq.cell (p := ⟨(w.heap.size + 1), 0, none⟩) zb).trans pb
  replace qb := (Sq.cell (p := ⟨(w.heap.size + 1), 1, none⟩) zb).trans qb
  replace zb : (w.heap.size + 1) < w3_.heap.size := Nat.lt_of_lt_of_le zb Sq.size
  replace pc := (Sq.cell (p := ⟨(w.heap.size + 1 + 1), 0, none⟩) zc).trans pc
  replace qc := (Sq.cell (p := ⟨(w.heap.size + 1 + 1), 1, none⟩) zc).trans qc
  replace zc : (w.heap.size + 1 + 1) < w3_.heap.size := Nat.lt_of_lt_of_le zc Sq.size
  replace pp := (Sq.cell (p := ⟨w1_.heap.size, 0, none⟩) zp).trans pp
  replace qp := (Sq.cell (p := ⟨w1_.heap.size, 1, none⟩) zp).trans qp
  replace zp : w1_.heap.size < w3_.heap.size := Nat.lt_of_lt_of_le zp Sq.size
  replace HA : Hid (Rd w3_ w3_.heap.size A xs) := HA.out.on Sq
  replace HBb : Hid (Rd w3_ w3_.heap.size B ys) := HBb.out.on Sq
  replace HCc : Hid (Rd w3_ w3_.heap.size C zs) := HCc.out.on Sq
  replace HP : Hid (Rd w3_ w3_.heap.size A1 (pack [])) := HP.out.on Sq
  replace HB : Hid (Below w.heap.size w w3_) := HB.out.trans (Sq.mono HB.out.size)
  clear Bq Sq
  go_wp2
  go_ret
  exact ⟨rfl, HB.out⟩

set_option maxRecDepth 100000 in
set_option maxHeartbeats 2000000 in
theorem joins_one (a b X : List Bool) (lz : Int) (A B C : Option Addr) (c d cc : Nat) (zs : List Nat) (w : World) (hf : a.length + b.length ≤ 8192) (hX : X = a ++ b) (hA : Rd w w.heap.size A (pack a)) (hB : Rd w w.heap.size B (pack b)) (hz : ∀ b ∈ zs, b < 256) (hC : Rd w w.heap.size C zs) (e0 : Int) (he : joinE (X.length : Int) (pack X) lz zs = e0) (h0 : e0 ≠ 0) :
    Calls Try.prog 5 #[.agg #[.int .i64 (a.length : Int), .slice A (pack a).length c], .agg #[.int .i64 (b.length : Int), .slice B (pack b).length d], .agg #[.int .i64 lz, .slice C zs.length cc]] w fun e w' => e = .returned (.bool true) ∧ Below w.heap.size w w' := by
  have HA := Lib.hid hA; clear hA
  have HBb := Lib.hid hB; clear hB
  have HCc := Lib.hid hC; clear hC
  have hXe : X.length = a.length + b.length := by rw [hX, List.length_append]
  have HC1 : Hid (a = X.take a.length) := by show a = _; rw [hX, List.take_left]
  have HC2 : Hid (b = (X.drop a.length).take (X.length - a.length)) := by show b = _; rw [hXe, hX, List.drop_left, List.take_of_length_le (by omega)]
  have HX := Lib.hid hX; clear hX
  have hXl : X.length ≤ 8192 := by omega
  have hXa : a.length ≤ X.length := by omega
  clear hXe
  have HE := Lib.hid he; clear he
  have t0 : (e0 != 0) = true := by simpa using h0
  have HE0 := Lib.hid h0; clear h0
  obtain ⟨Lz, hLz⟩ : ∃ L, L = if joinE (b.length : Int) (pack b) lz zs = 0 then unpack (b.length : Int).toNat (pack b) ++ unpack lz.toNat zs else [] := ⟨_, rfl⟩
  have HLz := Lib.hid hLz; clear hLz
  generalize hj : joinE (b.length : Int) (pack b) lz zs = jz
  have HJ := Lib.hid hj; clear hj
  go_enter Try.func5, Try.ntmps5
  go_wp2_with fail
  refine (join_l a b X A B c d hf HX.out _ (HA.out.on (up3 w _ _ _)) (HBb.out.on (up3 w _ _ _))).mono ?_
  rintro e w1_ ⟨A1, c1, rfl, Rq, Bq⟩
  have Sq : Below w.heap.size w w1_ := (up3 w _ _ _).trans (Bq.mono (by rw [up3_size]; omega))
  obtain ⟨⟨pa, qa⟩, ⟨pb, qb⟩, ⟨pc, qc⟩, zc⟩ := box3_at Bq
  have za : w.heap.size < w1_.heap.size := by omega
  have zb : w.heap.size + 1 < w1_.heap.size := by omega
  replace HA : Hid (Rd w1_ w1_.heap.size A (pack a)) := HA.out.on Sq
  replace HBb : Hid (Rd w1_ w1_.heap.size B (pack b)) := HBb.out.on Sq
  replace HCc : Hid (Rd w1_ w1_.heap.size C zs) := HCc.out.on Sq
  have HB : Hid (Below w.heap.size w w1_) := Sq
  clear Bq Sq
  have HP := Lib.hid Rq; clear Rq
  go_wp2_with fail
  refine (begun_true _).mono ?_
  rintro e w2_ ⟨rfl, Bq⟩
  rw [World.size_alloc] at Bq
  have Sq : Below w1_.heap.size w1_ w2_ := (one_below w1_ _).trans (Bq.mono (by omega))
  have zp : w1_.heap.size < w2_.heap.size := by have := Bq.size; rw [World.size_alloc] at this; omega
  obtain ⟨pp, qp⟩ := box_at Bq
  replace pa := (Sq.cell (p := ⟨w.heap.size, 0, none⟩) za).trans pa
  replace qa := (Sq.cell (p := ⟨w.heap.size, 1, none⟩) za).trans qa
  replace za : w.heap.size < w2_.heap.size := Nat.lt_of_lt_of_le za Sq.size
  replace pb := (Sq.cell (p := ⟨(w.heap.size + 1), 0, none⟩) zb).trans pb
  replace qb := (Sq.cell (p := ⟨(w.heap.size + 1), 1, none⟩) zb).trans qb
  replace zb : (w.heap.size + 1) < w2_.heap.size := Nat.lt_of_lt_of_le zb Sq.size
  replace pc := (Sq.cell (p := ⟨(w.heap.size + 1 + 1), 0, none⟩) zc).trans pc
  replace qc := (Sq.cell (p := ⟨(w.heap.size + 1 + 1), 1, none⟩) zc).trans qc
  replace zc : (w.heap.size + 1 + 1) < w2_.heap.size := Nat.lt_of_lt_of_le zc Sq.size
  replace HA : Hid (Rd w2_ w2_.heap.size A (pack a)) := HA.out.on Sq
  replace HBb : Hid (Rd w2_ w2_.heap.size B (pack b)) := HBb.out.on Sq
  replace HCc : Hid (Rd w2_ w2_.heap.size C zs) := HCc.out.on Sq
  replace HP : Hid (Rd w2_ w2_.heap.size A1 (pack X)) := HP.out.on Sq
  replace HB : Hid (Below w.heap.size w w2_) := HB.out.trans (Sq.mono HB.out.size)
  clear Bq Sq
  go_wp2_with fail
  refine (cut_l0 X a hXl A1 c1 a.length (by omega) HC1.out _ HP.out).mono ?_
  rintro e w3_ ⟨A2, c2, rfl, Rq, Bq⟩
  have Sq : Below w2_.heap.size w2_ w3_ := Bq
  replace pa := (Sq.cell (p := ⟨w.heap.size, 0, none⟩) za).trans pa
  replace qa := (Sq.cell (p := ⟨w.heap.size, 1, none⟩) za).trans qa
  replace za : w.heap.size < w3_.heap.size := Nat.lt_of_lt_of_le za Sq.size
  replace pb := (Sq.cell (p := ⟨(w.heap.size + 1), 0, none⟩) zb).trans pb
  replace qb := (Sq.cell (p := ⟨(w.heap.size + 1), 1, none⟩) zb).trans qb
  replace zb : (w.heap.size + 1) < w3_.heap.size := Nat.lt_of_lt_of_le zb Sq.size
  replace pc := (Sq.cell (p := ⟨(w.heap.size + 1 + 1), 0, none⟩) zc).trans pc
  replace qc := (Sq.cell (p := ⟨(w.heap.size + 1 + 1), 1, none⟩) zc).trans qc
  replace zc : (w.heap.size + 1 + 1) < w3_.heap.size := Nat.lt_of_lt_of_le zc Sq.size
  replace pp := (Sq.cell (p := ⟨w1_.heap.size, 0, none⟩) zp).trans pp
  replace qp := (Sq.cell (p := ⟨w1_.heap.size, 1, none⟩) zp).trans qp
  replace zp : w1_.heap.size < w3_.heap.size := Nat.lt_of_lt_of_le zp Sq.size
  replace HA : Hid (Rd w3_ w3_.heap.size A (pack a)) := HA.out.on Sq
  replace HBb : Hid (Rd w3_ w3_.heap.size B (pack b)) := HBb.out.on Sq
  replace HCc : Hid (Rd w3_ w3_.heap.size C zs) := HCc.out.on Sq
  replace HP : Hid (Rd w3_ w3_.heap.size A1 (pack X)) := HP.out.on Sq
  replace HB : Hid (Below w.heap.size w w3_) := HB.out.trans (Sq.mono HB.out.size)
  clear Bq Sq
  have HQ := Lib.hid Rq; clear Rq
  go_wp2_with fail
  refine (cut_l X b hXl A1 c1 a.length X.length (by omega) (by omega) HC2.out _ (HP.out.on (one_below w3_ _))).mono ?_
  rintro e w4_ ⟨A3, c3, rfl, Rq, Bq⟩
  rw [World.size_alloc] at Bq
  have Sq : Below w3_.heap.size w3_ w4_ := (one_below w3_ _).trans (Bq.mono (by omega))
  have zq : w3_.heap.size < w4_.heap.size := by have := Bq.size; rw [World.size_alloc] at this; omega
  obtain ⟨pq, qq⟩ := box_at Bq
  replace pa := (Sq.cell (p := ⟨w.heap.size, 0, none⟩) za).trans pa
  replace qa := (Sq.cell (p := ⟨w.heap.size, 1, none⟩) za).trans qa
  replace za : w.heap.size < w4_.heap.size := Nat.lt_of_lt_of_le za Sq.size
  replace pb := (Sq.cell (p := ⟨(w.heap.size + 1), 0, none⟩) zb).trans pb
  replace qb := (Sq.cell (p := ⟨(w.heap.size + 1), 1, none⟩) zb).trans qb
  replace zb : (w.heap.size + 1) < w4_.heap.size := Nat.lt_of_lt_of_le zb Sq.size
  replace pc := (Sq.cell (p := ⟨(w.heap.size + 1 + 1), 0, none⟩) zc).trans pc
  replace qc := (Sq.cell (p := ⟨(w.heap.size + 1 + 1), 1, none⟩) zc).trans qc
  replace zc : (w.heap.size + 1 + 1) < w4_.heap.size := Nat.lt_of_lt_of_le zc Sq.size
  replace pp := (Sq.cell (p := ⟨w1_.heap.size, 0, none⟩) zp).trans pp
  replace qp := (Sq.cell (p := ⟨w1_.heap.size, 1, none⟩) zp).trans qp
  replace zp : w1_.heap.size < w4_.heap.size := Nat.lt_of_lt_of_le zp Sq.size
  replace HA : Hid (Rd w4_ w4_.heap.size A (pack a)) := HA.out.on Sq
  replace HBb : Hid (Rd w4_ w4_.heap.size B (pack b)) := HBb.out.on Sq
  replace HCc : Hid (Rd w4_ w4_.heap.size C zs) := HCc.out.on Sq
  replace HP : Hid (Rd w4_ w4_.heap.size A1 (pack X)) := HP.out.on Sq
  replace HQ : Hid (Rd w4_ w4_.heap.size A2 (pack a)) := HQ.out.on Sq
  replace HB : Hid (Below w.heap.size w w4_) := HB.out.trans (Sq.mono HB.out.size)
  clear Bq Sq
  have HR := Lib.hid Rq; clear Rq
  go_wp2_with fail
  refine (same_l a (by omega) A2 A c2 c _ (HQ.out.on (one_below w4_ _)) (HA.out.on (one_below w4_ _))).mono ?_
  rintro e w5_ ⟨rfl, Bq⟩
  rw [World.size_alloc] at Bq
  have Sq : Below w4_.heap.size w4_ w5_ := (one_below w4_ _).trans (Bq.mono (by omega))
  have zr : w4_.heap.size < w5_.heap.size := by have := Bq.size; rw [World.size_alloc] at this; omega
  obtain ⟨pr, qr⟩ := box_at Bq
  replace pa := (Sq.cell (p := ⟨w.heap.size, 0, none⟩) za).trans pa
  replace qa := (Sq.cell (p := ⟨w.heap.size, 1, none⟩) za).trans qa
  replace za : w.heap.size < w5_.heap.size := Nat.lt_of_lt_of_le za Sq.size
  replace pb := (Sq.cell (p := ⟨(w.heap.size + 1), 0, none⟩) zb).trans pb
  replace qb := (Sq.cell (p := ⟨(w.heap.size + 1), 1, none⟩) zb).trans qb
  replace zb : (w.heap.size + 1) < w5_.heap.size := Nat.lt_of_lt_of_le zb Sq.size
  replace pc := (Sq.cell (p := ⟨(w.heap.size + 1 + 1), 0, none⟩) zc).trans pc
  replace qc := (Sq.cell (p := ⟨(w.heap.size + 1 + 1), 1, none⟩) zc).trans qc
  replace zc : (w.heap.size + 1 + 1) < w5_.heap.size := Nat.lt_of_lt_of_le zc Sq.size
  replace pp := (Sq.cell (p := ⟨w1_.heap.size, 0, none⟩) zp).trans pp
  replace qp := (Sq.cell (p := ⟨w1_.heap.size, 1, none⟩) zp).trans qp
  replace zp : w1_.heap.size < w5_.heap.size := Nat.lt_of_lt_of_le zp Sq.size
  replace pq := (Sq.cell (p := ⟨w3_.heap.size, 0, none⟩) zq).trans pq
  replace qq := (Sq.cell (p := ⟨w3_.heap.size, 1, none⟩) zq).trans qq
  replace zq : w3_.heap.size < w5_.heap.size := Nat.lt_of_lt_of_le zq Sq.size
  replace HA : Hid (Rd w5_ w5_.heap.size A (pack a)) := HA.out.on Sq
  replace HBb : Hid (Rd w5_ w5_.heap.size B (pack b)) := HBb.out.on Sq
  replace HCc : Hid (Rd w5_ w5_.heap.size C zs) := HCc.out.on Sq
  replace HP : Hid (Rd w5_ w5_.heap.size A1 (pack X)) := HP.out.on Sq
  replace HQ : Hid (Rd w5_ w5_.heap.size A2 (pack a)) := HQ.out.on Sq
  replace HR : Hid (Rd w5_ w5_.heap.size A3 (pack b)) := HR.out.on Sq
  replace HB : Hid (Below w.heap.size w w5_) := HB.out.trans (Sq.mono HB.out.size)
  clear Bq Sq
  go_wp2_with fail
  refine (same_l b (by omega) A3 B c3 d _ HR.out HBb.out).mono ?_
  rintro e w6_ ⟨rfl, Bq⟩
  have Sq : Below w5_.heap.size w5_ w6_ := Bq
  replace pa := (Sq.cell (p := ⟨w.heap.size, 0, none⟩) za).trans pa
  replace qa := (Sq.cell (p := ⟨w.heap.size, 1, none⟩) za).trans qa
  replace za : w.heap.size < w6_.heap.size := Nat.lt_of_lt_of_le za Sq.size
  replace pb := (Sq.cell (p := ⟨(w.heap.size + 1), 0, none⟩) zb).trans pb
  replace qb := (Sq.cell (p := ⟨(w.heap.size + 1), 1, none⟩) zb).trans qb
  replace zb : (w.heap.size + 1) < w6_.heap.size := Nat.lt_of_lt_of_le zb Sq.size
  replace pc := (Sq.cell (p := ⟨(w.heap.size + 1 + 1), 0, none⟩) zc).trans pc
  replace qc := (Sq.cell (p := ⟨(w.heap.size + 1 + 1), 1, none⟩) zc).trans qc
  replace zc : (w.heap.size + 1 + 1) < w6_.heap.size := Nat.lt_of_lt_of_le zc Sq.size
  replace pp := (Sq.cell (p := ⟨w1_.heap.size, 0, none⟩) zp).trans pp
  replace qp := (Sq.cell (p := ⟨w1_.heap.size, 1, none⟩) zp).trans qp
  replace zp : w1_.heap.size < w6_.heap.size := Nat.lt_of_lt_of_le zp Sq.size
  replace pq := (Sq.cell (p := ⟨w3_.heap.size, 0, none⟩) zq).trans pq
  replace qq := (Sq.cell (p := ⟨w3_.heap.size, 1, none⟩) zq).trans qq
  replace zq : w3_.heap.size < w6_.heap.size := Nat.lt_of_lt_of_le zq Sq.size
  replace pr := (Sq.cell (p := ⟨w4_.heap.size, 0, none⟩) zr).trans pr
  replace qr := (Sq.cell (p := ⟨w4_.heap.size, 1, none⟩) zr).trans qr
  replace zr : w4_.heap.size < w6_.heap.size := Nat.lt_of_lt_of_le zr Sq.size
  replace HA : Hid (Rd w6_ w6_.heap.size A (pack a)) := HA.out.on Sq
  replace HBb : Hid (Rd w6_ w6_.heap.size B (pack b)) := HBb.out.on Sq
  replace HCc : Hid (Rd w6_ w6_.heap.size C zs) := HCc.out.on Sq
  replace HP : Hid (Rd w6_ w6_.heap.size A1 (pack X)) := HP.out.on Sq
  replace HQ : Hid (Rd w6_ w6_.heap.size A2 (pack a)) := HQ.out.on Sq
  replace HR : Hid (Rd w6_ w6_.heap.size A3 (pack b)) := HR.out.on Sq
  replace HB : Hid (Below w.heap.size w w6_) := HB.out.trans (Sq.mono HB.out.size)
  clear Bq Sq
  go_wp2_with fail
  refine (join_e (X.length : Int) lz A1 C c1 cc (pack X) zs e0 (pack_lt X) hz HE.out HE0.out _ HP.out HCc.out).mono ?_
  rintro e w7_ ⟨A4, c4, rfl, Rq, Bq⟩
  have Sq : Below w6_.heap.size w6_ w7_ := Bq
  replace pa := (Sq.cell (p := ⟨w.heap.size, 0, none⟩) za).trans pa
  replace qa := (Sq.cell (p := ⟨w.heap.size, 1, none⟩) za).trans qa
  replace za : w.heap.size < w7_.heap.size := Nat.lt_of_lt_of_le za Sq.size
  replace pb := (Sq.cell (p := ⟨(w.heap.size + 1), 0, none⟩) zb).trans pb
  replace qb := (Sq.cell (p := ⟨(w.heap.size + 1), 1, none⟩) zb).trans qb
  replace zb : (w.heap.size + 1) < w7_.heap.size := Nat.lt_of_lt_of_le zb Sq.size
  replace pc := (Sq.cell (p := ⟨(w.heap.size + 1 + 1), 0, none⟩) zc).trans pc
  replace qc := (Sq.cell (p := ⟨(w.heap.size + 1 + 1), 1, none⟩) zc).trans qc
  replace zc : (w.heap.size + 1 + 1) < w7_.heap.size := Nat.lt_of_lt_of_le zc Sq.size
  replace pp := (Sq.cell (p := ⟨w1_.heap.size, 0, none⟩) zp).trans pp
  replace qp := (Sq.cell (p := ⟨w1_.heap.size, 1, none⟩) zp).trans qp
  replace zp : w1_.heap.size < w7_.heap.size := Nat.lt_of_lt_of_le zp Sq.size
  replace pq := (Sq.cell (p := ⟨w3_.heap.size, 0, none⟩) zq).trans pq
  replace qq := (Sq.cell (p := ⟨w3_.heap.size, 1, none⟩) zq).trans qq
  replace zq : w3_.heap.size < w7_.heap.size := Nat.lt_of_lt_of_le zq Sq.size
  replace pr := (Sq.cell (p := ⟨w4_.heap.size, 0, none⟩) zr).trans pr
  replace qr := (Sq.cell (p := ⟨w4_.heap.size, 1, none⟩) zr).trans qr
  replace zr : w4_.heap.size < w7_.heap.size := Nat.lt_of_lt_of_le zr Sq.size
  replace HA : Hid (Rd w7_ w7_.heap.size A (pack a)) := HA.out.on Sq
  replace HBb : Hid (Rd w7_ w7_.heap.size B (pack b)) := HBb.out.on Sq
  replace HCc : Hid (Rd w7_ w7_.heap.size C zs) := HCc.out.on Sq
  replace HP : Hid (Rd w7_ w7_.heap.size A1 (pack X)) := HP.out.on Sq
  replace HQ : Hid (Rd w7_ w7_.heap.size A2 (pack a)) := HQ.out.on Sq
  replace HR : Hid (Rd w7_ w7_.heap.size A3 (pack b)) := HR.out.on Sq
  replace HB : Hid (Below w.heap.size w w7_) := HB.out.trans (Sq.mono HB.out.size)
  clear Bq Sq
  have HY := Lib.hid Rq; clear Rq
  go_wp2_with fail
  refine (join_gj (b.length : Int) lz B C d cc (pack b) zs (pack_lt b) hz Lz jz HJ.out HLz.out _ (HBb.out.on (one_below w7_ _)) (HCc.out.on (one_below w7_ _))).mono ?_
  rintro e w8_ ⟨A5, c5, rfl, Rq, Bq⟩
  rw [World.size_alloc] at Bq
  have Sq : Below w7_.heap.size w7_ w8_ := (one_below w7_ _).trans (Bq.mono (by omega))
  have zy : w7_.heap.size < w8_.heap.size := by have := Bq.size; rw [World.size_alloc] at this; omega
  obtain ⟨py, qy⟩ := box_at Bq
  replace pa := (Sq.cell (p := ⟨w.heap.size, 0, none⟩) za).trans pa
  replace qa := (Sq.cell (p := ⟨w.heap.size, 1, none⟩) za).trans qa
  replace za : w.heap.size < w8_.heap.size := Nat.lt_of_lt_of_le za Sq.size
  replace pb := (Sq.cell (p := ⟨(w.heap.size + 1), 0, none⟩) zb).trans pb
  replace qb := (Sq.cell (p := ⟨(w.heap.size + 1), 1, none⟩) zb).trans qb
  replace zb : (w.heap.size + 1) < w8_.heap.size := Nat.lt_of_lt_of_le zb Sq.size
  replace pc := (Sq.cell (p := ⟨(w.heap.size + 1 + 1), 0, none⟩) zc).trans pc
  replace qc := (Sq.cell (p := ⟨(w.heap.size + 1 + 1), 1, none⟩) zc).trans qc
  replace zc : (w.heap.size + 1 + 1) < w8_.heap.size := Nat.lt_of_lt_of_le zc Sq.size
  replace pp := (Sq.cell (p := ⟨w1_.heap.size, 0, none⟩) zp).trans pp
  replace qp := (Sq.cell (p := ⟨w1_.heap.size, 1, none⟩) zp).trans qp
  replace zp : w1_.heap.size < w8_.heap.size := Nat.lt_of_lt_of_le zp Sq.size
  replace pq := (Sq.cell (p := ⟨w3_.heap.size, 0, none⟩) zq).trans pq
  replace qq := (Sq.cell (p := ⟨w3_.heap.size, 1, none⟩) zq).trans qq
  replace zq : w3_.heap.size < w8_.heap.size := Nat.lt_of_lt_of_le zq Sq.size
  replace pr := (Sq.cell (p := ⟨w4_.heap.size, 0, none⟩) zr).trans pr
  replace qr := (Sq.cell (p := ⟨w4_.heap.size, 1, none⟩) zr).trans qr
  replace zr : w4_.heap.size < w8_.heap.size := Nat.lt_of_lt_of_le zr Sq.size
  replace HA : Hid (Rd w8_ w8_.heap.size A (pack a)) := HA.out.on Sq
  replace HBb : Hid (Rd w8_ w8_.heap.size B (pack b)) := HBb.out.on Sq
  replace HCc : Hid (Rd w8_ w8_.heap.size C zs) := HCc.out.on Sq
  replace HP : Hid (Rd w8_ w8_.heap.size A1 (pack X)) := HP.out.on Sq
  replace HQ : Hid (Rd w8_ w8_.heap.size A2 (pack a)) := HQ.out.on Sq
  replace HR : Hid (Rd w8_ w8_.heap.size A3 (pack b)) := HR.out.on Sq
  replace HY : Hid (Rd w8_ w8_.heap.size A4 (pack [])) := HY.out.on Sq
  replace HB : Hid (Below w.heap.size w w8_) := HB.out.trans (Sq.mono HB.out.size)
  clear Bq Sq
  have HZ := Lib.hid Rq; clear Rq
  go_wp2
  all_goals
    go_ret
    exact ⟨rfl, HB.out.alloc HB.out.size _⟩

set_option maxRecDepth 100000 in
set_option maxHeartbeats 2000000 in
theorem joins_two (a b z X Y Z : List Bool) (A B C : Option Addr) (c d cc : Nat) (w : World) (hf : a.length + b.length + z.length ≤ 8192) (hX : X = a ++ b) (hY : Y = X ++ z) (hZ : Z = b ++ z) (hA : Rd w w.heap.size A (pack a)) (hB : Rd w w.heap.size B (pack b)) (hC : Rd w w.heap.size C (pack z)) :
    Calls Try.prog 5 #[.agg #[.int .i64 (a.length : Int), .slice A (pack a).length c], .agg #[.int .i64 (b.length : Int), .slice B (pack b).length d], .agg #[.int .i64 (z.length : Int), .slice C (pack z).length cc]] w fun e w' => e = .returned (.bool true) ∧ Below w.heap.size w w' := by
  have HA := Lib.hid hA; clear hA
  have HBb := Lib.hid hB; clear hB
  have HCc := Lib.hid hC; clear hC
  have hXe : X.length = a.length + b.length := by rw [hX, List.length_append]
  have hYe : Y.length = X.length + z.length := by rw [hY, List.length_append]
  have hZe : Z.length = b.length + z.length := by rw [hZ, List.length_append]
  have HC1 : Hid (a = X.take a.length) := by show a = _; rw [hX, List.take_left]
  have HC2 : Hid (b = (X.drop a.length).take (X.length - a.length)) := by show b = _; rw [hXe, hX, List.drop_left, List.take_of_length_le (by omega)]
  have HY1 : Hid (Y = a ++ Z) := by show Y = _; rw [hY, hX, hZ, List.append_assoc]
  have HX := Lib.hid hX; clear hX
  have HY0 := Lib.hid hY; clear hY
  have HZ0 := Lib.hid hZ; clear hZ
  have g1 : X.length ≤ a.length + b.length := by omega
  have g2 : Y.length ≤ X.length + z.length := by omega
  have g3 : Z.length ≤ b.length + z.length := by omega
  have hXl : X.length ≤ 8192 := by omega
  have hXa : a.length ≤ X.length := by omega
  clear hXe hYe hZe
  go_enter Try.func5, Try.ntmps5
  go_wp2_with fail
  refine (join_l a b X A B c d (by omega) HX.out _ (HA.out.on (up3 w _ _ _)) (HBb.out.on (up3 w _ _ _))).mono ?_
  rintro e w1_ ⟨A1, c1, rfl, Rq, Bq⟩
  have Sq : Below w.heap.size w w1_ := (up3 w _ _ _).trans (Bq.mono (by rw [up3_size]; omega))
  obtain ⟨⟨pa, qa⟩, ⟨pb, qb⟩, ⟨pc, qc⟩, zc⟩ := box3_at Bq
  have za : w.heap.size < w1_.heap.size := by omega
  have zb : w.heap.size + 1 < w1_.heap.size := by omega
  replace HA : Hid (Rd w1_ w1_.heap.size A (pack a)) := HA.out.on Sq
  replace HBb : Hid (Rd w1_ w1_.heap.size B (pack b)) := HBb.out.on Sq
  replace HCc : Hid (Rd w1_ w1_.heap.size C (pack z)) := HCc.out.on Sq
  have HB : Hid (Below w.heap.size w w1_) := Sq
  clear Bq Sq
  have HP := Lib.hid Rq; clear Rq
  go_wp2_with fail
  refine (begun_true _).mono ?_
  rintro e w2_ ⟨rfl, Bq⟩
  rw [World.size_alloc] at Bq
  have Sq : Below w1_.heap.size w1_ w2_ := (one_below w1_ _).trans (Bq.mono (by omega))
  have zp : w1_.heap.size < w2_.heap.size := by have := Bq.size; rw [World.size_alloc] at this; omega
  obtain ⟨pp, qp⟩ := box_at Bq
  replace pa := (Sq.cell (p := ⟨w.heap.size, 0, none⟩) za).trans pa
  replace qa := (Sq.cell (p := ⟨w.heap.size, 1, none⟩) za).trans qa
  replace za : w.heap.size < w2_.heap.size := Nat.lt_of_lt_of_le za Sq.size
  replace pb := (Sq.cell (p := ⟨(w.heap.size + 1), 0, none⟩) zb).trans pb
  replace qb := (Sq.cell (p := ⟨(w.heap.size + 1), 1, none⟩) zb).trans qb
  replace zb : (w.heap.size + 1) < w2_.heap.size := Nat.lt_of_lt_of_le zb Sq.size
  replace pc := (Sq.cell (p := ⟨(w.heap.size + 1 + 1), 0, none⟩) zc).trans pc
  replace qc := (Sq.cell (p := ⟨(w.heap.size + 1 + 1), 1, none⟩) zc).trans qc
  replace zc : (w.heap.size + 1 + 1) < w2_.heap.size := Nat.lt_of_lt_of_le zc Sq.size
  replace HA : Hid (Rd w2_ w2_.heap.size A (pack a)) := HA.out.on Sq
  replace HBb : Hid (Rd w2_ w2_.heap.size B (pack b)) := HBb.out.on Sq
  replace HCc : Hid (Rd w2_ w2_.heap.size C (pack z)) := HCc.out.on Sq
  replace HP : Hid (Rd w2_ w2_.heap.size A1 (pack X)) := HP.out.on Sq
  replace HB : Hid (Below w.heap.size w w2_) := HB.out.trans (Sq.mono HB.out.size)
  clear Bq Sq
  go_wp2_with fail
  refine (cut_l0 X a hXl A1 c1 a.length (by omega) HC1.out _ HP.out).mono ?_
  rintro e w3_ ⟨A2, c2, rfl, Rq, Bq⟩
  have Sq : Below w2_.heap.size w2_ w3_ := Bq
  replace pa := (Sq.cell (p := ⟨w.heap.size, 0, none⟩) za).trans pa
  replace qa := (Sq.cell (p := ⟨w.heap.size, 1, none⟩) za).trans qa
  replace za : w.heap.size < w3_.heap.size := Nat.lt_of_lt_of_le za Sq.size
  replace pb := (Sq.cell (p := ⟨(w.heap.size + 1), 0, none⟩) zb).trans pb
  replace qb := (Sq.cell (p := ⟨(w.heap.size + 1), 1, none⟩) zb).trans qb
  replace zb : (w.heap.size + 1) < w3_.heap.size := Nat.lt_of_lt_of_le zb Sq.size
  replace pc := (Sq.cell (p := ⟨(w.heap.size + 1 + 1), 0, none⟩) zc).trans pc
  replace qc := (Sq.cell (p := ⟨(w.heap.size + 1 + 1), 1, none⟩) zc).trans qc
  replace zc : (w.heap.size + 1 + 1) < w3_.heap.size := Nat.lt_of_lt_of_le zc Sq.size
  replace pp := (Sq.cell (p := ⟨w1_.heap.size, 0, none⟩) zp).trans pp
  replace qp := (Sq.cell (p := ⟨w1_.heap.size, 1, none⟩) zp).trans qp
  replace zp : w1_.heap.size < w3_.heap.size := Nat.lt_of_lt_of_le zp Sq.size
  replace HA : Hid (Rd w3_ w3_.heap.size A (pack a)) := HA.out.on Sq
  replace HBb : Hid (Rd w3_ w3_.heap.size B (pack b)) := HBb.out.on Sq
  replace HCc : Hid (Rd w3_ w3_.heap.size C (pack z)) := HCc.out.on Sq
  replace HP : Hid (Rd w3_ w3_.heap.size A1 (pack X)) := HP.out.on Sq
  replace HB : Hid (Below w.heap.size w w3_) := HB.out.trans (Sq.mono HB.out.size)
  clear Bq Sq
  have HQ := Lib.hid Rq; clear Rq
  go_wp2_with fail
  refine (cut_l X b hXl A1 c1 a.length X.length (by omega) (by omega) HC2.out _ (HP.out.on (one_below w3_ _))).mono ?_
  rintro e w4_ ⟨A3, c3, rfl, Rq, Bq⟩
  rw [World.size_alloc] at Bq
  have Sq : Below w3_.heap.size w3_ w4_ := (one_below w3_ _).trans (Bq.mono (by omega))
  have zq : w3_.heap.size < w4_.heap.size := by have := Bq.size; rw [World.size_alloc] at this; omega
  obtain ⟨pq, qq⟩ := box_at Bq
  replace pa := (Sq.cell (p := ⟨w.heap.size, 0, none⟩) za).trans pa
  replace qa := (Sq.cell (p := ⟨w.heap.size, 1, none⟩) za).trans qa
  replace za : w.heap.size < w4_.heap.size := Nat.lt_of_lt_of_le za Sq.size
  replace pb := (Sq.cell (p := ⟨(w.heap.size + 1), 0, none⟩) zb).trans pb
  replace qb := (Sq.cell (p := ⟨(w.heap.size + 1), 1, none⟩) zb).trans qb
  replace zb : (w.heap.size + 1) < w4_.heap.size := Nat.lt_of_lt_of_le zb Sq.size
  replace pc := (Sq.cell (p := ⟨(w.heap.size + 1 + 1), 0, none⟩) zc).trans pc
  replace qc := (Sq.cell (p := ⟨(w.heap.size + 1 + 1), 1, none⟩) zc).trans qc
  replace zc : (w.heap.size + 1 + 1) < w4_.heap.size := Nat.lt_of_lt_of_le zc Sq.size
  replace pp := (Sq.cell (p := ⟨w1_.heap.size, 0, none⟩) zp).trans pp
  replace qp := (Sq.cell (p := ⟨w1_.heap.size, 1, none⟩) zp).trans qp
  replace zp : w1_.heap.size < w4_.heap.size := Nat.lt_of_lt_of_le zp Sq.size
  replace HA : Hid (Rd w4_ w4_.heap.size A (pack a)) := HA.out.on Sq
  replace HBb : Hid (Rd w4_ w4_.heap.size B (pack b)) := HBb.out.on Sq
  replace HCc : Hid (Rd w4_ w4_.heap.size C (pack z)) := HCc.out.on Sq
  replace HP : Hid (Rd w4_ w4_.heap.size A1 (pack X)) := HP.out.on Sq
  replace HQ : Hid (Rd w4_ w4_.heap.size A2 (pack a)) := HQ.out.on Sq
  replace HB : Hid (Below w.heap.size w w4_) := HB.out.trans (Sq.mono HB.out.size)
  clear Bq Sq
  have HR := Lib.hid Rq; clear Rq
  go_wp2_with fail
  refine (same_l a (by omega) A2 A c2 c _ (HQ.out.on (one_below w4_ _)) (HA.out.on (one_below w4_ _))).mono ?_
  rintro e w5_ ⟨rfl, Bq⟩
  rw [World.size_alloc] at Bq
  have Sq : Below w4_.heap.size w4_ w5_ := (one_below w4_ _).trans (Bq.mono (by omega))
  have zr : w4_.heap.size < w5_.heap.size := by have := Bq.size; rw [World.size_alloc] at this; omega
  obtain ⟨pr, qr⟩ := box_at Bq
  replace pa := (Sq.cell (p := ⟨w.heap.size, 0, none⟩) za).trans pa
  replace qa := (Sq.cell (p := ⟨w.heap.size, 1, none⟩) za).trans qa
  replace za : w.heap.size < w5_.heap.size := Nat.lt_of_lt_of_le za Sq.size
  replace pb := (Sq.cell (p := ⟨(w.heap.size + 1), 0, none⟩) zb).trans pb
  replace qb := (Sq.cell (p := ⟨(w.heap.size + 1), 1, none⟩) zb).trans qb
  replace zb : (w.heap.size + 1) < w5_.heap.size := Nat.lt_of_lt_of_le zb Sq.size
  replace pc := (Sq.cell (p := ⟨(w.heap.size + 1 + 1), 0, none⟩) zc).trans pc
  replace qc := (Sq.cell (p := ⟨(w.heap.size + 1 + 1), 1, none⟩) zc).trans qc
  replace zc : (w.heap.size + 1 + 1) < w5_.heap.size := Nat.lt_of_lt_of_le zc Sq.size
  replace pp := (Sq.cell (p := ⟨w1_.heap.size, 0, none⟩) zp).trans pp
  replace qp := (Sq.cell (p := ⟨w1_.heap.size, 1, none⟩) zp).trans qp
  replace zp : w1_.heap.size < w5_.heap.size := Nat.lt_of_lt_of_le zp Sq.size
  replace pq := (Sq.cell (p := ⟨w3_.heap.size, 0, none⟩) zq).trans pq
  replace qq := (Sq.cell (p := ⟨w3_.heap.size, 1, none⟩) zq).trans qq
  replace zq : w3_.heap.size < w5_.heap.size := Nat.lt_of_lt_of_le zq Sq.size
  replace HA : Hid (Rd w5_ w5_.heap.size A (pack a)) := HA.out.on Sq
  replace HBb : Hid (Rd w5_ w5_.heap.size B (pack b)) := HBb.out.on Sq
  replace HCc : Hid (Rd w5_ w5_.heap.size C (pack z)) := HCc.out.on Sq
  replace HP : Hid (Rd w5_ w5_.heap.size A1 (pack X)) := HP.out.on Sq
  replace HQ : Hid (Rd w5_ w5_.heap.size A2 (pack a)) := HQ.out.on Sq
  replace HR : Hid (Rd w5_ w5_.heap.size A3 (pack b)) := HR.out.on Sq
  replace HB : Hid (Below w.heap.size w w5_) := HB.out.trans (Sq.mono HB.out.size)
  clear Bq Sq
  go_wp2_with fail
  refine (same_l b (by omega) A3 B c3 d _ HR.out HBb.out).mono ?_
  rintro e w6_ ⟨rfl, Bq⟩
  have Sq : Below w5_.heap.size w5_ w6_ := Bq
  replace pa := (Sq.cell (p := ⟨w.heap.size, 0, none⟩) za).trans pa
  replace qa := (Sq.cell (p := ⟨w.heap.size, 1, none⟩) za).trans qa
  replace za : w.heap.size < w6_.heap.size := Nat.lt_of_lt_of_le za Sq.size
  replace pb := (Sq.cell (p := ⟨(w.heap.size + 1), 0, none⟩) zb).trans pb
  replace qb := (Sq.cell (p := ⟨(w.heap.size + 1), 1, none⟩) zb).trans qb
  replace zb : (w.heap.size + 1) < w6_.heap.size := Nat.lt_of_lt_of_le zb Sq.size
  replace pc := (Sq.cell (p := ⟨(w.heap.size + 1 + 1), 0, none⟩) zc).trans pc
  replace qc := (Sq.cell (p := ⟨(w.heap.size + 1 + 1), 1, none⟩) zc).trans qc
  replace zc : (w.heap.size + 1 + 1) < w6_.heap.size := Nat.lt_of_lt_of_le zc Sq.size
  replace pp := (Sq.cell (p := ⟨w1_.heap.size, 0, none⟩) zp).trans pp
  replace qp := (Sq.cell (p := ⟨w1_.heap.size, 1, none⟩) zp).trans qp
  replace zp : w1_.heap.size < w6_.heap.size := Nat.lt_of_lt_of_le zp Sq.size
  replace pq := (Sq.cell (p := ⟨w3_.heap.size, 0, none⟩) zq).trans pq
  replace qq := (Sq.cell (p := ⟨w3_.heap.size, 1, none⟩) zq).trans qq
  replace zq : w3_.heap.size < w6_.heap.size := Nat.lt_of_lt_of_le zq Sq.size
  replace pr := (Sq.cell (p := ⟨w4_.heap.size, 0, none⟩) zr).trans pr
  replace qr := (Sq.cell (p := ⟨w4_.heap.size, 1, none⟩) zr).trans qr
  replace zr : w4_.heap.size < w6_.heap.size := Nat.lt_of_lt_of_le zr Sq.size
  replace HA : Hid (Rd w6_ w6_.heap.size A (pack a)) := HA.out.on Sq
  replace HBb : Hid (Rd w6_ w6_.heap.size B (pack b)) := HBb.out.on Sq
  replace HCc : Hid (Rd w6_ w6_.heap.size C (pack z)) := HCc.out.on Sq
  replace HP : Hid (Rd w6_ w6_.heap.size A1 (pack X)) := HP.out.on Sq
  replace HQ : Hid (Rd w6_ w6_.heap.size A2 (pack a)) := HQ.out.on Sq
  replace HR : Hid (Rd w6_ w6_.heap.size A3 (pack b)) := HR.out.on Sq
  replace HB : Hid (Below w.heap.size w w6_) := HB.out.trans (Sq.mono HB.out.size)
  clear Bq Sq
  go_wp2_with fail
  refine (join_l X z Y A1 C c1 cc (by omega) HY0.out _ HP.out HCc.out).mono ?_
  rintro e w7_ ⟨A4, c4, rfl, Rq, Bq⟩
  have Sq : Below w6_.heap.size w6_ w7_ := Bq
  replace pa := (Sq.cell (p := ⟨w.heap.size, 0, none⟩) za).trans pa
  replace qa := (Sq.cell (p := ⟨w.heap.size, 1, none⟩) za).trans qa
  replace za : w.heap.size < w7_.heap.size := Nat.lt_of_lt_of_le za Sq.size
  replace pb := (Sq.cell (p := ⟨(w.heap.size + 1), 0, none⟩) zb).trans pb
  replace qb := (Sq.cell (p := ⟨(w.heap.size + 1), 1, none⟩) zb).trans qb
  replace zb : (w.heap.size + 1) < w7_.heap.size := Nat.lt_of_lt_of_le zb Sq.size
  replace pc := (Sq.cell (p := ⟨(w.heap.size + 1 + 1), 0, none⟩) zc).trans pc
  replace qc := (Sq.cell (p := ⟨(w.heap.size + 1 + 1), 1, none⟩) zc).trans qc
  replace zc : (w.heap.size + 1 + 1) < w7_.heap.size := Nat.lt_of_lt_of_le zc Sq.size
  replace pp := (Sq.cell (p := ⟨w1_.heap.size, 0, none⟩) zp).trans pp
  replace qp := (Sq.cell (p := ⟨w1_.heap.size, 1, none⟩) zp).trans qp
  replace zp : w1_.heap.size < w7_.heap.size := Nat.lt_of_lt_of_le zp Sq.size
  replace pq := (Sq.cell (p := ⟨w3_.heap.size, 0, none⟩) zq).trans pq
  replace qq := (Sq.cell (p := ⟨w3_.heap.size, 1, none⟩) zq).trans qq
  replace zq : w3_.heap.size < w7_.heap.size := Nat.lt_of_lt_of_le zq Sq.size
  replace pr := (Sq.cell (p := ⟨w4_.heap.size, 0, none⟩) zr).trans pr
  replace qr := (Sq.cell (p := ⟨w4_.heap.size, 1, none⟩) zr).trans qr
  replace zr : w4_.heap.size < w7_.heap.size := Nat.lt_of_lt_of_le zr Sq.size
  replace HA : Hid (Rd w7_ w7_.heap.size A (pack a)) := HA.out.on Sq
  replace HBb : Hid (Rd w7_ w7_.heap.size B (pack b)) := HBb.out.on Sq
  replace HCc : Hid (Rd w7_ w7_.heap.size C (pack z)) := HCc.out.on Sq
  replace HP : Hid (Rd w7_ w7_.heap.size A1 (pack X)) := HP.out.on Sq
  replace HQ : Hid (Rd w7_ w7_.heap.size A2 (pack a)) := HQ.out.on Sq
  replace HR : Hid (Rd w7_ w7_.heap.size A3 (pack b)) := HR.out.on Sq
  replace HB : Hid (Below w.heap.size w w7_) := HB.out.trans (Sq.mono HB.out.size)
  clear Bq Sq
  have HY := Lib.hid Rq; clear Rq
  go_wp2_with fail
  refine (join_l b z Z B C d cc (by omega) HZ0.out _ (HBb.out.on (one_below w7_ _)) (HCc.out.on (one_below w7_ _))).mono ?_
  rintro e w8_ ⟨A5, c5, rfl, Rq, Bq⟩
  rw [World.size_alloc] at Bq
  have Sq : Below w7_.heap.size w7_ w8_ := (one_below w7_ _).trans (Bq.mono (by omega))
  have zy : w7_.heap.size < w8_.heap.size := by have := Bq.size; rw [World.size_alloc] at this; omega
  obtain ⟨py, qy⟩ := box_at Bq
  replace pa := (Sq.cell (p := ⟨w.heap.size, 0, none⟩) za).trans pa
  replace qa := (Sq.cell (p := ⟨w.heap.size, 1, none⟩) za).trans qa
  replace za : w.heap.size < w8_.heap.size := Nat.lt_of_lt_of_le za Sq.size
  replace pb := (Sq.cell (p := ⟨(w.heap.size + 1), 0, none⟩) zb).trans pb
  replace qb := (Sq.cell (p := ⟨(w.heap.size + 1), 1, none⟩) zb).trans qb
  replace zb : (w.heap.size + 1) < w8_.heap.size := Nat.lt_of_lt_of_le zb Sq.size
  replace pc := (Sq.cell (p := ⟨(w.heap.size + 1 + 1), 0, none⟩) zc).trans pc
  replace qc := (Sq.cell (p := ⟨(w.heap.size + 1 + 1), 1, none⟩) zc).trans qc
  replace zc : (w.heap.size + 1 + 1) < w8_.heap.size := Nat.lt_of_lt_of_le zc Sq.size
  replace pp := (Sq.cell (p := ⟨w1_.heap.size, 0, none⟩) zp).trans pp
  replace qp := (Sq.cell (p := ⟨w1_.heap.size, 1, none⟩) zp).trans qp
  replace zp : w1_.heap.size < w8_.heap.size := Nat.lt_of_lt_of_le zp Sq.size
  replace pq := (Sq.cell (p := ⟨w3_.heap.size, 0, none⟩) zq).trans pq
  replace qq := (Sq.cell (p := ⟨w3_.heap.size, 1, none⟩) zq).trans qq
  replace zq : w3_.heap.size < w8_.heap.size := Nat.lt_of_lt_of_le zq Sq.size
  replace pr := (Sq.cell (p := ⟨w4_.heap.size, 0, none⟩) zr).trans pr
  replace qr := (Sq.cell (p := ⟨w4_.heap.size, 1, none⟩) zr).trans qr
  replace zr : w4_.heap.size < w8_.heap.size := Nat.lt_of_lt_of_le zr Sq.size
  replace HA : Hid (Rd w8_ w8_.heap.size A (pack a)) := HA.out.on Sq
  replace HBb : Hid (Rd w8_ w8_.heap.size B (pack b)) := HBb.out.on Sq
  replace HCc : Hid (Rd w8_ w8_.heap.size C (pack z)) := HCc.out.on Sq
  replace HP : Hid (Rd w8_ w8_.heap.size A1 (pack X)) := HP.out.on Sq
  replace HQ : Hid (Rd w8_ w8_.heap.size A2 (pack a)) := HQ.out.on Sq
  replace HR : Hid (Rd w8_ w8_.heap.size A3 (pack b)) := HR.out.on Sq
  replace HY : Hid (Rd w8_ w8_.heap.size A4 (pack Y)) := HY.out.on Sq
  replace HB : Hid (Below w.heap.size w w8_) := HB.out.trans (Sq.mono HB.out.size)
  clear Bq Sq
  have HZ := Lib.hid Rq; clear Rq
  go_wp2_with fail
  refine (join_l a Z Y A A5 c c5 (by omega) HY1.out _ (HA.out.on (one_below w8_ _)) (HZ.out.on (one_below w8_ _))).mono ?_
  rintro e w9_ ⟨A6, c6, rfl, Rq, Bq⟩
  rw [World.size_alloc] at Bq
  have Sq : Below w8_.heap.size w8_ w9_ := (one_below w8_ _).trans (Bq.mono (by omega))
  have zz : w8_.heap.size < w9_.heap.size := by have := Bq.size; rw [World.size_alloc] at this; omega
  obtain ⟨pz, qz⟩ := box_at Bq
  replace pa := (Sq.cell (p := ⟨w.heap.size, 0, none⟩) za).trans pa
  replace qa := (Sq.cell (p := ⟨w.heap.size, 1, none⟩) za).trans qa
  replace za : w.heap.size < w9_.heap.size := Nat.lt_of_lt_of_le za Sq.size
  replace pb := (Sq.cell (p := ⟨(w.heap.size + 1), 0, none⟩) zb).trans pb
  replace qb := (Sq.cell (p := ⟨(w.heap.size + 1), 1, none⟩) zb).trans qb
  replace zb : (w.heap.size + 1) < w9_.heap.size := Nat.lt_of_lt_of_le zb Sq.size
  replace pc := (Sq.cell (p := ⟨(w.heap.size + 1 + 1), 0, none⟩) zc).trans pc
  replace qc := (Sq.cell (p := ⟨(w.heap.size + 1 + 1), 1, none⟩) zc).trans qc
  replace zc : (w.heap.size + 1 + 1) < w9_.heap.size := Nat.lt_of_lt_of_le zc Sq.size
  replace pp := (Sq.cell (p := ⟨w1_.heap.size, 0, none⟩) zp).trans pp
  replace qp := (Sq.cell (p := ⟨w1_.heap.size, 1, none⟩) zp).trans qp
  replace zp : w1_.heap.size < w9_.heap.size := Nat.lt_of_lt_of_le zp Sq.size
  replace pq := (Sq.cell (p := ⟨w3_.heap.size, 0, none⟩) zq).trans pq
  replace qq := (Sq.cell (p := ⟨w3_.heap.size, 1, none⟩) zq).trans qq
  replace zq : w3_.heap.size < w9_.heap.size := Nat.lt_of_lt_of_le zq Sq.size
  replace pr := (Sq.cell (p := ⟨w4_.heap.size, 0, none⟩) zr).trans pr
  replace qr := (Sq.cell (p := ⟨w4_.heap.size, 1, none⟩) zr).trans qr
  replace zr : w4_.heap.size < w9_.heap.size := Nat.lt_of_lt_of_le zr Sq.size
  replace py := (Sq.cell (p := ⟨w7_.heap.size, 0, none⟩) zy).trans py
  replace qy := (Sq.cell (p := ⟨w7_.heap.size, 1, none⟩) zy).trans qy
  replace zy : w7_.heap.size < w9_.heap.size := Nat.lt_of_lt_of_le zy Sq.size
  replace HA : Hid (Rd w9_ w9_.heap.size A (pack a)) := HA.out.on Sq
  replace HBb : Hid (Rd w9_ w9_.heap.size B (pack b)) := HBb.out.on Sq
  replace HCc : Hid (Rd w9_ w9_.heap.size C (pack z)) := HCc.out.on Sq
  replace HP : Hid (Rd w9_ w9_.heap.size A1 (pack X)) := HP.out.on Sq
  replace HQ : Hid (Rd w9_ w9_.heap.size A2 (pack a)) := HQ.out.on Sq
  replace HR : Hid (Rd w9_ w9_.heap.size A3 (pack b)) := HR.out.on Sq
  replace HY : Hid (Rd w9_ w9_.heap.size A4 (pack Y)) := HY.out.on Sq
  replace HZ : Hid (Rd w9_ w9_.heap.size A5 (pack Z)) := HZ.out.on Sq
  replace HB : Hid (Below w.heap.size w w9_) := HB.out.trans (Sq.mono HB.out.size)
  clear Bq Sq
  have HW := Lib.hid Rq; clear Rq
  go_wp2_with fail
  refine (same_l Y (by omega) A4 A6 c4 c6 _ (HY.out.on (one_below w9_ _)) (HW.out.on (one_below w9_ _))).mono ?_
  rintro e w10_ ⟨rfl, Bq⟩
  rw [World.size_alloc] at Bq
  have Sq : Below w9_.heap.size w9_ w10_ := (one_below w9_ _).trans (Bq.mono (by omega))
  have zv : w9_.heap.size < w10_.heap.size := by have := Bq.size; rw [World.size_alloc] at this; omega
  obtain ⟨pv, qv⟩ := box_at Bq
  replace pa := (Sq.cell (p := ⟨w.heap.size, 0, none⟩) za).trans pa
  replace qa := (Sq.cell (p := ⟨w.heap.size, 1, none⟩) za).trans qa
  replace za : w.heap.size < w10_.heap.size := Nat.lt_of_lt_of_le za Sq.size
  replace pb := (Sq.cell (p := ⟨(w.heap.size + 1), 0, none⟩) zb).trans pb
  replace qb := (Sq.cell (p := ⟨(w.heap.size + 1), 1, none⟩) zb).trans qb
  replace zb : (w.heap.size + 1) < w10_.heap.size := Nat.lt_of_lt_of_le zb Sq.size
  replace pc := (Sq.cell (p := ⟨(w.heap.size + 1 + 1), 0, none⟩) zc).trans pc
  replace qc := (Sq.cell (p := ⟨(w.heap.size + 1 + 1), 1, none⟩) zc).trans qc
  replace zc : (w.heap.size + 1 + 1) < w10_.heap.size := Nat.lt_of_lt_of_le zc Sq.size
  replace pp := (Sq.cell (p := ⟨w1_.heap.size, 0, none⟩) zp).trans pp
  replace qp := (Sq.cell (p := ⟨w1_.heap.size, 1, none⟩) zp).trans qp
  replace zp : w1_.heap.size < w10_.heap.size := Nat.lt_of_lt_of_le zp Sq.size
  replace pq := (Sq.cell (p := ⟨w3_.heap.size, 0, none⟩) zq).trans pq
  replace qq := (Sq.cell (p := ⟨w3_.heap.size, 1, none⟩) zq).trans qq
  replace zq : w3_.heap.size < w10_.heap.size := Nat.lt_of_lt_of_le zq Sq.size
  replace pr := (Sq.cell (p := ⟨w4_.heap.size, 0, none⟩) zr).trans pr
  replace qr := (Sq.cell (p := ⟨w4_.heap.size, 1, none⟩) zr).trans qr
  replace zr : w4_.heap.size < w10_.heap.size := Nat.lt_of_lt_of_le zr Sq.size
  replace py := (Sq.cell (p := ⟨w7_.heap.size, 0, none⟩) zy).trans py
  replace qy := (Sq.cell (p := ⟨w7_.heap.size, 1, none⟩) zy).trans qy
  replace zy : w7_.heap.size < w10_.heap.size := Nat.lt_of_lt_of_le zy Sq.size
  replace pz := (Sq.cell (p := ⟨w8_.heap.size, 0, none⟩) zz).trans pz
  replace qz := (Sq.cell (p := ⟨w8_.heap.size, 1, none⟩) zz).trans qz
  replace zz : w8_.heap.size < w10_.heap.size := Nat.lt_of_lt_of_le zz Sq.size
  replace HA : Hid (Rd w10_ w10_.heap.size A (pack a)) := HA.out.on Sq
  replace HBb : Hid (Rd w10_ w10_.heap.size B (pack b)) := HBb.out.on Sq
  replace HCc : Hid (Rd w10_ w10_.heap.size C (pack z)) := HCc.out.on Sq
  replace HP : Hid (Rd w10_ w10_.heap.size A1 (pack X)) := HP.out.on Sq
  replace HQ : Hid (Rd w10_ w10_.heap.size A2 (pack a)) := HQ.out.on Sq
  replace HR : Hid (Rd w10_ w10_.heap.size A3 (pack b)) := HR.out.on Sq
  replace HY : Hid (Rd w10_ w10_.heap.size A4 (pack Y)) := HY.out.on Sq
  replace HZ : Hid (Rd w10_ w10_.heap.size A5 (pack Z)) := HZ.out.on Sq
  replace HW : Hid (Rd w10_ w10_.heap.size A6 (pack Y)) := HW.out.on Sq
  replace HB : Hid (Below w.heap.size w w10_) := HB.out.trans (Sq.mono HB.out.size)
  clear Bq Sq
  go_wp2
  go_ret
  exact ⟨rfl, HB.out⟩

theorem joins_law (lx : Int) (A : Option Addr) (c : Nat) (xs : List Nat) (ly : Int) (B : Option Addr) (d : Nat) (ys : List Nat) (lz : Int) (C : Option Addr) (cc : Nat) (zs : List Nat) (w : World) (hx : ∀ b ∈ xs, b < 256) (hA : Rd w w.heap.size A xs) (hy : ∀ b ∈ ys, b < 256) (hB : Rd w w.heap.size B ys) (hz : ∀ b ∈ zs, b < 256) (hC : Rd w w.heap.size C zs) :
    Calls Try.prog 5 #[.agg #[.int .i64 lx, .slice A xs.length c], .agg #[.int .i64 ly, .slice B ys.length d], .agg #[.int .i64 lz, .slice C zs.length cc]] w fun e w' => e = .returned (.bool true) ∧ Below w.heap.size w w' := by
  by_cases he : joinE lx xs ly ys = 0
  · obtain ⟨a, b, rfl, rfl, rfl, rfl, hf⟩ := joinE_zero lx ly xs ys hx hy he
    by_cases he2 : joinE ((a ++ b).length : Int) (pack (a ++ b)) lz zs = 0
    · obtain ⟨X, z, hX1, hX2, rfl, rfl, hf2⟩ := joinE_zero _ lz _ zs (pack_lt _) hz he2
      rw [List.length_append] at hX1
      exact joins_two a b z _ _ _ A B C c d cc w (by omega) rfl rfl rfl hA hB hC
    · exact joins_one a b _ lz A B C c d cc zs w hf rfl hA hB hz hC _ rfl he2
  · exact joins_err lx ly lz A B C c d cc xs ys zs w hx hA hy hB hC _ rfl he
end Go.Proofs.Ytabmmamaihiljaa
