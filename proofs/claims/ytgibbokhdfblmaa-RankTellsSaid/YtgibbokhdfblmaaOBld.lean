/- What Build answers, for whatever it is handed; no condition but those that each fact names. -/
import Derived.Test.YtgibbokhdfblmaaOSel2
import Derived.Test.YtgibbokhdfblmaaNMem
namespace Go.Proofs.Ytgibbokhdfblmaa
set_option maxRecDepth 100000
set_option linter.unusedVariables false
open Go.RowKit Go.Shelf

theorem cells2 {w : World} {W : Nat} {t : TypeId} {a b : Value} (h : w.heap[W]? = some (.cells #[a, b] t (0, 0))) :
    w.cell? ⟨W, 0, none⟩ = some a ∧ w.cell? ⟨W, 1, none⟩ = some b ∧ w.frozen? ⟨W, 0, none⟩ = false ∧ w.frozen? ⟨W, 1, none⟩ = false := blk_cells h
/-- What is wrong with bits, and how many there are between places. -/
def bdE (len : Int) (bs : List Nat) (e : Int) : Int := rgE (chk len bs) [decide (1 ≤ e), decide (e ≤ 64)]
/-- An index and an error come back. -/
def IxP (w : World) (e : Int) (ns : List Int) (err : Int) (x : Ending) (w' : World) : Prop :=
  ∃ A c, x = .returned (.tuple #[.agg #[.int .i64 e, .slice A ns.length c], .int .i64 err]) ∧ RdV w' w'.heap.size A (zc ns) ∧ Below w.heap.size w w'
set_option maxHeartbeats 4000000 in
theorem build_e (len : Int) (A : Option Addr) (c : Nat) (bs : List Nat) (hb : ∀ b ∈ bs, b < 256) (e e0 : Int) (he : bdE len bs e = e0) (h0 : e0 ≠ 0) (w : World) (h : Rd w w.heap.size A bs) :
    Calls Try.prog 30 #[.agg #[.int .i64 len, .slice A bs.length c], .int .i64 e] w (IxP w 0 [] e0) := by
  have HC : Hid (∀ V, Below w.heap.size w V → Calls Try.prog 43 #[.agg #[.int .i64 len, .slice A bs.length c]] V fun e w' => e = .returned (.int .i64 (chk len bs)) ∧ Below V.heap.size V w') := fun V hV => check_any len A c bs V hb (h.on hV)
  unfold bdE at he
  have t0 : (e0 != 0) = true := by simpa using h0
  clear h h0 hb
  generalize chk len bs = ec at *
  generalize bs.length = N at *
  have HR := Lib.hid (range2 ec (decide (1 ≤ e)) (decide (e ≤ 64)) e0 he)
  clear he
  go_enter Try.func30, Try.ntmps30
  go_wp2_with fail
  have hlow : Below w.heap.size w ((w.alloc (.cells #[.int .i64 len, .slice A N c] 25)).alloc (.cells #[.int .i64 0, .slice none 0 0] 45)) := up2 w _ _
  have hsz : ((w.alloc (.cells #[.int .i64 len, .slice A N c] 25)).alloc (.cells #[.int .i64 0, .slice none 0 0] 45)).heap.size = w.heap.size + 2 := two_size w _ _
  have hb : ((w.alloc (.cells #[.int .i64 len, .slice A N c] 25)).alloc (.cells #[.int .i64 0, .slice none 0 0] 45)).heap[w.heap.size]? = some (.cells #[.int .i64 len, .slice A N c] 25 (0, 0)) := (Below.heap_alloc _ _ _ (by simp)).trans (World.alloc_heap_new w _)
  have hr : ((w.alloc (.cells #[.int .i64 len, .slice A N c] 25)).alloc (.cells #[.int .i64 0, .slice none 0 0] 45)).heap[w.heap.size + 1]? = some (.cells #[.int .i64 0, .slice none 0 0] 45 (0, 0)) := two_new w _ _
  generalize ((w.alloc (.cells #[.int .i64 len, .slice A N c] 25)).alloc (.cells #[.int .i64 0, .slice none 0 0] 45)) = V0 at *
  have HV := Lib.hid hlow; clear hlow
  refine (HC.out V0 HV.out).mono ?_
  rintro e w5 ⟨rfl, B5⟩
  have HK1 := Lib.hid B5; clear B5
  go_wp2_with fail
  refine (HR.out w5 _ rfl).mono ?_
  rintro e w6 ⟨rfl, B6⟩
  have HK2 : Hid (Below V0.heap.size V0 w6) := HK1.out.trans (B6.mono HK1.out.size); clear B6
  have hr6 := (HK2.out.block _ (by omega)).trans hr
  have hb6 := (HK2.out.block _ (by omega)).trans hb
  have HB6 : Hid (Below w.heap.size w w6) := HV.out.trans (HK2.out.mono HV.out.size)
  have hz6 : w.heap.size + 2 ≤ w6.heap.size := by have := HK2.out.size; omega
  obtain ⟨r0, r1, k0, k1⟩ := cells2 hr6
  obtain ⟨d0, d1, -, -⟩ := cells2 hb6
  clear hr hb hsz
  clear hr6 hb6 HK1 HK2
  go_wp2
  refine bodyPost_ret (v := .tuple #[.agg #[.int .i64 0, .slice none 0 0], .int .i64 e0]) (by simp [results, Try.results30, go_sem, r0, r1]) rfl ⟨none, 0, rfl, .inl rfl, ?_⟩
  exact (HB6.out.setCell (p := ⟨w.heap.size + 1, 0, none⟩) (by simp only; omega) _).setCell (p := ⟨w.heap.size + 1, 1, none⟩) (by simp only; omega) _
/-- At each round's head: j numbers lie in a row of the call's own. -/
def BdRel (w7 : World) (X : Nat) (l : List Bool) (e : Nat) (o a : Value) (wr : World) : Prop :=
  ∃ j : Nat, j ≤ l.length / e + 1 ∧ a = .int .i64 ((j * e : Nat) : Int) ∧ o = .int .i64 (cnt (l.take (j * e)) : Int) ∧
    ∃ v, wr.heap[X]? = some (.cells #[.int .i64 (e : Int), v] 45 (0, 0)) ∧ wr.ownsRow (X + 1) 3 1 v j (zc (ns ((bx l e).take j))) ∧ Below X w7 wr ∧ w7.heap.size ≤ wr.heap.size
/-- One number more: behind the append, and behind the store. -/
theorem bd_step {wr w3 w1 : World} {X k g' cap' : Nat} {q : Int} {Av : Option Addr} {cv : Nat} {xs ys : List Value} {tmp : Obj}
    (hblk : wr.heap[X]? = some (.cells #[.int .i64 q, .slice Av k cv] 45 (0, 0))) (hrow : wr.ownsRow (X + 1) 3 1 (.slice Av k cv) k xs) (hbel : Below X w1 wr) (hz : X + 1 ≤ w1.heap.size) (hzz : w1.heap.size ≤ wr.heap.size)
    (hgrow : (wr.alloc tmp).grownBy w3 (Value.slice Av k cv).ownBlock) (hown' : w3.ownsRow (X + 1) 3 1 (.slice (some ⟨g', 0, none⟩) (k + 1) cap') (k + 1) ys) :
    (w3.cell? ⟨X, 1, none⟩ = some (.slice Av k cv) ∧ w3.frozen? ⟨X, 1, none⟩ = false) ∧
    Hid ((w3.setCell ⟨X, 1, none⟩ (.slice (some ⟨g', 0, none⟩) (k + 1) cap')).heap[X]? = some (.cells #[.int .i64 q, .slice (some ⟨g', 0, none⟩) (k + 1) cap'] 45 (0, 0)) ∧
      (w3.setCell ⟨X, 1, none⟩ (.slice (some ⟨g', 0, none⟩) (k + 1) cap')).ownsRow (X + 1) 3 1 (.slice (some ⟨g', 0, none⟩) (k + 1) cap') (k + 1) ys ∧
      Below X w1 (w3.setCell ⟨X, 1, none⟩ (.slice (some ⟨g', 0, none⟩) (k + 1) cap')) ∧ w1.heap.size ≤ (w3.setCell ⟨X, 1, none⟩ (.slice (some ⟨g', 0, none⟩) (k + 1) cap')).heap.size) := by
  have hne : ∀ j, (Value.slice Av k cv).ownBlock = some j → X + 1 ≤ j := fun j hj => (hrow.lt j hj).1
  have h3 : w3.heap[X]? = some (.cells #[.int .i64 q, .slice Av k cv] 45 (0, 0)) :=
    (hgrow.block X (by simp; omega) (fun e => by have := hne _ e.symm; omega)).trans ((Below.heap_alloc _ _ _ (by omega)).trans hblk)
  have hb3 : Below X w1 w3 := (hbel.alloc (by omega) tmp).grown hgrow (by simp; omega) (fun j hj => by have := hne j hj; omega)
  obtain ⟨_, c1, _, f1⟩ := cells2 h3
  have hg : X + 1 ≤ g' := (hown'.lt g' rfl).1
  have hsz : wr.heap.size + 1 ≤ w3.heap.size := by have := hgrow.size; simpa using this
  refine ⟨⟨c1, f1⟩, ?_, ?_, hb3.setCell (p := ⟨X, 1, none⟩) (Nat.le_refl _) _, by simp [World.setCell]; omega⟩
  · rw [heap_set_same _ _ _ _ 45 _ h3]; simp
  · refine hown'.kept (row := some X) (grown_set _ _ _ _) (.inr ?_)
    simp [Value.ownBlock]; omega
theorem mul_le_len (l : List Bool) (e j : Nat) (he : 1 ≤ e) : j * e ≤ l.length ↔ j ≤ l.length / e := (Nat.le_div_iff_mul_le he).symm
set_option maxHeartbeats 4000000 in
theorem build_ok (l : List Bool) (hl : l.length ≤ 8192) (A : Option Addr) (c e : Nat) (he : 1 ≤ e) (he2 : e ≤ 64) (w : World) (h : Rd w w.heap.size A (pack l)) :
    Calls Try.prog 30 #[.agg #[.int .i64 (l.length : Int), .slice A (pack l).length c], .int .i64 (e : Int)] w (IxP w (e : Int) (ns (bx l e)) 0) := by
  have HC0 : ∀ V, Below w.heap.size w V → Calls Try.prog 43 #[.agg #[.int .i64 (l.length : Int), .slice A (pack l).length c]] V fun e w' => e = .returned (.int .i64 0) ∧ Below V.heap.size V w' := fun V hV => check_l l hl A c V (h.on hV)
  have HC := Lib.hid HC0; clear HC0
  have HN : Hid (∀ V fr to, Below w.heap.size w V → fr ≤ to → to ≤ l.length → Calls Try.prog 62 #[.agg #[.int .i64 (l.length : Int), .slice A (pack l).length c], .int .i64 ((fr : Nat) : Int), .int .i64 ((to : Nat) : Int)] V fun e w' => e = .returned (.int .i64 ((cnt (l.take to) - cnt (l.take fr) : Nat) : Int)) ∧ Below V.heap.size V w') := fun V fr to hV h1 h2 => count_on l hl A c fr to h1 h2 V (h.on hV)
  have t1 : decide ((1 : Int) ≤ (e : Int)) = true := by simp; omega
  have t2 : decide ((e : Int) ≤ 64) = true := by simp; omega
  have HR := Lib.hid (range2 0 true true 0 (by decide))
  obtain ⟨i0, hi, hz0, hz1, hz2⟩ := info_parts info3
  clear h
  go_enter Try.func30, Try.ntmps30
  go_wp2_with fail
  have hlow : Below w.heap.size w ((w.alloc (.cells #[.int .i64 (l.length : Int), .slice A (pack l).length c] 25)).alloc (.cells #[.int .i64 0, .slice none 0 0] 45)) := up2 w _ _
  have hsz : ((w.alloc (.cells #[.int .i64 (l.length : Int), .slice A (pack l).length c] 25)).alloc (.cells #[.int .i64 0, .slice none 0 0] 45)).heap.size = w.heap.size + 2 := two_size w _ _
  have hb : ((w.alloc (.cells #[.int .i64 (l.length : Int), .slice A (pack l).length c] 25)).alloc (.cells #[.int .i64 0, .slice none 0 0] 45)).heap[w.heap.size]? = some (.cells #[.int .i64 (l.length : Int), .slice A (pack l).length c] 25 (0, 0)) := (Below.heap_alloc _ _ _ (by simp)).trans (World.alloc_heap_new w _)
  have hr : ((w.alloc (.cells #[.int .i64 (l.length : Int), .slice A (pack l).length c] 25)).alloc (.cells #[.int .i64 0, .slice none 0 0] 45)).heap[w.heap.size + 1]? = some (.cells #[.int .i64 0, .slice none 0 0] 45 (0, 0)) := two_new w _ _
  generalize ((w.alloc (.cells #[.int .i64 (l.length : Int), .slice A (pack l).length c] 25)).alloc (.cells #[.int .i64 0, .slice none 0 0] 45)) = V0 at *
  have HV := Lib.hid hlow; clear hlow
  refine (HC.out V0 HV.out).mono ?_
  rintro e w5 ⟨rfl, B5⟩
  have HK1 := Lib.hid B5; clear B5
  go_wp2_with fail
  refine (HR.out w5 _ rfl).mono ?_
  rintro e w6 ⟨rfl, B6⟩
  have HK2 : Hid (Below V0.heap.size V0 w6) := HK1.out.trans (B6.mono HK1.out.size); clear B6
  have hr6 := (HK2.out.block _ (by omega)).trans hr
  have hb6 := (HK2.out.block _ (by omega)).trans hb
  have HB6 : Hid (Below w.heap.size w w6) := HV.out.trans (HK2.out.mono HV.out.size)
  have hz6 : w.heap.size + 2 ≤ w6.heap.size := by have := HK2.out.size; omega
  obtain ⟨r0, r1, k0, k1⟩ := cells2 hr6
  obtain ⟨d0, d1, -, -⟩ := cells2 hb6
  clear hr hb hsz
  have hs6 : w.heap.size < w6.heap.size := by omega
  have HX6 := Lib.hid (World.alloc_heap_new w6 (.cells #[.int .i64 (e : Int), .slice none 0 0] 45))
  obtain ⟨X, hX⟩ : ∃ X, w6.heap.size = X := ⟨_, rfl⟩
  obtain ⟨w7, hw7⟩ : ∃ w7, w7 = w6.alloc (.cells #[.int .i64 (e : Int), .slice none 0 0] 45) := ⟨_, rfl⟩
  have H7 : Hid (w7.heap.size = X + 1 ∧ Below w.heap.size w w7 ∧ w7.heap[X]? = some (.cells #[.int .i64 (e : Int), .slice none 0 0] 45 (0, 0)) ∧ w7.heap[w.heap.size]? = some (.cells #[.int .i64 (l.length : Int), .slice A (pack l).length c] 25 (0, 0)) ∧ w7.heap[w.heap.size + 1]? = some (.cells #[.int .i64 0, .slice none 0 0] 45 (0, 0)) ∧ w.heap.size + 2 ≤ X) := by
    refine ⟨by rw [hw7, World.size_alloc, hX], by rw [hw7]; exact HB6.out.trans ((one_below w6 _).mono HB6.out.size), by rw [hw7, ← hX]; exact HX6.out, ?_, ?_, by omega⟩
    · rw [hw7, (one_below w6 _).block _ (by omega)]; exact hb6
    · rw [hw7, (one_below w6 _).block _ (by omega)]; exact hr6
  have HE7 := Lib.hid hw7
  have HXX := Lib.hid hX
  clear hb6 hr6 HX6 hw7 hX r0 r1 k0 k1 d0 d1
  go_wp2_with fail
  rw [← HE7.out, HXX.out]
  go_loopw [8, 9] (fun o a wr => BdRel w7 X l e o a wr) (fun _ a _ => l.length + 65 - (intOf a).toNat)
  case atStart => exact ⟨0, Nat.zero_le _, by simp, by simp [cnt], .slice none 0 0, H7.out.2.2.1, ⟨rfl, .inl ⟨rfl, rfl⟩⟩, Below.refl _ _, Nat.le_refl _⟩
  case round =>
    obtain ⟨j, hj, rfl, rfl, v, hblk, hrow, hbel, hsz⟩ := hrel
    obtain ⟨Av, cv, rfl⟩ := own_slice3 hrow
    have hb := (hbel.block w.heap.size (by have := H7.out.2.2.2.2.2; omega)).trans H7.out.2.2.2.1
    have hr := (hbel.block (w.heap.size + 1) (by have := H7.out.2.2.2.2.2; omega)).trans H7.out.2.2.2.2.1
    obtain ⟨d0, d1, -, -⟩ := cells2 hb
    obtain ⟨x0, x1, y0, y1⟩ := cells2 hblk
    by_cases hle : j ≤ l.length / e
    · have hql : j * e ≤ l.length := (mul_le_len l e j he).2 hle
      have hqs : (j + 1) * e = j * e + e := Nat.succ_mul j e
      have HTk := Lib.hid (bx_take_succ l e j hle)
      have hcl : cnt (l.take (j * e)) ≤ 8192 := Nat.le_trans (cnt_take_all l _) (Nat.le_trans (cnt_le l) hl)
      have hcm := cnt_take_mono l (j * e) ((j + 1) * e) (by omega)
      have hcl2 : cnt (l.take ((j + 1) * e)) ≤ 8192 := Nat.le_trans (cnt_take_all l _) (Nat.le_trans (cnt_le l) hl)
      have hmin : l.length ≤ (j + 1) * e → cnt (l.take l.length) = cnt (l.take ((j + 1) * e)) := fun h => by rw [List.take_of_length_le (Nat.le_refl _), List.take_of_length_le h]
      rw [hqs] at hcm hcl2 hmin
      generalize hq : j * e = q at *
      have HQ := Lib.hid hq; clear hq
      have HQS := Lib.hid hqs; clear hqs
      have HBlk := Lib.hid hblk; clear hblk
      have HBel := Lib.hid hbel; clear hbel
      have HSz := Lib.hid hsz; clear hsz
      have HBb := Lib.hid hb; clear hb hr
      generalize hca : cnt (l.take q) = ca at *
      have HCA := Lib.hid hca; clear hca
      generalize hcb : cnt (l.take (q + e)) = cb at *
      have HCB := Lib.hid hcb; clear hcb
      have HMin := Lib.hid hmin; clear hmin
      have hjn : j ≤ 8192 := Nat.le_trans hle (Nat.le_trans (Nat.div_le_self _ _) hl)
      have tq : decide ((q : Int) ≤ (l.length : Int)) = true := by simp; omega
      have hZ : w.heap.size + 2 ≤ wr.heap.size := by have := HSz.out; have := H7.out; omega
      go_wp2_with (at_builtin; refine wpList_append_own _ rfl _ _ 38 rfl (X + 1) 3 i0 (.int .i64 0) 1 8 Try.underlying38 hi hz0 hz1 hz2 rfl (by decide) _ _ _ rfl (hrow.alloc _) ⟨wr.heap.size, 0, none⟩ 1 1 [.int .i64 (ca : Int)] rfl rfl (cell_one_new _ _ _) (by simp [Value.oneCell']) (by unfold maxLen; omega) (by omega) (by have := HSz.out; have := H7.out.1; simp; omega) ?_; intro v' w3 hown' hgrow _; obtain ⟨g', cap', rfl⟩ := ownsRow_succ hown'; obtain ⟨⟨e1, e2⟩, HF⟩ := bd_step HBlk.out hrow HBel.out (by have := H7.out.1; omega) HSz.out hgrow hown'; have d0' := cells2 ((HF.out.2.2.1.block w.heap.size (by have := H7.out.2.2.2.2.2; omega)).trans H7.out.2.2.2.1); obtain ⟨d0', d1', -, -⟩ := d0'; clear hgrow hown')
      obtain ⟨F1, F2, F3, F4⟩ := HF.out
      have hmn : min ((q : Int) + (e : Int)) (l.length : Int) = ((min (q + e) l.length : Nat) : Int) := by omega
      have hcc : cnt (l.take (min (q + e) l.length)) = cb := by
        rcases Nat.le_total (q + e) l.length with h | h
        · rw [Nat.min_eq_left h]; exact HCB.out
        · rw [Nat.min_eq_right h, HMin.out h]
      have HC8 := HN.out _ q (min (q + e) l.length) (H7.out.2.1.trans (F3.mono (by have := H7.out.2.2.2.2.2; omega))) (by omega) (by omega)
      rw [hcc, HCA.out] at HC8
      obtain ⟨d, hd⟩ : ∃ d, cb - ca = d := ⟨_, rfl⟩
      rw [hd] at HC8
      rw [hmn]
      clear hmn hcc
      refine HC8.mono ?_
      rintro x w8 ⟨rfl, B8⟩
      have hd2 : ca + d = cb := by omega
      have hd3 : (ca : Int) + (d : Int) = (cb : Int) := by omega
      have HB8 := Lib.hid B8; clear B8 HC8 hd
      have HD2 := Lib.hid hd2; clear hd2
      go_wp2
      go_roundw
      case rel =>
        refine ⟨j + 1, by omega, ?_, ?_, _, (HB8.out.block X (Nat.lt_of_lt_of_le (by have := H7.out.1; omega) F4)).trans F1, ?_, F3.trans (HB8.out.mono (by have := H7.out.1; have := F4; omega)), Nat.le_trans F4 HB8.out.size⟩
        · rw [HQS.out]; go_num
        · rw [HQS.out, HCB.out]
        · have e1 : ns ((bx l e).take (j + 1)) = ns ((bx l e).take j) ++ [(ca : Int)] := by rw [HTk.out]; simp [ns]
          rw [e1, zc_append]
          exact F2.kept (row := none) (grown_of_below HB8.out none) (.inr (by simp [Value.ownBlock]))
      case measure => simp [intOf]; omega
    · have hje : j = l.length / e + 1 := by omega
      have hge : l.length < j * e := by
        rcases Nat.lt_or_ge l.length (j * e) with h | h
        · exact h
        · exact absurd ((mul_le_len l e j he).1 h) hle
      have hpt : (bx l e).take j = bx l e := List.take_of_length_le (by rw [bx_length]; omega)
      rw [hpt] at hrow
      have hjl : j = (ns (bx l e)).length := by rw [ns_length, bx_length]; exact hje
      rw [hjl] at hrow x1
      have hlow : Below w.heap.size w wr := H7.out.2.1.trans (hbel.mono (by have := H7.out.2.2.2.2.2; omega))
      obtain ⟨r0, r1, k0, k1⟩ := cells2 hr
      have HF : Hid (IxP w (e : Int) (ns (bx l e)) 0 (.returned (.tuple #[.agg #[.int .i64 (e : Int), .slice Av (ns (bx l e)).length cv], .int .i64 0])) ((wr.setCell ⟨w.heap.size + 1, 0, none⟩ (.int .i64 (e : Int))).setCell ⟨w.heap.size + 1, 1, none⟩ (.slice Av (ns (bx l e)).length cv))) := by
        refine ⟨Av, cv, rfl, ?_, (hlow.setCell (p := ⟨w.heap.size + 1, 0, none⟩) (by simp only; omega) _).setCell (p := ⟨w.heap.size + 1, 1, none⟩) (by simp only; omega) _⟩
        have o2 := (hrow.kept (grown_set wr (w.heap.size + 1) 0 (.int .i64 (e : Int))) (.inr (by
          rcases Av with _ | ⟨g, o, f⟩
          · simp [Value.ownBlock]
          · simp [Value.ownBlock]; have := (hrow.lt g (by simp [Value.ownBlock])).1; have := H7.out.2.2.2.2.2; omega))).kept (grown_set _ (w.heap.size + 1) 1 (.slice Av (ns (bx l e)).length cv)) (.inr (by
          rcases Av with _ | ⟨g, o, f⟩
          · simp [Value.ownBlock]
          · simp [Value.ownBlock]; have := (hrow.lt g (by simp [Value.ownBlock])).1; have := H7.out.2.2.2.2.2; omega))
        exact own_rdv o2
      have tq : decide (((j * e : Nat) : Int) ≤ (l.length : Int)) = false := by simp; omega
      have tq2 : decide (j * e ≤ l.length) = false := by simp; omega
      clear hrow hblk hbel hb hr hlow hpt hje hge hle
      generalize (ns (bx l e)).length = m at *
      generalize j * e = q at *
      generalize cnt (l.take q) = ca at *
      go_wp2
      exact bodyPost_ret (v := .tuple #[.agg #[.int .i64 (e : Int), .slice Av m cv], .int .i64 0]) (by simp [results, Try.results30, go_sem, r0, r1]) rfl HF.out
theorem bdE_zero {len : Int} {bs : List Nat} {e : Int} (hb : ∀ b ∈ bs, b < 256) (h : bdE len bs e = 0) : ∃ l : List Bool, len = (l.length : Int) ∧ l.length ≤ 8192 ∧ bs = pack l ∧ ∃ q : Nat, e = (q : Int) ∧ 1 ≤ q ∧ q ≤ 64 := by
  obtain ⟨h1, h2⟩ := rgE_zero h
  obtain ⟨l, rfl, hl, rfl⟩ := chk_zero len bs hb h1
  simp at h2
  obtain ⟨q, rfl⟩ := Int.eq_ofNat_of_zero_le (show 0 ≤ e by omega)
  exact ⟨l, rfl, hl, rfl, q, rfl, by omega, by omega⟩
/-- What Build builds. -/
def bdX (len : Int) (bs : List Nat) (e : Int) : Int × List Int := if bdE len bs e = 0 then (e, ns (bx (unpack len.toNat bs) e.toNat)) else (0, [])
theorem build_any (len : Int) (A : Option Addr) (c : Nat) (bs : List Nat) (hb : ∀ b ∈ bs, b < 256) (e : Int) (w : World) (h : Rd w w.heap.size A bs) :
    Calls Try.prog 30 #[.agg #[.int .i64 len, .slice A bs.length c], .int .i64 e] w (IxP w (bdX len bs e).1 (bdX len bs e).2 (bdE len bs e)) := by
  unfold bdX
  by_cases h0 : bdE len bs e = 0
  · rw [if_pos h0, h0]
    obtain ⟨l, rfl, hl, rfl, q, rfl, h1, h2⟩ := bdE_zero hb h0
    rw [Int.toNat_natCast, Int.toNat_natCast, unpack_pack]
    exact build_ok l hl A c q h1 h2 w h
  · rw [if_neg h0]
    exact build_e len A c bs hb e _ rfl h0 w h
end Go.Proofs.Ytgibbokhdfblmaa
