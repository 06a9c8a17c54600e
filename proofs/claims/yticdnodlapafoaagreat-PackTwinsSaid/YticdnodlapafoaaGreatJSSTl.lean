/- What the reader of a list takes: the rest of it; conditions: bits that can be read, ahead of the reader's own block. -/
import Derived.Test.YticdnodlapafoaaGreatJS7
namespace Go.Proofs.YticdnodlapafoaaGreat
set_option maxRecDepth 100000
set_option linter.unusedVariables false
open Go.RowKit Go.Shelf

/-- A list of the call's own comes back, or the reader gives up. -/
def TlP (Q : Nat) (L : List Bool) (A : Option Addr) (c : Nat) (w : World) (o : Option (List Nat × Nat)) (e : Ending) (w' : World) : Prop :=
  WB Q w w' ∧ match o with
    | none => Bad e
    | some (l, s) => (∃ A1 c1, e = .returned (.slice A1 l.length c1) ∧ w'.ownsRow w.heap.size 3 1 (.slice A1 l.length c1) l.length (zc (ns l))) ∧ RB w' Q L A c s
theorem mgA_le {r : List Ri} {xs : List Int} {N1 : List Nat} {N2 : Int} (h : mgA r xs = (N1, N2)) : N1.length ≤ 300 := by
  unfold mgA mg at h
  simp only at h
  split at h
  · simp only [Prod.mk.injEq] at h; rw [← h.1]; simp
  · split at h
    · simp only [Prod.mk.injEq] at h; rw [← h.1]; simp
    · split at h
      · simp only [Prod.mk.injEq] at h; rw [← h.1]; simp
      · simp only [Prod.mk.injEq] at h; rw [← h.1]; omega
theorem rdG_len0 (L : List Bool) (k a : Nat) : ∀ (d : Nat) (acc : List Nat) (s : Nat), (rdG L k a d acc s).1.length ≤ acc.length + d
  | 0, acc, s => by simp [rdG]
  | d + 1, acc, s => by
    rw [rdG_succ]
    split
    · simp
    · split
      · simp
      · have := rdG_len0 L k a d (acc ++ [(el acc (zetR L s k).1 a).toNat]) (zetR L s k).2.1
        rw [List.length_append] at this
        simp only [List.length_singleton] at this
        omega
theorem rdG_len {L : List Bool} {k a d s : Nat} {R : List Nat} {to : Nat} {er : Int} (h : rdG L k a d [] s = (R, to, er)) (hd : d ≤ 300) : R.length ≤ 9223372036854775807 := by
  have := rdG_len0 L k a d [] s
  rw [h] at this
  simp only [List.length_nil] at this
  omega
def restT (L : List Bool) (a k : Nat) (many : Int) (r : List Ri) (s1 : Nat) : Option (List Nat × Nat) :=
    if (mgA r []).2 ≠ 0 then none else if many - ((mgA r []).1.length : Int) < 0 then none else
    if (rdG L k a (many - ((mgA r []).1.length : Int)).toNat [] s1).2.2 ≠ 0 then none else
    if (mgA r (ns (rdG L k a (many - ((mgA r []).1.length : Int)).toNat [] s1).1)).2 ≠ 0 then none else
    some ((mgA r (ns (rdG L k a (many - ((mgA r []).1.length : Int)).toNat [] s1).1)).1, (rdG L k a (many - ((mgA r []).1.length : Int)).toNat [] s1).2.1)
theorem prest_T (L : List Bool) (a ls k : Nat) (many : Int) (s : Nat) (h : many ≠ 0) : prest L a ls k many s = match (if ls = 0 then some ([], s) else pruns L a ls s) with | none => none | some (r, s1) => restT L a k many r s1 := by
  unfold prest
  rw [if_neg h]
  rfl
set_option maxHeartbeats 16000000 in
theorem take_rest (L : List Bool) (hL : L.length ≤ 8192) (A : Option Addr) (c Q s : Nat) (hs : s ≤ L.length) (a bk ls k : Nat) (ha : a ≤ 1048576) (hls : ls = 0 ∨ 2 ≤ ls ∧ ls ≤ 300) (hk : 1 ≤ k) (hk2 : k ≤ 16) (many : Int) (hm1 : -1000000 ≤ many) (hm2 : many ≤ 300) (w : World) (hQ : RB w Q L A c s) (hR : Rd w Q A (pack L)) :
    Calls Tryz.prog 106 #[.pointer (some ⟨Q, 0, none⟩), .int .i64 many, .int .i64 (a : Int), .agg #[.int .i64 (bk : Int), .int .i64 (ls : Int), .int .i64 (k : Int)]] w (TlP Q L A c w (prest L a ls k many s)) := by
  have hlt := hQ.lt
  obtain ⟨V0, hV⟩ : ∃ V0, w.alloc (.cells #[.int .i64 (bk : Int), .int .i64 (ls : Int), .int .i64 (k : Int)] 24) = V0 := ⟨_, rfl⟩
  have hB0 : Below w.heap.size w V0 := hV ▸ one_below w _
  have hBx : V0.heap[w.heap.size]? = some (.cells #[.int .i64 (bk : Int), .int .i64 (ls : Int), .int .i64 (k : Int)] 24 (0, 0)) := hV ▸ World.alloc_heap_new w _
  have hz : w.heap.size < V0.heap.size := (Array.getElem?_eq_some_iff.1 hBx).1
  have HRB0 := Lib.hid (hQ.on hB0)
  have HR0 := Lib.hid (rd_low hR (wb_below hB0 : WB Q w V0) hlt)
  have HB0 := Lib.hid hB0
  have HBx : Hid (∀ V : World, V.heap[w.heap.size]? = some (.cells #[.int .i64 (bk : Int), .int .i64 (ls : Int), .int .i64 (k : Int)] 24 (0, 0)) → V.cell? ⟨w.heap.size, 2, none⟩ = some (.int .i64 (k : Int))) := fun V h => by
    exact (cell_at h _).trans rfl
  have HR := Lib.hid hR
  have p1 : V0.cell? ⟨w.heap.size, 1, none⟩ = some (.int .i64 (ls : Int)) := (cell_at hBx _).trans rfl
  have HCh : Hid (∀ V, Rd V V.heap.size A (pack L) → Calls Tryz.prog 46 #[.agg #[.int .i64 (L.length : Int), .slice A (pack L).length c]] V fun e w' => e = .returned (.int .i64 (chk (L.length : Int) (pack L))) ∧ Below V.heap.size V w') := fun V hV => by
    rw [chk_pack L hL]; exact check_l L hL A c V hV
  have HBc := Lib.hid hBx
  clear hQ hR hB0 hBx
  by_cases h0 : many = 0
  · subst h0
    have HP : Hid (prest L a ls k 0 s = some ([], s)) := rfl
    generalize prest L a ls k 0 s = o at *
    go_enter Tryz.func106, Tryz.ntmps106
    go_wp2
    go_ret
    exact ⟨wb_below HB0.out, by rw [HP.out]; exact ⟨⟨none, 0, rfl, ⟨rfl, .inl ⟨rfl, rfl⟩⟩⟩, HRB0.out⟩⟩
  · have t0 : (many == 0) = false := by simpa using h0
    have HP := Lib.hid (prest_T L a ls k many s h0)
    generalize prest L a ls k many s = o at *
    clear h0
    by_cases hl0 : ls = 0
    · have u1 : ((ls : Int) != 0) = false := by simp; omega
      rw [if_pos hl0] at HP
      clear hl0 hls
      have HPt : Hid (o = restT L a k many [] s) := HP.out
      clear HP
      rcases hN : mgA ([] : List Ri) [] with ⟨N1, N2⟩
      unfold restT at HPt
      rw [hN] at HPt
      simp only at HPt
      by_cases hN2 : N2 = 0
      · subst hN2
        rw [if_neg (by simp)] at HPt
        have hN1 : N1.length ≤ 300 := mgA_le hN
        by_cases hd : many - (N1.length : Int) < 0
        · rw [if_pos hd] at HPt
          obtain ⟨d, hd2⟩ : ∃ d, many - (N1.length : Int) = d := ⟨_, rfl⟩
          rw [hd2] at hd
          have t1 : IntKind.i64.wrap (many - (N1.length : Int)) = d := by rw [hd2]; exact IntWalk.i64_in _ (by omega)
          clear hd2
          go_enter Tryz.func106, Tryz.ntmps106
          have HRo : Hid (V0.ownsRow w.heap.size 130 2 (.slice none 0 0) 0 (rcs [])) := ⟨rfl, .inl ⟨rfl, rfl⟩⟩
          have HRBx := HRB0
          have HWBx := Lib.hid (wb_below HB0.out : WB Q w V0)
          have hxx := HBc
          have hsx := hs
          have hnr : (0 : Nat) ≤ 300 := by omega
          have hzx := hz
          have HCn := Lib.hid (count_any ([] : List Ri) 0 rfl (by omega) N1 0 hN none 0 V0 (own_rdvT HRo.out))
          go_wp2_with fail
          refine HCn.out.mono ?_
          rintro e x2 ⟨rfl, B2⟩
          have HRo2 := Lib.hid (own_below HRo.out B2)
          have HRB2 := Lib.hid (HRBx.out.on B2)
          have HWB2 := Lib.hid (HWBx.out.trans (wb_below B2))
          have hx2 : Hid (x2.heap[w.heap.size]? = some (.cells #[.int .i64 (bk : Int), .int .i64 (ls : Int), .int .i64 (k : Int)] 24 (0, 0))) := (B2.block _ hzx).trans hxx.out
          have hz2 : w.heap.size < x2.heap.size := Nat.lt_of_lt_of_le hzx B2.size
          have Hz2 := Lib.hid hz2
          clear B2 hxx hzx HCn
          have HCk : Hid (∀ V, Below x2.heap.size x2 V → V.cell? ⟨Q, 0, none⟩ = some (.int .i64 (L.length : Int)) ∧ V.cell? ⟨Q, 1, none⟩ = some (.slice A (pack L).length c) ∧ V.cell? ⟨Q, 2, none⟩ = some (.int .i64 (s : Int)) ∧ V.cell? ⟨w.heap.size, 2, none⟩ = some (.int .i64 (k : Int))) := fun V hV => by
            have h := HRB2.out.on hV
            exact ⟨(cell_at h _).trans rfl, (cell_at h _).trans rfl, (cell_at h _).trans rfl, HBx.out V ((hV.block _ Hz2.out).trans hx2.out)⟩
          have HRr : Hid (∀ V, Below x2.heap.size x2 V → Rd V V.heap.size A (pack L)) := fun V hV => (rd_low HR.out HWB2.out hlt).below (hV.mono (Nat.le_of_lt HRB2.out.lt)) (Nat.le_trans (Nat.le_of_lt HRB2.out.lt) hV.size)
          have HG : Hid (∀ V, Below x2.heap.size x2 V → Calls Tryz.prog 134 #[.agg #[.int .i64 (L.length : Int), .slice A (pack L).length c], .int .i64 (s : Int), .int .i64 (a : Int), .int .i64 (k : Int), .int .i64 d] V (RdP V [] 0 3)) := fun V hV => gread_bad _ A c _ _ _ _ _ _ V (HRr.out V hV) 3 (by
            unfold rdE
            rw [chk_pack L hL, okN_nat a ha, okK_nat k hk hk2]
            simp [rgE]; omega) (by decide) HCh
          clear hx2 hz2
          go_wp2_with fail
          refine (ion_t _).mono ?_
          rintro e w' ⟨rfl, rfl⟩
          obtain ⟨k0, k1, k2, k3⟩ := HCk.out x2 (Below.refl _ _)
          go_wp2_with fail
          rename_i hKK
          have HKK := Lib.hid hKK
          clear hKK
          go_region_held3 (fun w' => w'.cell? ⟨Q, 0, none⟩ = some (.int .i64 (L.length : Int)) ∧ w'.cell? ⟨Q, 1, none⟩ = some (.slice A (pack L).length c) ∧ w'.cell? ⟨Q, 2, none⟩ = some (.int .i64 (s : Int)) ∧ w'.cell? ⟨w.heap.size, 2, none⟩ = some (.int .i64 (k : Int)))
            ((refine HCk.out _ ?_; first | exact hk1.out | exact (Below.refl _ _).drew | exact Below.refl _ _))
            ((go_at_call 134; refine (HG.out x2.drew (Below.refl _ _).drew).mono ?_; rintro e x3 ⟨A3, c3, rfl, q1, q2, r3, B3⟩; have hk1 : Hid (Below x2.heap.size x2 x3) := ((Below.refl _ x2).drew).trans B3; clear B3 r3 q1 q2))
          clear k0 k1 k2 k3
          refine HKK.out _ _ ?_
          clear HKK
          go_wp2_with fail
          refine (ion_f 3 (by decide) _).mono ?_
          rintro e w' ⟨rfl, rfl⟩
          go_wp2
          exact ⟨rfl, HWB2.out.trans (wb_below hk1.out), by rw [HPt.out]; rfl⟩
        · rw [if_neg hd] at HPt
          obtain ⟨d, hd2⟩ : ∃ d : Nat, (many - (N1.length : Int)).toNat = d := ⟨_, rfl⟩
          have hd3 : many - (N1.length : Int) = (d : Int) := by omega
          rw [hd2] at HPt
          have t1 : IntKind.i64.wrap (many - (N1.length : Int)) = (d : Int) := by rw [hd3]; exact IntWalk.i64_in _ (by omega)
          have hd4 : d ≤ 300 := by omega
          clear hd hd2 hd3
          rcases hG : rdG L k a d [] s with ⟨RG, to, er⟩
          rw [hG] at HPt
          simp only at HPt
          by_cases he : er = 0
          · subst he
            rw [if_neg (by simp)] at HPt
            rcases hM : mgA ([] : List Ri) (ns RG) with ⟨M1, M2⟩
            rw [hM] at HPt
            simp only at HPt
            have hRGl : RG.length ≤ 9223372036854775807 := rdG_len hG hd4
            by_cases hM2 : M2 = 0
            · subst hM2
              rw [if_neg (by simp)] at HPt
              go_enter Tryz.func106, Tryz.ntmps106
              have HRo : Hid (V0.ownsRow w.heap.size 130 2 (.slice none 0 0) 0 (rcs [])) := ⟨rfl, .inl ⟨rfl, rfl⟩⟩
              have HRBx := HRB0
              have HWBx := Lib.hid (wb_below HB0.out : WB Q w V0)
              have hxx := HBc
              have hsx := hs
              have hnr : (0 : Nat) ≤ 300 := by omega
              have hzx := hz
              have HCn := Lib.hid (count_any ([] : List Ri) 0 rfl (by omega) N1 0 hN none 0 V0 (own_rdvT HRo.out))
              go_wp2_with fail
              refine HCn.out.mono ?_
              rintro e x2 ⟨rfl, B2⟩
              have HRo2 := Lib.hid (own_below HRo.out B2)
              have HRB2 := Lib.hid (HRBx.out.on B2)
              have HWB2 := Lib.hid (HWBx.out.trans (wb_below B2))
              have hx2 : Hid (x2.heap[w.heap.size]? = some (.cells #[.int .i64 (bk : Int), .int .i64 (ls : Int), .int .i64 (k : Int)] 24 (0, 0))) := (B2.block _ hzx).trans hxx.out
              have hz2 : w.heap.size < x2.heap.size := Nat.lt_of_lt_of_le hzx B2.size
              have Hz2 := Lib.hid hz2
              clear B2 hxx hzx HCn
              have HCk : Hid (∀ V, Below x2.heap.size x2 V → V.cell? ⟨Q, 0, none⟩ = some (.int .i64 (L.length : Int)) ∧ V.cell? ⟨Q, 1, none⟩ = some (.slice A (pack L).length c) ∧ V.cell? ⟨Q, 2, none⟩ = some (.int .i64 (s : Int)) ∧ V.cell? ⟨w.heap.size, 2, none⟩ = some (.int .i64 (k : Int))) := fun V hV => by
                have h := HRB2.out.on hV
                exact ⟨(cell_at h _).trans rfl, (cell_at h _).trans rfl, (cell_at h _).trans rfl, HBx.out V ((hV.block _ Hz2.out).trans hx2.out)⟩
              have HRr : Hid (∀ V, Below x2.heap.size x2 V → Rd V V.heap.size A (pack L)) := fun V hV => (rd_low HR.out HWB2.out hlt).below (hV.mono (Nat.le_of_lt HRB2.out.lt)) (Nat.le_trans (Nat.le_of_lt HRB2.out.lt) hV.size)
              have HG : Hid (∀ V, Below x2.heap.size x2 V → Calls Tryz.prog 134 #[.agg #[.int .i64 (L.length : Int), .slice A (pack L).length c], .int .i64 (s : Int), .int .i64 (a : Int), .int .i64 (k : Int), .int .i64 (d : Int)] V (RdO V RG to 0)) := fun V hV => gread_own L hL s hsx a ha k hk hk2 d (by omega) RG to 0 hG A c V (HRr.out V hV)
              clear hx2 hz2
              go_wp2_with fail
              refine (ion_t _).mono ?_
              rintro e w' ⟨rfl, rfl⟩
              obtain ⟨k0, k1, k2, k3⟩ := HCk.out x2 (Below.refl _ _)
              go_wp2_with fail
              rename_i hKK
              have HKK := Lib.hid hKK
              clear hKK
              go_region_held3 (fun w' => w'.cell? ⟨Q, 0, none⟩ = some (.int .i64 (L.length : Int)) ∧ w'.cell? ⟨Q, 1, none⟩ = some (.slice A (pack L).length c) ∧ w'.cell? ⟨Q, 2, none⟩ = some (.int .i64 (s : Int)) ∧ w'.cell? ⟨w.heap.size, 2, none⟩ = some (.int .i64 (k : Int)))
                ((refine HCk.out _ ?_; first | exact hk1.out | exact (Below.refl _ _).drew | exact Below.refl _ _))
                ((go_at_call 134; refine (HG.out x2.drew (Below.refl _ _).drew).mono ?_; rintro e x3 ⟨A3, c3, rfl, r3, B3⟩; have hk1 : Hid (Below x2.heap.size x2 x3) := ((Below.refl _ x2).drew).trans B3; have hr3 : Hid (x3.ownsRow w.heap.size 3 1 (.slice A3 RG.length c3) RG.length (zc (ns RG))) := own_base r3 (Nat.le_of_lt Hz2.out); clear B3 r3))
              have HRB3 := Lib.hid (HRB2.out.on hk1.out)
              have HWB3 := Lib.hid (HWB2.out.trans (wb_below hk1.out))
              have HRo3 := Lib.hid (own_below HRo2.out hk1.out)
              clear k0 k1 k2 k3
              have j2 : x3.cell? ⟨Q, 2, none⟩ = some (.int .i64 (s : Int)) := (cell_at HRB3.out _).trans rfl
              have f2 := frz_at HRB3.out 2
              have HN : Hid (RB (x3.setCell ⟨Q, 2, none⟩ (.int .i64 (to : Int))) Q L A c to) := by
                show _ = _
                rw [heap_set3 _ _ _ _ _ _ HRB3.out]; rfl
              have HWB4 : Hid (WB Q w (x3.setCell ⟨Q, 2, none⟩ (.int .i64 (to : Int)))) := HWB3.out.trans (wb_set _ _ _ _)
              have HRo4 := Lib.hid (own_wb HRo3.out (wb_set x3 Q 2 (.int .i64 (to : Int))) hlt)
              have HRg4 := Lib.hid (own_wb hr3.out (wb_set x3 Q 2 (.int .i64 (to : Int))) hlt)
              have hMg := merge_own ([] : List Ri) 0 rfl (by omega) (ns RG) RG.length (ns_length RG) hRGl none A3 0 c3 (own_capT HRg4.out).2 (x3.setCell ⟨Q, 2, none⟩ (.int .i64 (to : Int))) (own_rdvT HRo4.out) (own_rdvT HRg4.out)
              rw [hM] at hMg
              have HMg := Lib.hid hMg
              clear hMg HRB3 HWB3 HRo3 HRo4 HRg4
              refine HKK.out _ _ ?_
              clear HKK
              go_wp2_with fail
              refine (ion_t _).mono ?_
              rintro e w' ⟨rfl, rfl⟩
              go_wp2_with fail
              refine HMg.out.mono ?_
              rintro e x5 ⟨A5, c5, rfl, r5, B5⟩
              have HB5 := Lib.hid (HWB4.out.trans (wb_below B5))
              have HRB5 := Lib.hid (HN.out.on B5)
              have HR5 := Lib.hid (own_base r5 HWB4.out.size)
              clear r5 B5
              go_wp2_with fail
              refine (ion_t _).mono ?_
              rintro e w' ⟨rfl, rfl⟩
              go_wp2
              go_ret
              exact ⟨HB5.out, by rw [HPt.out]; exact ⟨⟨_, _, rfl, HR5.out⟩, HRB5.out⟩⟩
            · rw [if_pos hM2] at HPt
              go_enter Tryz.func106, Tryz.ntmps106
              have HRo : Hid (V0.ownsRow w.heap.size 130 2 (.slice none 0 0) 0 (rcs [])) := ⟨rfl, .inl ⟨rfl, rfl⟩⟩
              have HRBx := HRB0
              have HWBx := Lib.hid (wb_below HB0.out : WB Q w V0)
              have hxx := HBc
              have hsx := hs
              have hnr : (0 : Nat) ≤ 300 := by omega
              have hzx := hz
              have HCn := Lib.hid (count_any ([] : List Ri) 0 rfl (by omega) N1 0 hN none 0 V0 (own_rdvT HRo.out))
              go_wp2_with fail
              refine HCn.out.mono ?_
              rintro e x2 ⟨rfl, B2⟩
              have HRo2 := Lib.hid (own_below HRo.out B2)
              have HRB2 := Lib.hid (HRBx.out.on B2)
              have HWB2 := Lib.hid (HWBx.out.trans (wb_below B2))
              have hx2 : Hid (x2.heap[w.heap.size]? = some (.cells #[.int .i64 (bk : Int), .int .i64 (ls : Int), .int .i64 (k : Int)] 24 (0, 0))) := (B2.block _ hzx).trans hxx.out
              have hz2 : w.heap.size < x2.heap.size := Nat.lt_of_lt_of_le hzx B2.size
              have Hz2 := Lib.hid hz2
              clear B2 hxx hzx HCn
              have HCk : Hid (∀ V, Below x2.heap.size x2 V → V.cell? ⟨Q, 0, none⟩ = some (.int .i64 (L.length : Int)) ∧ V.cell? ⟨Q, 1, none⟩ = some (.slice A (pack L).length c) ∧ V.cell? ⟨Q, 2, none⟩ = some (.int .i64 (s : Int)) ∧ V.cell? ⟨w.heap.size, 2, none⟩ = some (.int .i64 (k : Int))) := fun V hV => by
                have h := HRB2.out.on hV
                exact ⟨(cell_at h _).trans rfl, (cell_at h _).trans rfl, (cell_at h _).trans rfl, HBx.out V ((hV.block _ Hz2.out).trans hx2.out)⟩
              have HRr : Hid (∀ V, Below x2.heap.size x2 V → Rd V V.heap.size A (pack L)) := fun V hV => (rd_low HR.out HWB2.out hlt).below (hV.mono (Nat.le_of_lt HRB2.out.lt)) (Nat.le_trans (Nat.le_of_lt HRB2.out.lt) hV.size)
              have HG : Hid (∀ V, Below x2.heap.size x2 V → Calls Tryz.prog 134 #[.agg #[.int .i64 (L.length : Int), .slice A (pack L).length c], .int .i64 (s : Int), .int .i64 (a : Int), .int .i64 (k : Int), .int .i64 (d : Int)] V (RdO V RG to 0)) := fun V hV => gread_own L hL s hsx a ha k hk hk2 d (by omega) RG to 0 hG A c V (HRr.out V hV)
              clear hx2 hz2
              go_wp2_with fail
              refine (ion_t _).mono ?_
              rintro e w' ⟨rfl, rfl⟩
              obtain ⟨k0, k1, k2, k3⟩ := HCk.out x2 (Below.refl _ _)
              go_wp2_with fail
              rename_i hKK
              have HKK := Lib.hid hKK
              clear hKK
              go_region_held3 (fun w' => w'.cell? ⟨Q, 0, none⟩ = some (.int .i64 (L.length : Int)) ∧ w'.cell? ⟨Q, 1, none⟩ = some (.slice A (pack L).length c) ∧ w'.cell? ⟨Q, 2, none⟩ = some (.int .i64 (s : Int)) ∧ w'.cell? ⟨w.heap.size, 2, none⟩ = some (.int .i64 (k : Int)))
                ((refine HCk.out _ ?_; first | exact hk1.out | exact (Below.refl _ _).drew | exact Below.refl _ _))
                ((go_at_call 134; refine (HG.out x2.drew (Below.refl _ _).drew).mono ?_; rintro e x3 ⟨A3, c3, rfl, r3, B3⟩; have hk1 : Hid (Below x2.heap.size x2 x3) := ((Below.refl _ x2).drew).trans B3; have hr3 : Hid (x3.ownsRow w.heap.size 3 1 (.slice A3 RG.length c3) RG.length (zc (ns RG))) := own_base r3 (Nat.le_of_lt Hz2.out); clear B3 r3))
              have HRB3 := Lib.hid (HRB2.out.on hk1.out)
              have HWB3 := Lib.hid (HWB2.out.trans (wb_below hk1.out))
              have HRo3 := Lib.hid (own_below HRo2.out hk1.out)
              clear k0 k1 k2 k3
              have j2 : x3.cell? ⟨Q, 2, none⟩ = some (.int .i64 (s : Int)) := (cell_at HRB3.out _).trans rfl
              have f2 := frz_at HRB3.out 2
              have HN : Hid (RB (x3.setCell ⟨Q, 2, none⟩ (.int .i64 (to : Int))) Q L A c to) := by
                show _ = _
                rw [heap_set3 _ _ _ _ _ _ HRB3.out]; rfl
              have HWB4 : Hid (WB Q w (x3.setCell ⟨Q, 2, none⟩ (.int .i64 (to : Int)))) := HWB3.out.trans (wb_set _ _ _ _)
              have HRo4 := Lib.hid (own_wb HRo3.out (wb_set x3 Q 2 (.int .i64 (to : Int))) hlt)
              have HRg4 := Lib.hid (own_wb hr3.out (wb_set x3 Q 2 (.int .i64 (to : Int))) hlt)
              have hMg := merge_own ([] : List Ri) 0 rfl (by omega) (ns RG) RG.length (ns_length RG) hRGl none A3 0 c3 (own_capT HRg4.out).2 (x3.setCell ⟨Q, 2, none⟩ (.int .i64 (to : Int))) (own_rdvT HRo4.out) (own_rdvT HRg4.out)
              rw [hM] at hMg
              have HMg := Lib.hid hMg
              clear hMg HRB3 HWB3 HRo3 HRo4 HRg4
              refine HKK.out _ _ ?_
              clear HKK
              go_wp2_with fail
              refine (ion_t _).mono ?_
              rintro e w' ⟨rfl, rfl⟩
              go_wp2_with fail
              refine HMg.out.mono ?_
              rintro e x5 ⟨A5, c5, rfl, r5, B5⟩
              have HB5 := Lib.hid (HWB4.out.trans (wb_below B5))
              have HRB5 := Lib.hid (HN.out.on B5)
              have HR5 := Lib.hid (own_base r5 HWB4.out.size)
              clear r5 B5
              go_wp2_with fail
              refine (ion_f M2 hM2 _).mono ?_
              rintro e w' ⟨rfl, rfl⟩
              go_wp2
              exact ⟨rfl, HB5.out, by rw [HPt.out]; rfl⟩
          · rw [if_pos he] at HPt
            go_enter Tryz.func106, Tryz.ntmps106
            have HRo : Hid (V0.ownsRow w.heap.size 130 2 (.slice none 0 0) 0 (rcs [])) := ⟨rfl, .inl ⟨rfl, rfl⟩⟩
            have HRBx := HRB0
            have HWBx := Lib.hid (wb_below HB0.out : WB Q w V0)
            have hxx := HBc
            have hsx := hs
            have hnr : (0 : Nat) ≤ 300 := by omega
            have hzx := hz
            have HCn := Lib.hid (count_any ([] : List Ri) 0 rfl (by omega) N1 0 hN none 0 V0 (own_rdvT HRo.out))
            go_wp2_with fail
            refine HCn.out.mono ?_
            rintro e x2 ⟨rfl, B2⟩
            have HRo2 := Lib.hid (own_below HRo.out B2)
            have HRB2 := Lib.hid (HRBx.out.on B2)
            have HWB2 := Lib.hid (HWBx.out.trans (wb_below B2))
            have hx2 : Hid (x2.heap[w.heap.size]? = some (.cells #[.int .i64 (bk : Int), .int .i64 (ls : Int), .int .i64 (k : Int)] 24 (0, 0))) := (B2.block _ hzx).trans hxx.out
            have hz2 : w.heap.size < x2.heap.size := Nat.lt_of_lt_of_le hzx B2.size
            have Hz2 := Lib.hid hz2
            clear B2 hxx hzx HCn
            have HCk : Hid (∀ V, Below x2.heap.size x2 V → V.cell? ⟨Q, 0, none⟩ = some (.int .i64 (L.length : Int)) ∧ V.cell? ⟨Q, 1, none⟩ = some (.slice A (pack L).length c) ∧ V.cell? ⟨Q, 2, none⟩ = some (.int .i64 (s : Int)) ∧ V.cell? ⟨w.heap.size, 2, none⟩ = some (.int .i64 (k : Int))) := fun V hV => by
              have h := HRB2.out.on hV
              exact ⟨(cell_at h _).trans rfl, (cell_at h _).trans rfl, (cell_at h _).trans rfl, HBx.out V ((hV.block _ Hz2.out).trans hx2.out)⟩
            have HRr : Hid (∀ V, Below x2.heap.size x2 V → Rd V V.heap.size A (pack L)) := fun V hV => (rd_low HR.out HWB2.out hlt).below (hV.mono (Nat.le_of_lt HRB2.out.lt)) (Nat.le_trans (Nat.le_of_lt HRB2.out.lt) hV.size)
            have HG : Hid (∀ V, Below x2.heap.size x2 V → Calls Tryz.prog 134 #[.agg #[.int .i64 (L.length : Int), .slice A (pack L).length c], .int .i64 (s : Int), .int .i64 (a : Int), .int .i64 (k : Int), .int .i64 (d : Int)] V (RdO V RG to er)) := fun V hV => gread_own L hL s hsx a ha k hk hk2 d (by omega) RG to er hG A c V (HRr.out V hV)
            clear hx2 hz2
            go_wp2_with fail
            refine (ion_t _).mono ?_
            rintro e w' ⟨rfl, rfl⟩
            obtain ⟨k0, k1, k2, k3⟩ := HCk.out x2 (Below.refl _ _)
            go_wp2_with fail
            rename_i hKK
            have HKK := Lib.hid hKK
            clear hKK
            go_region_held3 (fun w' => w'.cell? ⟨Q, 0, none⟩ = some (.int .i64 (L.length : Int)) ∧ w'.cell? ⟨Q, 1, none⟩ = some (.slice A (pack L).length c) ∧ w'.cell? ⟨Q, 2, none⟩ = some (.int .i64 (s : Int)) ∧ w'.cell? ⟨w.heap.size, 2, none⟩ = some (.int .i64 (k : Int)))
              ((refine HCk.out _ ?_; first | exact hk1.out | exact (Below.refl _ _).drew | exact Below.refl _ _))
              ((go_at_call 134; refine (HG.out x2.drew (Below.refl _ _).drew).mono ?_; rintro e x3 ⟨A3, c3, rfl, r3, B3⟩; have hk1 : Hid (Below x2.heap.size x2 x3) := ((Below.refl _ x2).drew).trans B3; have hr3 : Hid (x3.ownsRow w.heap.size 3 1 (.slice A3 RG.length c3) RG.length (zc (ns RG))) := own_base r3 (Nat.le_of_lt Hz2.out); clear B3 r3))
            clear k0 k1 k2 k3
            refine HKK.out _ _ ?_
            clear HKK
            go_wp2_with fail
            refine (ion_f er he _).mono ?_
            rintro e w' ⟨rfl, rfl⟩
            go_wp2
            exact ⟨rfl, HWB2.out.trans (wb_below hk1.out), by rw [HPt.out]; rfl⟩
      · rw [if_pos hN2] at HPt
        go_enter Tryz.func106, Tryz.ntmps106
        have HRo : Hid (V0.ownsRow w.heap.size 130 2 (.slice none 0 0) 0 (rcs [])) := ⟨rfl, .inl ⟨rfl, rfl⟩⟩
        have HRBx := HRB0
        have HWBx := Lib.hid (wb_below HB0.out : WB Q w V0)
        have hxx := HBc
        have hsx := hs
        have hnr : (0 : Nat) ≤ 300 := by omega
        have hzx := hz
        have HCn := Lib.hid (count_any ([] : List Ri) 0 rfl (by omega) N1 N2 hN none 0 V0 (own_rdvT HRo.out))
        go_wp2_with fail
        refine HCn.out.mono ?_
        rintro e x2 ⟨rfl, B2⟩
        have HRo2 := Lib.hid (own_below HRo.out B2)
        have HRB2 := Lib.hid (HRBx.out.on B2)
        have HWB2 := Lib.hid (HWBx.out.trans (wb_below B2))
        have hx2 : Hid (x2.heap[w.heap.size]? = some (.cells #[.int .i64 (bk : Int), .int .i64 (ls : Int), .int .i64 (k : Int)] 24 (0, 0))) := (B2.block _ hzx).trans hxx.out
        have hz2 : w.heap.size < x2.heap.size := Nat.lt_of_lt_of_le hzx B2.size
        have Hz2 := Lib.hid hz2
        clear B2 hxx hzx HCn
        go_wp2_with fail
        refine (ion_f N2 hN2 _).mono ?_
        rintro e w' ⟨rfl, rfl⟩
        go_wp2
        exact ⟨rfl, HWB2.out, by rw [HPt.out]; rfl⟩
    · have u1 : ((ls : Int) != 0) = true := by simp; omega
      rw [if_neg hl0] at HP
      have hlsb : ls ≤ 300 := by omega
      have HTr := Lib.hid (take_runs L hL A c Q s hs a ls ha hlsb V0 HRB0.out HR0.out)
      have hltV : Q < V0.heap.size := Nat.lt_trans hlt hz
      clear hl0 hls
      rcases hpr : pruns L a ls s with _ | ⟨r, s1⟩
      · rw [hpr] at HTr HP
        clear hpr
        go_enter Tryz.func106, Tryz.ntmps106
        go_wp2_with fail
        refine HTr.out.mono ?_
        rintro e w1 ⟨hwb, rfl⟩
        have HW := Lib.hid ((wb_below HB0.out).trans hwb)
        clear hwb
        go_wp2
        exact ⟨rfl, HW.out, by rw [HP.out]; rfl⟩
      · rw [hpr] at HTr HP
        have HPt : Hid (o = restT L a k many r s1) := HP.out
        clear HP hpr
        rcases hN : mgA r [] with ⟨N1, N2⟩
        unfold restT at HPt
        rw [hN] at HPt
        simp only at HPt
        by_cases hN2 : N2 = 0
        · subst hN2
          rw [if_neg (by simp)] at HPt
          have hN1 : N1.length ≤ 300 := mgA_le hN
          by_cases hd : many - (N1.length : Int) < 0
          · rw [if_pos hd] at HPt
            obtain ⟨d, hd2⟩ : ∃ d, many - (N1.length : Int) = d := ⟨_, rfl⟩
            rw [hd2] at hd
            have t1 : IntKind.i64.wrap (many - (N1.length : Int)) = d := by rw [hd2]; exact IntWalk.i64_in _ (by omega)
            clear hd2
            go_enter Tryz.func106, Tryz.ntmps106
            go_wp2_with fail
            refine HTr.out.mono ?_
            rintro e w1 ⟨hwb, ⟨AR, cR, rfl, hro⟩, hrb, hsx, hnr⟩
            have HRo := Lib.hid (own_base hro HB0.out.size)
            have HRBx := Lib.hid hrb
            have HWBx := Lib.hid ((wb_below HB0.out).trans hwb)
            have hxx : Hid (w1.heap[w.heap.size]? = some (.cells #[.int .i64 (bk : Int), .int .i64 (ls : Int), .int .i64 (k : Int)] 24 (0, 0))) := (hwb.block _ hz (by simp; omega)).trans HBc.out
            have hzx : w.heap.size < w1.heap.size := Nat.lt_of_lt_of_le hz hwb.size
            clear hwb hro hrb HTr
            have HCn := Lib.hid (count_any r r.length rfl (by omega) N1 0 hN AR cR w1 (own_rdvT HRo.out))
            go_wp2_with fail
            refine HCn.out.mono ?_
            rintro e x2 ⟨rfl, B2⟩
            have HRo2 := Lib.hid (own_below HRo.out B2)
            have HRB2 := Lib.hid (HRBx.out.on B2)
            have HWB2 := Lib.hid (HWBx.out.trans (wb_below B2))
            have hx2 : Hid (x2.heap[w.heap.size]? = some (.cells #[.int .i64 (bk : Int), .int .i64 (ls : Int), .int .i64 (k : Int)] 24 (0, 0))) := (B2.block _ hzx).trans hxx.out
            have hz2 : w.heap.size < x2.heap.size := Nat.lt_of_lt_of_le hzx B2.size
            have Hz2 := Lib.hid hz2
            clear B2 hxx hzx HCn
            have HCk : Hid (∀ V, Below x2.heap.size x2 V → V.cell? ⟨Q, 0, none⟩ = some (.int .i64 (L.length : Int)) ∧ V.cell? ⟨Q, 1, none⟩ = some (.slice A (pack L).length c) ∧ V.cell? ⟨Q, 2, none⟩ = some (.int .i64 (s1 : Int)) ∧ V.cell? ⟨w.heap.size, 2, none⟩ = some (.int .i64 (k : Int))) := fun V hV => by
              have h := HRB2.out.on hV
              exact ⟨(cell_at h _).trans rfl, (cell_at h _).trans rfl, (cell_at h _).trans rfl, HBx.out V ((hV.block _ Hz2.out).trans hx2.out)⟩
            have HRr : Hid (∀ V, Below x2.heap.size x2 V → Rd V V.heap.size A (pack L)) := fun V hV => (rd_low HR.out HWB2.out hlt).below (hV.mono (Nat.le_of_lt HRB2.out.lt)) (Nat.le_trans (Nat.le_of_lt HRB2.out.lt) hV.size)
            have HG : Hid (∀ V, Below x2.heap.size x2 V → Calls Tryz.prog 134 #[.agg #[.int .i64 (L.length : Int), .slice A (pack L).length c], .int .i64 (s1 : Int), .int .i64 (a : Int), .int .i64 (k : Int), .int .i64 d] V (RdP V [] 0 3)) := fun V hV => gread_bad _ A c _ _ _ _ _ _ V (HRr.out V hV) 3 (by
              unfold rdE
              rw [chk_pack L hL, okN_nat a ha, okK_nat k hk hk2]
              simp [rgE]; omega) (by decide) HCh
            clear hx2 hz2
            go_wp2_with fail
            refine (ion_t _).mono ?_
            rintro e w' ⟨rfl, rfl⟩
            obtain ⟨k0, k1, k2, k3⟩ := HCk.out x2 (Below.refl _ _)
            go_wp2_with fail
            rename_i hKK
            have HKK := Lib.hid hKK
            clear hKK
            go_region_held3 (fun w' => w'.cell? ⟨Q, 0, none⟩ = some (.int .i64 (L.length : Int)) ∧ w'.cell? ⟨Q, 1, none⟩ = some (.slice A (pack L).length c) ∧ w'.cell? ⟨Q, 2, none⟩ = some (.int .i64 (s1 : Int)) ∧ w'.cell? ⟨w.heap.size, 2, none⟩ = some (.int .i64 (k : Int)))
              ((refine HCk.out _ ?_; first | exact hk1.out | exact (Below.refl _ _).drew | exact Below.refl _ _))
              ((go_at_call 134; refine (HG.out x2.drew (Below.refl _ _).drew).mono ?_; rintro e x3 ⟨A3, c3, rfl, q1, q2, r3, B3⟩; have hk1 : Hid (Below x2.heap.size x2 x3) := ((Below.refl _ x2).drew).trans B3; clear B3 r3 q1 q2))
            clear k0 k1 k2 k3
            refine HKK.out _ _ ?_
            clear HKK
            go_wp2_with fail
            refine (ion_f 3 (by decide) _).mono ?_
            rintro e w' ⟨rfl, rfl⟩
            go_wp2
            exact ⟨rfl, HWB2.out.trans (wb_below hk1.out), by rw [HPt.out]; rfl⟩
          · rw [if_neg hd] at HPt
            obtain ⟨d, hd2⟩ : ∃ d : Nat, (many - (N1.length : Int)).toNat = d := ⟨_, rfl⟩
            have hd3 : many - (N1.length : Int) = (d : Int) := by omega
            rw [hd2] at HPt
            have t1 : IntKind.i64.wrap (many - (N1.length : Int)) = (d : Int) := by rw [hd3]; exact IntWalk.i64_in _ (by omega)
            have hd4 : d ≤ 300 := by omega
            clear hd hd2 hd3
            rcases hG : rdG L k a d [] s1 with ⟨RG, to, er⟩
            rw [hG] at HPt
            simp only at HPt
            by_cases he : er = 0
            · subst he
              rw [if_neg (by simp)] at HPt
              rcases hM : mgA r (ns RG) with ⟨M1, M2⟩
              rw [hM] at HPt
              simp only at HPt
              have hRGl : RG.length ≤ 9223372036854775807 := rdG_len hG hd4
              by_cases hM2 : M2 = 0
              · subst hM2
                rw [if_neg (by simp)] at HPt
                go_enter Tryz.func106, Tryz.ntmps106
                go_wp2_with fail
                refine HTr.out.mono ?_
                rintro e w1 ⟨hwb, ⟨AR, cR, rfl, hro⟩, hrb, hsx, hnr⟩
                have HRo := Lib.hid (own_base hro HB0.out.size)
                have HRBx := Lib.hid hrb
                have HWBx := Lib.hid ((wb_below HB0.out).trans hwb)
                have hxx : Hid (w1.heap[w.heap.size]? = some (.cells #[.int .i64 (bk : Int), .int .i64 (ls : Int), .int .i64 (k : Int)] 24 (0, 0))) := (hwb.block _ hz (by simp; omega)).trans HBc.out
                have hzx : w.heap.size < w1.heap.size := Nat.lt_of_lt_of_le hz hwb.size
                clear hwb hro hrb HTr
                have HCn := Lib.hid (count_any r r.length rfl (by omega) N1 0 hN AR cR w1 (own_rdvT HRo.out))
                go_wp2_with fail
                refine HCn.out.mono ?_
                rintro e x2 ⟨rfl, B2⟩
                have HRo2 := Lib.hid (own_below HRo.out B2)
                have HRB2 := Lib.hid (HRBx.out.on B2)
                have HWB2 := Lib.hid (HWBx.out.trans (wb_below B2))
                have hx2 : Hid (x2.heap[w.heap.size]? = some (.cells #[.int .i64 (bk : Int), .int .i64 (ls : Int), .int .i64 (k : Int)] 24 (0, 0))) := (B2.block _ hzx).trans hxx.out
                have hz2 : w.heap.size < x2.heap.size := Nat.lt_of_lt_of_le hzx B2.size
                have Hz2 := Lib.hid hz2
                clear B2 hxx hzx HCn
                have HCk : Hid (∀ V, Below x2.heap.size x2 V → V.cell? ⟨Q, 0, none⟩ = some (.int .i64 (L.length : Int)) ∧ V.cell? ⟨Q, 1, none⟩ = some (.slice A (pack L).length c) ∧ V.cell? ⟨Q, 2, none⟩ = some (.int .i64 (s1 : Int)) ∧ V.cell? ⟨w.heap.size, 2, none⟩ = some (.int .i64 (k : Int))) := fun V hV => by
                  have h := HRB2.out.on hV
                  exact ⟨(cell_at h _).trans rfl, (cell_at h _).trans rfl, (cell_at h _).trans rfl, HBx.out V ((hV.block _ Hz2.out).trans hx2.out)⟩
                have HRr : Hid (∀ V, Below x2.heap.size x2 V → Rd V V.heap.size A (pack L)) := fun V hV => (rd_low HR.out HWB2.out hlt).below (hV.mono (Nat.le_of_lt HRB2.out.lt)) (Nat.le_trans (Nat.le_of_lt HRB2.out.lt) hV.size)
                have HG : Hid (∀ V, Below x2.heap.size x2 V → Calls Tryz.prog 134 #[.agg #[.int .i64 (L.length : Int), .slice A (pack L).length c], .int .i64 (s1 : Int), .int .i64 (a : Int), .int .i64 (k : Int), .int .i64 (d : Int)] V (RdO V RG to 0)) := fun V hV => gread_own L hL s1 hsx a ha k hk hk2 d (by omega) RG to 0 hG A c V (HRr.out V hV)
                clear hx2 hz2
                go_wp2_with fail
                refine (ion_t _).mono ?_
                rintro e w' ⟨rfl, rfl⟩
                obtain ⟨k0, k1, k2, k3⟩ := HCk.out x2 (Below.refl _ _)
                go_wp2_with fail
                rename_i hKK
                have HKK := Lib.hid hKK
                clear hKK
                go_region_held3 (fun w' => w'.cell? ⟨Q, 0, none⟩ = some (.int .i64 (L.length : Int)) ∧ w'.cell? ⟨Q, 1, none⟩ = some (.slice A (pack L).length c) ∧ w'.cell? ⟨Q, 2, none⟩ = some (.int .i64 (s1 : Int)) ∧ w'.cell? ⟨w.heap.size, 2, none⟩ = some (.int .i64 (k : Int)))
                  ((refine HCk.out _ ?_; first | exact hk1.out | exact (Below.refl _ _).drew | exact Below.refl _ _))
                  ((go_at_call 134; refine (HG.out x2.drew (Below.refl _ _).drew).mono ?_; rintro e x3 ⟨A3, c3, rfl, r3, B3⟩; have hk1 : Hid (Below x2.heap.size x2 x3) := ((Below.refl _ x2).drew).trans B3; have hr3 : Hid (x3.ownsRow w.heap.size 3 1 (.slice A3 RG.length c3) RG.length (zc (ns RG))) := own_base r3 (Nat.le_of_lt Hz2.out); clear B3 r3))
                have HRB3 := Lib.hid (HRB2.out.on hk1.out)
                have HWB3 := Lib.hid (HWB2.out.trans (wb_below hk1.out))
                have HRo3 := Lib.hid (own_below HRo2.out hk1.out)
                clear k0 k1 k2 k3
                have j2 : x3.cell? ⟨Q, 2, none⟩ = some (.int .i64 (s1 : Int)) := (cell_at HRB3.out _).trans rfl
                have f2 := frz_at HRB3.out 2
                have HN : Hid (RB (x3.setCell ⟨Q, 2, none⟩ (.int .i64 (to : Int))) Q L A c to) := by
                  show _ = _
                  rw [heap_set3 _ _ _ _ _ _ HRB3.out]; rfl
                have HWB4 : Hid (WB Q w (x3.setCell ⟨Q, 2, none⟩ (.int .i64 (to : Int)))) := HWB3.out.trans (wb_set _ _ _ _)
                have HRo4 := Lib.hid (own_wb HRo3.out (wb_set x3 Q 2 (.int .i64 (to : Int))) hlt)
                have HRg4 := Lib.hid (own_wb hr3.out (wb_set x3 Q 2 (.int .i64 (to : Int))) hlt)
                have hMg := merge_own r r.length rfl (by omega) (ns RG) RG.length (ns_length RG) hRGl AR A3 cR c3 (own_capT HRg4.out).2 (x3.setCell ⟨Q, 2, none⟩ (.int .i64 (to : Int))) (own_rdvT HRo4.out) (own_rdvT HRg4.out)
                rw [hM] at hMg
                have HMg := Lib.hid hMg
                clear hMg HRB3 HWB3 HRo3 HRo4 HRg4
                refine HKK.out _ _ ?_
                clear HKK
                go_wp2_with fail
                refine (ion_t _).mono ?_
                rintro e w' ⟨rfl, rfl⟩
                go_wp2_with fail
                refine HMg.out.mono ?_
                rintro e x5 ⟨A5, c5, rfl, r5, B5⟩
                have HB5 := Lib.hid (HWB4.out.trans (wb_below B5))
                have HRB5 := Lib.hid (HN.out.on B5)
                have HR5 := Lib.hid (own_base r5 HWB4.out.size)
                clear r5 B5
                go_wp2_with fail
                refine (ion_t _).mono ?_
                rintro e w' ⟨rfl, rfl⟩
                go_wp2
                go_ret
                exact ⟨HB5.out, by rw [HPt.out]; exact ⟨⟨_, _, rfl, HR5.out⟩, HRB5.out⟩⟩
              · rw [if_pos hM2] at HPt
                go_enter Tryz.func106, Tryz.ntmps106
                go_wp2_with fail
                refine HTr.out.mono ?_
                rintro e w1 ⟨hwb, ⟨AR, cR, rfl, hro⟩, hrb, hsx, hnr⟩
                have HRo := Lib.hid (own_base hro HB0.out.size)
                have HRBx := Lib.hid hrb
                have HWBx := Lib.hid ((wb_below HB0.out).trans hwb)
                have hxx : Hid (w1.heap[w.heap.size]? = some (.cells #[.int .i64 (bk : Int), .int .i64 (ls : Int), .int .i64 (k : Int)] 24 (0, 0))) := (hwb.block _ hz (by simp; omega)).trans HBc.out
                have hzx : w.heap.size < w1.heap.size := Nat.lt_of_lt_of_le hz hwb.size
                clear hwb hro hrb HTr
                have HCn := Lib.hid (count_any r r.length rfl (by omega) N1 0 hN AR cR w1 (own_rdvT HRo.out))
                go_wp2_with fail
                refine HCn.out.mono ?_
                rintro e x2 ⟨rfl, B2⟩
                have HRo2 := Lib.hid (own_below HRo.out B2)
                have HRB2 := Lib.hid (HRBx.out.on B2)
                have HWB2 := Lib.hid (HWBx.out.trans (wb_below B2))
                have hx2 : Hid (x2.heap[w.heap.size]? = some (.cells #[.int .i64 (bk : Int), .int .i64 (ls : Int), .int .i64 (k : Int)] 24 (0, 0))) := (B2.block _ hzx).trans hxx.out
                have hz2 : w.heap.size < x2.heap.size := Nat.lt_of_lt_of_le hzx B2.size
                have Hz2 := Lib.hid hz2
                clear B2 hxx hzx HCn
                have HCk : Hid (∀ V, Below x2.heap.size x2 V → V.cell? ⟨Q, 0, none⟩ = some (.int .i64 (L.length : Int)) ∧ V.cell? ⟨Q, 1, none⟩ = some (.slice A (pack L).length c) ∧ V.cell? ⟨Q, 2, none⟩ = some (.int .i64 (s1 : Int)) ∧ V.cell? ⟨w.heap.size, 2, none⟩ = some (.int .i64 (k : Int))) := fun V hV => by
                  have h := HRB2.out.on hV
                  exact ⟨(cell_at h _).trans rfl, (cell_at h _).trans rfl, (cell_at h _).trans rfl, HBx.out V ((hV.block _ Hz2.out).trans hx2.out)⟩
                have HRr : Hid (∀ V, Below x2.heap.size x2 V → Rd V V.heap.size A (pack L)) := fun V hV => (rd_low HR.out HWB2.out hlt).below (hV.mono (Nat.le_of_lt HRB2.out.lt)) (Nat.le_trans (Nat.le_of_lt HRB2.out.lt) hV.size)
                have HG : Hid (∀ V, Below x2.heap.size x2 V → Calls Tryz.prog 134 #[.agg #[.int .i64 (L.length : Int), .slice A (pack L).length c], .int .i64 (s1 : Int), .int .i64 (a : Int), .int .i64 (k : Int), .int .i64 (d : Int)] V (RdO V RG to 0)) := fun V hV => gread_own L hL s1 hsx a ha k hk hk2 d (by omega) RG to 0 hG A c V (HRr.out V hV)
                clear hx2 hz2
                go_wp2_with fail
                refine (ion_t _).mono ?_
                rintro e w' ⟨rfl, rfl⟩
                obtain ⟨k0, k1, k2, k3⟩ := HCk.out x2 (Below.refl _ _)
                go_wp2_with fail
                rename_i hKK
                have HKK := Lib.hid hKK
                clear hKK
                go_region_held3 (fun w' => w'.cell? ⟨Q, 0, none⟩ = some (.int .i64 (L.length : Int)) ∧ w'.cell? ⟨Q, 1, none⟩ = some (.slice A (pack L).length c) ∧ w'.cell? ⟨Q, 2, none⟩ = some (.int .i64 (s1 : Int)) ∧ w'.cell? ⟨w.heap.size, 2, none⟩ = some (.int .i64 (k : Int)))
                  ((refine HCk.out _ ?_; first | exact hk1.out | exact (Below.refl _ _).drew | exact Below.refl _ _))
                  ((go_at_call 134; refine (HG.out x2.drew (Below.refl _ _).drew).mono ?_; rintro e x3 ⟨A3, c3, rfl, r3, B3⟩; have hk1 : Hid (Below x2.heap.size x2 x3) := ((Below.refl _ x2).drew).trans B3; have hr3 : Hid (x3.ownsRow w.heap.size 3 1 (.slice A3 RG.length c3) RG.length (zc (ns RG))) := own_base r3 (Nat.le_of_lt Hz2.out); clear B3 r3))
                have HRB3 := Lib.hid (HRB2.out.on hk1.out)
                have HWB3 := Lib.hid (HWB2.out.trans (wb_below hk1.out))
                have HRo3 := Lib.hid (own_below HRo2.out hk1.out)
                clear k0 k1 k2 k3
                have j2 : x3.cell? ⟨Q, 2, none⟩ = some (.int .i64 (s1 : Int)) := (cell_at HRB3.out _).trans rfl
                have f2 := frz_at HRB3.out 2
                have HN : Hid (RB (x3.setCell ⟨Q, 2, none⟩ (.int .i64 (to : Int))) Q L A c to) := by
                  show _ = _
                  rw [heap_set3 _ _ _ _ _ _ HRB3.out]; rfl
                have HWB4 : Hid (WB Q w (x3.setCell ⟨Q, 2, none⟩ (.int .i64 (to : Int)))) := HWB3.out.trans (wb_set _ _ _ _)
                have HRo4 := Lib.hid (own_wb HRo3.out (wb_set x3 Q 2 (.int .i64 (to : Int))) hlt)
                have HRg4 := Lib.hid (own_wb hr3.out (wb_set x3 Q 2 (.int .i64 (to : Int))) hlt)
                have hMg := merge_own r r.length rfl (by omega) (ns RG) RG.length (ns_length RG) hRGl AR A3 cR c3 (own_capT HRg4.out).2 (x3.setCell ⟨Q, 2, none⟩ (.int .i64 (to : Int))) (own_rdvT HRo4.out) (own_rdvT HRg4.out)
                rw [hM] at hMg
                have HMg := Lib.hid hMg
                clear hMg HRB3 HWB3 HRo3 HRo4 HRg4
                refine HKK.out _ _ ?_
                clear HKK
                go_wp2_with fail
                refine (ion_t _).mono ?_
                rintro e w' ⟨rfl, rfl⟩
                go_wp2_with fail
                refine HMg.out.mono ?_
                rintro e x5 ⟨A5, c5, rfl, r5, B5⟩
                have HB5 := Lib.hid (HWB4.out.trans (wb_below B5))
                have HRB5 := Lib.hid (HN.out.on B5)
                have HR5 := Lib.hid (own_base r5 HWB4.out.size)
                clear r5 B5
                go_wp2_with fail
                refine (ion_f M2 hM2 _).mono ?_
                rintro e w' ⟨rfl, rfl⟩
                go_wp2
                exact ⟨rfl, HB5.out, by rw [HPt.out]; rfl⟩
            · rw [if_pos he] at HPt
              go_enter Tryz.func106, Tryz.ntmps106
              go_wp2_with fail
              refine HTr.out.mono ?_
              rintro e w1 ⟨hwb, ⟨AR, cR, rfl, hro⟩, hrb, hsx, hnr⟩
              have HRo := Lib.hid (own_base hro HB0.out.size)
              have HRBx := Lib.hid hrb
              have HWBx := Lib.hid ((wb_below HB0.out).trans hwb)
              have hxx : Hid (w1.heap[w.heap.size]? = some (.cells #[.int .i64 (bk : Int), .int .i64 (ls : Int), .int .i64 (k : Int)] 24 (0, 0))) := (hwb.block _ hz (by simp; omega)).trans HBc.out
              have hzx : w.heap.size < w1.heap.size := Nat.lt_of_lt_of_le hz hwb.size
              clear hwb hro hrb HTr
              have HCn := Lib.hid (count_any r r.length rfl (by omega) N1 0 hN AR cR w1 (own_rdvT HRo.out))
              go_wp2_with fail
              refine HCn.out.mono ?_
              rintro e x2 ⟨rfl, B2⟩
              have HRo2 := Lib.hid (own_below HRo.out B2)
              have HRB2 := Lib.hid (HRBx.out.on B2)
              have HWB2 := Lib.hid (HWBx.out.trans (wb_below B2))
              have hx2 : Hid (x2.heap[w.heap.size]? = some (.cells #[.int .i64 (bk : Int), .int .i64 (ls : Int), .int .i64 (k : Int)] 24 (0, 0))) := (B2.block _ hzx).trans hxx.out
              have hz2 : w.heap.size < x2.heap.size := Nat.lt_of_lt_of_le hzx B2.size
              have Hz2 := Lib.hid hz2
              clear B2 hxx hzx HCn
              have HCk : Hid (∀ V, Below x2.heap.size x2 V → V.cell? ⟨Q, 0, none⟩ = some (.int .i64 (L.length : Int)) ∧ V.cell? ⟨Q, 1, none⟩ = some (.slice A (pack L).length c) ∧ V.cell? ⟨Q, 2, none⟩ = some (.int .i64 (s1 : Int)) ∧ V.cell? ⟨w.heap.size, 2, none⟩ = some (.int .i64 (k : Int))) := fun V hV => by
                have h := HRB2.out.on hV
                exact ⟨(cell_at h _).trans rfl, (cell_at h _).trans rfl, (cell_at h _).trans rfl, HBx.out V ((hV.block _ Hz2.out).trans hx2.out)⟩
              have HRr : Hid (∀ V, Below x2.heap.size x2 V → Rd V V.heap.size A (pack L)) := fun V hV => (rd_low HR.out HWB2.out hlt).below (hV.mono (Nat.le_of_lt HRB2.out.lt)) (Nat.le_trans (Nat.le_of_lt HRB2.out.lt) hV.size)
              have HG : Hid (∀ V, Below x2.heap.size x2 V → Calls Tryz.prog 134 #[.agg #[.int .i64 (L.length : Int), .slice A (pack L).length c], .int .i64 (s1 : Int), .int .i64 (a : Int), .int .i64 (k : Int), .int .i64 (d : Int)] V (RdO V RG to er)) := fun V hV => gread_own L hL s1 hsx a ha k hk hk2 d (by omega) RG to er hG A c V (HRr.out V hV)
              clear hx2 hz2
              go_wp2_with fail
              refine (ion_t _).mono ?_
              rintro e w' ⟨rfl, rfl⟩
              obtain ⟨k0, k1, k2, k3⟩ := HCk.out x2 (Below.refl _ _)
              go_wp2_with fail
              rename_i hKK
              have HKK := Lib.hid hKK
              clear hKK
              go_region_held3 (fun w' => w'.cell? ⟨Q, 0, none⟩ = some (.int .i64 (L.length : Int)) ∧ w'.cell? ⟨Q, 1, none⟩ = some (.slice A (pack L).length c) ∧ w'.cell? ⟨Q, 2, none⟩ = some (.int .i64 (s1 : Int)) ∧ w'.cell? ⟨w.heap.size, 2, none⟩ = some (.int .i64 (k : Int)))
                ((refine HCk.out _ ?_; first | exact hk1.out | exact (Below.refl _ _).drew | exact Below.refl _ _))
                ((go_at_call 134; refine (HG.out x2.drew (Below.refl _ _).drew).mono ?_; rintro e x3 ⟨A3, c3, rfl, r3, B3⟩; have hk1 : Hid (Below x2.heap.size x2 x3) := ((Below.refl _ x2).drew).trans B3; have hr3 : Hid (x3.ownsRow w.heap.size 3 1 (.slice A3 RG.length c3) RG.length (zc (ns RG))) := own_base r3 (Nat.le_of_lt Hz2.out); clear B3 r3))
              clear k0 k1 k2 k3
              refine HKK.out _ _ ?_
              clear HKK
              go_wp2_with fail
              refine (ion_f er he _).mono ?_
              rintro e w' ⟨rfl, rfl⟩
              go_wp2
              exact ⟨rfl, HWB2.out.trans (wb_below hk1.out), by rw [HPt.out]; rfl⟩
        · rw [if_pos hN2] at HPt
          go_enter Tryz.func106, Tryz.ntmps106
          go_wp2_with fail
          refine HTr.out.mono ?_
          rintro e w1 ⟨hwb, ⟨AR, cR, rfl, hro⟩, hrb, hsx, hnr⟩
          have HRo := Lib.hid (own_base hro HB0.out.size)
          have HRBx := Lib.hid hrb
          have HWBx := Lib.hid ((wb_below HB0.out).trans hwb)
          have hxx : Hid (w1.heap[w.heap.size]? = some (.cells #[.int .i64 (bk : Int), .int .i64 (ls : Int), .int .i64 (k : Int)] 24 (0, 0))) := (hwb.block _ hz (by simp; omega)).trans HBc.out
          have hzx : w.heap.size < w1.heap.size := Nat.lt_of_lt_of_le hz hwb.size
          clear hwb hro hrb HTr
          have HCn := Lib.hid (count_any r r.length rfl (by omega) N1 N2 hN AR cR w1 (own_rdvT HRo.out))
          go_wp2_with fail
          refine HCn.out.mono ?_
          rintro e x2 ⟨rfl, B2⟩
          have HRo2 := Lib.hid (own_below HRo.out B2)
          have HRB2 := Lib.hid (HRBx.out.on B2)
          have HWB2 := Lib.hid (HWBx.out.trans (wb_below B2))
          have hx2 : Hid (x2.heap[w.heap.size]? = some (.cells #[.int .i64 (bk : Int), .int .i64 (ls : Int), .int .i64 (k : Int)] 24 (0, 0))) := (B2.block _ hzx).trans hxx.out
          have hz2 : w.heap.size < x2.heap.size := Nat.lt_of_lt_of_le hzx B2.size
          have Hz2 := Lib.hid hz2
          clear B2 hxx hzx HCn
          go_wp2_with fail
          refine (ion_f N2 hN2 _).mono ?_
          rintro e w' ⟨rfl, rfl⟩
          go_wp2
          exact ⟨rfl, HWB2.out, by rw [HPt.out]; rfl⟩
end Go.Proofs.YticdnodlapafoaaGreat
