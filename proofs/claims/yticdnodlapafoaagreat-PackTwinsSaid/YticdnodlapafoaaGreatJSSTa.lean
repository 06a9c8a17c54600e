/- What the reader of a list takes: all of it; conditions: bits that can be read, ahead of the reader's own block. -/
import Derived.Test.YticdnodlapafoaaGreatJSSTl
import Derived.Test.YticdnodlapafoaaGreatJSSLi
namespace Go.Proofs.YticdnodlapafoaaGreat
set_option maxRecDepth 100000
set_option linter.unusedVariables false
open Go.RowKit Go.Shelf

theorem pbl_len (L : List Bool) : ∀ (m : Nat) (acc : List Nat) (s : Nat) (B : List Nat) (s' : Nat), pbl L m acc s = some (B, s') → B.length = acc.length + m
  | 0, acc, s, B, s', h => by
    simp only [pbl, Option.some.injEq, Prod.mk.injEq] at h
    rw [← h.1]; rfl
  | m + 1, acc, s, B, s', h => by
    rcases hp : pnum L s 300 with _ | ⟨x, s2⟩
    · rw [pbl_none L m acc s hp] at h; cases h
    · rw [pbl_some L m acc s x s2 hp] at h
      have := pbl_len L m _ _ _ _ h
      rw [List.length_append] at this
      simp only [List.length_singleton] at this
      omega
theorem pblocks_len {L : List Bool} {s : Nat} {B : List Nat} {s' : Nat} (h : pblocks L s = some (B, s')) : B.length ≤ 300 := by
  unfold pblocks at h
  rcases hp : pnum L s 300 with _ | ⟨n, s1⟩
  · rw [hp] at h; cases h
  · rw [hp] at h
    have := pbl_len L n [] s1 B s' h
    have := (pnum_le hp).1
    simp only [List.length_nil] at *
    omega
theorem cpE_ok (F : List Nat) (hF : Rising F) (B : List Nat) : cpE (ns F) (ns B) = bchk (ns B) F.length := by
  unfold cpE
  rw [rchk_ok F hF, if_neg (by simp), ns_length]
theorem cpA_ok (F : List Nat) (hF : Rising F) (B : List Nat) (h : bchk (ns B) F.length = 0) : cpA (ns F) (ns B) = cp true B F := by
  unfold cpA
  rw [cpE_ok F hF B, h, if_neg (by simp), tn_ns, tn_ns]
theorem jnA_ok (F : List Nat) (hF : Rising F) (B r : List Nat) (hr : Rising r) (h : bchk (ns B) F.length = 0) : jnA (ns F) (ns B) (ns r) = un (cp true B F) r := by
  have e : jnE (ns F) (ns B) (ns r) = 0 := by
    unfold jnE
    rw [cpE_ok F hF B, h, if_neg (by simp), rchk_ok r hr]
  unfold jnA
  rw [e, if_neg (by simp), tn_ns, tn_ns, tn_ns]
set_option maxHeartbeats 16000000 in
theorem take_list (L : List Bool) (hL : L.length ≤ 8192) (A : Option Addr) (c Q s : Nat) (hs : s ≤ L.length) (a bk ls k : Nat) (ha : a ≤ 1048576) (hls : ls = 0 ∨ 2 ≤ ls ∧ ls ≤ 300) (hk : 1 ≤ k) (hk2 : k ≤ 16) (F : List Nat) (hF : bk ≠ 0 → Rising F) (n : Nat) (A1 : Option Addr) (c1 : Nat) (hA1 : A1 = none → c1 = 0) (hc1 : n ≤ c1) (w : World) (h1 : bk ≠ 0 → F.length = n ∧ RdV w Q A1 (zc (ns F))) (hQ : RB w Q L A c s) (hR : Rd w Q A (pack L)) :
    Calls Tryz.prog 77 #[.pointer (some ⟨Q, 0, none⟩), .int .i64 (a : Int), .slice A1 n c1, .agg #[.int .i64 (bk : Int), .int .i64 (ls : Int), .int .i64 (k : Int)]] w (TlP Q L A c w (ptake L a bk ls k F s)) := by
  have hlt := hQ.lt
  obtain ⟨V0, hV⟩ : ∃ V0, w.alloc (.cells #[.int .i64 (bk : Int), .int .i64 (ls : Int), .int .i64 (k : Int)] 24) = V0 := ⟨_, rfl⟩
  have hB0 : Below w.heap.size w V0 := hV ▸ one_below w _
  have hBx : V0.heap[w.heap.size]? = some (.cells #[.int .i64 (bk : Int), .int .i64 (ls : Int), .int .i64 (k : Int)] 24 (0, 0)) := hV ▸ World.alloc_heap_new w _
  have hz : w.heap.size < V0.heap.size := (Array.getElem?_eq_some_iff.1 hBx).1
  have HRB0 := Lib.hid (hQ.on hB0)
  have HR0 := Lib.hid (rd_low hR (wb_below hB0 : WB Q w V0) hlt)
  have HB0 := Lib.hid hB0
  have HBx : Hid (∀ V : World, V.heap[w.heap.size]? = some (.cells #[.int .i64 (bk : Int), .int .i64 (ls : Int), .int .i64 (k : Int)] 24 (0, 0)) → V.cell? ⟨w.heap.size, 0, none⟩ = some (.int .i64 (bk : Int)) ∧ V.cell? ⟨w.heap.size, 1, none⟩ = some (.int .i64 (ls : Int)) ∧ V.cell? ⟨w.heap.size, 2, none⟩ = some (.int .i64 (k : Int))) := fun V h => ⟨(cell_at h _).trans rfl, (cell_at h _).trans rfl, (cell_at h _).trans rfl⟩
  have HR := Lib.hid hR
  have HBc := Lib.hid hBx
  have HT0 := Lib.hid (take_num L hL A c Q s hs 300 (by omega) V0 HRB0.out HR0.out)
  have HRst : Hid (∀ (V : World) (s : Nat) (many : Int), s ≤ L.length → -1000000 ≤ many → many ≤ 300 → RB V Q L A c s → Rd V Q A (pack L) → Calls Tryz.prog 106 #[.pointer (some ⟨Q, 0, none⟩), .int .i64 many, .int .i64 (a : Int), .agg #[.int .i64 (bk : Int), .int .i64 (ls : Int), .int .i64 (k : Int)]] V (TlP Q L A c V (prest L a ls k many s))) := fun V s many h1 h2 h3 h4 h5 => take_rest L hL A c Q s h1 a bk ls k ha hls hk hk2 many h2 h3 V h4 h5
  have HBl : Hid (∀ (V : World) (s : Nat), s ≤ L.length → RB V Q L A c s → Rd V Q A (pack L) → Calls Tryz.prog 107 #[.pointer (some ⟨Q, 0, none⟩)] V (TbP Q L A c V (pblocks L s))) := fun V s h1 h2 h3 => take_blocks L hL A c Q s h1 V h2 h3
  have H1 := Lib.hid h1
  have HFr := Lib.hid hF
  clear hQ hR hB0 hBx h1 hF
  rcases hpn : pnum L s 300 with _ | ⟨m, s1⟩
  · have HP : Hid (ptake L a bk ls k F s = none) := by show _ = _; unfold ptake; rw [hpn]
    rw [hpn] at HT0
    generalize ptake L a bk ls k F s = o at *
    clear hpn
    go_enter Tryz.func77, Tryz.ntmps77
    go_wp2_with fail
    refine HT0.out.mono ?_
    rintro e v1 ⟨hwb, rfl⟩
    have HW1 := Lib.hid ((wb_below HB0.out).trans hwb)
    clear hwb
    go_wp2
    exact ⟨rfl, HW1.out, by rw [HP.out]; rfl⟩
  · rw [hpn] at HT0
    obtain ⟨hm, hs1⟩ := pnum_le hpn
    have HP : Hid (ptake L a bk ls k F s = if m = 0 then some ([], s1) else if bk = 0 then prest L a ls k (m : Int) s1 else ptold L a ls k F m s1) := by show _ = _; unfold ptake; rw [hpn]
    generalize ptake L a bk ls k F s = o at *
    clear hpn
    by_cases hm0 : m = 0
    · rw [if_pos hm0] at HP
      have t0 : ((m : Int) == 0) = true := by simp; omega
      clear hm0
      go_enter Tryz.func77, Tryz.ntmps77
      go_wp2_with fail
      refine HT0.out.mono ?_
      rintro e v1 ⟨hwb, rfl, hrb⟩
      have HW1 := Lib.hid ((wb_below HB0.out).trans hwb)
      have HRB1 := Lib.hid hrb
      have hx1 : Hid (v1.heap[w.heap.size]? = some (.cells #[.int .i64 (bk : Int), .int .i64 (ls : Int), .int .i64 (k : Int)] 24 (0, 0))) := (hwb.block _ hz (by simp; omega)).trans HBc.out
      have hz1 : w.heap.size < v1.heap.size := Nat.lt_of_lt_of_le hz hwb.size
      have HRd1 := Lib.hid (rd_low HR.out HW1.out hlt)
      clear hwb hrb HT0 hz
      obtain ⟨p0, p1, p2⟩ := HBx.out v1 hx1.out
      go_wp2
      go_ret
      exact ⟨HW1.out, by rw [HP.out]; exact ⟨⟨none, 0, rfl, ⟨rfl, .inl ⟨rfl, rfl⟩⟩⟩, HRB1.out⟩⟩
    · rw [if_neg hm0] at HP
      have t0 : ((m : Int) == 0) = false := by simp; omega
      clear hm0
      by_cases hb0 : bk = 0
      · rw [if_pos hb0] at HP
        have u0 : ((bk : Int) == 0) = true := by simp; omega
        clear hb0
        rcases hpr : prest L a ls k (m : Int) s1 with _ | ⟨l, s2⟩
        · rw [hpr] at HP
          go_enter Tryz.func77, Tryz.ntmps77
          go_wp2_with fail
          refine HT0.out.mono ?_
          rintro e v1 ⟨hwb, rfl, hrb⟩
          have HW1 := Lib.hid ((wb_below HB0.out).trans hwb)
          have HRB1 := Lib.hid hrb
          have hx1 : Hid (v1.heap[w.heap.size]? = some (.cells #[.int .i64 (bk : Int), .int .i64 (ls : Int), .int .i64 (k : Int)] 24 (0, 0))) := (hwb.block _ hz (by simp; omega)).trans HBc.out
          have hz1 : w.heap.size < v1.heap.size := Nat.lt_of_lt_of_le hz hwb.size
          have HRd1 := Lib.hid (rd_low HR.out HW1.out hlt)
          clear hwb hrb HT0 hz
          obtain ⟨p0, p1, p2⟩ := HBx.out v1 hx1.out
          have HRs := Lib.hid (HRst.out v1 s1 (m : Int) hs1 (by omega) (by omega) HRB1.out HRd1.out)
          rw [hpr] at HRs
          clear hpr
          go_wp2_with fail
          refine HRs.out.mono ?_
          rintro e v2 ⟨hwb, rfl⟩
          have HW2 := Lib.hid (HW1.out.trans hwb)
          clear hwb
          go_wp2
          exact ⟨rfl, HW2.out, by rw [HP.out]; rfl⟩
        · rw [hpr] at HP
          go_enter Tryz.func77, Tryz.ntmps77
          go_wp2_with fail
          refine HT0.out.mono ?_
          rintro e v1 ⟨hwb, rfl, hrb⟩
          have HW1 := Lib.hid ((wb_below HB0.out).trans hwb)
          have HRB1 := Lib.hid hrb
          have hx1 : Hid (v1.heap[w.heap.size]? = some (.cells #[.int .i64 (bk : Int), .int .i64 (ls : Int), .int .i64 (k : Int)] 24 (0, 0))) := (hwb.block _ hz (by simp; omega)).trans HBc.out
          have hz1 : w.heap.size < v1.heap.size := Nat.lt_of_lt_of_le hz hwb.size
          have HRd1 := Lib.hid (rd_low HR.out HW1.out hlt)
          clear hwb hrb HT0 hz
          obtain ⟨p0, p1, p2⟩ := HBx.out v1 hx1.out
          have HRs := Lib.hid (HRst.out v1 s1 (m : Int) hs1 (by omega) (by omega) HRB1.out HRd1.out)
          rw [hpr] at HRs
          clear hpr
          go_wp2_with fail
          refine HRs.out.mono ?_
          rintro e v2 ⟨hwb, ⟨A5, c5, rfl, r5⟩, hrb⟩
          have HW2 := Lib.hid (HW1.out.trans hwb)
          have HR5 := Lib.hid (own_base r5 HW1.out.size)
          have HRB2 := Lib.hid hrb
          clear hwb r5 hrb
          go_wp2
          go_ret
          exact ⟨HW2.out, by rw [HP.out]; exact ⟨⟨_, _, rfl, HR5.out⟩, HRB2.out⟩⟩
      · rw [if_neg hb0] at HP
        have u0 : ((bk : Int) == 0) = false := by simp; omega
        obtain ⟨hFn, hRF⟩ := H1.out hb0
        have hF := HFr.out hb0
        have HRF := Lib.hid hRF
        have HFk := Lib.hid hF
        clear hb0 hRF H1 HFr
        have hn300 : n ≤ 300 := by have := hF.1; omega
        rcases hpb : pblocks L s1 with _ | ⟨B, s2⟩
        · have HQ : Hid (o = none) := by show _ = _; rw [HP.out]; unfold ptold; rw [hpb]
          clear HP
          go_enter Tryz.func77, Tryz.ntmps77
          go_wp2_with fail
          refine HT0.out.mono ?_
          rintro e v1 ⟨hwb, rfl, hrb⟩
          have HW1 := Lib.hid ((wb_below HB0.out).trans hwb)
          have HRB1 := Lib.hid hrb
          have hx1 : Hid (v1.heap[w.heap.size]? = some (.cells #[.int .i64 (bk : Int), .int .i64 (ls : Int), .int .i64 (k : Int)] 24 (0, 0))) := (hwb.block _ hz (by simp; omega)).trans HBc.out
          have hz1 : w.heap.size < v1.heap.size := Nat.lt_of_lt_of_le hz hwb.size
          have HRd1 := Lib.hid (rd_low HR.out HW1.out hlt)
          clear hwb hrb HT0 hz
          obtain ⟨p0, p1, p2⟩ := HBx.out v1 hx1.out
          have HBs := Lib.hid (HBl.out v1 s1 hs1 HRB1.out HRd1.out)
          rw [hpb] at HBs
          go_wp2_with fail
          refine HBs.out.mono ?_
          rintro e v2 ⟨hwb, rfl⟩
          have HW2 := Lib.hid (HW1.out.trans hwb)
          clear hwb
          go_wp2
          exact ⟨rfl, HW2.out, by rw [HQ.out]; rfl⟩
        · have hBl := pblocks_len hpb
          have HBlk := Lib.hid hpb
          by_cases hbc : bchk (ns B) F.length = 0
          · have hcl : (cp true B F).length ≤ 300 := by have := (cp_len B true F).length_le; omega
            have HQ0 : Hid (o = match prest L a ls k ((m : Int) - ((cp true B F).length : Int)) s2 with
                | none => none
                | some (r, s3) => if (un (cp true B F) r).2 ≠ 0 then none else some ((un (cp true B F) r).1, s3)) := by
              show _ = _; rw [HP.out]; unfold ptold; rw [hpb]; simp only; rw [if_neg (by simpa using hbc)]; rfl
            have hcE : cpE (ns F) (ns B) = 0 := by rw [cpE_ok F hF B, hbc]
            have hcA := cpA_ok F hF B hbc
            have HJ : Hid (∀ r, Rising r → jnA (ns F) (ns B) (ns r) = un (cp true B F) r) := fun r hr => jnA_ok F hF B r hr hbc
            have t1 : IntKind.i64.wrap ((m : Int) - ((cp true B F).length : Int)) = (m : Int) - ((cp true B F).length : Int) := IntWalk.i64_in _ (by omega)
            clear HP hbc hF hpb
            generalize cp true B F = C at *
            rcases hpr : prest L a ls k ((m : Int) - (C.length : Int)) s2 with _ | ⟨r, s3⟩
            · have HQ : Hid (o = none) := by show _ = _; rw [HQ0.out, hpr]
              clear HQ0
              go_enter Tryz.func77, Tryz.ntmps77
              go_wp2_with fail
              refine HT0.out.mono ?_
              rintro e v1 ⟨hwb, rfl, hrb⟩
              have HW1 := Lib.hid ((wb_below HB0.out).trans hwb)
              have HRB1 := Lib.hid hrb
              have hx1 : Hid (v1.heap[w.heap.size]? = some (.cells #[.int .i64 (bk : Int), .int .i64 (ls : Int), .int .i64 (k : Int)] 24 (0, 0))) := (hwb.block _ hz (by simp; omega)).trans HBc.out
              have hz1 : w.heap.size < v1.heap.size := Nat.lt_of_lt_of_le hz hwb.size
              have HRd1 := Lib.hid (rd_low HR.out HW1.out hlt)
              clear hwb hrb HT0 hz
              obtain ⟨p0, p1, p2⟩ := HBx.out v1 hx1.out
              have HBs := Lib.hid (HBl.out v1 s1 hs1 HRB1.out HRd1.out)
              rw [HBlk.out] at HBs
              go_wp2_with fail
              refine HBs.out.mono ?_
              rintro e v2 ⟨hwb, ⟨A2, c2, rfl, r2⟩, hrb, hs2⟩
              have HW2 := Lib.hid (HW1.out.trans hwb)
              have HRo2 := Lib.hid (own_base r2 HW1.out.size)
              have HRB2 := Lib.hid hrb
              have hx2 : Hid (v2.heap[w.heap.size]? = some (.cells #[.int .i64 (bk : Int), .int .i64 (ls : Int), .int .i64 (k : Int)] 24 (0, 0))) := (hwb.block _ hz1 (by simp; omega)).trans hx1.out
              have hz2 : w.heap.size < v2.heap.size := Nat.lt_of_lt_of_le hz1 hwb.size
              have HCp := pcopy_any (ns F) n (by rw [ns_length, hFn]) (by omega) (ns B) B.length (ns_length B) (by omega) A1 A2 c1 c2 hA1 hc1 v2 (rdv_up (rdv_low HRF.out HW2.out hlt) (Nat.le_of_lt HRB2.out.lt)) (own_rdvT HRo2.out)
              rw [hcE, hcA] at HCp
              have HCp := Lib.hid HCp
              clear hwb r2 hrb HBs hz1 hx1 p0 p1 p2
              go_wp2_with fail
              refine HCp.out.mono ?_
              rintro e v3 ⟨A3, c3, rfl, q1, q2, q3, q4⟩
              have HW3 := Lib.hid (HW2.out.trans (wb_below q4))
              have HRB3 := Lib.hid (HRB2.out.on q4)
              have HRo3 := Lib.hid (own_below HRo2.out q4)
              have HRs := Lib.hid (HRst.out v3 s2 ((m : Int) - (C.length : Int)) hs2 (by omega) (by omega) HRB3.out (rd_low HR.out HW3.out hlt))
              rw [hpr] at HRs
              have hx3 : Hid (v3.heap[w.heap.size]? = some (.cells #[.int .i64 (bk : Int), .int .i64 (ls : Int), .int .i64 (k : Int)] 24 (0, 0))) := (q4.block _ hz2).trans hx2.out
              obtain ⟨p0, p1, p2⟩ := HBx.out v3 hx3.out
              clear q1 q2 q3 q4 hx2 hz2
              go_wp2_with fail
              refine (ion_t _).mono ?_
              rintro e w' ⟨rfl, rfl⟩
              go_wp2_with fail
              refine HRs.out.mono ?_
              rintro e v4 ⟨hwb, rfl⟩
              have HW4 := Lib.hid (HW3.out.trans hwb)
              clear hwb
              go_wp2
              exact ⟨rfl, HW4.out, by rw [HQ.out]; rfl⟩
            · have hrr := prest_rising _ _ _ _ _ _ _ _ hpr
              rcases hU : un C r with ⟨M1, M2⟩
              have hrl : r.length ≤ 9223372036854775807 := by have := hrr.1; omega
              by_cases hM2 : M2 = 0
              · subst hM2
                have HQ : Hid (o = some (M1, s3)) := by show _ = _; rw [HQ0.out, hpr]; simp only; rw [hU, if_neg (by simp)]
                clear HQ0
                go_enter Tryz.func77, Tryz.ntmps77
                go_wp2_with fail
                refine HT0.out.mono ?_
                rintro e v1 ⟨hwb, rfl, hrb⟩
                have HW1 := Lib.hid ((wb_below HB0.out).trans hwb)
                have HRB1 := Lib.hid hrb
                have hx1 : Hid (v1.heap[w.heap.size]? = some (.cells #[.int .i64 (bk : Int), .int .i64 (ls : Int), .int .i64 (k : Int)] 24 (0, 0))) := (hwb.block _ hz (by simp; omega)).trans HBc.out
                have hz1 : w.heap.size < v1.heap.size := Nat.lt_of_lt_of_le hz hwb.size
                have HRd1 := Lib.hid (rd_low HR.out HW1.out hlt)
                clear hwb hrb HT0 hz
                obtain ⟨p0, p1, p2⟩ := HBx.out v1 hx1.out
                have HBs := Lib.hid (HBl.out v1 s1 hs1 HRB1.out HRd1.out)
                rw [HBlk.out] at HBs
                go_wp2_with fail
                refine HBs.out.mono ?_
                rintro e v2 ⟨hwb, ⟨A2, c2, rfl, r2⟩, hrb, hs2⟩
                have HW2 := Lib.hid (HW1.out.trans hwb)
                have HRo2 := Lib.hid (own_base r2 HW1.out.size)
                have HRB2 := Lib.hid hrb
                have hx2 : Hid (v2.heap[w.heap.size]? = some (.cells #[.int .i64 (bk : Int), .int .i64 (ls : Int), .int .i64 (k : Int)] 24 (0, 0))) := (hwb.block _ hz1 (by simp; omega)).trans hx1.out
                have hz2 : w.heap.size < v2.heap.size := Nat.lt_of_lt_of_le hz1 hwb.size
                have HCp := pcopy_any (ns F) n (by rw [ns_length, hFn]) (by omega) (ns B) B.length (ns_length B) (by omega) A1 A2 c1 c2 hA1 hc1 v2 (rdv_up (rdv_low HRF.out HW2.out hlt) (Nat.le_of_lt HRB2.out.lt)) (own_rdvT HRo2.out)
                rw [hcE, hcA] at HCp
                have HCp := Lib.hid HCp
                clear hwb r2 hrb HBs hz1 hx1 p0 p1 p2
                go_wp2_with fail
                refine HCp.out.mono ?_
                rintro e v3 ⟨A3, c3, rfl, q1, q2, q3, q4⟩
                have HW3 := Lib.hid (HW2.out.trans (wb_below q4))
                have HRB3 := Lib.hid (HRB2.out.on q4)
                have HRo3 := Lib.hid (own_below HRo2.out q4)
                have HRs := Lib.hid (HRst.out v3 s2 ((m : Int) - (C.length : Int)) hs2 (by omega) (by omega) HRB3.out (rd_low HR.out HW3.out hlt))
                rw [hpr] at HRs
                have hx3 : Hid (v3.heap[w.heap.size]? = some (.cells #[.int .i64 (bk : Int), .int .i64 (ls : Int), .int .i64 (k : Int)] 24 (0, 0))) := (q4.block _ hz2).trans hx2.out
                obtain ⟨p0, p1, p2⟩ := HBx.out v3 hx3.out
                clear q1 q2 q3 q4 hx2 hz2
                go_wp2_with fail
                refine (ion_t _).mono ?_
                rintro e w' ⟨rfl, rfl⟩
                go_wp2_with fail
                refine HRs.out.mono ?_
                rintro e v4 ⟨hwb, ⟨A4, c4, rfl, r4⟩, hrb⟩
                have HW4 := Lib.hid (HW3.out.trans hwb)
                have HRo4 := Lib.hid (own_wb HRo3.out hwb hlt)
                have HRB4 := Lib.hid hrb
                have hJn := pjoin_own (ns F) n (by rw [ns_length, hFn]) (by omega) (ns B) B.length (ns_length B) (by omega) (ns r) r.length (ns_length r) hrl A1 A2 A4 c1 c2 c4 hA1 hc1 (own_capT r4).2 v4 (rdv_up (rdv_low HRF.out HW4.out hlt) (Nat.le_of_lt HRB4.out.lt)) (own_rdvT HRo4.out) (own_rdvT r4)
                rw [HJ.out r hrr, hU] at hJn
                have HJn := Lib.hid hJn
                clear hwb r4 hrb hJn HRo4 HRo3 HRs p0 p1 p2
                go_wp2_with fail
                refine HJn.out.mono ?_
                rintro e v5 ⟨A5, c5, rfl, r5, B5⟩
                have HW5 := Lib.hid (HW4.out.trans (wb_below B5))
                have HRB5 := Lib.hid (HRB4.out.on B5)
                have HR5 := Lib.hid (own_base r5 HW4.out.size)
                clear r5 B5
                go_wp2_with fail
                refine (ion_t _).mono ?_
                rintro e w' ⟨rfl, rfl⟩
                go_wp2
                go_ret
                exact ⟨HW5.out, by rw [HQ.out]; exact ⟨⟨_, _, rfl, HR5.out⟩, HRB5.out⟩⟩
              · have HQ : Hid (o = none) := by show _ = _; rw [HQ0.out, hpr]; simp only; rw [hU, if_pos (by simpa using hM2)]
                clear HQ0
                go_enter Tryz.func77, Tryz.ntmps77
                go_wp2_with fail
                refine HT0.out.mono ?_
                rintro e v1 ⟨hwb, rfl, hrb⟩
                have HW1 := Lib.hid ((wb_below HB0.out).trans hwb)
                have HRB1 := Lib.hid hrb
                have hx1 : Hid (v1.heap[w.heap.size]? = some (.cells #[.int .i64 (bk : Int), .int .i64 (ls : Int), .int .i64 (k : Int)] 24 (0, 0))) := (hwb.block _ hz (by simp; omega)).trans HBc.out
                have hz1 : w.heap.size < v1.heap.size := Nat.lt_of_lt_of_le hz hwb.size
                have HRd1 := Lib.hid (rd_low HR.out HW1.out hlt)
                clear hwb hrb HT0 hz
                obtain ⟨p0, p1, p2⟩ := HBx.out v1 hx1.out
                have HBs := Lib.hid (HBl.out v1 s1 hs1 HRB1.out HRd1.out)
                rw [HBlk.out] at HBs
                go_wp2_with fail
                refine HBs.out.mono ?_
                rintro e v2 ⟨hwb, ⟨A2, c2, rfl, r2⟩, hrb, hs2⟩
                have HW2 := Lib.hid (HW1.out.trans hwb)
                have HRo2 := Lib.hid (own_base r2 HW1.out.size)
                have HRB2 := Lib.hid hrb
                have hx2 : Hid (v2.heap[w.heap.size]? = some (.cells #[.int .i64 (bk : Int), .int .i64 (ls : Int), .int .i64 (k : Int)] 24 (0, 0))) := (hwb.block _ hz1 (by simp; omega)).trans hx1.out
                have hz2 : w.heap.size < v2.heap.size := Nat.lt_of_lt_of_le hz1 hwb.size
                have HCp := pcopy_any (ns F) n (by rw [ns_length, hFn]) (by omega) (ns B) B.length (ns_length B) (by omega) A1 A2 c1 c2 hA1 hc1 v2 (rdv_up (rdv_low HRF.out HW2.out hlt) (Nat.le_of_lt HRB2.out.lt)) (own_rdvT HRo2.out)
                rw [hcE, hcA] at HCp
                have HCp := Lib.hid HCp
                clear hwb r2 hrb HBs hz1 hx1 p0 p1 p2
                go_wp2_with fail
                refine HCp.out.mono ?_
                rintro e v3 ⟨A3, c3, rfl, q1, q2, q3, q4⟩
                have HW3 := Lib.hid (HW2.out.trans (wb_below q4))
                have HRB3 := Lib.hid (HRB2.out.on q4)
                have HRo3 := Lib.hid (own_below HRo2.out q4)
                have HRs := Lib.hid (HRst.out v3 s2 ((m : Int) - (C.length : Int)) hs2 (by omega) (by omega) HRB3.out (rd_low HR.out HW3.out hlt))
                rw [hpr] at HRs
                have hx3 : Hid (v3.heap[w.heap.size]? = some (.cells #[.int .i64 (bk : Int), .int .i64 (ls : Int), .int .i64 (k : Int)] 24 (0, 0))) := (q4.block _ hz2).trans hx2.out
                obtain ⟨p0, p1, p2⟩ := HBx.out v3 hx3.out
                clear q1 q2 q3 q4 hx2 hz2
                go_wp2_with fail
                refine (ion_t _).mono ?_
                rintro e w' ⟨rfl, rfl⟩
                go_wp2_with fail
                refine HRs.out.mono ?_
                rintro e v4 ⟨hwb, ⟨A4, c4, rfl, r4⟩, hrb⟩
                have HW4 := Lib.hid (HW3.out.trans hwb)
                have HRo4 := Lib.hid (own_wb HRo3.out hwb hlt)
                have HRB4 := Lib.hid hrb
                have hJn := pjoin_own (ns F) n (by rw [ns_length, hFn]) (by omega) (ns B) B.length (ns_length B) (by omega) (ns r) r.length (ns_length r) hrl A1 A2 A4 c1 c2 c4 hA1 hc1 (own_capT r4).2 v4 (rdv_up (rdv_low HRF.out HW4.out hlt) (Nat.le_of_lt HRB4.out.lt)) (own_rdvT HRo4.out) (own_rdvT r4)
                rw [HJ.out r hrr, hU] at hJn
                have HJn := Lib.hid hJn
                clear hwb r4 hrb hJn HRo4 HRo3 HRs p0 p1 p2
                go_wp2_with fail
                refine HJn.out.mono ?_
                rintro e v5 ⟨A5, c5, rfl, r5, B5⟩
                have HW5 := Lib.hid (HW4.out.trans (wb_below B5))
                have HRB5 := Lib.hid (HRB4.out.on B5)
                have HR5 := Lib.hid (own_base r5 HW4.out.size)
                clear r5 B5
                go_wp2_with fail
                refine (ion_f M2 hM2 _).mono ?_
                rintro e w' ⟨rfl, rfl⟩
                go_wp2
                exact ⟨rfl, HW5.out, by rw [HQ.out]; rfl⟩
          · have HQ : Hid (o = none) := by show _ = _; rw [HP.out]; unfold ptold; rw [hpb]; simp only; rw [if_pos (by simpa using hbc)]
            have hcE : cpE (ns F) (ns B) = bchk (ns B) F.length := cpE_ok F hF B
            clear HP hpb
            go_enter Tryz.func77, Tryz.ntmps77
            go_wp2_with fail
            refine HT0.out.mono ?_
            rintro e v1 ⟨hwb, rfl, hrb⟩
            have HW1 := Lib.hid ((wb_below HB0.out).trans hwb)
            have HRB1 := Lib.hid hrb
            have hx1 : Hid (v1.heap[w.heap.size]? = some (.cells #[.int .i64 (bk : Int), .int .i64 (ls : Int), .int .i64 (k : Int)] 24 (0, 0))) := (hwb.block _ hz (by simp; omega)).trans HBc.out
            have hz1 : w.heap.size < v1.heap.size := Nat.lt_of_lt_of_le hz hwb.size
            have HRd1 := Lib.hid (rd_low HR.out HW1.out hlt)
            clear hwb hrb HT0 hz
            obtain ⟨p0, p1, p2⟩ := HBx.out v1 hx1.out
            have HBs := Lib.hid (HBl.out v1 s1 hs1 HRB1.out HRd1.out)
            rw [HBlk.out] at HBs
            go_wp2_with fail
            refine HBs.out.mono ?_
            rintro e v2 ⟨hwb, ⟨A2, c2, rfl, r2⟩, hrb, hs2⟩
            have HW2 := Lib.hid (HW1.out.trans hwb)
            have HRo2 := Lib.hid (own_base r2 HW1.out.size)
            have HRB2 := Lib.hid hrb
            have hx2 : Hid (v2.heap[w.heap.size]? = some (.cells #[.int .i64 (bk : Int), .int .i64 (ls : Int), .int .i64 (k : Int)] 24 (0, 0))) := (hwb.block _ hz1 (by simp; omega)).trans hx1.out
            have hz2 : w.heap.size < v2.heap.size := Nat.lt_of_lt_of_le hz1 hwb.size
            have HCp := pcopy_any (ns F) n (by rw [ns_length, hFn]) (by omega) (ns B) B.length (ns_length B) (by omega) A1 A2 c1 c2 hA1 hc1 v2 (rdv_up (rdv_low HRF.out HW2.out hlt) (Nat.le_of_lt HRB2.out.lt)) (own_rdvT HRo2.out)
            rw [hcE] at HCp
            have HCp := Lib.hid HCp
            clear hwb r2 hrb HBs hz1 hx1 p0 p1 p2
            go_wp2_with fail
            refine HCp.out.mono ?_
            rintro e v3 ⟨A3, c3, rfl, q1, q2, q3, q4⟩
            have HW3 := Lib.hid (HW2.out.trans (wb_below q4))
            clear q1 q2 q3 q4
            go_wp2_with fail
            refine (ion_f _ (by rw [← hFn]; exact hbc) _).mono ?_
            rintro e w' ⟨rfl, rfl⟩
            go_wp2
            exact ⟨rfl, HW3.out, by rw [HQ.out]; rfl⟩
end Go.Proofs.YticdnodlapafoaaGreat
