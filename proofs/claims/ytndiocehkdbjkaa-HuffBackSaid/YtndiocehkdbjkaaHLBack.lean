/- The law HuffBack: what is packed is unpacked, of as many bits as it costs; for whatever is handed in. -/
import Derived.Test.YtndiocehkdbjkaaJH6
namespace Go.Proofs.Ytndiocehkdbjkaa
set_option maxRecDepth 100000
set_option linter.unusedVariables false
open Go.RowKit Go.Shelf

theorem same_00 (A B : Option Addr) (c d : Nat) (w : World) : Calls Try.prog 26 #[.agg #[.int .i64 0, .slice A 0 c], .agg #[.int .i64 0, .slice B 0 d]] w fun e w' => e = .returned (.bool true) ∧ Below w.heap.size w w' := by
  have h := sameBits_any w 0 0 A B c d [] [] (by decide) (.inl rfl) (.inl rfl)
  simpa using h
set_option maxHeartbeats 4000000 in
theorem hba_e (A : Option Addr) (n c : Nat) (y : Int) (w : World) (e0 : Int) (h0 : e0 ≠ 0) (HP : Hid (∀ V, Below w.heap.size w V → Calls Try.prog 18 #[.slice A n c, .int .i64 y] V (PkM V 0 [] 0 0 [] e0))) :
    Calls Try.prog 4 #[.slice A n c, .int .i64 y] w fun e w' => e = .returned (.bool true) ∧ Below w.heap.size w w' := by
  have t0 : (e0 != 0) = true := by simpa using h0
  clear h0
  go_enter Try.func4, Try.ntmps4
  go_wp2_with fail
  refine (HP.out _ (Below.refl _ _)).mono ?_
  rintro e w1_ ⟨A1, c1, A3, c3, rfl, Rq, Rq2, Bq⟩
  have Sq : Below w.heap.size w w1_ := Bq
  have HB : Hid (Below w.heap.size w w1_) := Sq
  clear Bq Sq
  go_wp2_with fail
  refine (huffbegun_true _).mono ?_
  rintro e w2_ ⟨rfl, Bq⟩
  obtain ⟨Sq, Zq, X2_0⟩ := al1 Bq
  have Hb : Hid (w2_.heap[w1_.heap.size]? = some (.cells #[.int .i64 0, .slice A3 0 c3] 25 (0, 0))) := X2_0
  have zb : w1_.heap.size < w2_.heap.size := by omega
  have pb0 : w2_.cell? ⟨w1_.heap.size, 0, none⟩ = some (.int .i64 0) := (cell_at Hb.out _).trans rfl
  have pb1 : w2_.cell? ⟨w1_.heap.size, 1, none⟩ = some (.slice A3 0 c3) := (cell_at Hb.out _).trans rfl
  clear Zq X2_0
  replace HB : Hid (Below w.heap.size w w2_) := HB.out.trans (Sq.mono HB.out.size)
  clear Bq Sq
  go_wp2_with fail
  refine (same_00 A3 none c3 0 _).mono ?_
  rintro e w3_ ⟨rfl, Bq⟩
  have Sq : Below w2_.heap.size w2_ w3_ := Bq
  replace Hb : Hid (w3_.heap[w1_.heap.size]? = some (.cells #[.int .i64 0, .slice A3 0 c3] 25 (0, 0))) := (Sq.block _ zb).trans Hb.out
  replace pb0 : w3_.cell? ⟨w1_.heap.size, 0, none⟩ = some (.int .i64 0) := (cell_at Hb.out _).trans rfl
  replace pb1 : w3_.cell? ⟨w1_.heap.size, 1, none⟩ = some (.slice A3 0 c3) := (cell_at Hb.out _).trans rfl
  replace zb : w1_.heap.size < w3_.heap.size := Nat.lt_of_lt_of_le zb Sq.size
  replace HB : Hid (Below w.heap.size w w3_) := HB.out.trans (Sq.mono HB.out.size)
  clear Bq Sq
  go_wp2
  go_ret
  exact ⟨rfl, HB.out⟩
set_option maxHeartbeats 8000000 in
theorem hba_0 (A : Option Addr) (n c k : Nat) (w : World) (ss l : List Nat) (hn : ss.length = n) (h1000 : n ≤ 1000) (h64 : k ≤ 64) (hss : ∀ x ∈ ss, x < k) (HA : Hid (∀ V, Below w.heap.size w V → RdV V V.heap.size A (zc (ns ss)))) (lb : Int) (nb : Nat) (bb : List Nat) (HP : Hid (∀ V, Below w.heap.size w V → Calls Try.prog 18 #[.slice A n c, .int .i64 (k : Int)] V (PkM V k l lb nb bb 0)))
    (HU : Hid (∀ A1 c1 A3 c3 V, RdV V V.heap.size A1 (zc (ns l)) → Rd V V.heap.size A3 bb → Calls Try.prog 19 #[.slice A1 k c1, .agg #[.int .i64 lb, .slice A3 nb c3], .int .i64 (n : Int)] V (GzM V n ss 0)))
    (HC : Hid (∀ A5 A1 c1 V, RdV V V.heap.size A5 (zc (ns (cntL k ss))) → RdV V V.heap.size A1 (zc (ns l)) → Calls Try.prog 17 #[.slice A5 k k, .slice A1 k c1] V fun e w' => e = .returned (.tuple #[.int .i64 lb, .int .i64 0]) ∧ Below V.heap.size V w')) :
    Calls Try.prog 4 #[.slice A n c, .int .i64 (k : Int)] w fun e w' => e = .returned (.bool true) ∧ Below w.heap.size w w' := by
  obtain ⟨i0, hi, hz0, hz1, hz2⟩ := info_parts info3i
  have t9 : (lb == lb) = true := by simp
  have HN := Lib.hid hn; have HSs := Lib.hid hss
  have HS : Hid (∀ A B c d V, RdV V V.heap.size A (zc (ns ss)) → RdV V V.heap.size B (zc (ns ss)) → Calls Try.prog 25 #[.slice A n c, .slice B n d] V fun e w' => e = .returned (.bool true) ∧ Below V.heap.size V w') := fun A B c d V h1 h2 => sameI_x (ns ss) n (by rw [ns_length]; exact hn) (by omega) A B c d V h1 h2
  clear hn hss
  go_enter Try.func4, Try.ntmps4
  go_wp2_with fail
  refine (HP.out _ (Below.refl _ _)).mono ?_
  rintro e w1_ ⟨A1, c1, A3, c3, rfl, Rq, Rq2, Bq⟩
  have Sq : Below w.heap.size w w1_ := Bq
  have HB : Hid (Below w.heap.size w w1_) := Sq
  clear Bq Sq
  have HR1 := Lib.hid Rq; clear Rq
  have HR3 := Lib.hid Rq2; clear Rq2
  go_wp2_with fail
  refine (huffbegun_true _).mono ?_
  rintro e w2_ ⟨rfl, Bq⟩
  obtain ⟨Sq, Zq, X2_0⟩ := al1 Bq
  have Hb : Hid (w2_.heap[w1_.heap.size]? = some (.cells #[.int .i64 lb, .slice A3 nb c3] 25 (0, 0))) := X2_0
  have zb : w1_.heap.size < w2_.heap.size := by omega
  have pb0 : w2_.cell? ⟨w1_.heap.size, 0, none⟩ = some (.int .i64 lb) := (cell_at Hb.out _).trans rfl
  have pb1 : w2_.cell? ⟨w1_.heap.size, 1, none⟩ = some (.slice A3 nb c3) := (cell_at Hb.out _).trans rfl
  clear Zq X2_0
  replace HR1 : Hid (RdV w2_ w2_.heap.size A1 (zc (ns l))) := HR1.out.on Sq
  replace HR3 : Hid (Rd w2_ w2_.heap.size A3 bb) := HR3.out.on Sq
  replace HB : Hid (Below w.heap.size w w2_) := HB.out.trans (Sq.mono HB.out.size)
  clear Bq Sq
  go_wp2_with fail
  refine (HU.out A1 c1 A3 c3 _ HR1.out HR3.out).mono ?_
  rintro e w3_ ⟨A4, c4, rfl, -, -, Rq, Bq⟩
  have Sq : Below w2_.heap.size w2_ w3_ := Bq
  replace Hb : Hid (w3_.heap[w1_.heap.size]? = some (.cells #[.int .i64 lb, .slice A3 nb c3] 25 (0, 0))) := (Sq.block _ zb).trans Hb.out
  replace pb0 : w3_.cell? ⟨w1_.heap.size, 0, none⟩ = some (.int .i64 lb) := (cell_at Hb.out _).trans rfl
  replace pb1 : w3_.cell? ⟨w1_.heap.size, 1, none⟩ = some (.slice A3 nb c3) := (cell_at Hb.out _).trans rfl
  replace zb : w1_.heap.size < w3_.heap.size := Nat.lt_of_lt_of_le zb Sq.size
  replace HR1 : Hid (RdV w3_ w3_.heap.size A1 (zc (ns l))) := HR1.out.on Sq
  replace HR3 : Hid (Rd w3_ w3_.heap.size A3 bb) := HR3.out.on Sq
  replace HB : Hid (Below w.heap.size w w3_) := HB.out.trans (Sq.mono HB.out.size)
  clear Bq Sq
  have HR4 := Lib.hid Rq; clear Rq
  go_wp2_with (at_make; refine wpList_make_full _ rfl _ _ 22 rfl w3_.heap.size 3 i0 (.int .i64 0) 1 Try.underlying22 hi hz0 hz1 _ _ _ _ k rfl rfl rfl rfl (by rw [hz2]; omega) (by unfold maxLen; omega) (Nat.le_refl _) ?_; intro w4 hown1 hgrow1; rw [made_zc] at hown1; have HO := Lib.hid hown1; have HG : Hid (Below w3_.heap.size w3_ w4) := Lib.hid ((Below.refl _ w3_).grown hgrow1 (Nat.le_refl _) (fun k hk => by cases hk)); clear hown1 hgrow1)
  obtain ⟨g, hg⟩ : ∃ g, w3_.heap.size = g := ⟨_, rfl⟩
  have HGg := Lib.hid hg
  rw [hg] at HO ⊢
  clear hg
  go_wp2
  go_loopw [11] (fun p wr => CntRel k ss w3_ g p wr) (fun p _ => n - (intOf p).toNat)
  case atStart => exact ⟨0, Nat.zero_le _, rfl, by rw [HGg.out]; exact HO.out, HG.out⟩
  case round =>
    obtain ⟨i, hi', rfl, hrow, hbel⟩ := hrel
    rw [HN.out] at hi'
    by_cases hlt : i < n
    · have hil : i < ss.length := by rw [HN.out]; exact hlt
      obtain ⟨b, off, rfl, hb, hcell⟩ := (HA.out wr (HB.out.trans (hbel.mono HB.out.size))).at_ (ns_get ss i hil)
      have hx := HSs.out _ (at_mem ss i hil)
      have htk := take_snoc ss i hil
      have HBe := Lib.hid hbel; clear hbel
      have hle : (ss.take i).count (ss[i]?.getD 0) ≤ 1000 := Nat.le_trans List.count_le_length (by rw [List.length_take]; omega)
      generalize ss[i]?.getD 0 = x at *
      have hz := cntL_at k (ss.take i) x hx
      have hsn := cntL_snoc k (ss.take i) x hx
      rw [← htk] at hsn
      have hlx : x < (cntL k (ss.take i)).length := by rw [cntL_length]; exact hx
      have hget := ns_get (cntL k (ss.take i)) x hlx
      rw [hz] at hget
      obtain ⟨kc, kf⟩ := own_cell hrow hget
      have hset := own_set (i := x) hrow (.int .i64 (((ss.take i).count x + 1 : Nat) : Int))
      rw [← zc_nset, ← hsn] at hset
      have HO3 := Lib.hid hset
      have HB3 := Lib.hid (HBe.out.setCell (p := ⟨g, x, none⟩) (Nat.le_of_eq HGg.out) (.int .i64 (((ss.take i).count x + 1 : Nat) : Int)))
      clear hset hsn hz hget hlx htk hrow
      generalize (ss.take i).count x = q at *
      go_wp2
      go_roundw
      case rel => exact ⟨i + 1, by rw [HN.out]; omega, by go_num, HO3.out, HB3.out⟩
      case measure => simp [intOf] <;> omega
    · have e : ss.take i = ss := List.take_of_length_le (by rw [HN.out]; omega)
      rw [e] at hrow
      obtain rfl : i = n := by omega
      have HRA : Hid (RdV wr wr.heap.size A (zc (ns ss))) := HA.out wr (HB.out.trans (hbel.mono HB.out.size))
      have HR5 := Lib.hid (own_rdv hrow)
      have HBe := Lib.hid hbel
      clear hrow hbel e HO HG
      have Sq : Below w3_.heap.size w3_ wr := HBe.out
      replace Hb : Hid (wr.heap[w1_.heap.size]? = some (.cells #[.int .i64 lb, .slice A3 nb c3] 25 (0, 0))) := (Sq.block _ zb).trans Hb.out
      replace pb0 : wr.cell? ⟨w1_.heap.size, 0, none⟩ = some (.int .i64 lb) := (cell_at Hb.out _).trans rfl
      replace pb1 : wr.cell? ⟨w1_.heap.size, 1, none⟩ = some (.slice A3 nb c3) := (cell_at Hb.out _).trans rfl
      replace zb : w1_.heap.size < wr.heap.size := Nat.lt_of_lt_of_le zb Sq.size
      replace HR1 : Hid (RdV wr wr.heap.size A1 (zc (ns l))) := HR1.out.on Sq
      replace HR3 : Hid (Rd wr wr.heap.size A3 bb) := HR3.out.on Sq
      replace HR4 : Hid (RdV wr wr.heap.size A4 (zc (ns ss))) := HR4.out.on Sq
      replace HB : Hid (Below w.heap.size w wr) := HB.out.trans (Sq.mono HB.out.size)
      clear Sq
      go_wp2_with fail
      refine (HC.out (some ⟨g, 0, none⟩) A1 c1 _ HR5.out HR1.out).mono ?_
      rintro e w4_ ⟨rfl, Bq⟩
      have Sq : Below wr.heap.size wr w4_ := Bq
      replace Hb : Hid (w4_.heap[w1_.heap.size]? = some (.cells #[.int .i64 lb, .slice A3 nb c3] 25 (0, 0))) := (Sq.block _ zb).trans Hb.out
      replace pb0 : w4_.cell? ⟨w1_.heap.size, 0, none⟩ = some (.int .i64 lb) := (cell_at Hb.out _).trans rfl
      replace pb1 : w4_.cell? ⟨w1_.heap.size, 1, none⟩ = some (.slice A3 nb c3) := (cell_at Hb.out _).trans rfl
      replace zb : w1_.heap.size < w4_.heap.size := Nat.lt_of_lt_of_le zb Sq.size
      replace HR1 : Hid (RdV w4_ w4_.heap.size A1 (zc (ns l))) := HR1.out.on Sq
      replace HR3 : Hid (Rd w4_ w4_.heap.size A3 bb) := HR3.out.on Sq
      replace HR4 : Hid (RdV w4_ w4_.heap.size A4 (zc (ns ss))) := HR4.out.on Sq
      replace HR5 : Hid (RdV w4_ w4_.heap.size (some ⟨g, 0, none⟩) (zc (ns (cntL k ss)))) := HR5.out.on Sq
      replace HRA : Hid (RdV w4_ w4_.heap.size A (zc (ns ss))) := HRA.out.on Sq
      replace HB : Hid (Below w.heap.size w w4_) := HB.out.trans (Sq.mono HB.out.size)
      clear Bq Sq
      go_wp2_with fail
      refine (HS.out A4 A c4 c _ HR4.out HRA.out).mono ?_
      rintro e w5_ ⟨rfl, Bq⟩
      have Sq : Below w4_.heap.size w4_ w5_ := Bq
      replace Hb : Hid (w5_.heap[w1_.heap.size]? = some (.cells #[.int .i64 lb, .slice A3 nb c3] 25 (0, 0))) := (Sq.block _ zb).trans Hb.out
      replace pb0 : w5_.cell? ⟨w1_.heap.size, 0, none⟩ = some (.int .i64 lb) := (cell_at Hb.out _).trans rfl
      replace pb1 : w5_.cell? ⟨w1_.heap.size, 1, none⟩ = some (.slice A3 nb c3) := (cell_at Hb.out _).trans rfl
      replace zb : w1_.heap.size < w5_.heap.size := Nat.lt_of_lt_of_le zb Sq.size
      replace HR1 : Hid (RdV w5_ w5_.heap.size A1 (zc (ns l))) := HR1.out.on Sq
      replace HR3 : Hid (Rd w5_ w5_.heap.size A3 bb) := HR3.out.on Sq
      replace HR4 : Hid (RdV w5_ w5_.heap.size A4 (zc (ns ss))) := HR4.out.on Sq
      replace HR5 : Hid (RdV w5_ w5_.heap.size (some ⟨g, 0, none⟩) (zc (ns (cntL k ss)))) := HR5.out.on Sq
      replace HRA : Hid (RdV w5_ w5_.heap.size A (zc (ns ss))) := HRA.out.on Sq
      replace HB : Hid (Below w.heap.size w w5_) := HB.out.trans (Sq.mono HB.out.size)
      clear Bq Sq
      go_wp2
      go_ret
      exact ⟨rfl, HB.out⟩
theorem huffBack_law (A : Option Addr) (c : Nat) (xs : List Int) (y : Int) (w : World) (hb : ∀ x ∈ xs, -9223372036854775808 ≤ x ∧ x ≤ 9223372036854775807) (h : RdV w w.heap.size A (zc xs)) (hs : xs.length ≤ 9223372036854775807) (_ : -9223372036854775808 ≤ y ∧ y ≤ 9223372036854775807) :
    Calls Try.prog 4 #[.slice A xs.length c, .int .i64 y] w fun e w' => e = .returned (.bool true) ∧ Below w.heap.size w w' := by
  have HX : ∀ V, Below w.heap.size w V → Calls Try.prog 18 #[.slice A xs.length c, .int .i64 y] V (PakP V (pkA xs y).1 (pkA xs y).2.1 (pkA xs y).2.2) := fun V hV => packs_any xs _ rfl hs y A c V (h.on hV)
  have hE : ∀ k : Int, k ≠ 0 → pkA xs y = ([], [], k) → Calls Try.prog 4 #[.slice A xs.length c, .int .i64 y] w fun e w' => e = .returned (.bool true) ∧ Below w.heap.size w w' := fun k hk he => by
    rw [he] at HX
    refine hba_e A _ c y w k hk (Lib.hid fun V hV => (HX V hV).mono fun _ _ q => ?_)
    have q2 := pkM q (n := 0) rfl
    rw [pack_nil] at q2
    exact q2
  by_cases h0 : cnE xs y = 0
  · obtain ⟨k, ss, rfl, hk, rfl, hss, hlt⟩ := cnE_zero xs y h0
    by_cases h1 : (lnA (cntL k ss)).2 = 0
    · obtain ⟨e1, h24⟩ := lnA_zero _ h1
      have e2 : pkA (ns ss) (k : Int) = (hl (cntL k ss), cat (hl (cntL k ss)) ss, 0) := by
        unfold pkA
        rw [if_neg (by simpa using h0), ns_nat, Int.toNat_natCast, if_neg (by simpa using h1), e1]
      rw [e2] at HX
      have hhl : (hl (cntL k ss)).length = k := by rw [hl_length, cntL_length]
      rw [ns_length] at hs HX ⊢
      have hcat := cat_costs (hl (cntL k ss)) h24 ss (fun p hp => by rw [hhl]; exact hlt p hp)
      rw [hhl] at hcat
      have hfit := pack_fits k hk ss hlt hss
      have hco := coE_hl (cntL k ss) (by rw [cntL_length]; exact hk) (cntL_le k ss hss) h24
      have hun := unA_cat (hl (cntL k ss)) h24 (hl_room _ h24) ss (cnt_code k ss hlt h24)
      refine hba_0 A _ c k w ss (hl (cntL k ss)) rfl hss hk hlt (Lib.hid fun V hV => h.on hV) _ _ _ (Lib.hid fun V hV => (HX V hV).mono fun _ _ q => pkM q hhl) (Lib.hid fun A1 c1 A3 c3 V hR hS => ?_) (Lib.hid fun A5 A1 c1 V hR hS => ?_)
      · have := unpack_ok (hl (cntL k ss)) k hhl hk h24 (hl_room _ h24) A1 c1 (cat (hl (cntL k ss)) ss) (by omega) A3 c3 ss.length hss V hR hS
        rw [hun] at this
        exact this.mono fun _ _ q => gzM q rfl
      · have := cost_any (ns (cntL k ss)) (ns (hl (cntL k ss))) k k (by rw [ns_length, cntL_length]) (by rw [ns_length, hhl]) (by omega) (by omega) A5 A1 k c1 V hR hS
        rw [hco.1, hco.2, ← hcat] at this
        exact this
    · refine hE _ h1 ?_
      unfold pkA
      rw [if_neg (by simpa using h0), ns_nat, Int.toNat_natCast, if_pos (by simpa using h1)]
  · refine hE _ h0 ?_
    unfold pkA
    rw [if_pos (by simpa using h0)]
end Go.Proofs.Ytndiocehkdbjkaa
