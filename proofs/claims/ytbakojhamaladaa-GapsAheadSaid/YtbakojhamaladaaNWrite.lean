/- What Write of gaps answers, for whatever list, place and k it is handed. -/
import Derived.Test.YtbakojhamaladaaNBk
import Derived.Test.YtbakojhamaladaaGWrite
namespace Go.Proofs.Ytbakojhamaladaa
set_option maxRecDepth 100000
set_option linter.unusedVariables false
open Go.RowKit Go.Shelf

/-- The codes of numbers, one behind the other. -/
def zets (k : Nat) (gs : List Nat) : List Bool := gs.flatMap fun g => zet g k
theorem zets_snoc (k : Nat) (gs : List Nat) (g : Nat) : zets k (gs ++ [g]) = zets k gs ++ zet g k := by simp [zets]
theorem zets_cons (k : Nat) (gs : List Nat) (g : Nat) : zets k (g :: gs) = zet g k ++ zets k gs := by simp [zets]
theorem zets_take (k : Nat) (gs : List Nat) (i : Nat) : (zets k (gs.take i)).length ≤ (zets k gs).length := by
  conv => rhs; rw [← List.take_append_drop i gs]
  simp only [zets, List.flatMap_append, List.length_append]
  omega
theorem zet_len (g k : Nat) (hk : 1 ≤ k) (hk2 : k ≤ 16) (hg : g ≤ 2097152) : (zet g k).length ≤ 8192 := by
  have h1 := zet_40 g k (by omega)
  have h2 : lg g / k ≤ lg g / k * k := Nat.le_mul_of_pos_right _ (by omega)
  unfold zet
  have h3 := lst_length_le (g + 1 - 2 ^ (lg g / k * k)) (zq (lg g / k) k)
  have h4 : sz (zq (lg g / k) k) ≤ lg g / k * k + k := sz_le _ _ (by unfold zq; exact Nat.sub_le _ _)
  rw [List.length_append, uc_length]
  omega
/-- The error of Write ahead of its bits. -/
def wE (xs : List Int) (a k : Int) : Int := rgE (gE xs a) [okK k]
theorem wE_eq (xs : List Int) (a k : Int) : wE xs a k = if gE xs a ≠ 0 then gE xs a else if okK k = true then 0 else 3 := by
  unfold wE rgE
  by_cases h : gE xs a = 0
  · rw [h]
    cases okK k <;> simp
  · rw [if_neg (fun e => h e.1), if_pos h]
theorem okK_true {k : Int} (h : okK k = true) : ∃ n : Nat, k = (n : Int) ∧ 1 ≤ n ∧ n ≤ 16 := by
  unfold okK at h
  simp at h
  exact ⟨k.toNat, by omega, by omega, by omega⟩
theorem okK_nat (n : Nat) (h1 : 1 ≤ n) (h2 : n ≤ 16) : okK (n : Int) = true := by unfold okK; simp; omega
theorem gaps_x (xs : List Int) (n : Nat) (hn : xs.length = n) (hn2 : n ≤ 9223372036854775807) (a : Int) (A : Option Addr) (c : Nat) (w : World) (h : RdV w w.heap.size A (zc xs)) :
    Calls Try.prog 19 #[.slice A n c, .int .i64 a] w fun e w' => ∃ A2 n2 c2, e = .returned (.tuple #[.slice A2 n2 c2, .int .i64 (gE xs a)]) ∧ Below w.heap.size w w' := by
  by_cases h0 : gE xs a = 0
  · rw [h0]
    obtain ⟨l, m, rfl, hl, rfl, hm⟩ := gE_zero xs a h0
    exact (gaps_ok l hl n (by rw [ns_length] at hn; exact hn) m hm A c w h).mono fun e w' ⟨A2, c2, h1, _, _, _, h5⟩ => ⟨A2, _, c2, h1, h5⟩
  · exact (gaps_e xs n hn hn2 a _ rfl h0 A c w h).mono fun e w' ⟨A2, c2, h1, _, _, _, h5⟩ => ⟨A2, _, c2, h1, h5⟩
set_option maxHeartbeats 1000000 in
theorem write_e (xs : List Int) (n : Nat) (hn : xs.length = n) (hn2 : n ≤ 9223372036854775807) (a k : Int) (e0 : Int) (he : wE xs a k = e0) (h0 : e0 ≠ 0) (A : Option Addr) (c : Nat) (w : World) (h : RdV w w.heap.size A (zc xs)) :
    Calls Try.prog 21 #[.slice A n c, .int .i64 a, .int .i64 k] w (Gv w 0 0 (pack []) e0) := by
  have HG : Hid (∀ V, Below w.heap.size w V → Calls Try.prog 19 #[.slice A n c, .int .i64 a] V fun e w' => ∃ A2 n2 c2, e = .returned (.tuple #[.slice A2 n2 c2, .int .i64 (gE xs a)]) ∧ Below V.heap.size V w') := fun V hV => gaps_x xs n hn hn2 a A c V (h.on hV)
  have HK := Lib.hid (isK_any k)
  have HR := Lib.hid (range1 (gE xs a) (okK k) e0 he)
  have t0 : (e0 != 0) = true := by simpa using h0
  clear h hn he h0
  generalize gE xs a = r at *
  generalize okK k = ok at *
  go_enter Try.func21, Try.ntmps21
  go_wp2_with fail
  refine (HG.out _ (one_below w _)).mono ?_
  rintro e w1 ⟨A2, n2, c2, rfl, B1⟩
  have HA := Lib.hid (res_at B1)
  clear B1
  go_wp2_with fail
  refine (HK.out _).mono ?_
  rintro e _ ⟨rfl, rfl⟩
  go_wp2_with fail
  refine (HR.out _ _ rfl).mono ?_
  rintro e w2 ⟨rfl, B2⟩
  obtain ⟨hr, hb, hz⟩ := HA.out
  have hr2 := (B2.block _ hz).trans hr
  obtain ⟨⟨d0, d1, g0, g1⟩, HG2⟩ := gv_store2 (w := w) (w1 := w2) (len := 0) (n := 0) (A := none) (c := 0) (Rd.nil w2 _ none) (Nat.le_refl _) hr2 (hb.trans (B2.mono hb.size)) e0
  clear hr hb hz hr2 B2
  go_wp2
  exact bodyPost_ret (v := .tuple #[.agg #[.int .i64 0, .slice none 0 0], .int .i64 e0]) (by simp [results, Try.results21, go_sem, d0, d1]) rfl HG2.out

/-- At each round's head: the codes of the first i are joined. -/
def WrRel (gs : List Nat) (k Ba : Nat) (w1 : World) (p : Value) (wr : World) : Prop :=
  ∃ (i : Nat) (Aa : Option Addr) (ca : Nat), i ≤ gs.length ∧ p = .int .i64 (i : Int) ∧ (zets k (gs.take i)).length ≤ 8192 ∧
    wr.heap[Ba]? = some (.cells #[.int .i64 ((zets k (gs.take i)).length : Int), .slice Aa (pack (zets k (gs.take i))).length ca] 31 (0, 0)) ∧ Rd wr wr.heap.size Aa (pack (zets k (gs.take i))) ∧ Below w1.heap.size w1 wr

set_option maxHeartbeats 4000000 in
theorem write_in (l : List Nat) (hl : Rising l) (n : Nat) (hn : l.length = n) (a : Nat) (ha : a ≤ 1048576) (k : Nat) (hk : 1 ≤ k) (hk2 : k ≤ 16) (gs : List Nat) (hgs : gps (a : Int) l = gs) (R : List Bool) (e0 : Int)
    (hR1 : (zets k gs).length ≤ 8192 → R = zets k gs ∧ e0 = 0) (hR2 : 8192 < (zets k gs).length → R = [] ∧ e0 = 8) (A : Option Addr) (c : Nat) (w : World) (h : RdV w w.heap.size A (zc (ns l))) :
    Calls Try.prog 21 #[.slice A n c, .int .i64 (a : Int), .int .i64 (k : Int)] w (Gave w R e0) := by
  have HG : Hid (∀ V, Below w.heap.size w V → Calls Try.prog 19 #[.slice A n c, .int .i64 (a : Int)] V (NumsP V gs 0)) := fun V hV => by
    have := gaps_ok l hl n hn a ha A c V (h.on hV)
    rwa [hgs] at this
  have hk0 := isK_any (k : Int)
  rw [okK_nat k hk hk2] at hk0
  have HK := Lib.hid hk0; clear hk0
  have HR := Lib.hid (range1 0 true 0 rfl)
  have hgl : gs.length = n := by rw [← hgs, gps_length, hn]
  have HL := Lib.hid hgl; clear hgl
  have hgle : ∀ g ∈ gs, g ≤ 2097152 := by rw [← hgs]; exact gps_le a ha l hl
  have HLe := Lib.hid hgle; clear hgle
  have h300 : n ≤ 300 := by have := hl.1; omega
  have H1 := Lib.hid hR1; have H2 := Lib.hid hR2
  clear h hn hgs hR1 hR2 hl ha
  go_enter Try.func21, Try.ntmps21
  go_wp2_with fail
  refine (HG.out _ (one_below w _)).mono ?_
  rintro e w1 ⟨A2, c2, rfl, -, -, X2, B1⟩
  have HA := Lib.hid (res_at B1)
  have HX2 := Lib.hid X2
  clear B1 X2
  rw [HL.out]
  go_wp2_with fail
  refine (HK.out _).mono ?_
  rintro e _ ⟨rfl, rfl⟩
  go_wp2_with fail
  refine (HR.out _ _ rfl).mono ?_
  rintro e w2 ⟨rfl, B2⟩
  have HX := Lib.hid (HX2.out.on B2)
  have HLow : Hid (Below w.heap.size w w2 ∧ w2.heap[w.heap.size]? = some (.cells #[.int .i64 0, .slice none 0 0] 31 (0, 0)) ∧ w.heap.size < w2.heap.size) := by
    obtain ⟨hr, hb, hz⟩ := HA.out
    exact ⟨hb.trans (B2.mono hb.size), (B2.block _ hz).trans hr, Nat.lt_of_lt_of_le hz B2.size⟩
  clear B2
  go_wp2
  go_loopw [34] (fun p wr => WrRel gs k w2.heap.size w2 p wr) (fun p _ => n - (intOf p).toNat)
  case atStart => exact ⟨0, none, 0, Nat.zero_le _, rfl, by simp [zets], (by have e := World.alloc_heap_new w2 (.cells #[.int .i64 0, .slice none 0 0] 31); simpa [zets, pack_nil] using e), .inl (by simp [zets, pack_nil]), one_below w2 _⟩
  case round =>
    obtain ⟨i, Aa, ca, him, rfl, htot, hbox, hrd, hbel⟩ := hrel
    rw [HL.out] at him
    have HBox := Lib.hid hbox; have HRd := Lib.hid hrd; have HBel := Lib.hid hbel
    clear hbox hrd
    by_cases hlt : i < n
    · have hil : i < gs.length := by rw [HL.out]; exact hlt
      obtain ⟨bx, ox, rfl, hbx, kx⟩ := (HX.out.on hbel).at_ (nc_get gs i hil)
      have hgl2 := HLe.out _ (at_mem gs i hil)
      have htk := take_snoc gs i hil
      have hzt := zets_take k gs (i + 1)
      rw [htk, zets_snoc] at hzt
      have hsn : zets k (gs.take (i + 1)) = zets k (gs.take i) ++ zet (gs[i]?.getD 0) k := by rw [htk, zets_snoc]
      clear htk hbel
      generalize gs[i]?.getD 0 = g at *
      have hZ := zeta_ok g k hk hk2 (by omega) (zet g k) rfl
      have HSn := Lib.hid hsn; clear hsn
      have hCl := zet_len g k hk hk2 hgl2
      generalize zet g k = C at *
      have HZ := Lib.hid hZ; clear hZ
      have hBw : w2.heap.size < wr.heap.size := (Array.getElem?_eq_some_iff.1 HBox.out).1
      generalize hP : zets k (gs.take i) = P at *
      have HP := Lib.hid hP; clear hP
      rw [List.length_append] at hzt
      by_cases hfit : P.length + C.length ≤ 8192
      · have HJ : Hid (∀ A5 c5 V, Rd V V.heap.size Aa (pack P) → Rd V V.heap.size A5 (pack C) → Calls Try.prog 34 #[.agg #[.int .i64 (P.length : Int), .slice Aa (pack P).length ca], .agg #[.int .i64 (C.length : Int), .slice A5 (pack C).length c5]] V (Gv V ((zets k (gs.take (i + 1))).length : Int) (pack (zets k (gs.take (i + 1)))).length (pack (zets k (gs.take (i + 1)))) 0)) := fun A5 c5 V h1 h2 => join_l P C _ Aa A5 ca c5 hfit HSn.out V h1 h2
        have hle2 : (zets k (gs.take (i + 1))).length ≤ 8192 := by rw [HSn.out, List.length_append]; exact hfit
        have HLe2 := Lib.hid hle2
        clear hzt hfit hle2 htot
        generalize hQ : zets k (gs.take (i + 1)) = Q at *
        have HQ := Lib.hid hQ
        clear HP HSn hQ
        generalize hpp : pack P = pp at *
        generalize hpc : pack C = pc at *
        generalize hpq : pack Q = pq at *
        generalize P.length = lp at *
        generalize C.length = lc at *
        generalize hlq : Q.length = lq at *
        have HPQ := Lib.hid hpq; have HLQ := Lib.hid hlq
        clear hpp hpc hpq hlq
        go_wp2_with fail
        refine (HZ.out _).mono ?_
        rintro e w3 ⟨A5, c5, rfl, R5, B5⟩
        have hb3 := (B5.block _ hBw).trans HBox.out
        have n0 : w3.cell? ⟨w2.heap.size, 0, none⟩ = some (.int .i64 (lp : Int)) := (cell_at hb3 _).trans rfl
        have n1' : w3.cell? ⟨w2.heap.size, 1, none⟩ = some (.slice Aa pp.length ca) := (cell_at hb3 _).trans rfl
        have hs3 : w2.heap.size < w3.heap.size := Nat.lt_of_lt_of_le hBw B5.size
        have HB3 := Lib.hid hb3; have HR5 := Lib.hid R5; have HB5 := Lib.hid B5
        clear hb3 R5 B5
        go_wp2_with fail
        refine (HJ.out A5 c5 _ (((HRd.out.below HB5.out HB5.out.size)).on (one_below w3 _)) (HR5.out.on (one_below w3 _))).mono ?_
        rintro e w5 ⟨A6, c6, rfl, R6, B6⟩
        have hb4 : w5.heap[w2.heap.size]? = some (.cells #[.int .i64 (lp : Int), .slice Aa pp.length ca] 31 (0, 0)) := (B6.block _ (by rw [World.size_alloc]; omega)).trans ((Below.heap_alloc _ _ _ hs3).trans HB3.out)
        have q0 : w5.cell? ⟨w2.heap.size, 0, none⟩ = some (.int .i64 (lp : Int)) := (cell_at hb4 _).trans rfl
        have q1 : w5.cell? ⟨w2.heap.size, 1, none⟩ = some (.slice Aa pp.length ca) := (cell_at hb4 _).trans rfl
        have f0 := frz_at hb4 0
        have f1 := frz_at hb4 1
        have Hb4 := Lib.hid hb4
        have HR6 := Lib.hid R6
        have HB6 : Hid (Below w2.heap.size w2 w5) := HBel.out.trans ((HB5.out.trans (((one_below w3 _).trans (B6.mono (by rw [World.size_alloc]; omega))).mono HB5.out.size)).mono HBel.out.size)
        clear hb4 R6 B6 n0 n1'
        have HBx8 : Hid (((w5.setCell ⟨w2.heap.size, 0, none⟩ (.int .i64 (lq : Int))).setCell ⟨w2.heap.size, 1, none⟩ (.slice A6 pq.length c6)).heap[w2.heap.size]? = some (.cells #[.int .i64 (lq : Int), .slice A6 pq.length c6] 31 (0, 0))) := by
          show _ = _
          rw [heap_set_same _ _ _ _ _ _ (heap_set_same _ _ _ _ _ _ Hb4.out)]
          simp
        have HRd8 : Hid (Rd ((w5.setCell ⟨w2.heap.size, 0, none⟩ (.int .i64 (lq : Int))).setCell ⟨w2.heap.size, 1, none⟩ (.slice A6 pq.length c6)) ((w5.setCell ⟨w2.heap.size, 0, none⟩ (.int .i64 (lq : Int))).setCell ⟨w2.heap.size, 1, none⟩ (.slice A6 pq.length c6)).heap.size A6 pq) := by
          have e1 : (w5.setCell ⟨w2.heap.size, 0, none⟩ (.int .i64 (lq : Int))).heap[w2.heap.size]? = some (.cells #[.int .i64 (lq : Int), .slice Aa pp.length ca] 31 (0, 0)) := by
            rw [heap_set_same _ _ _ _ _ _ Hb4.out]; simp
          have r8 := (HR6.out.setK (i := 0) (.int .i64 (lq : Int)) Hb4.out).setK (i := 1) (.slice A6 pq.length c6) e1
          have hsz : ((w5.setCell ⟨w2.heap.size, 0, none⟩ (.int .i64 (lq : Int))).setCell ⟨w2.heap.size, 1, none⟩ (.slice A6 pq.length c6)).heap.size = w5.heap.size := by simp [World.setCell]
          show Rd _ _ A6 pq
          rw [hsz]; exact r8
        have HB8 : Hid (Below w2.heap.size w2 ((w5.setCell ⟨w2.heap.size, 0, none⟩ (.int .i64 (lq : Int))).setCell ⟨w2.heap.size, 1, none⟩ (.slice A6 pq.length c6))) := (HB6.out.setCell (Nat.le_refl _) _).setCell (Nat.le_refl _) _
        go_wp2
        go_roundw
        case rel => exact ⟨i + 1, A6, c6, by rw [HL.out]; omega, by go_num, by rw [HQ.out, HLQ.out]; exact HLe2.out, by rw [HQ.out, HLQ.out, HPQ.out]; exact HBx8.out, by rw [HQ.out, HPQ.out]; exact HRd8.out, HB8.out⟩
        case measure => simp [intOf]; omega
      · have hJ := fun A5 c5 V (h1 : Rd V V.heap.size Aa (pack P)) (h2 : Rd V V.heap.size A5 (pack C)) => join_l8 P C htot hCl Aa A5 ca c5 (by omega) V h1 h2
        have HJ := Lib.hid hJ; clear hJ
        obtain ⟨rfl, rfl⟩ := H2.out (by omega)
        clear hzt hfit htot hCl HP HSn H1 H2
        generalize hpp : pack P = pp at *
        generalize hpc : pack C = pc at *
        generalize P.length = lp at *
        generalize C.length = lc at *
        clear hpp hpc
        go_wp2_with fail
        refine (HZ.out _).mono ?_
        rintro e w3 ⟨A5, c5, rfl, R5, B5⟩
        have hb3 := (B5.block _ hBw).trans HBox.out
        have n0 : w3.cell? ⟨w2.heap.size, 0, none⟩ = some (.int .i64 (lp : Int)) := (cell_at hb3 _).trans rfl
        have n1' : w3.cell? ⟨w2.heap.size, 1, none⟩ = some (.slice Aa pp.length ca) := (cell_at hb3 _).trans rfl
        have hs3 : w2.heap.size < w3.heap.size := Nat.lt_of_lt_of_le hBw B5.size
        have HB3 := Lib.hid hb3; have HR5 := Lib.hid R5; have HB5 := Lib.hid B5
        clear hb3 R5 B5
        go_wp2_with fail
        refine (HJ.out A5 c5 _ (((HRd.out.below HB5.out HB5.out.size)).on (one_below w3 _)) (HR5.out.on (one_below w3 _))).mono ?_
        rintro e w5 ⟨A6, c6, rfl, R6, B6⟩
        have hb4 : w5.heap[w2.heap.size]? = some (.cells #[.int .i64 (lp : Int), .slice Aa pp.length ca] 31 (0, 0)) := (B6.block _ (by rw [World.size_alloc]; omega)).trans ((Below.heap_alloc _ _ _ hs3).trans HB3.out)
        have q0 : w5.cell? ⟨w2.heap.size, 0, none⟩ = some (.int .i64 (lp : Int)) := (cell_at hb4 _).trans rfl
        have q1 : w5.cell? ⟨w2.heap.size, 1, none⟩ = some (.slice Aa pp.length ca) := (cell_at hb4 _).trans rfl
        have f0 := frz_at hb4 0
        have f1 := frz_at hb4 1
        have HB6 : Hid (Below w2.heap.size w2 w5) := HBel.out.trans ((HB5.out.trans (((one_below w3 _).trans (B6.mono (by rw [World.size_alloc]; omega))).mono HB5.out.size)).mono HBel.out.size)
        have HB8 : Hid (Below w2.heap.size w2 ((w5.setCell ⟨w2.heap.size, 0, none⟩ (.int .i64 0)).setCell ⟨w2.heap.size, 1, none⟩ (.slice A6 0 c6))) := (HB6.out.setCell (Nat.le_refl _) _).setCell (Nat.le_refl _) _
        clear hb4 R6 B6 n0 n1'
        obtain ⟨⟨d0, d1, g0, g1⟩, HG2⟩ := gv_store2 (w := w) (w1 := (w5.setCell ⟨w2.heap.size, 0, none⟩ (.int .i64 0)).setCell ⟨w2.heap.size, 1, none⟩ (.slice A6 0 c6)) (len := 0) (n := 0) (bs := []) (A := none) (c := 0) (r := w.heap.size) (Rd.nil _ _ none) (Nat.le_refl _) ((HB8.out.block _ HLow.out.2.2).trans HLow.out.2.1) (HLow.out.1.trans (HB8.out.mono HLow.out.1.size)) 8
        have hs8 := HLow.out.2.2
        go_wp2
        exact bodyPost_ret (v := .tuple #[.agg #[.int .i64 0, .slice none 0 0], .int .i64 8]) (by simp [results, Try.results21, go_sem, d0, d1]) rfl HG2.out
    · have e : gs.take i = gs := List.take_of_length_le (by rw [HL.out]; omega)
      rw [e] at HBox HRd htot
      obtain ⟨rfl, rfl⟩ := H1.out htot
      generalize zets k gs = Q at *
      have n0 : wr.cell? ⟨w2.heap.size, 0, none⟩ = some (.int .i64 (Q.length : Int)) := (cell_at HBox.out _).trans rfl
      have n1' : wr.cell? ⟨w2.heap.size, 1, none⟩ = some (.slice Aa (pack Q).length ca) := (cell_at HBox.out _).trans rfl
      obtain ⟨⟨d0, d1, g0, g1⟩, HG2⟩ := gv_store (w := w) (w1 := wr) (L := Q) (A := Aa) (c := ca) (r := w.heap.size) HRd.out (Nat.le_refl _) ((hbel.block _ HLow.out.2.2).trans HLow.out.2.1) (HLow.out.1.trans (hbel.mono HLow.out.1.size))
      clear hbel e htot
      generalize Q.length = lq at *
      generalize (pack Q).length = nq at *
      go_wp2
      exact bodyPost_ret (v := .tuple #[.agg #[.int .i64 (lq : Int), .slice Aa nq ca], .int .i64 0]) (by simp [results, Try.results21, go_sem, d0, d1]) rfl HG2.out
theorem write_any (xs : List Int) (n : Nat) (hn : xs.length = n) (hn2 : n ≤ 9223372036854775807) (a k : Int) (A : Option Addr) (c : Nat) (w : World) (h : RdV w w.heap.size A (zc xs)) (l : List Nat) (m j : Nat) (hx : xs = ns l) (hl : Rising l) (ha : a = (m : Int)) (hm : m ≤ 1048576) (hk : k = (j : Int)) (hj1 : 1 ≤ j) (hj2 : j ≤ 16) :
    Calls Try.prog 21 #[.slice A n c, .int .i64 a, .int .i64 k] w (Gave w (if (zets j (gps (m : Int) l)).length ≤ 8192 then zets j (gps (m : Int) l) else []) (if (zets j (gps (m : Int) l)).length ≤ 8192 then 0 else 8)) := by
  subst hx; subst ha; subst hk
  refine write_in l hl n (by rw [ns_length] at hn; exact hn) m hm j hj1 hj2 _ rfl _ _ (fun h => ?_) (fun h => ?_) A c w h
  · rw [if_pos h, if_pos h]; exact ⟨rfl, rfl⟩
  · rw [if_neg (by omega), if_neg (by omega)]; exact ⟨rfl, rfl⟩
end Go.Proofs.Ytbakojhamaladaa
