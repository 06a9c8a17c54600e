/- The program's gamma and delta codes: what Gamma and Delta answer, whatever they are handed; each with its conditions. -/
import Derived.Test.YtcacbekdghlncaaELib
import Derived.Test.YtcacbekdghlncaaRefGen
import Derived.Deep.RegionHeld3
namespace Go.Proofs.Ytcacbekdghlncaa
set_option maxRecDepth 100000
set_option linter.unusedVariables false
open Go.RowKit

/-- gv_store, in letters. -/
theorem gv_store2 {w w1 : World} {len : Int} {n : Nat} {bs : List Nat} {A : Option Addr} {c r : Nat} (R1 : Rd w1 w1.heap.size A bs) (hr : w.heap.size ≤ r) (hrb : w1.heap[r]? = some (.cells #[.int .i64 0, .slice none 0 0] 25 (0, 0))) (hlow : Below w.heap.size w w1) (err : Int) :
    (w1.cell? ⟨r, 0, none⟩ = some (.int .i64 0) ∧ w1.cell? ⟨r, 1, none⟩ = some (.slice none 0 0) ∧ w1.frozen? ⟨r, 0, none⟩ = false ∧ w1.frozen? ⟨r, 1, none⟩ = false) ∧
    Hid (Gv w len n bs err (.returned (.tuple #[.agg #[.int .i64 len, .slice A n c], .int .i64 err])) ((w1.setCell ⟨r, 0, none⟩ (.int .i64 len)).setCell ⟨r, 1, none⟩ (.slice A n c))) := by
  refine ⟨blk_cells hrb, A, c, rfl, ?_, (hlow.setCell (p := ⟨r, 0, none⟩) hr _).setCell (p := ⟨r, 1, none⟩) hr _⟩
  have r1 := R1.setK (i := 0) (.int .i64 len) hrb
  have hr2 : (w1.setCell ⟨r, 0, none⟩ (.int .i64 len)).heap[r]? = some (.cells #[.int .i64 len, .slice none 0 0] 25 (0, 0)) := by
    rw [heap_set_same _ _ _ _ 25 _ hrb]; simp
  have r2 := r1.setK (i := 1) (.slice A n c) hr2
  have e : ((w1.setCell ⟨r, 0, none⟩ (.int .i64 len)).setCell ⟨r, 1, none⟩ (.slice A n c)).heap.size = w1.heap.size := by simp [World.setCell]
  rw [e]
  exact r2
/-- The result's place, behind a call. -/
theorem res_at {w w1 : World} (B1 : Below (w.alloc (.cells #[.int .i64 0, .slice none 0 0] 25)).heap.size (w.alloc (.cells #[.int .i64 0, .slice none 0 0] 25)) w1) :
    w1.heap[w.heap.size]? = some (.cells #[.int .i64 0, .slice none 0 0] 25 (0, 0)) ∧ Below w.heap.size w w1 ∧ w.heap.size < w1.heap.size := by
  have h := B1.size
  rw [World.size_alloc] at h
  refine ⟨(B1.block _ (by rw [World.size_alloc]; omega)).trans (World.alloc_heap_new w _), (one_below w _).trans (B1.mono (by rw [World.size_alloc]; omega)), by omega⟩
theorem box_held {V w' : World} {a b : Value} (h : w'.heap[V.heap.size]? = (V.alloc (.cells #[a, b] 25)).heap[V.heap.size]?) :
    w'.cell? ⟨V.heap.size, 0, none⟩ = some a ∧ w'.cell? ⟨V.heap.size, 1, none⟩ = some b := by
  have e := h.trans (World.alloc_heap_new V (.cells #[a, b] 25))
  exact ⟨(blk_cells e).1, (blk_cells e).2.1⟩
theorem u64w (x : Int) (h0 : 0 ≤ x) (h1 : x < 18446744073709551616) : IntKind.u64.wrap x = x := by
  simp [IntKind.wrap, IntKind.bits, IntKind.signed]; omega
theorem sub_w (n k m : Nat) (hn : n ≤ 1099511627776) (hk : k ≤ 40) (hm : n + 1 = 2 ^ k + m) : IntKind.u64.wrap (IntKind.u64.wrap ((n : Int) + 1) - IntKind.u64.wrap (2 ^ k)) = (m : Int) := by
  have h := Nat.pow_le_pow_right (n := 2) (by omega) hk
  have e : ((2 : Int) ^ k) = ((2 ^ k : Nat) : Int) := by simp
  rw [e]
  generalize 2 ^ k = q at *
  rw [u64w ((n : Int) + 1) (by omega) (by omega), u64w (q : Int) (by omega) (by omega), u64w _ (by omega) (by omega)]
  omega

set_option maxHeartbeats 2000000 in
theorem write_u (n k m : Nat) (hn : n ≤ 1099511627776) (hk : k ≤ 40) (hm : n + 1 = 2 ^ k + m) (lS lL : Int) (nS nL : Nat) (bS bL : List Nat)
    (HT : Hid (∀ V, Calls Try.prog 57 #[.int .u64 (n : Int)] V fun e w' => e = .returned (.int .i64 (k : Int)) ∧ V = w'))
    (HF : Hid (∀ V, Calls Try.prog 54 #[.int .u64 (k : Int)] V (Gv V lS nS bS 0)))
    (HP : Hid (∀ A c V, Rd V V.heap.size A bS → Calls Try.prog 65 #[.agg #[.int .i64 lS, .slice A nS c], .int .u64 (m : Int), .int .i64 (k : Int)] V (Gv V lL nL bL 0))) (w : World) :
    Calls Try.prog 53 #[.int .u64 (n : Int), .func (.func 54) #[] #[]] w (Gv w lL nL bL 0) := by
  have t1 : decide ((n : Int) ≤ 1099511627776) = true := by simp; omega
  have k0 : (0 : Int) ≤ (k : Int) := by omega
  go_enter Try.func53, Try.ntmps53
  go_wp2_with fail
  refine (range1 0 true 0 rfl _ _ (World.size_alloc _ _)).mono ?_
  rintro e w1 ⟨rfl, B1⟩
  have HA := Lib.hid (res_at B1)
  clear B1
  go_wp2_with fail
  refine (HT.out _).mono ?_
  rintro e _ ⟨rfl, rfl⟩
  go_wp2_with fail
  refine (HF.out _).mono ?_
  rintro e w2 ⟨A1, c1, rfl, R1, B2⟩
  have HLow : Hid (Below w.heap.size w w2) := HA.out.2.1.trans (B2.mono (Nat.le_of_lt HA.out.2.2))
  have HRes : Hid (w2.heap[w.heap.size]? = some (.cells #[.int .i64 0, .slice none 0 0] 25 (0, 0))) := (B2.block _ HA.out.2.2).trans HA.out.1
  have HLt : Hid (w.heap.size < w2.heap.size) := Nat.lt_of_lt_of_le HA.out.2.2 B2.size
  have HR := Lib.hid R1
  clear R1 B2
  go_wp2_with fail
  generalize hV : w2.alloc (.cells #[.int .i64 lS, .slice A1 nS c1] 25) = V
  have HVb : Hid (Below w2.heap.size w2 V) := hV ▸ one_below _ _
  have HK : Hid (∀ w' : World, w'.heap[w2.heap.size]? = V.heap[w2.heap.size]? → w'.cell? ⟨w2.heap.size, 0, none⟩ = some (.int .i64 lS) ∧ w'.cell? ⟨w2.heap.size, 1, none⟩ = some (.slice A1 nS c1)) := by
    subst hV
    exact fun w' h => box_held h
  have HSz0 : w2.heap.size < V.heap.size := by subst hV; rw [World.size_alloc]; omega
  clear hV
  have HRV : Hid (Rd V V.heap.size A1 bS) := HR.out.on HVb.out
  have HG : Hid (∀ w6 A4 c4, Rd w6 w6.heap.size A4 bL → Below V.heap.size V w6 → (w6.cell? ⟨w.heap.size, 0, none⟩ = some (.int .i64 0) ∧ w6.cell? ⟨w.heap.size, 1, none⟩ = some (.slice none 0 0) ∧ w6.frozen? ⟨w.heap.size, 0, none⟩ = false ∧ w6.frozen? ⟨w.heap.size, 1, none⟩ = false) ∧
      Hid (Gv w lL nL bL 0 (.returned (.tuple #[.agg #[.int .i64 lL, .slice A4 nL c4], .int .i64 0])) ((w6.setCell ⟨w.heap.size, 0, none⟩ (.int .i64 lL)).setCell ⟨w.heap.size, 1, none⟩ (.slice A4 nL c4)))) := by
    intro w6 A4 c4 R4 B4
    have b6 : Below w2.heap.size w2 w6 := HVb.out.trans (B4.mono HVb.out.size)
    exact gv_store2 R4 (Nat.le_refl _) ((b6.block _ HLt.out).trans HRes.out) (HLow.out.trans (b6.mono HLow.out.size)) 0
  have HNe : Hid (w2.heap.size ≠ w.heap.size) := fun e => by have := HLt.out; omega
  have HW := Lib.hid (sub_w n k m hn hk hm)
  have HSz : Hid (w2.heap.size < V.heap.size) := HSz0
  clear HA HF HT HR hm
  go_region_held3 (fun w' => w'.cell? ⟨w2.heap.size, 0, none⟩ = some (.int .i64 lS) ∧ w'.cell? ⟨w2.heap.size, 1, none⟩ = some (.slice A1 nS c1))
    ((refine HK.out _ ?_; first | exact (Below.heap_setCell _ _ _ _ HNe.out).trans ((Below.heap_setCell _ _ _ _ HNe.out).trans hb6.out) | exact (Below.heap_setCell _ _ _ _ HNe.out).trans hb6.out | exact hb6.out | exact rfl))
    (first
      | (go_at_call 65; rw [HW.out]; refine (HP.out A1 c1 V.drew HRV.out).mono ?_; rintro e w6 ⟨A4, c4, rfl, R4, B4⟩; have hk6 : Hid (Below V.heap.size V w6) := ((Below.refl _ V).drew).trans B4; have hb6 : Hid (w6.heap[w2.heap.size]? = V.heap[w2.heap.size]?) := hk6.out.block _ HSz.out; obtain ⟨⟨d0, d1, g0, g1⟩, HGf⟩ := HG.out w6 A4 c4 R4 hk6.out; clear R4 B4))
  go_wp2
  exact bodyPost_ret (v := .tuple #[.agg #[.int .i64 lL, .slice A4 nL c4], .int .i64 0]) (by simp [results, Try.results53, go_sem, d0, d1]) rfl HGf.out
set_option maxHeartbeats 2000000 in
theorem write_g (n k m : Nat) (hn : n ≤ 1099511627776) (hk : k ≤ 40) (hm : n + 1 = 2 ^ k + m) (lS lL : Int) (nS nL : Nat) (bS bL : List Nat)
    (HT : Hid (∀ V, Calls Try.prog 57 #[.int .u64 (n : Int)] V fun e w' => e = .returned (.int .i64 (k : Int)) ∧ V = w'))
    (HF : Hid (∀ V, Calls Try.prog 15 #[.int .u64 (k : Int)] V (Gv V lS nS bS 0)))
    (HP : Hid (∀ A c V, Rd V V.heap.size A bS → Calls Try.prog 65 #[.agg #[.int .i64 lS, .slice A nS c], .int .u64 (m : Int), .int .i64 (k : Int)] V (Gv V lL nL bL 0))) (w : World) :
    Calls Try.prog 53 #[.int .u64 (n : Int), .func (.func 15) #[] #[]] w (Gv w lL nL bL 0) := by
  have t1 : decide ((n : Int) ≤ 1099511627776) = true := by simp; omega
  have k0 : (0 : Int) ≤ (k : Int) := by omega
  go_enter Try.func53, Try.ntmps53
  go_wp2_with fail
  refine (range1 0 true 0 rfl _ _ (World.size_alloc _ _)).mono ?_
  rintro e w1 ⟨rfl, B1⟩
  have HA := Lib.hid (res_at B1)
  clear B1
  go_wp2_with fail
  refine (HT.out _).mono ?_
  rintro e _ ⟨rfl, rfl⟩
  go_wp2_with fail
  refine (HF.out _).mono ?_
  rintro e w2 ⟨A1, c1, rfl, R1, B2⟩
  have HLow : Hid (Below w.heap.size w w2) := HA.out.2.1.trans (B2.mono (Nat.le_of_lt HA.out.2.2))
  have HRes : Hid (w2.heap[w.heap.size]? = some (.cells #[.int .i64 0, .slice none 0 0] 25 (0, 0))) := (B2.block _ HA.out.2.2).trans HA.out.1
  have HLt : Hid (w.heap.size < w2.heap.size) := Nat.lt_of_lt_of_le HA.out.2.2 B2.size
  have HR := Lib.hid R1
  clear R1 B2
  go_wp2_with fail
  generalize hV : w2.alloc (.cells #[.int .i64 lS, .slice A1 nS c1] 25) = V
  have HVb : Hid (Below w2.heap.size w2 V) := hV ▸ one_below _ _
  have HK : Hid (∀ w' : World, w'.heap[w2.heap.size]? = V.heap[w2.heap.size]? → w'.cell? ⟨w2.heap.size, 0, none⟩ = some (.int .i64 lS) ∧ w'.cell? ⟨w2.heap.size, 1, none⟩ = some (.slice A1 nS c1)) := by
    subst hV
    exact fun w' h => box_held h
  have HSz0 : w2.heap.size < V.heap.size := by subst hV; rw [World.size_alloc]; omega
  clear hV
  have HRV : Hid (Rd V V.heap.size A1 bS) := HR.out.on HVb.out
  have HG : Hid (∀ w6 A4 c4, Rd w6 w6.heap.size A4 bL → Below V.heap.size V w6 → (w6.cell? ⟨w.heap.size, 0, none⟩ = some (.int .i64 0) ∧ w6.cell? ⟨w.heap.size, 1, none⟩ = some (.slice none 0 0) ∧ w6.frozen? ⟨w.heap.size, 0, none⟩ = false ∧ w6.frozen? ⟨w.heap.size, 1, none⟩ = false) ∧
      Hid (Gv w lL nL bL 0 (.returned (.tuple #[.agg #[.int .i64 lL, .slice A4 nL c4], .int .i64 0])) ((w6.setCell ⟨w.heap.size, 0, none⟩ (.int .i64 lL)).setCell ⟨w.heap.size, 1, none⟩ (.slice A4 nL c4)))) := by
    intro w6 A4 c4 R4 B4
    have b6 : Below w2.heap.size w2 w6 := HVb.out.trans (B4.mono HVb.out.size)
    exact gv_store2 R4 (Nat.le_refl _) ((b6.block _ HLt.out).trans HRes.out) (HLow.out.trans (b6.mono HLow.out.size)) 0
  have HNe : Hid (w2.heap.size ≠ w.heap.size) := fun e => by have := HLt.out; omega
  have HW := Lib.hid (sub_w n k m hn hk hm)
  have HSz : Hid (w2.heap.size < V.heap.size) := HSz0
  clear HA HF HT HR hm
  go_region_held3 (fun w' => w'.cell? ⟨w2.heap.size, 0, none⟩ = some (.int .i64 lS) ∧ w'.cell? ⟨w2.heap.size, 1, none⟩ = some (.slice A1 nS c1))
    ((refine HK.out _ ?_; first | exact (Below.heap_setCell _ _ _ _ HNe.out).trans ((Below.heap_setCell _ _ _ _ HNe.out).trans hb6.out) | exact (Below.heap_setCell _ _ _ _ HNe.out).trans hb6.out | exact hb6.out | exact rfl))
    (first
      | (go_at_call 65; rw [HW.out]; refine (HP.out A1 c1 V.drew HRV.out).mono ?_; rintro e w6 ⟨A4, c4, rfl, R4, B4⟩; have hk6 : Hid (Below V.heap.size V w6) := ((Below.refl _ V).drew).trans B4; have hb6 : Hid (w6.heap[w2.heap.size]? = V.heap[w2.heap.size]?) := hk6.out.block _ HSz.out; obtain ⟨⟨d0, d1, g0, g1⟩, HGf⟩ := HG.out w6 A4 c4 R4 hk6.out; clear R4 B4))
  go_wp2
  exact bodyPost_ret (v := .tuple #[.agg #[.int .i64 lL, .slice A4 nL c4], .int .i64 0]) (by simp [results, Try.results53, go_sem, d0, d1]) rfl HGf.out
set_option maxHeartbeats 2000000 in
theorem write_u_e (n : Nat) (hn : 1099511627776 < n) (w : World) :
    Calls Try.prog 53 #[.int .u64 (n : Int), .func (.func 54) #[] #[]] w (Gv w 0 0 (pack []) 3) := by
  have t1 : decide ((n : Int) ≤ 1099511627776) = false := by simp; omega
  go_enter Try.func53, Try.ntmps53
  go_wp2_with fail
  refine (range1 0 false 3 rfl _ _ (World.size_alloc _ _)).mono ?_
  rintro e w1 ⟨rfl, B1⟩
  obtain ⟨hr, hb, _⟩ := res_at B1
  obtain ⟨⟨d0, d1, g0, g1⟩, HG⟩ := gv_store2 (len := 0) (n := 0) (A := none) (c := 0) (Rd.nil w1 _ none) (Nat.le_refl _) hr hb 3
  clear hr hb B1
  go_wp2
  exact bodyPost_ret (v := .tuple #[.agg #[.int .i64 0, .slice none 0 0], .int .i64 3]) (by simp [results, Try.results53, go_sem, d0, d1]) rfl HG.out
set_option maxHeartbeats 2000000 in
theorem write_g_e (n : Nat) (hn : 1099511627776 < n) (w : World) :
    Calls Try.prog 53 #[.int .u64 (n : Int), .func (.func 15) #[] #[]] w (Gv w 0 0 (pack []) 3) := by
  have t1 : decide ((n : Int) ≤ 1099511627776) = false := by simp; omega
  go_enter Try.func53, Try.ntmps53
  go_wp2_with fail
  refine (range1 0 false 3 rfl _ _ (World.size_alloc _ _)).mono ?_
  rintro e w1 ⟨rfl, B1⟩
  obtain ⟨hr, hb, _⟩ := res_at B1
  obtain ⟨⟨d0, d1, g0, g1⟩, HG⟩ := gv_store2 (len := 0) (n := 0) (A := none) (c := 0) (Rd.nil w1 _ none) (Nat.le_refl _) hr hb 3
  clear hr hb B1
  go_wp2
  exact bodyPost_ret (v := .tuple #[.agg #[.int .i64 0, .slice none 0 0], .int .i64 3]) (by simp [results, Try.results53, go_sem, d0, d1]) rfl HG.out
set_option maxHeartbeats 2000000 in
theorem gamma_pass (n : Nat) (l e0 : Int) (m : Nat) (b : List Nat)
    (HF : Hid (∀ V, Calls Try.prog 53 #[.int .u64 (n : Int), .func (.func 54) #[] #[]] V (Gv V l m b e0))) (w : World) :
    Calls Try.prog 15 #[.int .u64 (n : Int)] w (Gv w l m b e0) := by
  go_enter Try.func15, Try.ntmps15
  go_wp2_with fail
  refine (HF.out _).mono ?_
  rintro e w1 ⟨A1, c1, rfl, R1, B1⟩
  obtain ⟨hr, hb, _⟩ := res_at B1
  obtain ⟨⟨d0, d1, g0, g1⟩, HG⟩ := gv_store2 (len := l) (n := m) (A := A1) (c := c1) R1 (Nat.le_refl _) hr hb e0
  clear hr hb B1 R1
  go_wp2
  exact bodyPost_ret (v := .tuple #[.agg #[.int .i64 l, .slice A1 m c1], .int .i64 e0]) (by simp [results, Try.results15, go_sem, d0, d1]) rfl HG.out
set_option maxHeartbeats 2000000 in
theorem delta_pass (n : Nat) (l e0 : Int) (m : Nat) (b : List Nat)
    (HF : Hid (∀ V, Calls Try.prog 53 #[.int .u64 (n : Int), .func (.func 15) #[] #[]] V (Gv V l m b e0))) (w : World) :
    Calls Try.prog 16 #[.int .u64 (n : Int)] w (Gv w l m b e0) := by
  go_enter Try.func16, Try.ntmps16
  go_wp2_with fail
  refine (HF.out _).mono ?_
  rintro e w1 ⟨A1, c1, rfl, R1, B1⟩
  obtain ⟨hr, hb, _⟩ := res_at B1
  obtain ⟨⟨d0, d1, g0, g1⟩, HG⟩ := gv_store2 (len := l) (n := m) (A := A1) (c := c1) R1 (Nat.le_refl _) hr hb e0
  clear hr hb B1 R1
  go_wp2
  exact bodyPost_ret (v := .tuple #[.agg #[.int .i64 l, .slice A1 m c1], .int .i64 e0]) (by simp [results, Try.results16, go_sem, d0, d1]) rfl HG.out

/-- Gamma and Delta. -/
def mxE (n : Nat) : Int := if 1099511627776 < n then 3 else 0
theorem gamma_ok (n : Nat) (hn : n ≤ 1099511627776) (L : List Bool) (hL : L = gam n) (w : World) : Calls Try.prog 15 #[.int .u64 (n : Int)] w (Gv w (L.length : Int) (pack L).length (pack L) 0) := by
  have h1 := lg_le n
  have h2 := lg_lt n
  have h40 := lg_lt_of n 41 (by omega)
  rw [Nat.pow_succ] at h2
  refine gamma_pass n _ 0 _ _ (fun V => write_u n (lg n) (n + 1 - 2 ^ lg n) hn (by omega) (by omega) _ _ _ _ _ _ (fun V => tail_any n (by omega) V) (fun V => code_any (lg n) (uc (lg n)) 0 (by rw [if_neg (by omega)]) (by rw [if_neg (by omega)]) V) (fun A c V h => ?_) V) w
  exact put_l (uc (lg n)) L A c _ _ (by omega) (Nat.div_eq_of_lt (by omega)) (by rw [uc_length]; omega) (by omega) (by rw [hL, nb_sub _ _ h1 (by rw [Nat.pow_succ]; omega)]; rfl) V h
theorem gamma_e (n : Nat) (hn : 1099511627776 < n) (w : World) : Calls Try.prog 15 #[.int .u64 (n : Int)] w (Gv w 0 0 (pack []) 3) :=
  gamma_pass n _ 3 _ _ (fun V => write_u_e n hn V) w
theorem delta_ok (n : Nat) (hn : n ≤ 1099511627776) (L : List Bool) (hL : L = del n) (w : World) : Calls Try.prog 16 #[.int .u64 (n : Int)] w (Gv w (L.length : Int) (pack L).length (pack L) 0) := by
  have h1 := lg_le n
  have h2 := lg_lt n
  have h40 := lg_lt_of n 41 (by omega)
  have h6 := lg_lt_of (lg n) 6 (by omega)
  rw [Nat.pow_succ] at h2
  refine delta_pass n _ 0 _ _ (fun V => write_g n (lg n) (n + 1 - 2 ^ lg n) hn (by omega) (by omega) _ _ _ _ _ _ (fun V => tail_any n (by omega) V) (fun V => gamma_ok (lg n) (by omega) (gam (lg n)) rfl V) (fun A c V h => ?_) V) w
  exact put_l (gam (lg n)) L A c _ _ (by omega) (Nat.div_eq_of_lt (by omega)) (by rw [gam_length]; omega) (by omega) (by rw [hL, nb_sub _ _ h1 (by rw [Nat.pow_succ]; omega)]; rfl) V h
theorem delta_e (n : Nat) (hn : 1099511627776 < n) (w : World) : Calls Try.prog 16 #[.int .u64 (n : Int)] w (Gv w 0 0 (pack []) 3) :=
  delta_pass n _ 3 _ _ (fun V => write_g_e n hn V) w
theorem gamma_any (n : Nat) (w : World) : Calls Try.prog 15 #[.int .u64 (n : Int)] w (Gv w ((if 1099511627776 < n then [] else gam n).length : Int) (pack (if 1099511627776 < n then [] else gam n)).length (pack (if 1099511627776 < n then [] else gam n)) (mxE n)) := by
  unfold mxE
  by_cases h : 1099511627776 < n
  · rw [if_pos h, if_pos h]; exact gamma_e n h w
  · rw [if_neg h, if_neg h]; exact gamma_ok n (by omega) _ rfl w
theorem delta_any (n : Nat) (w : World) : Calls Try.prog 16 #[.int .u64 (n : Int)] w (Gv w ((if 1099511627776 < n then [] else del n).length : Int) (pack (if 1099511627776 < n then [] else del n)).length (pack (if 1099511627776 < n then [] else del n)) (mxE n)) := by
  unfold mxE
  by_cases h : 1099511627776 < n
  · rw [if_pos h, if_pos h]; exact delta_e n h w
  · rw [if_neg h, if_neg h]; exact delta_ok n (by omega) _ rfl w
end Go.Proofs.Ytcacbekdghlncaa
