/- What gamma, delta, Golomb's and zeta codes are written as by the program, and what Write of gaps answers. -/
import Derived.Test.YticdnodlapafoaaGreatJS3
import Derived.Test.YticdnodlapafoaaGreatJS4
import Derived.Deep.RegionHeld3
import Derived.Test.YticdnodlapafoaaGreatJS5
import Derived.Test.YticdnodlapafoaaGreatJS2
import Derived.Test.YticdnodlapafoaaGreatJSNBk
namespace Go.Proofs.YticdnodlapafoaaGreat
section
set_option maxRecDepth 100000
set_option linter.unusedVariables false
open Go.RowKit

/-- gv_store, in letters. -/
theorem gv_store2 {w w1 : World} {len : Int} {n : Nat} {bs : List Nat} {A : Option Addr} {c r : Nat} (R1 : Rd w1 w1.heap.size A bs) (hr : w.heap.size ≤ r) (hrb : w1.heap[r]? = some (.cells #[.int .i64 0, .slice none 0 0] 27 (0, 0))) (hlow : Below w.heap.size w w1) (err : Int) :
    (w1.cell? ⟨r, 0, none⟩ = some (.int .i64 0) ∧ w1.cell? ⟨r, 1, none⟩ = some (.slice none 0 0) ∧ w1.frozen? ⟨r, 0, none⟩ = false ∧ w1.frozen? ⟨r, 1, none⟩ = false) ∧
    Hid (Gv w len n bs err (.returned (.tuple #[.agg #[.int .i64 len, .slice A n c], .int .i64 err])) ((w1.setCell ⟨r, 0, none⟩ (.int .i64 len)).setCell ⟨r, 1, none⟩ (.slice A n c))) := by
  refine ⟨blk_cells hrb, A, c, rfl, ?_, (hlow.setCell (p := ⟨r, 0, none⟩) hr _).setCell (p := ⟨r, 1, none⟩) hr _⟩
  have r1 := R1.setK (i := 0) (.int .i64 len) hrb
  have hr2 : (w1.setCell ⟨r, 0, none⟩ (.int .i64 len)).heap[r]? = some (.cells #[.int .i64 len, .slice none 0 0] 27 (0, 0)) := by
    rw [heap_set_same _ _ _ _ 27 _ hrb]; simp
  have r2 := r1.setK (i := 1) (.slice A n c) hr2
  have e : ((w1.setCell ⟨r, 0, none⟩ (.int .i64 len)).setCell ⟨r, 1, none⟩ (.slice A n c)).heap.size = w1.heap.size := by simp [World.setCell]
  rw [e]
  exact r2
/-- The result's place, behind a call. -/
theorem res_at {w w1 : World} (B1 : Below (w.alloc (.cells #[.int .i64 0, .slice none 0 0] 27)).heap.size (w.alloc (.cells #[.int .i64 0, .slice none 0 0] 27)) w1) :
    w1.heap[w.heap.size]? = some (.cells #[.int .i64 0, .slice none 0 0] 27 (0, 0)) ∧ Below w.heap.size w w1 ∧ w.heap.size < w1.heap.size := by
  have h := B1.size
  rw [World.size_alloc] at h
  refine ⟨(B1.block _ (by rw [World.size_alloc]; omega)).trans (World.alloc_heap_new w _), (one_below w _).trans (B1.mono (by rw [World.size_alloc]; omega)), by omega⟩
theorem box_held {V w' : World} {a b : Value} (h : w'.heap[V.heap.size]? = (V.alloc (.cells #[a, b] 27)).heap[V.heap.size]?) :
    w'.cell? ⟨V.heap.size, 0, none⟩ = some a ∧ w'.cell? ⟨V.heap.size, 1, none⟩ = some b := by
  have e := h.trans (World.alloc_heap_new V (.cells #[a, b] 27))
  exact ⟨(blk_cells e).1, (blk_cells e).2.1⟩
theorem u64w (x : Int) (h0 : 0 ≤ x) (h1 : x < 18446744073709551616) : IntKind.u64.wrap x = x := by
  simp [IntKind.wrap, IntKind.bits, IntKind.signed]; omega
theorem sub_w (n k m : Nat) (hn : n ≤ 1099511627776) (hk : k ≤ 40) (hm : n + 1 = 2 ^ k + m) : IntKind.u64.wrap (IntKind.u64.wrap ((n : Int) + 1) - IntKind.u64.wrap (2 ^ k)) = (m : Int) := by
  have h := Nat.pow_le_pow_right (n := 2) (by omega) hk
  have e : ((2 : Int) ^ k) = ((2 ^ k : Nat) : Int) := by simp
  rw [e]
  generalize 2 ^ k = q at *
  rw [u64w ((n : Int) + 1) (by omega) (by omega), u64w (q : Int) (by omega) (by omega), u64w _ (by omega) (by omega)]
  omega

set_option maxHeartbeats 2000000 in
theorem write_u (n k m : Nat) (hn : n ≤ 1099511627776) (hk : k ≤ 40) (hm : n + 1 = 2 ^ k + m) (lS lL : Int) (nS nL : Nat) (bS bL : List Nat)
    (HT : Hid (∀ V, Calls Tryz.prog 171 #[.int .u64 (n : Int)] V fun e w' => e = .returned (.int .i64 (k : Int)) ∧ V = w'))
    (HF : Hid (∀ V, Calls Tryz.prog 149 #[.int .u64 (k : Int)] V (Gv V lS nS bS 0)))
    (HP : Hid (∀ A c V, Rd V V.heap.size A bS → Calls Tryz.prog 58 #[.agg #[.int .i64 lS, .slice A nS c], .int .u64 (m : Int), .int .i64 (k : Int)] V (Gv V lL nL bL 0))) (w : World) :
    Calls Tryz.prog 148 #[.int .u64 (n : Int), .func (.func 149) #[] #[]] w (Gv w lL nL bL 0) := by
  have t1 : decide ((n : Int) ≤ 1099511627776) = true := by simp; omega
  have k0 : (0 : Int) ≤ (k : Int) := by omega
  go_enter Tryz.func148, Tryz.ntmps148
  go_wp2_with fail
  refine (range1 0 true 0 rfl _ _ (World.size_alloc _ _)).mono ?_
  rintro e w1 ⟨rfl, B1⟩
  have HA := Lib.hid (res_at B1)
  clear B1
  go_wp2_with fail
  refine (HT.out _).mono ?_
  rintro e _ ⟨rfl, rfl⟩
  go_wp2_with fail
  refine (HF.out _).mono ?_
  rintro e w2 ⟨A1, c1, rfl, R1, B2⟩
  have HLow : Hid (Below w.heap.size w w2) := HA.out.2.1.trans (B2.mono (Nat.le_of_lt HA.out.2.2))
  have HRes : Hid (w2.heap[w.heap.size]? = some (.cells #[.int .i64 0, .slice none 0 0] 27 (0, 0))) := (B2.block _ HA.out.2.2).trans HA.out.1
  have HLt : Hid (w.heap.size < w2.heap.size) := Nat.lt_of_lt_of_le HA.out.2.2 B2.size
  have HR := Lib.hid R1
  clear R1 B2
  go_wp2_with fail
  generalize hV : w2.alloc (.cells #[.int .i64 lS, .slice A1 nS c1] 27) = V
  have HVb : Hid (Below w2.heap.size w2 V) := hV ▸ one_below _ _
  have HK : Hid (∀ w' : World, w'.heap[w2.heap.size]? = V.heap[w2.heap.size]? → w'.cell? ⟨w2.heap.size, 0, none⟩ = some (.int .i64 lS) ∧ w'.cell? ⟨w2.heap.size, 1, none⟩ = some (.slice A1 nS c1)) := by
    subst hV
    exact fun w' h => box_held h
  have HSz0 : w2.heap.size < V.heap.size := by subst hV; rw [World.size_alloc]; omega
  clear hV
  have HRV : Hid (Rd V V.heap.size A1 bS) := HR.out.on HVb.out
  have HG : Hid (∀ w6 A4 c4, Rd w6 w6.heap.size A4 bL → Below V.heap.size V w6 → (w6.cell? ⟨w.heap.size, 0, none⟩ = some (.int .i64 0) ∧ w6.cell? ⟨w.heap.size, 1, none⟩ = some (.slice none 0 0) ∧ w6.frozen? ⟨w.heap.size, 0, none⟩ = false ∧ w6.frozen? ⟨w.heap.size, 1, none⟩ = false) ∧
      Hid (Gv w lL nL bL 0 (.returned (.tuple #[.agg #[.int .i64 lL, .slice A4 nL c4], .int .i64 0])) ((w6.setCell ⟨w.heap.size, 0, none⟩ (.int .i64 lL)).setCell ⟨w.heap.size, 1, none⟩ (.slice A4 nL c4)))) := by
    intro w6 A4 c4 R4 B4
    have b6 : Below w2.heap.size w2 w6 := HVb.out.trans (B4.mono HVb.out.size)
    exact gv_store2 R4 (Nat.le_refl _) ((b6.block _ HLt.out).trans HRes.out) (HLow.out.trans (b6.mono HLow.out.size)) 0
  have HNe : Hid (w2.heap.size ≠ w.heap.size) := fun e => by have := HLt.out; omega
  have HW := Lib.hid (sub_w n k m hn hk hm)
  have HSz : Hid (w2.heap.size < V.heap.size) := HSz0
  clear HA HF HT HR hm
  go_region_held3 (fun w' => w'.cell? ⟨w2.heap.size, 0, none⟩ = some (.int .i64 lS) ∧ w'.cell? ⟨w2.heap.size, 1, none⟩ = some (.slice A1 nS c1))
    ((refine HK.out _ ?_; first | exact (Below.heap_setCell _ _ _ _ HNe.out).trans ((Below.heap_setCell _ _ _ _ HNe.out).trans hb6.out) | exact (Below.heap_setCell _ _ _ _ HNe.out).trans hb6.out | exact hb6.out | exact rfl))
    (first
      | (go_at_call 58; rw [HW.out]; refine (HP.out A1 c1 V.drew HRV.out).mono ?_; rintro e w6 ⟨A4, c4, rfl, R4, B4⟩; have hk6 : Hid (Below V.heap.size V w6) := ((Below.refl _ V).drew).trans B4; have hb6 : Hid (w6.heap[w2.heap.size]? = V.heap[w2.heap.size]?) := hk6.out.block _ HSz.out; obtain ⟨⟨d0, d1, g0, g1⟩, HGf⟩ := HG.out w6 A4 c4 R4 hk6.out; clear R4 B4))
  go_wp2
  exact bodyPost_ret (v := .tuple #[.agg #[.int .i64 lL, .slice A4 nL c4], .int .i64 0]) (by simp [results, Tryz.results148, go_sem, d0, d1]) rfl HGf.out
set_option maxHeartbeats 2000000 in
theorem write_g (n k m : Nat) (hn : n ≤ 1099511627776) (hk : k ≤ 40) (hm : n + 1 = 2 ^ k + m) (lS lL : Int) (nS nL : Nat) (bS bL : List Nat)
    (HT : Hid (∀ V, Calls Tryz.prog 171 #[.int .u64 (n : Int)] V fun e w' => e = .returned (.int .i64 (k : Int)) ∧ V = w'))
    (HF : Hid (∀ V, Calls Tryz.prog 124 #[.int .u64 (k : Int)] V (Gv V lS nS bS 0)))
    (HP : Hid (∀ A c V, Rd V V.heap.size A bS → Calls Tryz.prog 58 #[.agg #[.int .i64 lS, .slice A nS c], .int .u64 (m : Int), .int .i64 (k : Int)] V (Gv V lL nL bL 0))) (w : World) :
    Calls Tryz.prog 148 #[.int .u64 (n : Int), .func (.func 124) #[] #[]] w (Gv w lL nL bL 0) := by
  have t1 : decide ((n : Int) ≤ 1099511627776) = true := by simp; omega
  have k0 : (0 : Int) ≤ (k : Int) := by omega
  go_enter Tryz.func148, Tryz.ntmps148
  go_wp2_with fail
  refine (range1 0 true 0 rfl _ _ (World.size_alloc _ _)).mono ?_
  rintro e w1 ⟨rfl, B1⟩
  have HA := Lib.hid (res_at B1)
  clear B1
  go_wp2_with fail
  refine (HT.out _).mono ?_
  rintro e _ ⟨rfl, rfl⟩
  go_wp2_with fail
  refine (HF.out _).mono ?_
  rintro e w2 ⟨A1, c1, rfl, R1, B2⟩
  have HLow : Hid (Below w.heap.size w w2) := HA.out.2.1.trans (B2.mono (Nat.le_of_lt HA.out.2.2))
  have HRes : Hid (w2.heap[w.heap.size]? = some (.cells #[.int .i64 0, .slice none 0 0] 27 (0, 0))) := (B2.block _ HA.out.2.2).trans HA.out.1
  have HLt : Hid (w.heap.size < w2.heap.size) := Nat.lt_of_lt_of_le HA.out.2.2 B2.size
  have HR := Lib.hid R1
  clear R1 B2
  go_wp2_with fail
  generalize hV : w2.alloc (.cells #[.int .i64 lS, .slice A1 nS c1] 27) = V
  have HVb : Hid (Below w2.heap.size w2 V) := hV ▸ one_below _ _
  have HK : Hid (∀ w' : World, w'.heap[w2.heap.size]? = V.heap[w2.heap.size]? → w'.cell? ⟨w2.heap.size, 0, none⟩ = some (.int .i64 lS) ∧ w'.cell? ⟨w2.heap.size, 1, none⟩ = some (.slice A1 nS c1)) := by
    subst hV
    exact fun w' h => box_held h
  have HSz0 : w2.heap.size < V.heap.size := by subst hV; rw [World.size_alloc]; omega
  clear hV
  have HRV : Hid (Rd V V.heap.size A1 bS) := HR.out.on HVb.out
  have HG : Hid (∀ w6 A4 c4, Rd w6 w6.heap.size A4 bL → Below V.heap.size V w6 → (w6.cell? ⟨w.heap.size, 0, none⟩ = some (.int .i64 0) ∧ w6.cell? ⟨w.heap.size, 1, none⟩ = some (.slice none 0 0) ∧ w6.frozen? ⟨w.heap.size, 0, none⟩ = false ∧ w6.frozen? ⟨w.heap.size, 1, none⟩ = false) ∧
      Hid (Gv w lL nL bL 0 (.returned (.tuple #[.agg #[.int .i64 lL, .slice A4 nL c4], .int .i64 0])) ((w6.setCell ⟨w.heap.size, 0, none⟩ (.int .i64 lL)).setCell ⟨w.heap.size, 1, none⟩ (.slice A4 nL c4)))) := by
    intro w6 A4 c4 R4 B4
    have b6 : Below w2.heap.size w2 w6 := HVb.out.trans (B4.mono HVb.out.size)
    exact gv_store2 R4 (Nat.le_refl _) ((b6.block _ HLt.out).trans HRes.out) (HLow.out.trans (b6.mono HLow.out.size)) 0
  have HNe : Hid (w2.heap.size ≠ w.heap.size) := fun e => by have := HLt.out; omega
  have HW := Lib.hid (sub_w n k m hn hk hm)
  have HSz : Hid (w2.heap.size < V.heap.size) := HSz0
  clear HA HF HT HR hm
  go_region_held3 (fun w' => w'.cell? ⟨w2.heap.size, 0, none⟩ = some (.int .i64 lS) ∧ w'.cell? ⟨w2.heap.size, 1, none⟩ = some (.slice A1 nS c1))
    ((refine HK.out _ ?_; first | exact (Below.heap_setCell _ _ _ _ HNe.out).trans ((Below.heap_setCell _ _ _ _ HNe.out).trans hb6.out) | exact (Below.heap_setCell _ _ _ _ HNe.out).trans hb6.out | exact hb6.out | exact rfl))
    (first
      | (go_at_call 58; rw [HW.out]; refine (HP.out A1 c1 V.drew HRV.out).mono ?_; rintro e w6 ⟨A4, c4, rfl, R4, B4⟩; have hk6 : Hid (Below V.heap.size V w6) := ((Below.refl _ V).drew).trans B4; have hb6 : Hid (w6.heap[w2.heap.size]? = V.heap[w2.heap.size]?) := hk6.out.block _ HSz.out; obtain ⟨⟨d0, d1, g0, g1⟩, HGf⟩ := HG.out w6 A4 c4 R4 hk6.out; clear R4 B4))
  go_wp2
  exact bodyPost_ret (v := .tuple #[.agg #[.int .i64 lL, .slice A4 nL c4], .int .i64 0]) (by simp [results, Tryz.results148, go_sem, d0, d1]) rfl HGf.out
set_option maxHeartbeats 2000000 in
theorem write_u_e (n : Nat) (hn : 1099511627776 < n) (w : World) :
    Calls Tryz.prog 148 #[.int .u64 (n : Int), .func (.func 149) #[] #[]] w (Gv w 0 0 (pack []) 3) := by
  have t1 : decide ((n : Int) ≤ 1099511627776) = false := by simp; omega
  go_enter Tryz.func148, Tryz.ntmps148
  go_wp2_with fail
  refine (range1 0 false 3 rfl _ _ (World.size_alloc _ _)).mono ?_
  rintro e w1 ⟨rfl, B1⟩
  obtain ⟨hr, hb, _⟩ := res_at B1
  obtain ⟨⟨d0, d1, g0, g1⟩, HG⟩ := gv_store2 (len := 0) (n := 0) (A := none) (c := 0) (Rd.nil w1 _ none) (Nat.le_refl _) hr hb 3
  clear hr hb B1
  go_wp2
  exact bodyPost_ret (v := .tuple #[.agg #[.int .i64 0, .slice none 0 0], .int .i64 3]) (by simp [results, Tryz.results148, go_sem, d0, d1]) rfl HG.out
set_option maxHeartbeats 2000000 in
theorem write_g_e (n : Nat) (hn : 1099511627776 < n) (w : World) :
    Calls Tryz.prog 148 #[.int .u64 (n : Int), .func (.func 124) #[] #[]] w (Gv w 0 0 (pack []) 3) := by
  have t1 : decide ((n : Int) ≤ 1099511627776) = false := by simp; omega
  go_enter Tryz.func148, Tryz.ntmps148
  go_wp2_with fail
  refine (range1 0 false 3 rfl _ _ (World.size_alloc _ _)).mono ?_
  rintro e w1 ⟨rfl, B1⟩
  obtain ⟨hr, hb, _⟩ := res_at B1
  obtain ⟨⟨d0, d1, g0, g1⟩, HG⟩ := gv_store2 (len := 0) (n := 0) (A := none) (c := 0) (Rd.nil w1 _ none) (Nat.le_refl _) hr hb 3
  clear hr hb B1
  go_wp2
  exact bodyPost_ret (v := .tuple #[.agg #[.int .i64 0, .slice none 0 0], .int .i64 3]) (by simp [results, Tryz.results148, go_sem, d0, d1]) rfl HG.out
set_option maxHeartbeats 2000000 in
theorem gamma_pass (n : Nat) (l e0 : Int) (m : Nat) (b : List Nat)
    (HF : Hid (∀ V, Calls Tryz.prog 148 #[.int .u64 (n : Int), .func (.func 149) #[] #[]] V (Gv V l m b e0))) (w : World) :
    Calls Tryz.prog 124 #[.int .u64 (n : Int)] w (Gv w l m b e0) := by
  go_enter Tryz.func124, Tryz.ntmps124
  go_wp2_with fail
  refine (HF.out _).mono ?_
  rintro e w1 ⟨A1, c1, rfl, R1, B1⟩
  obtain ⟨hr, hb, _⟩ := res_at B1
  obtain ⟨⟨d0, d1, g0, g1⟩, HG⟩ := gv_store2 (len := l) (n := m) (A := A1) (c := c1) R1 (Nat.le_refl _) hr hb e0
  clear hr hb B1 R1
  go_wp2
  exact bodyPost_ret (v := .tuple #[.agg #[.int .i64 l, .slice A1 m c1], .int .i64 e0]) (by simp [results, Tryz.results124, go_sem, d0, d1]) rfl HG.out
/-- Gamma and Delta. -/
def mxE (n : Nat) : Int := if 1099511627776 < n then 3 else 0
theorem gamma_ok (n : Nat) (hn : n ≤ 1099511627776) (L : List Bool) (hL : L = gam n) (w : World) : Calls Tryz.prog 124 #[.int .u64 (n : Int)] w (Gv w (L.length : Int) (pack L).length (pack L) 0) := by
  have h1 := lg_le n
  have h2 := lg_lt n
  have h40 := lg_lt_of n 41 (by omega)
  rw [Nat.pow_succ] at h2
  refine gamma_pass n _ 0 _ _ (fun V => write_u n (lg n) (n + 1 - 2 ^ lg n) hn (by omega) (by omega) _ _ _ _ _ _ (fun V => tail_any n (by omega) V) (fun V => code_any (lg n) (uc (lg n)) 0 (by rw [if_neg (by omega)]) (by rw [if_neg (by omega)]) V) (fun A c V h => ?_) V) w
  exact put_l (uc (lg n)) L A c _ _ (by omega) (Nat.div_eq_of_lt (by omega)) (by rw [uc_length]; omega) (by omega) (by rw [hL, nb_sub _ _ h1 (by rw [Nat.pow_succ]; omega)]; rfl) V h
theorem gamma_e (n : Nat) (hn : 1099511627776 < n) (w : World) : Calls Tryz.prog 124 #[.int .u64 (n : Int)] w (Gv w 0 0 (pack []) 3) :=
  gamma_pass n _ 3 _ _ (fun V => write_u_e n hn V) w
theorem gamma_any (n : Nat) (w : World) : Calls Tryz.prog 124 #[.int .u64 (n : Int)] w (Gv w ((if 1099511627776 < n then [] else gam n).length : Int) (pack (if 1099511627776 < n then [] else gam n)).length (pack (if 1099511627776 < n then [] else gam n)) (mxE n)) := by
  unfold mxE
  by_cases h : 1099511627776 < n
  · rw [if_pos h, if_pos h]; exact gamma_e n h w
  · rw [if_neg h, if_neg h]; exact gamma_ok n (by omega) _ rfl w
end

section
set_option maxRecDepth 100000
set_option linter.unusedVariables false
open Go.RowKit

def okM (m : Nat) : Bool := decide (1 ≤ m ∧ m ≤ 1099511627776)
def okK (k : Int) : Bool := decide (1 ≤ k ∧ k ≤ 16)
set_option maxHeartbeats 400000 in
theorem isK_any (k : Int) (w : World) : Calls Tryz.prog 56 #[.int .i64 k] w fun e w' => e = .returned (.bool (okK k)) ∧ w = w' := by
  by_cases h1 : 1 ≤ k
  · by_cases h2 : k ≤ 16
    · have e : okK k = true := by unfold okK; simp; omega
      have t1 : decide ((1 : Int) ≤ k) = true := by simp; omega
      have t2 : decide (k ≤ 16) = true := by simp; omega
      rw [e]
      go_enter Tryz.func56, Tryz.ntmps56
      go_wp2
      go_ret
      exact ⟨rfl, rfl⟩
    · have e : okK k = false := by unfold okK; simp; omega
      have t1 : decide ((1 : Int) ≤ k) = true := by simp; omega
      have t2 : decide (k ≤ 16) = false := by simp; omega
      rw [e]
      go_enter Tryz.func56, Tryz.ntmps56
      go_wp2
      go_ret
      exact ⟨rfl, rfl⟩
  · have e : okK k = false := by unfold okK; simp; omega
    have t1 : decide ((1 : Int) ≤ k) = false := by simp; omega
    rw [e]
    go_enter Tryz.func56, Tryz.ntmps56
    go_wp2
    go_ret
    exact ⟨rfl, rfl⟩

theorem bitLen_sz (m : Nat) (h1 : 1 ≤ m) (h2 : m < 18446744073709551616) : Lib.bitLen (m - 1) = sz m := by
  rcases (show m = 1 ∨ ∃ q, m = q + 2 from by
    rcases m with _ | _ | q
    · omega
    · exact .inl rfl
    · exact .inr ⟨q, rfl⟩) with rfl | ⟨q, rfl⟩
  · rfl
  · have e : q + 2 - 1 = q + 1 := by omega
    rw [e, bitLen_succ q (by omega)]
    unfold sz lg
    rw [if_neg (by omega), e]
theorem sub_sh (m z : Nat) (h1 : z ≤ 57) (hm : m ≤ 2 ^ z) (s : Nat) (hs : s + m = 2 ^ z) : IntKind.u64.wrap (IntKind.u64.wrap (2 ^ z) - (m : Int)) = (s : Int) := by
  have h := Nat.pow_le_pow_right (n := 2) (by omega) h1
  have e : ((2 : Int) ^ z) = ((2 ^ z : Nat) : Int) := by simp
  rw [e]
  generalize 2 ^ z = q at *
  rw [u64w (q : Int) (by omega) (by omega), u64w _ (by omega) (by omega)]
  omega
set_option maxHeartbeats 1000000 in
theorem sizes_any (m : Nat) (h1 : 1 ≤ m) (h2 : m ≤ 72057594037927936) (w : World) :
    Calls Tryz.prog 191 #[.int .u64 (m : Int)] w fun e w' => e = .returned (.tuple #[.int .i64 (sz m : Int), .int .u64 (sh m : Int)]) ∧ Below w.heap.size w w' := by
  have HL := Lib.hid (len64_any (m - 1) (by omega))
  rw [bitLen_sz m h1 (by omega)] at HL
  have hz := sz_le m 57 (by omega)
  have HW := Lib.hid (sub_sh m (sz m) hz (sz_ge m) (sh m) (sh_add m))
  have e1 : ((m - 1 : Nat) : Int) = (m : Int) - 1 := by omega
  rw [e1] at HL
  generalize sh m = s at *
  generalize sz m = z at *
  have z0 : (0 : Int) ≤ (z : Int) := by omega
  go_enter Tryz.func191, Tryz.ntmps191
  go_wp2_with fail
  refine (HL.out _).mono ?_
  rintro e _ ⟨rfl, rfl⟩
  go_wp2_with fail
  go_region_held3 (fun _ => True) (trivial) (fail)
  rw [HW.out]
  go_wp2
  go_ret2
  exact ⟨rfl, (Below.refl _ _).drew⟩

theorem str_w (s k f g : Nat) (hs : s ≤ 40) (hk : k ≤ 16) (hf : 2 ^ s = f) (hg : f + g = 2 ^ (s + k)) : IntKind.u64.wrap (IntKind.u64.wrap ((f : Int) * 2 ^ k) - (f : Int)) = (g : Int) := by
  have h := Nat.pow_le_pow_right (n := 2) (by omega) (show s + k ≤ 56 by omega)
  have e : ((f : Int) * 2 ^ k) = ((2 ^ (s + k) : Nat) : Int) := by rw [Nat.pow_add, hf]; simp
  rw [e]
  generalize 2 ^ (s + k) = q at *
  rw [u64w (q : Int) (by omega) (by omega), u64w _ (by omega) (by omega)]
  omega
theorem pow_w (s f : Nat) (hs : s ≤ 40) (hf : 2 ^ s = f) : IntKind.u64.wrap (2 ^ s) = (f : Int) := by
  have h := Nat.pow_le_pow_right (n := 2) (by omega) hs
  have e : ((2 : Int) ^ s) = ((2 ^ s : Nat) : Int) := by simp
  rw [e, hf]
  rw [hf] at h
  exact u64w _ (by omega) (by omega)
set_option maxHeartbeats 1000000 in
theorem stretch_any (s k f g : Nat) (hs : s ≤ 40) (hk : k ≤ 16) (hf : 2 ^ s = f) (hg : f + g = 2 ^ (s + k)) (w : World) :
    Calls Tryz.prog 158 #[.int .i64 (s : Int), .int .i64 (k : Int)] w fun e w' => e = .returned (.tuple #[.int .u64 (f : Int), .int .u64 (g : Int)]) ∧ Below w.heap.size w w' := by
  have HP := Lib.hid (pow_w s f hs hf)
  have HW := Lib.hid (str_w s k f g hs hk hf hg)
  clear hf hg
  have s0 : (0 : Int) ≤ (s : Int) := by omega
  have k0 : (0 : Int) ≤ (k : Int) := by omega
  go_enter Tryz.func158, Tryz.ntmps158
  go_wp2_with fail
  rw [HP.out]
  go_region_held3 (fun _ => True) (trivial) (fail)
  rw [HW.out]
  go_wp2
  go_ret2
  exact ⟨rfl, (Below.refl _ _).drew⟩
end

section
set_option maxRecDepth 100000
set_option linter.unusedVariables false
open Go.RowKit

theorem shl_w (k m : Nat) (hk : k ≤ 63) (hm : m < 2 ^ k) : IntKind.u64.wrap (IntKind.u64.wrap (IntKind.u64.wrap (2 ^ k) + (m : Int)) - 1) = ((2 ^ k + m - 1 : Nat) : Int) := by
  have h := Nat.pow_le_pow_right (n := 2) (by omega) hk
  have e : ((2 : Int) ^ k) = ((2 ^ k : Nat) : Int) := by simp
  have h1 := Nat.two_pow_pos k
  rw [e]
  generalize 2 ^ k = q at *
  rw [u64w (q : Int) (by omega) (by omega), u64w ((q : Int) + (m : Int)) (by omega) (by omega), u64w _ (by omega) (by omega)]
  omega

set_option maxHeartbeats 2000000 in
theorem read_u_e (w : World) (len : Int) (A : Option Addr) (c N : Nat) (bs : List Nat) (p : Int) (hR : Rd w w.heap.size A bs) (k fr : Nat) (e0 : Int) (h0 : e0 ≠ 0)
    (HF : Hid (∀ V, Rd V V.heap.size A bs → Calls Tryz.prog 161 #[.agg #[.int .i64 len, .slice A N c], .int .i64 p] V (ReadP V k fr e0))) :
    Calls Tryz.prog 160 #[.agg #[.int .i64 len, .slice A N c], .int .i64 p, .func (.func 161) #[] #[]] w (ReadP w 0 0 e0) := by
  have HA := Lib.hid hR; clear hR
  have t0 : (e0 != 0) = true := by simpa using h0
  go_enter Tryz.func160, Tryz.ntmps160
  go_wp2_with fail
  refine (HF.out _ (HA.out.on (one_below _ _))).mono ?_
  rintro e w1 ⟨rfl, B1⟩
  have HB : Hid (Below w.heap.size w w1) := (one_below w _).trans (B1.mono (by rw [World.size_alloc]; omega))
  rw [World.size_alloc] at B1
  have HBx := Lib.hid B1
  obtain ⟨p1, q1⟩ := box_at B1
  clear B1
  go_wp2_with fail
  refine (range1 e0 _ e0 (by unfold rgE; rw [if_neg (fun h => h0 h.1)]) _ _ rfl).mono ?_
  rintro e w2 ⟨rfl, B2⟩
  have HB2 : Hid (Below w.heap.size w w2) := HB.out.trans (B2.mono HB.out.size)
  clear B2 h0
  go_wp2
  go_ret3
  exact ⟨rfl, HB2.out⟩
set_option maxHeartbeats 2000000 in
theorem read_u_big (w : World) (len : Int) (A : Option Addr) (c N : Nat) (bs : List Nat) (p : Int) (hR : Rd w w.heap.size A bs) (k fr : Nat) (hk : 63 < k)
    (HF : Hid (∀ V, Rd V V.heap.size A bs → Calls Tryz.prog 161 #[.agg #[.int .i64 len, .slice A N c], .int .i64 p] V (ReadP V k fr 0))) :
    Calls Tryz.prog 160 #[.agg #[.int .i64 len, .slice A N c], .int .i64 p, .func (.func 161) #[] #[]] w (ReadP w 0 0 3) := by
  have HA := Lib.hid hR; clear hR
  have t1 : decide ((k : Int) ≤ 63) = false := by simp; omega
  go_enter Tryz.func160, Tryz.ntmps160
  go_wp2_with fail
  refine (HF.out _ (HA.out.on (one_below _ _))).mono ?_
  rintro e w1 ⟨rfl, B1⟩
  have HB : Hid (Below w.heap.size w w1) := (one_below w _).trans (B1.mono (by rw [World.size_alloc]; omega))
  rw [World.size_alloc] at B1
  have HBx := Lib.hid B1
  obtain ⟨p1, q1⟩ := box_at B1
  clear B1
  go_wp2_with fail
  refine (range1 0 false 3 rfl _ _ rfl).mono ?_
  rintro e w2 ⟨rfl, B2⟩
  have HB2 : Hid (Below w.heap.size w w2) := HB.out.trans (B2.mono HB.out.size)
  clear B2
  go_wp2
  go_ret3
  exact ⟨rfl, HB2.out⟩
set_option maxHeartbeats 2000000 in
theorem read_u_short (w : World) (len : Int) (A : Option Addr) (c N : Nat) (bs : List Nat) (p : Int) (hR : Rd w w.heap.size A bs) (k fr : Nat) (hk : k ≤ 63) (e1 : Int) (h1 : e1 ≠ 0)
    (HF : Hid (∀ V, Rd V V.heap.size A bs → Calls Tryz.prog 161 #[.agg #[.int .i64 len, .slice A N c], .int .i64 p] V (ReadP V k fr 0)))
    (HG : Hid (∀ V, Rd V V.heap.size A bs → Calls Tryz.prog 29 #[.agg #[.int .i64 len, .slice A N c], .int .i64 (fr : Int), .int .i64 (k : Int)] V (Got V 0 e1))) :
    Calls Tryz.prog 160 #[.agg #[.int .i64 len, .slice A N c], .int .i64 p, .func (.func 161) #[] #[]] w (ReadP w 0 0 e1) := by
  have HA := Lib.hid hR; clear hR
  have t1 : decide ((k : Int) ≤ 63) = true := by simp; omega
  have t2 : (e1 != 0) = true := by simpa using h1
  go_enter Tryz.func160, Tryz.ntmps160
  go_wp2_with fail
  refine (HF.out _ (HA.out.on (one_below _ _))).mono ?_
  rintro e w1 ⟨rfl, B1⟩
  have HB : Hid (Below w.heap.size w w1) := (one_below w _).trans (B1.mono (by rw [World.size_alloc]; omega))
  rw [World.size_alloc] at B1
  have HBx := Lib.hid B1
  obtain ⟨p1, q1⟩ := box_at B1
  clear B1
  go_wp2_with fail
  refine (range1 0 true 0 rfl _ _ rfl).mono ?_
  rintro e w2 ⟨rfl, B2⟩
  have HB2 : Hid (Below w.heap.size w w2) := HB.out.trans (B2.mono HB.out.size)
  have HBy : Hid (Below (w.heap.size + 1) (w.alloc (.cells #[.int .i64 len, .slice A N c] 27)) w2) := HBx.out.trans (B2.mono (by have := HBx.out.size; rw [World.size_alloc] at this; omega))
  clear B2 p1 q1 HBx
  obtain ⟨p1, q1⟩ := box_at HBy.out
  go_wp2_with fail
  refine (HG.out _ (HA.out.on HB2.out)).mono ?_
  rintro e w3 ⟨rfl, B3⟩
  have HB3 : Hid (Below w.heap.size w w3) := HB2.out.trans (B3.mono HB2.out.size)
  clear B3
  go_wp2_with fail
  refine (range1 e1 _ e1 (by unfold rgE; rw [if_neg (fun h => h1 h.1)]) _ _ rfl).mono ?_
  rintro e w4 ⟨rfl, B4⟩
  have HB4 : Hid (Below w.heap.size w w4) := HB3.out.trans (B4.mono HB3.out.size)
  clear B4 h1
  go_wp2
  go_ret3
  exact ⟨rfl, HB4.out⟩
set_option maxHeartbeats 2000000 in
theorem read_u_over (w : World) (len : Int) (A : Option Addr) (c N : Nat) (bs : List Nat) (p : Int) (hR : Rd w w.heap.size A bs) (k fr m : Nat) (hk : k ≤ 63) (hm : m < 2 ^ k) (hq : 1099511627776 < 2 ^ k + m - 1)
    (HF : Hid (∀ V, Rd V V.heap.size A bs → Calls Tryz.prog 161 #[.agg #[.int .i64 len, .slice A N c], .int .i64 p] V (ReadP V k fr 0)))
    (HG : Hid (∀ V, Rd V V.heap.size A bs → Calls Tryz.prog 29 #[.agg #[.int .i64 len, .slice A N c], .int .i64 (fr : Int), .int .i64 (k : Int)] V (Got V m 0))) :
    Calls Tryz.prog 160 #[.agg #[.int .i64 len, .slice A N c], .int .i64 p, .func (.func 161) #[] #[]] w (ReadP w 0 0 3) := by
  have HA := Lib.hid hR; clear hR
  have t1 : decide ((k : Int) ≤ 63) = true := by simp; omega
  go_enter Tryz.func160, Tryz.ntmps160
  go_wp2_with fail
  refine (HF.out _ (HA.out.on (one_below _ _))).mono ?_
  rintro e w1 ⟨rfl, B1⟩
  have HB : Hid (Below w.heap.size w w1) := (one_below w _).trans (B1.mono (by rw [World.size_alloc]; omega))
  rw [World.size_alloc] at B1
  have HBx := Lib.hid B1
  obtain ⟨p1, q1⟩ := box_at B1
  clear B1
  go_wp2_with fail
  refine (range1 0 true 0 rfl _ _ rfl).mono ?_
  rintro e w2 ⟨rfl, B2⟩
  have HB2 : Hid (Below w.heap.size w w2) := HB.out.trans (B2.mono HB.out.size)
  have HBy : Hid (Below (w.heap.size + 1) (w.alloc (.cells #[.int .i64 len, .slice A N c] 27)) w2) := HBx.out.trans (B2.mono (by have := HBx.out.size; rw [World.size_alloc] at this; omega))
  clear B2 p1 q1 HBx
  obtain ⟨p1, q1⟩ := box_at HBy.out
  go_wp2_with fail
  refine (HG.out _ (HA.out.on HB2.out)).mono ?_
  rintro e w3 ⟨rfl, B3⟩
  have HB3 : Hid (Below w.heap.size w w3) := HB2.out.trans (B3.mono HB2.out.size)
  clear B3
  have HW := Lib.hid (shl_w k m hk hm)
  have t3 : decide (((2 ^ k + m - 1 : Nat) : Int) ≤ 1099511627776) = false := by simp only [decide_eq_false_iff_not]; omega
  clear hq hm
  generalize 2 ^ k + m - 1 = r at *
  go_wp2_with fail
  rw [HW.out, t3]
  refine (range1 0 false 3 rfl _ _ rfl).mono ?_
  rintro e w4 ⟨rfl, B4⟩
  have HB4 : Hid (Below w.heap.size w w4) := HB3.out.trans (B4.mono HB3.out.size)
  clear B4
  go_wp2
  go_ret3
  exact ⟨rfl, HB4.out⟩
set_option maxHeartbeats 2000000 in
theorem read_u_ok (w : World) (len : Int) (A : Option Addr) (c N : Nat) (bs : List Nat) (p : Int) (hR : Rd w w.heap.size A bs) (k fr m : Nat) (hk : k ≤ 63) (hm : m < 2 ^ k) (hf : fr ≤ 8192) (r to : Nat) (hr : 2 ^ k + m - 1 = r) (hto : fr + k = to) (hq : r ≤ 1099511627776)
    (HF : Hid (∀ V, Rd V V.heap.size A bs → Calls Tryz.prog 161 #[.agg #[.int .i64 len, .slice A N c], .int .i64 p] V (ReadP V k fr 0)))
    (HG : Hid (∀ V, Rd V V.heap.size A bs → Calls Tryz.prog 29 #[.agg #[.int .i64 len, .slice A N c], .int .i64 (fr : Int), .int .i64 (k : Int)] V (Got V m 0))) :
    Calls Tryz.prog 160 #[.agg #[.int .i64 len, .slice A N c], .int .i64 p, .func (.func 161) #[] #[]] w (ReadP w r to 0) := by
  have HA := Lib.hid hR; clear hR
  have t1 : decide ((k : Int) ≤ 63) = true := by simp; omega
  go_enter Tryz.func160, Tryz.ntmps160
  go_wp2_with fail
  refine (HF.out _ (HA.out.on (one_below _ _))).mono ?_
  rintro e w1 ⟨rfl, B1⟩
  have HB : Hid (Below w.heap.size w w1) := (one_below w _).trans (B1.mono (by rw [World.size_alloc]; omega))
  rw [World.size_alloc] at B1
  have HBx := Lib.hid B1
  obtain ⟨p1, q1⟩ := box_at B1
  clear B1
  go_wp2_with fail
  refine (range1 0 true 0 rfl _ _ rfl).mono ?_
  rintro e w2 ⟨rfl, B2⟩
  have HB2 : Hid (Below w.heap.size w w2) := HB.out.trans (B2.mono HB.out.size)
  have HBy : Hid (Below (w.heap.size + 1) (w.alloc (.cells #[.int .i64 len, .slice A N c] 27)) w2) := HBx.out.trans (B2.mono (by have := HBx.out.size; rw [World.size_alloc] at this; omega))
  clear B2 p1 q1 HBx
  obtain ⟨p1, q1⟩ := box_at HBy.out
  go_wp2_with fail
  refine (HG.out _ (HA.out.on HB2.out)).mono ?_
  rintro e w3 ⟨rfl, B3⟩
  have HB3 : Hid (Below w.heap.size w w3) := HB2.out.trans (B3.mono HB2.out.size)
  clear B3
  have HW := Lib.hid (shl_w k m hk hm)
  rw [hr] at HW
  have t3 : decide ((r : Int) ≤ 1099511627776) = true := by simp only [decide_eq_true_eq]; omega
  clear hr hm
  go_wp2_with fail
  rw [HW.out, t3]
  refine (range1 0 true 0 rfl _ _ rfl).mono ?_
  rintro e w4 ⟨rfl, B4⟩
  have HB4 : Hid (Below w.heap.size w w4) := HB3.out.trans (B4.mono HB3.out.size)
  clear B4
  go_wp2
  go_ret3
  exact ⟨by rw [← hto]; rfl, HB4.out⟩
set_option maxHeartbeats 2000000 in
theorem read_g_e (w : World) (len : Int) (A : Option Addr) (c N : Nat) (bs : List Nat) (p : Int) (hR : Rd w w.heap.size A bs) (k fr : Nat) (e0 : Int) (h0 : e0 ≠ 0)
    (HF : Hid (∀ V, Rd V V.heap.size A bs → Calls Tryz.prog 131 #[.agg #[.int .i64 len, .slice A N c], .int .i64 p] V (ReadP V k fr e0))) :
    Calls Tryz.prog 160 #[.agg #[.int .i64 len, .slice A N c], .int .i64 p, .func (.func 131) #[] #[]] w (ReadP w 0 0 e0) := by
  have HA := Lib.hid hR; clear hR
  have t0 : (e0 != 0) = true := by simpa using h0
  go_enter Tryz.func160, Tryz.ntmps160
  go_wp2_with fail
  refine (HF.out _ (HA.out.on (one_below _ _))).mono ?_
  rintro e w1 ⟨rfl, B1⟩
  have HB : Hid (Below w.heap.size w w1) := (one_below w _).trans (B1.mono (by rw [World.size_alloc]; omega))
  rw [World.size_alloc] at B1
  have HBx := Lib.hid B1
  obtain ⟨p1, q1⟩ := box_at B1
  clear B1
  go_wp2_with fail
  refine (range1 e0 _ e0 (by unfold rgE; rw [if_neg (fun h => h0 h.1)]) _ _ rfl).mono ?_
  rintro e w2 ⟨rfl, B2⟩
  have HB2 : Hid (Below w.heap.size w w2) := HB.out.trans (B2.mono HB.out.size)
  clear B2 h0
  go_wp2
  go_ret3
  exact ⟨rfl, HB2.out⟩
set_option maxHeartbeats 2000000 in
theorem read_g_big (w : World) (len : Int) (A : Option Addr) (c N : Nat) (bs : List Nat) (p : Int) (hR : Rd w w.heap.size A bs) (k fr : Nat) (hk : 63 < k)
    (HF : Hid (∀ V, Rd V V.heap.size A bs → Calls Tryz.prog 131 #[.agg #[.int .i64 len, .slice A N c], .int .i64 p] V (ReadP V k fr 0))) :
    Calls Tryz.prog 160 #[.agg #[.int .i64 len, .slice A N c], .int .i64 p, .func (.func 131) #[] #[]] w (ReadP w 0 0 3) := by
  have HA := Lib.hid hR; clear hR
  have t1 : decide ((k : Int) ≤ 63) = false := by simp; omega
  go_enter Tryz.func160, Tryz.ntmps160
  go_wp2_with fail
  refine (HF.out _ (HA.out.on (one_below _ _))).mono ?_
  rintro e w1 ⟨rfl, B1⟩
  have HB : Hid (Below w.heap.size w w1) := (one_below w _).trans (B1.mono (by rw [World.size_alloc]; omega))
  rw [World.size_alloc] at B1
  have HBx := Lib.hid B1
  obtain ⟨p1, q1⟩ := box_at B1
  clear B1
  go_wp2_with fail
  refine (range1 0 false 3 rfl _ _ rfl).mono ?_
  rintro e w2 ⟨rfl, B2⟩
  have HB2 : Hid (Below w.heap.size w w2) := HB.out.trans (B2.mono HB.out.size)
  clear B2
  go_wp2
  go_ret3
  exact ⟨rfl, HB2.out⟩
set_option maxHeartbeats 2000000 in
theorem read_g_short (w : World) (len : Int) (A : Option Addr) (c N : Nat) (bs : List Nat) (p : Int) (hR : Rd w w.heap.size A bs) (k fr : Nat) (hk : k ≤ 63) (e1 : Int) (h1 : e1 ≠ 0)
    (HF : Hid (∀ V, Rd V V.heap.size A bs → Calls Tryz.prog 131 #[.agg #[.int .i64 len, .slice A N c], .int .i64 p] V (ReadP V k fr 0)))
    (HG : Hid (∀ V, Rd V V.heap.size A bs → Calls Tryz.prog 29 #[.agg #[.int .i64 len, .slice A N c], .int .i64 (fr : Int), .int .i64 (k : Int)] V (Got V 0 e1))) :
    Calls Tryz.prog 160 #[.agg #[.int .i64 len, .slice A N c], .int .i64 p, .func (.func 131) #[] #[]] w (ReadP w 0 0 e1) := by
  have HA := Lib.hid hR; clear hR
  have t1 : decide ((k : Int) ≤ 63) = true := by simp; omega
  have t2 : (e1 != 0) = true := by simpa using h1
  go_enter Tryz.func160, Tryz.ntmps160
  go_wp2_with fail
  refine (HF.out _ (HA.out.on (one_below _ _))).mono ?_
  rintro e w1 ⟨rfl, B1⟩
  have HB : Hid (Below w.heap.size w w1) := (one_below w _).trans (B1.mono (by rw [World.size_alloc]; omega))
  rw [World.size_alloc] at B1
  have HBx := Lib.hid B1
  obtain ⟨p1, q1⟩ := box_at B1
  clear B1
  go_wp2_with fail
  refine (range1 0 true 0 rfl _ _ rfl).mono ?_
  rintro e w2 ⟨rfl, B2⟩
  have HB2 : Hid (Below w.heap.size w w2) := HB.out.trans (B2.mono HB.out.size)
  have HBy : Hid (Below (w.heap.size + 1) (w.alloc (.cells #[.int .i64 len, .slice A N c] 27)) w2) := HBx.out.trans (B2.mono (by have := HBx.out.size; rw [World.size_alloc] at this; omega))
  clear B2 p1 q1 HBx
  obtain ⟨p1, q1⟩ := box_at HBy.out
  go_wp2_with fail
  refine (HG.out _ (HA.out.on HB2.out)).mono ?_
  rintro e w3 ⟨rfl, B3⟩
  have HB3 : Hid (Below w.heap.size w w3) := HB2.out.trans (B3.mono HB2.out.size)
  clear B3
  go_wp2_with fail
  refine (range1 e1 _ e1 (by unfold rgE; rw [if_neg (fun h => h1 h.1)]) _ _ rfl).mono ?_
  rintro e w4 ⟨rfl, B4⟩
  have HB4 : Hid (Below w.heap.size w w4) := HB3.out.trans (B4.mono HB3.out.size)
  clear B4 h1
  go_wp2
  go_ret3
  exact ⟨rfl, HB4.out⟩
set_option maxHeartbeats 2000000 in
theorem read_g_over (w : World) (len : Int) (A : Option Addr) (c N : Nat) (bs : List Nat) (p : Int) (hR : Rd w w.heap.size A bs) (k fr m : Nat) (hk : k ≤ 63) (hm : m < 2 ^ k) (hq : 1099511627776 < 2 ^ k + m - 1)
    (HF : Hid (∀ V, Rd V V.heap.size A bs → Calls Tryz.prog 131 #[.agg #[.int .i64 len, .slice A N c], .int .i64 p] V (ReadP V k fr 0)))
    (HG : Hid (∀ V, Rd V V.heap.size A bs → Calls Tryz.prog 29 #[.agg #[.int .i64 len, .slice A N c], .int .i64 (fr : Int), .int .i64 (k : Int)] V (Got V m 0))) :
    Calls Tryz.prog 160 #[.agg #[.int .i64 len, .slice A N c], .int .i64 p, .func (.func 131) #[] #[]] w (ReadP w 0 0 3) := by
  have HA := Lib.hid hR; clear hR
  have t1 : decide ((k : Int) ≤ 63) = true := by simp; omega
  go_enter Tryz.func160, Tryz.ntmps160
  go_wp2_with fail
  refine (HF.out _ (HA.out.on (one_below _ _))).mono ?_
  rintro e w1 ⟨rfl, B1⟩
  have HB : Hid (Below w.heap.size w w1) := (one_below w _).trans (B1.mono (by rw [World.size_alloc]; omega))
  rw [World.size_alloc] at B1
  have HBx := Lib.hid B1
  obtain ⟨p1, q1⟩ := box_at B1
  clear B1
  go_wp2_with fail
  refine (range1 0 true 0 rfl _ _ rfl).mono ?_
  rintro e w2 ⟨rfl, B2⟩
  have HB2 : Hid (Below w.heap.size w w2) := HB.out.trans (B2.mono HB.out.size)
  have HBy : Hid (Below (w.heap.size + 1) (w.alloc (.cells #[.int .i64 len, .slice A N c] 27)) w2) := HBx.out.trans (B2.mono (by have := HBx.out.size; rw [World.size_alloc] at this; omega))
  clear B2 p1 q1 HBx
  obtain ⟨p1, q1⟩ := box_at HBy.out
  go_wp2_with fail
  refine (HG.out _ (HA.out.on HB2.out)).mono ?_
  rintro e w3 ⟨rfl, B3⟩
  have HB3 : Hid (Below w.heap.size w w3) := HB2.out.trans (B3.mono HB2.out.size)
  clear B3
  have HW := Lib.hid (shl_w k m hk hm)
  have t3 : decide (((2 ^ k + m - 1 : Nat) : Int) ≤ 1099511627776) = false := by simp only [decide_eq_false_iff_not]; omega
  clear hq hm
  generalize 2 ^ k + m - 1 = r at *
  go_wp2_with fail
  rw [HW.out, t3]
  refine (range1 0 false 3 rfl _ _ rfl).mono ?_
  rintro e w4 ⟨rfl, B4⟩
  have HB4 : Hid (Below w.heap.size w w4) := HB3.out.trans (B4.mono HB3.out.size)
  clear B4
  go_wp2
  go_ret3
  exact ⟨rfl, HB4.out⟩
set_option maxHeartbeats 2000000 in
theorem read_g_ok (w : World) (len : Int) (A : Option Addr) (c N : Nat) (bs : List Nat) (p : Int) (hR : Rd w w.heap.size A bs) (k fr m : Nat) (hk : k ≤ 63) (hm : m < 2 ^ k) (hf : fr ≤ 8192) (r to : Nat) (hr : 2 ^ k + m - 1 = r) (hto : fr + k = to) (hq : r ≤ 1099511627776)
    (HF : Hid (∀ V, Rd V V.heap.size A bs → Calls Tryz.prog 131 #[.agg #[.int .i64 len, .slice A N c], .int .i64 p] V (ReadP V k fr 0)))
    (HG : Hid (∀ V, Rd V V.heap.size A bs → Calls Tryz.prog 29 #[.agg #[.int .i64 len, .slice A N c], .int .i64 (fr : Int), .int .i64 (k : Int)] V (Got V m 0))) :
    Calls Tryz.prog 160 #[.agg #[.int .i64 len, .slice A N c], .int .i64 p, .func (.func 131) #[] #[]] w (ReadP w r to 0) := by
  have HA := Lib.hid hR; clear hR
  have t1 : decide ((k : Int) ≤ 63) = true := by simp; omega
  go_enter Tryz.func160, Tryz.ntmps160
  go_wp2_with fail
  refine (HF.out _ (HA.out.on (one_below _ _))).mono ?_
  rintro e w1 ⟨rfl, B1⟩
  have HB : Hid (Below w.heap.size w w1) := (one_below w _).trans (B1.mono (by rw [World.size_alloc]; omega))
  rw [World.size_alloc] at B1
  have HBx := Lib.hid B1
  obtain ⟨p1, q1⟩ := box_at B1
  clear B1
  go_wp2_with fail
  refine (range1 0 true 0 rfl _ _ rfl).mono ?_
  rintro e w2 ⟨rfl, B2⟩
  have HB2 : Hid (Below w.heap.size w w2) := HB.out.trans (B2.mono HB.out.size)
  have HBy : Hid (Below (w.heap.size + 1) (w.alloc (.cells #[.int .i64 len, .slice A N c] 27)) w2) := HBx.out.trans (B2.mono (by have := HBx.out.size; rw [World.size_alloc] at this; omega))
  clear B2 p1 q1 HBx
  obtain ⟨p1, q1⟩ := box_at HBy.out
  go_wp2_with fail
  refine (HG.out _ (HA.out.on HB2.out)).mono ?_
  rintro e w3 ⟨rfl, B3⟩
  have HB3 : Hid (Below w.heap.size w w3) := HB2.out.trans (B3.mono HB2.out.size)
  clear B3
  have HW := Lib.hid (shl_w k m hk hm)
  rw [hr] at HW
  have t3 : decide ((r : Int) ≤ 1099511627776) = true := by simp only [decide_eq_true_eq]; omega
  clear hr hm
  go_wp2_with fail
  rw [HW.out, t3]
  refine (range1 0 true 0 rfl _ _ rfl).mono ?_
  rintro e w4 ⟨rfl, B4⟩
  have HB4 : Hid (Below w.heap.size w w4) := HB3.out.trans (B4.mono HB3.out.size)
  clear B4
  go_wp2
  go_ret3
  exact ⟨by rw [← hto]; rfl, HB4.out⟩
set_option maxHeartbeats 2000000 in
theorem rgamma_pass (w : World) (len : Int) (A : Option Addr) (c N : Nat) (bs : List Nat) (p : Int) (hR : Rd w w.heap.size A bs) (k fr : Nat) (e0 : Int)
    (HF : Hid (∀ V, Rd V V.heap.size A bs → Calls Tryz.prog 160 #[.agg #[.int .i64 len, .slice A N c], .int .i64 p, .func (.func 161) #[] #[]] V (ReadP V k fr e0))) :
    Calls Tryz.prog 131 #[.agg #[.int .i64 len, .slice A N c], .int .i64 p] w (ReadP w k fr e0) := by
  have HA := Lib.hid hR; clear hR
  go_enter Tryz.func131, Tryz.ntmps131
  go_wp2_with fail
  refine (HF.out _ (HA.out.on (one_below _ _))).mono ?_
  rintro e w1 ⟨rfl, B1⟩
  have HB : Hid (Below w.heap.size w w1) := (one_below w _).trans (B1.mono (by rw [World.size_alloc]; omega))
  clear B1
  go_wp2
  go_ret3
  exact ⟨rfl, HB.out⟩
/-- What read answers where a length is read first. -/
theorem readU_l (l : List Bool) (hl : l.length ≤ 8192) (A : Option Addr) (c p : Nat) (hp : p ≤ l.length) (w : World) (h : Rd w w.heap.size A (pack l)) :
    Calls Tryz.prog 161 #[.agg #[.int .i64 (l.length : Int), .slice A (pack l).length c], .int .i64 (p : Int)] w (ReadP w (uR l p).1 (uR l p).2.1 (uR l p).2.2) := by
  unfold uR
  cases hx : pos p (l.drop p) with
  | nil => exact read_none l hl A c p hp hx w h
  | cons x xs => exact read_l l hl A c p hp x xs hx (x - p) (x + 1) rfl rfl w h
theorem got_l (l : List Bool) (hl : l.length ≤ 8192) (A : Option Addr) (c p k : Nat) (h1 : k ≤ 64) (h2 : p + k ≤ l.length) (w : World) (h : Rd w w.heap.size A (pack l)) :
    Calls Tryz.prog 29 #[.agg #[.int .i64 (l.length : Int), .slice A (pack l).length c], .int .i64 (p : Int), .int .i64 (k : Int)] w (Got w (num ((l.drop p).take k)) 0) := get_l l hl A c p k _ h1 h2 rfl w h
theorem num_take_lt (l : List Bool) (p k : Nat) : num ((l.drop p).take k) < 2 ^ k :=
  Nat.lt_of_lt_of_le (num_lt _) (Nat.pow_le_pow_right (by omega) (by rw [List.length_take]; omega))
theorem read_u_l (l : List Bool) (hl : l.length ≤ 8192) (A : Option Addr) (c : Nat) (p : Int) (r : Nat × Nat × Int) (hr : r.2.1 ≤ l.length) (HF : ∀ V, Rd V V.heap.size A (pack l) → Calls Tryz.prog 161 #[.agg #[.int .i64 (l.length : Int), .slice A (pack l).length c], .int .i64 p] V (ReadP V r.1 r.2.1 r.2.2)) (w : World) (h : Rd w w.heap.size A (pack l)) :
    Calls Tryz.prog 160 #[.agg #[.int .i64 (l.length : Int), .slice A (pack l).length c], .int .i64 p, .func (.func 161) #[] #[]] w (ReadP w (thenR l r).1 (thenR l r).2.1 (thenR l r).2.2) := by
  obtain ⟨k, fr, e0⟩ := r
  unfold thenR
  by_cases h0 : e0 = 0
  · subst h0
    rw [if_pos rfl]
    unfold restR
    by_cases h1 : 63 < k
    · rw [if_pos h1]
      exact read_u_big w _ A c _ (pack l) p h k fr h1 HF
    · rw [if_neg h1]
      by_cases h2 : l.length < fr + k
      · rw [if_pos h2]
        refine read_u_short w _ A c _ (pack l) p h k fr (by omega) 7 (by decide) HF (fun V hV => ?_)
        have hg := get_short l hl A c (fr : Int) (k : Int) V hV (by omega) (by omega) (by omega) (by simp only at hr; omega) (by omega)
        exact hg
      · rw [if_neg h2]
        by_cases h3 : 1099511627776 < 2 ^ k + num ((l.drop fr).take k) - 1
        · rw [if_pos h3]
          exact read_u_over w _ A c _ (pack l) p h k fr _ (by omega) (num_take_lt l fr k) h3 HF (fun V hV => got_l l hl A c fr k (by omega) (by omega) V hV)
        · rw [if_neg h3]
          exact read_u_ok w _ A c _ (pack l) p h k fr _ (by omega) (num_take_lt l fr k) (by omega) _ _ rfl rfl (Nat.not_lt.1 h3) HF (fun V hV => got_l l hl A c fr k (by omega) (by omega) V hV)
  · rw [if_neg h0]
    exact read_u_e w _ A c _ (pack l) p h k fr e0 h0 HF
theorem read_g_l (l : List Bool) (hl : l.length ≤ 8192) (A : Option Addr) (c : Nat) (p : Int) (r : Nat × Nat × Int) (hr : r.2.1 ≤ l.length) (HF : ∀ V, Rd V V.heap.size A (pack l) → Calls Tryz.prog 131 #[.agg #[.int .i64 (l.length : Int), .slice A (pack l).length c], .int .i64 p] V (ReadP V r.1 r.2.1 r.2.2)) (w : World) (h : Rd w w.heap.size A (pack l)) :
    Calls Tryz.prog 160 #[.agg #[.int .i64 (l.length : Int), .slice A (pack l).length c], .int .i64 p, .func (.func 131) #[] #[]] w (ReadP w (thenR l r).1 (thenR l r).2.1 (thenR l r).2.2) := by
  obtain ⟨k, fr, e0⟩ := r
  unfold thenR
  by_cases h0 : e0 = 0
  · subst h0
    rw [if_pos rfl]
    unfold restR
    by_cases h1 : 63 < k
    · rw [if_pos h1]
      exact read_g_big w _ A c _ (pack l) p h k fr h1 HF
    · rw [if_neg h1]
      by_cases h2 : l.length < fr + k
      · rw [if_pos h2]
        refine read_g_short w _ A c _ (pack l) p h k fr (by omega) 7 (by decide) HF (fun V hV => ?_)
        have hg := get_short l hl A c (fr : Int) (k : Int) V hV (by omega) (by omega) (by omega) (by simp only at hr; omega) (by omega)
        exact hg
      · rw [if_neg h2]
        by_cases h3 : 1099511627776 < 2 ^ k + num ((l.drop fr).take k) - 1
        · rw [if_pos h3]
          exact read_g_over w _ A c _ (pack l) p h k fr _ (by omega) (num_take_lt l fr k) h3 HF (fun V hV => got_l l hl A c fr k (by omega) (by omega) V hV)
        · rw [if_neg h3]
          exact read_g_ok w _ A c _ (pack l) p h k fr _ (by omega) (num_take_lt l fr k) (by omega) _ _ rfl rfl (Nat.not_lt.1 h3) HF (fun V hV => got_l l hl A c fr k (by omega) (by omega) V hV)
  · rw [if_neg h0]
    exact read_g_e w _ A c _ (pack l) p h k fr e0 h0 HF

theorem rgamma_l (l : List Bool) (hl : l.length ≤ 8192) (A : Option Addr) (c p : Nat) (hp : p ≤ l.length) (w : World) (h : Rd w w.heap.size A (pack l)) :
    Calls Tryz.prog 131 #[.agg #[.int .i64 (l.length : Int), .slice A (pack l).length c], .int .i64 (p : Int)] w (ReadP w (gamR l p).1 (gamR l p).2.1 (gamR l p).2.2) :=
  rgamma_pass w _ A c _ (pack l) _ h _ _ _ (fun V hV => read_u_l l hl A c (p : Int) (uR l p) (uR_bound l p hp).2.1 (fun V hV => readU_l l hl A c p hp V hV) V hV)
/-- Bits that are wrong, or a place that is. -/
theorem rgamma_bad (len : Int) (A : Option Addr) (c : Nat) (bs : List Nat) (p e0 : Int) (h0 : e0 ≠ 0) (HF : ∀ V, Rd V V.heap.size A bs → Calls Tryz.prog 161 #[.agg #[.int .i64 len, .slice A bs.length c], .int .i64 p] V (ReadP V 0 0 e0)) (w : World) (h : Rd w w.heap.size A bs) :
    Calls Tryz.prog 131 #[.agg #[.int .i64 len, .slice A bs.length c], .int .i64 p] w (ReadP w 0 0 e0) :=
  rgamma_pass w _ A c _ bs _ h _ _ _ (fun V hV => read_u_e V _ A c _ bs p hV 0 0 e0 h0 HF)
end

section
set_option maxRecDepth 100000
set_option linter.unusedVariables false
open Go.RowKit

/-- The result's place behind a box, behind a call. -/
theorem res2_at {w w1 : World} {o : Obj} (B1 : Below ((w.alloc o).alloc (.cells #[.int .i64 0, .slice none 0 0] 27)).heap.size ((w.alloc o).alloc (.cells #[.int .i64 0, .slice none 0 0] 27)) w1) :
    w1.heap[w.heap.size + 1]? = some (.cells #[.int .i64 0, .slice none 0 0] 27 (0, 0)) ∧ Below w.heap.size w w1 ∧ w.heap.size + 1 < w1.heap.size := by
  obtain ⟨a, b, c⟩ := res_at B1
  rw [World.size_alloc] at a b c
  exact ⟨a, (one_below w o).trans (b.mono (by omega)), c⟩

set_option maxHeartbeats 600000 in
theorem putLeast_s (n m z sh : Nat) (hz : z ≤ 57) (hz1 : n < sh) (hn : n ≤ 144115188075855872) (hs : sh ≤ 144115188075855872) (len lL : Int) (A : Option Addr) (c N nL : Nat) (bs bL : List Nat) (w : World) (hA : Rd w w.heap.size A bs)
    (HZ : Hid (∀ V, Calls Tryz.prog 191 #[.int .u64 (m : Int)] V fun e w' => e = .returned (.tuple #[.int .i64 (z : Int), .int .u64 (sh : Int)]) ∧ Below V.heap.size V w'))
    (HP : Hid (∀ V, Rd V V.heap.size A bs → Calls Tryz.prog 58 #[.agg #[.int .i64 len, .slice A N c], .int .u64 (n : Int), .int .i64 ((z : Int) - 1)] V (Gv V lL nL bL 0))) :
    Calls Tryz.prog 177 #[.agg #[.int .i64 len, .slice A N c], .int .u64 (n : Int), .int .u64 (m : Int)] w (Gv w lL nL bL 0) := by
  have HA := Lib.hid hA; clear hA
  have t1 : decide ((n : Int) < (sh : Int)) = true := by simp; omega
  go_enter Tryz.func177, Tryz.ntmps177
  go_wp2_with fail
  refine (HZ.out _).mono ?_
  rintro e w1 ⟨rfl, B1⟩
  obtain ⟨hr, hb, hz0⟩ := res2_at B1
  have HRes := Lib.hid hr
  have HLow := Lib.hid hb
  have HLt := Lib.hid hz0
  have hs2 : ((w.alloc (.cells #[.int .i64 len, .slice A N c] 27)).alloc (.cells #[.int .i64 0, .slice none 0 0] 27)).heap.size = w.heap.size + 2 := by rw [World.size_alloc, World.size_alloc]
  rw [hs2] at B1
  have hbx : w1.heap[w.heap.size]? = some (.cells #[.int .i64 len, .slice A N c] 27 (0, 0)) := (B1.block _ (by omega)).trans ((Below.heap_alloc _ _ _ (by simp)).trans (World.alloc_heap_new w _))
  have p1 := (blk_cells hbx).1
  have q1 := (blk_cells hbx).2.1
  clear B1 hr hb hz0 hs2 hbx
  go_wp2_with fail
  refine (HP.out _ (HA.out.on HLow.out)).mono ?_
  rintro e w2 ⟨A2, c2, rfl, R2, B2⟩
  obtain ⟨⟨d0, d1, g0, g1⟩, HG⟩ := gv_store2 (w := w) (len := lL) (n := nL) (A := A2) (c := c2) R2 (Nat.le_succ _) ((B2.block _ HLt.out).trans HRes.out) (HLow.out.trans (B2.mono HLow.out.size)) 0
  clear R2 B2 p1 q1
  go_wp2
  exact bodyPost_ret (v := .tuple #[.agg #[.int .i64 lL, .slice A2 nL c2], .int .i64 0]) (by simp [results, Tryz.results177, go_sem, d0, d1]) rfl HG.out
set_option maxHeartbeats 600000 in
theorem putLeast_l (n m z sh : Nat) (hz : z ≤ 57) (hz1 : sh ≤ n) (hn : n ≤ 144115188075855872) (hs : sh ≤ 144115188075855872) (len lL : Int) (A : Option Addr) (c N nL : Nat) (bs bL : List Nat) (w : World) (hA : Rd w w.heap.size A bs)
    (HZ : Hid (∀ V, Calls Tryz.prog 191 #[.int .u64 (m : Int)] V fun e w' => e = .returned (.tuple #[.int .i64 (z : Int), .int .u64 (sh : Int)]) ∧ Below V.heap.size V w'))
    (HP : Hid (∀ V, Rd V V.heap.size A bs → Calls Tryz.prog 58 #[.agg #[.int .i64 len, .slice A N c], .int .u64 ((n : Int) + (sh : Int)), .int .i64 (z : Int)] V (Gv V lL nL bL 0))) :
    Calls Tryz.prog 177 #[.agg #[.int .i64 len, .slice A N c], .int .u64 (n : Int), .int .u64 (m : Int)] w (Gv w lL nL bL 0) := by
  have HA := Lib.hid hA; clear hA
  have t1 : decide ((n : Int) < (sh : Int)) = false := by simp; omega
  go_enter Tryz.func177, Tryz.ntmps177
  go_wp2_with fail
  refine (HZ.out _).mono ?_
  rintro e w1 ⟨rfl, B1⟩
  obtain ⟨hr, hb, hz0⟩ := res2_at B1
  have HRes := Lib.hid hr
  have HLow := Lib.hid hb
  have HLt := Lib.hid hz0
  have hs2 : ((w.alloc (.cells #[.int .i64 len, .slice A N c] 27)).alloc (.cells #[.int .i64 0, .slice none 0 0] 27)).heap.size = w.heap.size + 2 := by rw [World.size_alloc, World.size_alloc]
  rw [hs2] at B1
  have hbx : w1.heap[w.heap.size]? = some (.cells #[.int .i64 len, .slice A N c] 27 (0, 0)) := (B1.block _ (by omega)).trans ((Below.heap_alloc _ _ _ (by simp)).trans (World.alloc_heap_new w _))
  have p1 := (blk_cells hbx).1
  have q1 := (blk_cells hbx).2.1
  clear B1 hr hb hz0 hs2 hbx
  go_wp2_with fail
  refine (HP.out _ (HA.out.on HLow.out)).mono ?_
  rintro e w2 ⟨A2, c2, rfl, R2, B2⟩
  obtain ⟨⟨d0, d1, g0, g1⟩, HG⟩ := gv_store2 (w := w) (len := lL) (n := nL) (A := A2) (c := c2) R2 (Nat.le_succ _) ((B2.block _ HLt.out).trans HRes.out) (HLow.out.trans (B2.mono HLow.out.size)) 0
  clear R2 B2 p1 q1
  go_wp2
  exact bodyPost_ret (v := .tuple #[.agg #[.int .i64 lL, .slice A2 nL c2], .int .i64 0]) (by simp [results, Tryz.results177, go_sem, d0, d1]) rfl HG.out

theorem putLeast_l2 (l L : List Bool) (n m : Nat) (hm : 1 ≤ m) (hm2 : m ≤ 72057594037927936) (hn : n < m) (hL : L = l ++ lst n m) (hl : l.length + sz m ≤ 8192) (A : Option Addr) (c : Nat) (w : World) (h : Rd w w.heap.size A (pack l)) :
    Calls Tryz.prog 177 #[.agg #[.int .i64 (l.length : Int), .slice A (pack l).length c], .int .u64 (n : Int), .int .u64 (m : Int)] w (Gv w (L.length : Int) (pack L).length (pack L) 0) := by
  have hz := sz_le m 56 (by omega)
  have hs := sh_add m
  have h56 := Nat.pow_le_pow_right (n := 2) (by omega) hz
  have hc := sh_lt m hm
  unfold lst at hL
  by_cases hs1 : n < sh m
  · rw [if_pos hs1] at hL
    obtain ⟨z1, z2, z3⟩ : 1 ≤ sz m ∧ sh m < 2 ^ (sz m - 1) ∧ True := by
      rcases hc with ⟨a, b, c⟩ | ⟨a, b, c, d⟩
      · omega
      · exact ⟨a, b, trivial⟩
    refine putLeast_s n m (sz m) (sh m) (by omega) hs1 (by omega) (by omega) _ _ A c _ _ _ _ w h (fun V => sizes_any m hm hm2 V) (fun V hV => ?_)
    have e : ((sz m : Int) - 1) = ((sz m - 1 : Nat) : Int) := by omega
    rw [e]
    exact put_l l L A c n (sz m - 1) (by omega) (Nat.div_eq_of_lt (by omega)) (by omega) (by omega) hL V hV
  · rw [if_neg hs1] at hL
    refine putLeast_l n m (sz m) (sh m) (by omega) (by omega) (by omega) (by omega) _ _ A c _ _ _ _ w h (fun V => sizes_any m hm hm2 V) (fun V hV => ?_)
    have e : ((n : Int) + (sh m : Int)) = ((n + sh m : Nat) : Int) := by omega
    rw [e]
    exact put_l l L A c (n + sh m) (sz m) (by omega) (Nat.div_eq_of_lt (by omega)) (by omega) (by omega) hL V hV

set_option maxHeartbeats 600000 in
theorem putParts_w (q n m : Int) (lS lL : Int) (nS nL : Nat) (bS bL : List Nat) (w : World)
    (HF : Hid (∀ V, Calls Tryz.prog 149 #[.int .u64 q] V (Gv V lS nS bS 0)))
    (HP : Hid (∀ A c V, Rd V V.heap.size A bS → Calls Tryz.prog 177 #[.agg #[.int .i64 lS, .slice A nS c], .int .u64 n, .int .u64 m] V (Gv V lL nL bL 0))) :
    Calls Tryz.prog 159 #[.int .u64 q, .int .u64 n, .int .u64 m] w (Gv w lL nL bL 0) := by
  go_enter Tryz.func159, Tryz.ntmps159
  go_wp2_with fail
  refine (HF.out _).mono ?_
  rintro e w1 ⟨A1, c1, rfl, R1, B1⟩
  have HA := Lib.hid (res_at B1)
  have HR := Lib.hid R1
  clear B1 R1
  go_wp2_with fail
  refine (HP.out A1 c1 _ (HR.out.on (one_below _ _))).mono ?_
  rintro e w2 ⟨A2, c2, rfl, R2, B2⟩
  rw [World.size_alloc] at B2
  have b2 : Below w1.heap.size w1 w2 := (one_below w1 _).trans (B2.mono (by omega))
  obtain ⟨⟨d0, d1, g0, g1⟩, HG⟩ := gv_store2 (w := w) (len := lL) (n := nL) (A := A2) (c := c2) R2 (Nat.le_refl _) ((b2.block _ HA.out.2.2).trans HA.out.1) (HA.out.2.1.trans (b2.mono (Nat.le_of_lt HA.out.2.2))) 0
  clear R2 B2 b2 HA
  go_wp2
  exact bodyPost_ret (v := .tuple #[.agg #[.int .i64 lL, .slice A2 nL c2], .int .i64 0]) (by simp [results, Tryz.results159, go_sem, d0, d1]) rfl HG.out
theorem putParts_l (q n m : Nat) (hq : q ≤ 8127) (hm : 1 ≤ m) (hm2 : m ≤ 72057594037927936) (hn : n < m) (L : List Bool) (hL : L = uc q ++ lst n m) (w : World) :
    Calls Tryz.prog 159 #[.int .u64 (q : Int), .int .u64 (n : Int), .int .u64 (m : Int)] w (Gv w (L.length : Int) (pack L).length (pack L) 0) := by
  have hz := sz_le m 56 (by omega)
  exact putParts_w _ _ _ _ _ _ _ _ _ w (fun V => code_any q (uc q) 0 (by rw [if_neg (by omega)]) (by rw [if_neg (by omega)]) V) (fun A c V h => putLeast_l2 (uc q) L n m hm hm2 hn hL (by rw [uc_length]; omega) A c V h)

set_option maxHeartbeats 600000 in
theorem zeta_e (n : Nat) (k : Int) (r1 : Bool) (h : rgE 0 [r1, decide ((n : Int) ≤ 1099511627776)] = 3) (t1 : okK k = r1) (w : World) :
    Calls Tryz.prog 130 #[.int .u64 (n : Int), .int .i64 k] w (Gv w 0 0 (pack []) 3) := by
  have HD := Lib.hid (isK_any k)
  rw [t1] at HD
  clear t1
  have HR := Lib.hid (range2 0 r1 _ 3 h)
  clear h
  go_enter Tryz.func130, Tryz.ntmps130
  go_wp2_with fail
  refine (HD.out _).mono ?_
  rintro e _ ⟨rfl, rfl⟩
  go_wp2_with fail
  refine (HR.out _ _ (World.size_alloc _ _)).mono ?_
  rintro e w1 ⟨rfl, B1⟩
  obtain ⟨hr, hb, _⟩ := res_at B1
  obtain ⟨⟨d0, d1, g0, g1⟩, HG⟩ := gv_store2 (len := 0) (n := 0) (A := none) (c := 0) (Rd.nil w1 _ none) (Nat.le_refl _) hr hb 3
  clear hr hb B1
  go_wp2
  exact bodyPost_ret (v := .tuple #[.agg #[.int .i64 0, .slice none 0 0], .int .i64 3]) (by simp [results, Tryz.results130, go_sem, d0, d1]) rfl HG.out
theorem wz3 (g k h : Nat) (hh : g / k = h) : ((g : Int) / (k : Int)) = (h : Int) := by
  rw [← hh]; simp
theorem wz1 (g k h : Nat) (hg : g ≤ 40) (hh : g / k = h) : wrap64 ((g : Int) / (k : Int)) = (h : Int) := by
  have := Nat.div_le_self g k
  have e : ((g : Int) / (k : Int)) = ((g / k : Nat) : Int) := by simp
  rw [e, hh]
  rw [hh] at this
  unfold wrap64; omega
theorem wz2 (h k s : Nat) (hs : h * k = s) (hs2 : s ≤ 1000000) : wrap64 ((h : Int) * (k : Int)) = (s : Int) := by
  have e : ((h : Int) * (k : Int)) = (s : Int) := by rw [← hs]; simp
  rw [e]
  unfold wrap64; omega
set_option maxHeartbeats 600000 in
theorem zeta_w (n k g h s f q y : Nat) (hk : 1 ≤ k) (hk2 : k ≤ 16) (hn : n ≤ 1099511627776) (hg : g ≤ 40) (hh : g / k = h) (hs : h * k = s) (hs2 : s ≤ 40) (hh2 : h ≤ 40) (hy : n + 1 = f + y) (lL : Int) (nL : Nat) (bL : List Nat)
    (HL : Hid (∀ V, Calls Tryz.prog 157 #[.int .u64 ((n : Int) + 1)] V fun e w' => e = .returned (.int .i64 ((g : Int) + 1)) ∧ V = w'))
    (HS : Hid (∀ V, Calls Tryz.prog 158 #[.int .i64 (s : Int), .int .i64 (k : Int)] V fun e w' => e = .returned (.tuple #[.int .u64 (f : Int), .int .u64 (q : Int)]) ∧ Below V.heap.size V w'))
    (HP : Hid (∀ V, Calls Tryz.prog 159 #[.int .u64 (h : Int), .int .u64 (y : Int), .int .u64 (q : Int)] V (Gv V lL nL bL 0))) (w : World) :
    Calls Tryz.prog 130 #[.int .u64 (n : Int), .int .i64 (k : Int)] w (Gv w lL nL bL 0) := by
  have HD := Lib.hid (isK_any (k : Int))
  rw [show okK (k : Int) = true from by unfold okK; simp; omega] at HD
  have t2 : decide ((n : Int) ≤ 1099511627776) = true := by simp; omega
  have hk0 : ¬ ((k : Int) = 0) := by omega
  have HY : Hid ((n : Int) + 1 - (f : Int) = (y : Int)) := by show _ = _; omega
  go_enter Tryz.func130, Tryz.ntmps130
  go_wp2_with fail
  refine (HD.out _).mono ?_
  rintro e _ ⟨rfl, rfl⟩
  go_wp2_with fail
  refine (range2 0 true true 0 rfl _ _ (World.size_alloc _ _)).mono ?_
  rintro e w1 ⟨rfl, B1⟩
  have HA := Lib.hid (res_at B1)
  clear B1
  go_wp2_with fail
  refine (HL.out _).mono ?_
  rintro e _ ⟨rfl, rfl⟩
  go_wp2_with fail
  rw [wz3 g k h hh, wz2 h k s hs (by omega)]
  refine (HS.out _).mono ?_
  rintro e w2 ⟨rfl, B2⟩
  have HB2 := Lib.hid B2; clear B2
  go_wp2_with fail
  rw [HY.out]
  refine (HP.out _).mono ?_
  rintro e w3 ⟨A2, c2, rfl, R2, B3⟩
  have b3 : Below w1.heap.size w1 w3 := HB2.out.trans (B3.mono HB2.out.size)
  obtain ⟨⟨d0, d1, g0, g1⟩, HG⟩ := gv_store2 (w := w) (len := lL) (n := nL) (A := A2) (c := c2) R2 (Nat.le_refl _) ((b3.block _ HA.out.2.2).trans HA.out.1) (HA.out.2.1.trans (b3.mono (Nat.le_of_lt HA.out.2.2))) 0
  clear R2 B3 b3 HA
  go_wp2
  exact bodyPost_ret (v := .tuple #[.agg #[.int .i64 lL, .slice A2 nL c2], .int .i64 0]) (by simp [results, Tryz.results130, go_sem, d0, d1]) rfl HG.out
theorem zeta_ok (n k : Nat) (hk : 1 ≤ k) (hk2 : k ≤ 16) (hn : n ≤ 1099511627776) (L : List Bool) (hL : L = zet n k) (w : World) :
    Calls Tryz.prog 130 #[.int .u64 (n : Int), .int .i64 (k : Int)] w (Gv w (L.length : Int) (pack L).length (pack L) 0) := by
  have k40 := lg_lt_of n 41 (by omega)
  have hs := zet_40 n k hn
  obtain ⟨z1, z2⟩ := zet_in n k hk
  have zp := zq_pos (lg n / k) k hk
  have zl := zq_le (lg n / k) k hs hk2
  have hd := Nat.div_le_self (lg n) k
  have hpw := Nat.pow_le_pow_right (n := 2) (by omega) (show lg n / k * k ≤ lg n / k * k + k by omega)
  refine zeta_w n k (lg n) (lg n / k) (lg n / k * k) (2 ^ (lg n / k * k)) (zq (lg n / k) k) (n + 1 - 2 ^ (lg n / k * k)) hk hk2 hn (by omega) rfl rfl hs (by omega) (by omega) _ _ _ (fun V => ?_) (fun V => stretch_any _ k _ _ hs hk2 rfl (by unfold zq; omega) V) (fun V => putParts_l _ _ _ (by omega) zp zl z2 L hL V) w
  have h := len64_any (n + 1) (by omega) V
  rw [bitLen_succ n (by omega)] at h
  exact h
theorem zeta_no (n : Nat) (k : Int) (h : ¬ (1 ≤ k ∧ k ≤ 16 ∧ n ≤ 1099511627776)) (w : World) :
    Calls Tryz.prog 130 #[.int .u64 (n : Int), .int .i64 k] w (Gv w 0 0 (pack []) 3) := by
  refine zeta_e n k _ ?_ rfl w
  unfold rgE okK
  rw [if_pos]
  refine ⟨rfl, ?_⟩
  by_cases h1 : 1 ≤ k ∧ k ≤ 16
  · rw [decide_eq_false (show ¬ (n : Int) ≤ 1099511627776 by omega)]; simp
  · rw [decide_eq_false h1]; simp
end

section
set_option maxRecDepth 100000
set_option linter.unusedVariables false
open Go.RowKit Go.Shelf

/-- The codes of numbers, one behind the other. -/
def zets (k : Nat) (gs : List Nat) : List Bool := gs.flatMap fun g => zet g k
theorem zets_snoc (k : Nat) (gs : List Nat) (g : Nat) : zets k (gs ++ [g]) = zets k gs ++ zet g k := by simp [zets]
theorem zets_cons (k : Nat) (gs : List Nat) (g : Nat) : zets k (g :: gs) = zet g k ++ zets k gs := by simp [zets]
theorem zets_take (k : Nat) (gs : List Nat) (i : Nat) : (zets k (gs.take i)).length ≤ (zets k gs).length := by
  conv => rhs; rw [← List.take_append_drop i gs]
  simp only [zets, List.flatMap_append, List.length_append]
  omega
theorem zet_len (g k : Nat) (hk : 1 ≤ k) (hk2 : k ≤ 16) (hg : g ≤ 2097152) : (zet g k).length ≤ 8192 := by
  have h1 := zet_40 g k (by omega)
  have h2 : lg g / k ≤ lg g / k * k := Nat.le_mul_of_pos_right _ (by omega)
  unfold zet
  have h3 := lst_length_le (g + 1 - 2 ^ (lg g / k * k)) (zq (lg g / k) k)
  have h4 : sz (zq (lg g / k) k) ≤ lg g / k * k + k := sz_le _ _ (by unfold zq; exact Nat.sub_le _ _)
  rw [List.length_append, uc_length]
  omega
/-- The error of Write ahead of its bits. -/
def wE (xs : List Int) (a k : Int) : Int := rgE (gE xs a) [okK k]
theorem wE_eq (xs : List Int) (a k : Int) : wE xs a k = if gE xs a ≠ 0 then gE xs a else if okK k = true then 0 else 3 := by
  unfold wE rgE
  by_cases h : gE xs a = 0
  · rw [h]
    cases okK k <;> simp
  · rw [if_neg (fun e => h e.1), if_pos h]
theorem okK_true {k : Int} (h : okK k = true) : ∃ n : Nat, k = (n : Int) ∧ 1 ≤ n ∧ n ≤ 16 := by
  unfold okK at h
  simp at h
  exact ⟨k.toNat, by omega, by omega, by omega⟩
theorem okK_nat (n : Nat) (h1 : 1 ≤ n) (h2 : n ≤ 16) : okK (n : Int) = true := by unfold okK; simp; omega
theorem gaps_x (xs : List Int) (n : Nat) (hn : xs.length = n) (hn2 : n ≤ 9223372036854775807) (a : Int) (A : Option Addr) (c : Nat) (w : World) (h : RdV w w.heap.size A (zc xs)) :
    Calls Tryz.prog 129 #[.slice A n c, .int .i64 a] w fun e w' => ∃ A2 n2 c2, e = .returned (.tuple #[.slice A2 n2 c2, .int .i64 (gE xs a)]) ∧ Below w.heap.size w w' := by
  by_cases h0 : gE xs a = 0
  · rw [h0]
    obtain ⟨l, m, rfl, hl, rfl, hm⟩ := gE_zero xs a h0
    exact (gaps_ok l hl n (by rw [ns_length] at hn; exact hn) m hm A c w h).mono fun e w' ⟨A2, c2, h1, _, _, _, h5⟩ => ⟨A2, _, c2, h1, h5⟩
  · exact (gaps_e xs n hn hn2 a _ rfl h0 A c w h).mono fun e w' ⟨A2, c2, h1, _, _, _, h5⟩ => ⟨A2, _, c2, h1, h5⟩
set_option maxHeartbeats 1000000 in
theorem write_e (xs : List Int) (n : Nat) (hn : xs.length = n) (hn2 : n ≤ 9223372036854775807) (a k : Int) (e0 : Int) (he : wE xs a k = e0) (h0 : e0 ≠ 0) (A : Option Addr) (c : Nat) (w : World) (h : RdV w w.heap.size A (zc xs)) :
    Calls Tryz.prog 104 #[.slice A n c, .int .i64 a, .int .i64 k] w (Gv w 0 0 (pack []) e0) := by
  have HG : Hid (∀ V, Below w.heap.size w V → Calls Tryz.prog 129 #[.slice A n c, .int .i64 a] V fun e w' => ∃ A2 n2 c2, e = .returned (.tuple #[.slice A2 n2 c2, .int .i64 (gE xs a)]) ∧ Below V.heap.size V w') := fun V hV => gaps_x xs n hn hn2 a A c V (h.on hV)
  have HK := Lib.hid (isK_any k)
  have HR := Lib.hid (range1 (gE xs a) (okK k) e0 he)
  have t0 : (e0 != 0) = true := by simpa using h0
  clear h hn he h0
  generalize gE xs a = r at *
  generalize okK k = ok at *
  go_enter Tryz.func104, Tryz.ntmps104
  go_wp2_with fail
  refine (HG.out _ (one_below w _)).mono ?_
  rintro e w1 ⟨A2, n2, c2, rfl, B1⟩
  have HA := Lib.hid (res_at B1)
  clear B1
  go_wp2_with fail
  refine (HK.out _).mono ?_
  rintro e _ ⟨rfl, rfl⟩
  go_wp2_with fail
  refine (HR.out _ _ rfl).mono ?_
  rintro e w2 ⟨rfl, B2⟩
  obtain ⟨hr, hb, hz⟩ := HA.out
  have hr2 := (B2.block _ hz).trans hr
  obtain ⟨⟨d0, d1, g0, g1⟩, HG2⟩ := gv_store2 (w := w) (w1 := w2) (len := 0) (n := 0) (A := none) (c := 0) (Rd.nil w2 _ none) (Nat.le_refl _) hr2 (hb.trans (B2.mono hb.size)) e0
  clear hr hb hz hr2 B2
  go_wp2
  exact bodyPost_ret (v := .tuple #[.agg #[.int .i64 0, .slice none 0 0], .int .i64 e0]) (by simp [results, Tryz.results104, go_sem, d0, d1]) rfl HG2.out

/-- At each round's head: the codes of the first i are joined. -/
def WrRel (gs : List Nat) (k Ba : Nat) (w1 : World) (p : Value) (wr : World) : Prop :=
  ∃ (i : Nat) (Aa : Option Addr) (ca : Nat), i ≤ gs.length ∧ p = .int .i64 (i : Int) ∧ (zets k (gs.take i)).length ≤ 8192 ∧
    wr.heap[Ba]? = some (.cells #[.int .i64 ((zets k (gs.take i)).length : Int), .slice Aa (pack (zets k (gs.take i))).length ca] 27 (0, 0)) ∧ Rd wr wr.heap.size Aa (pack (zets k (gs.take i))) ∧ Below w1.heap.size w1 wr

set_option maxHeartbeats 4000000 in
theorem write_in (l : List Nat) (hl : Rising l) (n : Nat) (hn : l.length = n) (a : Nat) (ha : a ≤ 1048576) (k : Nat) (hk : 1 ≤ k) (hk2 : k ≤ 16) (gs : List Nat) (hgs : gps (a : Int) l = gs) (R : List Bool) (e0 : Int)
    (hR1 : (zets k gs).length ≤ 8192 → R = zets k gs ∧ e0 = 0) (hR2 : 8192 < (zets k gs).length → R = [] ∧ e0 = 8) (A : Option Addr) (c : Nat) (w : World) (h : RdV w w.heap.size A (zc (ns l))) :
    Calls Tryz.prog 104 #[.slice A n c, .int .i64 (a : Int), .int .i64 (k : Int)] w (Gave w R e0) := by
  have HG : Hid (∀ V, Below w.heap.size w V → Calls Tryz.prog 129 #[.slice A n c, .int .i64 (a : Int)] V (NumsP V gs 0)) := fun V hV => by
    have := gaps_ok l hl n hn a ha A c V (h.on hV)
    rwa [hgs] at this
  have hk0 := isK_any (k : Int)
  rw [okK_nat k hk hk2] at hk0
  have HK := Lib.hid hk0; clear hk0
  have HR := Lib.hid (range1 0 true 0 rfl)
  have hgl : gs.length = n := by rw [← hgs, gps_length, hn]
  have HL := Lib.hid hgl; clear hgl
  have hgle : ∀ g ∈ gs, g ≤ 2097152 := by rw [← hgs]; exact gps_le a ha l hl
  have HLe := Lib.hid hgle; clear hgle
  have h300 : n ≤ 300 := by have := hl.1; omega
  have H1 := Lib.hid hR1; have H2 := Lib.hid hR2
  clear h hn hgs hR1 hR2 hl ha
  go_enter Tryz.func104, Tryz.ntmps104
  go_wp2_with fail
  refine (HG.out _ (one_below w _)).mono ?_
  rintro e w1 ⟨A2, c2, rfl, -, -, X2, B1⟩
  have HA := Lib.hid (res_at B1)
  have HX2 := Lib.hid X2
  clear B1 X2
  rw [HL.out]
  go_wp2_with fail
  refine (HK.out _).mono ?_
  rintro e _ ⟨rfl, rfl⟩
  go_wp2_with fail
  refine (HR.out _ _ rfl).mono ?_
  rintro e w2 ⟨rfl, B2⟩
  have HX := Lib.hid (HX2.out.on B2)
  have HLow : Hid (Below w.heap.size w w2 ∧ w2.heap[w.heap.size]? = some (.cells #[.int .i64 0, .slice none 0 0] 27 (0, 0)) ∧ w.heap.size < w2.heap.size) := by
    obtain ⟨hr, hb, hz⟩ := HA.out
    exact ⟨hb.trans (B2.mono hb.size), (B2.block _ hz).trans hr, Nat.lt_of_lt_of_le hz B2.size⟩
  clear B2
  go_wp2
  go_loopw [34] (fun p wr => WrRel gs k w2.heap.size w2 p wr) (fun p _ => n - (intOf p).toNat)
  case atStart => exact ⟨0, none, 0, Nat.zero_le _, rfl, by simp [zets], (by have e := World.alloc_heap_new w2 (.cells #[.int .i64 0, .slice none 0 0] 27); simpa [zets, pack_nil] using e), .inl (by simp [zets, pack_nil]), one_below w2 _⟩
  case round =>
    obtain ⟨i, Aa, ca, him, rfl, htot, hbox, hrd, hbel⟩ := hrel
    rw [HL.out] at him
    have HBox := Lib.hid hbox; have HRd := Lib.hid hrd; have HBel := Lib.hid hbel
    clear hbox hrd
    by_cases hlt : i < n
    · have hil : i < gs.length := by rw [HL.out]; exact hlt
      obtain ⟨bx, ox, rfl, hbx, kx⟩ := (HX.out.on hbel).at_ (nc_get gs i hil)
      have hgl2 := HLe.out _ (at_mem gs i hil)
      have htk := take_snoc gs i hil
      have hzt := zets_take k gs (i + 1)
      rw [htk, zets_snoc] at hzt
      have hsn : zets k (gs.take (i + 1)) = zets k (gs.take i) ++ zet (gs[i]?.getD 0) k := by rw [htk, zets_snoc]
      clear htk hbel
      generalize gs[i]?.getD 0 = g at *
      have hZ := zeta_ok g k hk hk2 (by omega) (zet g k) rfl
      have HSn := Lib.hid hsn; clear hsn
      have hCl := zet_len g k hk hk2 hgl2
      generalize zet g k = C at *
      have HZ := Lib.hid hZ; clear hZ
      have hBw : w2.heap.size < wr.heap.size := (Array.getElem?_eq_some_iff.1 HBox.out).1
      generalize hP : zets k (gs.take i) = P at *
      have HP := Lib.hid hP; clear hP
      rw [List.length_append] at hzt
      by_cases hfit : P.length + C.length ≤ 8192
      · have HJ : Hid (∀ A5 c5 V, Rd V V.heap.size Aa (pack P) → Rd V V.heap.size A5 (pack C) → Calls Tryz.prog 25 #[.agg #[.int .i64 (P.length : Int), .slice Aa (pack P).length ca], .agg #[.int .i64 (C.length : Int), .slice A5 (pack C).length c5]] V (Gv V ((zets k (gs.take (i + 1))).length : Int) (pack (zets k (gs.take (i + 1)))).length (pack (zets k (gs.take (i + 1)))) 0)) := fun A5 c5 V h1 h2 => join_l P C _ Aa A5 ca c5 hfit HSn.out V h1 h2
        have hle2 : (zets k (gs.take (i + 1))).length ≤ 8192 := by rw [HSn.out, List.length_append]; exact hfit
        have HLe2 := Lib.hid hle2
        clear hzt hfit hle2 htot
        generalize hQ : zets k (gs.take (i + 1)) = Q at *
        have HQ := Lib.hid hQ
        clear HP HSn hQ
        generalize hpp : pack P = pp at *
        generalize hpc : pack C = pc at *
        generalize hpq : pack Q = pq at *
        generalize P.length = lp at *
        generalize C.length = lc at *
        generalize hlq : Q.length = lq at *
        have HPQ := Lib.hid hpq; have HLQ := Lib.hid hlq
        clear hpp hpc hpq hlq
        go_wp2_with fail
        refine (HZ.out _).mono ?_
        rintro e w3 ⟨A5, c5, rfl, R5, B5⟩
        have hb3 := (B5.block _ hBw).trans HBox.out
        have n0 : w3.cell? ⟨w2.heap.size, 0, none⟩ = some (.int .i64 (lp : Int)) := (cell_at hb3 _).trans rfl
        have n1' : w3.cell? ⟨w2.heap.size, 1, none⟩ = some (.slice Aa pp.length ca) := (cell_at hb3 _).trans rfl
        have hs3 : w2.heap.size < w3.heap.size := Nat.lt_of_lt_of_le hBw B5.size
        have HB3 := Lib.hid hb3; have HR5 := Lib.hid R5; have HB5 := Lib.hid B5
        clear hb3 R5 B5
        go_wp2_with fail
        refine (HJ.out A5 c5 _ (((HRd.out.below HB5.out HB5.out.size)).on (one_below w3 _)) (HR5.out.on (one_below w3 _))).mono ?_
        rintro e w5 ⟨A6, c6, rfl, R6, B6⟩
        have hb4 : w5.heap[w2.heap.size]? = some (.cells #[.int .i64 (lp : Int), .slice Aa pp.length ca] 27 (0, 0)) := (B6.block _ (by rw [World.size_alloc]; omega)).trans ((Below.heap_alloc _ _ _ hs3).trans HB3.out)
        have q0 : w5.cell? ⟨w2.heap.size, 0, none⟩ = some (.int .i64 (lp : Int)) := (cell_at hb4 _).trans rfl
        have q1 : w5.cell? ⟨w2.heap.size, 1, none⟩ = some (.slice Aa pp.length ca) := (cell_at hb4 _).trans rfl
        have f0 := frz_at hb4 0
        have f1 := frz_at hb4 1
        have Hb4 := Lib.hid hb4
        have HR6 := Lib.hid R6
        have HB6 : Hid (Below w2.heap.size w2 w5) := HBel.out.trans ((HB5.out.trans (((one_below w3 _).trans (B6.mono (by rw [World.size_alloc]; omega))).mono HB5.out.size)).mono HBel.out.size)
        clear hb4 R6 B6 n0 n1'
        have HBx8 : Hid (((w5.setCell ⟨w2.heap.size, 0, none⟩ (.int .i64 (lq : Int))).setCell ⟨w2.heap.size, 1, none⟩ (.slice A6 pq.length c6)).heap[w2.heap.size]? = some (.cells #[.int .i64 (lq : Int), .slice A6 pq.length c6] 27 (0, 0))) := by
          show _ = _
          rw [heap_set_same _ _ _ _ _ _ (heap_set_same _ _ _ _ _ _ Hb4.out)]
          simp
        have HRd8 : Hid (Rd ((w5.setCell ⟨w2.heap.size, 0, none⟩ (.int .i64 (lq : Int))).setCell ⟨w2.heap.size, 1, none⟩ (.slice A6 pq.length c6)) ((w5.setCell ⟨w2.heap.size, 0, none⟩ (.int .i64 (lq : Int))).setCell ⟨w2.heap.size, 1, none⟩ (.slice A6 pq.length c6)).heap.size A6 pq) := by
          have e1 : (w5.setCell ⟨w2.heap.size, 0, none⟩ (.int .i64 (lq : Int))).heap[w2.heap.size]? = some (.cells #[.int .i64 (lq : Int), .slice Aa pp.length ca] 27 (0, 0)) := by
            rw [heap_set_same _ _ _ _ _ _ Hb4.out]; simp
          have r8 := (HR6.out.setK (i := 0) (.int .i64 (lq : Int)) Hb4.out).setK (i := 1) (.slice A6 pq.length c6) e1
          have hsz : ((w5.setCell ⟨w2.heap.size, 0, none⟩ (.int .i64 (lq : Int))).setCell ⟨w2.heap.size, 1, none⟩ (.slice A6 pq.length c6)).heap.size = w5.heap.size := by simp [World.setCell]
          show Rd _ _ A6 pq
          rw [hsz]; exact r8
        have HB8 : Hid (Below w2.heap.size w2 ((w5.setCell ⟨w2.heap.size, 0, none⟩ (.int .i64 (lq : Int))).setCell ⟨w2.heap.size, 1, none⟩ (.slice A6 pq.length c6))) := (HB6.out.setCell (Nat.le_refl _) _).setCell (Nat.le_refl _) _
        go_wp2
        go_roundw
        case rel => exact ⟨i + 1, A6, c6, by rw [HL.out]; omega, by go_num, by rw [HQ.out, HLQ.out]; exact HLe2.out, by rw [HQ.out, HLQ.out, HPQ.out]; exact HBx8.out, by rw [HQ.out, HPQ.out]; exact HRd8.out, HB8.out⟩
        case measure => simp [intOf]; omega
      · have hJ := fun A5 c5 V (h1 : Rd V V.heap.size Aa (pack P)) (h2 : Rd V V.heap.size A5 (pack C)) => join_l8 P C htot hCl Aa A5 ca c5 (by omega) V h1 h2
        have HJ := Lib.hid hJ; clear hJ
        obtain ⟨rfl, rfl⟩ := H2.out (by omega)
        clear hzt hfit htot hCl HP HSn H1 H2
        generalize hpp : pack P = pp at *
        generalize hpc : pack C = pc at *
        generalize P.length = lp at *
        generalize C.length = lc at *
        clear hpp hpc
        go_wp2_with fail
        refine (HZ.out _).mono ?_
        rintro e w3 ⟨A5, c5, rfl, R5, B5⟩
        have hb3 := (B5.block _ hBw).trans HBox.out
        have n0 : w3.cell? ⟨w2.heap.size, 0, none⟩ = some (.int .i64 (lp : Int)) := (cell_at hb3 _).trans rfl
        have n1' : w3.cell? ⟨w2.heap.size, 1, none⟩ = some (.slice Aa pp.length ca) := (cell_at hb3 _).trans rfl
        have hs3 : w2.heap.size < w3.heap.size := Nat.lt_of_lt_of_le hBw B5.size
        have HB3 := Lib.hid hb3; have HR5 := Lib.hid R5; have HB5 := Lib.hid B5
        clear hb3 R5 B5
        go_wp2_with fail
        refine (HJ.out A5 c5 _ (((HRd.out.below HB5.out HB5.out.size)).on (one_below w3 _)) (HR5.out.on (one_below w3 _))).mono ?_
        rintro e w5 ⟨A6, c6, rfl, R6, B6⟩
        have hb4 : w5.heap[w2.heap.size]? = some (.cells #[.int .i64 (lp : Int), .slice Aa pp.length ca] 27 (0, 0)) := (B6.block _ (by rw [World.size_alloc]; omega)).trans ((Below.heap_alloc _ _ _ hs3).trans HB3.out)
        have q0 : w5.cell? ⟨w2.heap.size, 0, none⟩ = some (.int .i64 (lp : Int)) := (cell_at hb4 _).trans rfl
        have q1 : w5.cell? ⟨w2.heap.size, 1, none⟩ = some (.slice Aa pp.length ca) := (cell_at hb4 _).trans rfl
        have f0 := frz_at hb4 0
        have f1 := frz_at hb4 1
        have HB6 : Hid (Below w2.heap.size w2 w5) := HBel.out.trans ((HB5.out.trans (((one_below w3 _).trans (B6.mono (by rw [World.size_alloc]; omega))).mono HB5.out.size)).mono HBel.out.size)
        have HB8 : Hid (Below w2.heap.size w2 ((w5.setCell ⟨w2.heap.size, 0, none⟩ (.int .i64 0)).setCell ⟨w2.heap.size, 1, none⟩ (.slice A6 0 c6))) := (HB6.out.setCell (Nat.le_refl _) _).setCell (Nat.le_refl _) _
        clear hb4 R6 B6 n0 n1'
        obtain ⟨⟨d0, d1, g0, g1⟩, HG2⟩ := gv_store2 (w := w) (w1 := (w5.setCell ⟨w2.heap.size, 0, none⟩ (.int .i64 0)).setCell ⟨w2.heap.size, 1, none⟩ (.slice A6 0 c6)) (len := 0) (n := 0) (bs := []) (A := none) (c := 0) (r := w.heap.size) (Rd.nil _ _ none) (Nat.le_refl _) ((HB8.out.block _ HLow.out.2.2).trans HLow.out.2.1) (HLow.out.1.trans (HB8.out.mono HLow.out.1.size)) 8
        have hs8 := HLow.out.2.2
        go_wp2
        exact bodyPost_ret (v := .tuple #[.agg #[.int .i64 0, .slice none 0 0], .int .i64 8]) (by simp [results, Tryz.results104, go_sem, d0, d1]) rfl HG2.out
    · have e : gs.take i = gs := List.take_of_length_le (by rw [HL.out]; omega)
      rw [e] at HBox HRd htot
      obtain ⟨rfl, rfl⟩ := H1.out htot
      generalize zets k gs = Q at *
      have n0 : wr.cell? ⟨w2.heap.size, 0, none⟩ = some (.int .i64 (Q.length : Int)) := (cell_at HBox.out _).trans rfl
      have n1' : wr.cell? ⟨w2.heap.size, 1, none⟩ = some (.slice Aa (pack Q).length ca) := (cell_at HBox.out _).trans rfl
      obtain ⟨⟨d0, d1, g0, g1⟩, HG2⟩ := gv_store (w := w) (w1 := wr) (L := Q) (A := Aa) (c := ca) (r := w.heap.size) HRd.out (Nat.le_refl _) ((hbel.block _ HLow.out.2.2).trans HLow.out.2.1) (HLow.out.1.trans (hbel.mono HLow.out.1.size))
      clear hbel e htot
      generalize Q.length = lq at *
      generalize (pack Q).length = nq at *
      go_wp2
      exact bodyPost_ret (v := .tuple #[.agg #[.int .i64 (lq : Int), .slice Aa nq ca], .int .i64 0]) (by simp [results, Tryz.results104, go_sem, d0, d1]) rfl HG2.out
theorem write_any (xs : List Int) (n : Nat) (hn : xs.length = n) (hn2 : n ≤ 9223372036854775807) (a k : Int) (A : Option Addr) (c : Nat) (w : World) (h : RdV w w.heap.size A (zc xs)) (l : List Nat) (m j : Nat) (hx : xs = ns l) (hl : Rising l) (ha : a = (m : Int)) (hm : m ≤ 1048576) (hk : k = (j : Int)) (hj1 : 1 ≤ j) (hj2 : j ≤ 16) :
    Calls Tryz.prog 104 #[.slice A n c, .int .i64 a, .int .i64 k] w (Gave w (if (zets j (gps (m : Int) l)).length ≤ 8192 then zets j (gps (m : Int) l) else []) (if (zets j (gps (m : Int) l)).length ≤ 8192 then 0 else 8)) := by
  subst hx; subst ha; subst hk
  refine write_in l hl n (by rw [ns_length] at hn; exact hn) m hm j hj1 hj2 _ rfl _ _ (fun h => ?_) (fun h => ?_) A c w h
  · rw [if_pos h, if_pos h]; exact ⟨rfl, rfl⟩
  · rw [if_neg (by omega), if_neg (by omega)]; exact ⟨rfl, rfl⟩
end
end Go.Proofs.YticdnodlapafoaaGreat
