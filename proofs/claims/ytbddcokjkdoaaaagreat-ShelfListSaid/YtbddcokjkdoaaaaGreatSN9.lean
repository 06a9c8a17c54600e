/- Texts of this proof, one behind the other; each fact names its conditions. -/
import Derived.Test.YtbddcokjkdoaaaaGreatSN4
import Derived.Test.YtbddcokjkdoaaaaGreatSN6
import Derived.Deep.RegionHeld3
import Derived.Test.YtbddcokjkdoaaaaGreatSN7
import Derived.Test.YtbddcokjkdoaaaaGreatSN2
import Derived.Test.YtbddcokjkdoaaaaGreatSN8
namespace Go.Proofs.YtbddcokjkdoaaaaGreat
section
section
set_option maxRecDepth 100000
set_option linter.unusedVariables false
open Go.RowKit
theorem gv_store2 {w w1 : World} {len : Int} {n : Nat} {bs : List Nat} {A : Option Addr} {c r : Nat} (R1 : Rd w1 w1.heap.size A bs) (hr : w.heap.size ≤ r) (hrb : w1.heap[r]? = some (.cells #[.int .i64 0, .slice none 0 0] 27 (0, 0))) (hlow : Below w.heap.size w w1) (err : Int) :
    (w1.cell? ⟨r, 0, none⟩ = some (.int .i64 0) ∧ w1.cell? ⟨r, 1, none⟩ = some (.slice none 0 0) ∧ w1.frozen? ⟨r, 0, none⟩ = false ∧ w1.frozen? ⟨r, 1, none⟩ = false) ∧
    Hid (Gv w len n bs err (.returned (.tuple #[.agg #[.int .i64 len, .slice A n c], .int .i64 err])) ((w1.setCell ⟨r, 0, none⟩ (.int .i64 len)).setCell ⟨r, 1, none⟩ (.slice A n c))) := by
  refine ⟨blk_cells hrb, A, c, rfl, ?_, (hlow.setCell (p := ⟨r, 0, none⟩) hr _).setCell (p := ⟨r, 1, none⟩) hr _⟩
  have r1 := R1.setK (i := 0) (.int .i64 len) hrb
  have hr2 : (w1.setCell ⟨r, 0, none⟩ (.int .i64 len)).heap[r]? = some (.cells #[.int .i64 len, .slice none 0 0] 27 (0, 0)) := by
    rw [heap_set_same _ _ _ _ 27 _ hrb]; simp
  have r2 := r1.setK (i := 1) (.slice A n c) hr2
  have e : ((w1.setCell ⟨r, 0, none⟩ (.int .i64 len)).setCell ⟨r, 1, none⟩ (.slice A n c)).heap.size = w1.heap.size := by simp [World.setCell]
  rw [e]
  exact r2
theorem res_at {w w1 : World} (B1 : Below (w.alloc (.cells #[.int .i64 0, .slice none 0 0] 27)).heap.size (w.alloc (.cells #[.int .i64 0, .slice none 0 0] 27)) w1) :
    w1.heap[w.heap.size]? = some (.cells #[.int .i64 0, .slice none 0 0] 27 (0, 0)) ∧ Below w.heap.size w w1 ∧ w.heap.size < w1.heap.size := by
  have h := B1.size
  rw [World.size_alloc] at h
  refine ⟨(B1.block _ (by rw [World.size_alloc]; omega)).trans (World.alloc_heap_new w _), (one_below w _).trans (B1.mono (by rw [World.size_alloc]; omega)), by omega⟩
theorem box_held {V w' : World} {a b : Value} (h : w'.heap[V.heap.size]? = (V.alloc (.cells #[a, b] 27)).heap[V.heap.size]?) :
    w'.cell? ⟨V.heap.size, 0, none⟩ = some a ∧ w'.cell? ⟨V.heap.size, 1, none⟩ = some b := by
  have e := h.trans (World.alloc_heap_new V (.cells #[a, b] 27))
  exact ⟨(blk_cells e).1, (blk_cells e).2.1⟩
theorem u64w (x : Int) (h0 : 0 ≤ x) (h1 : x < 18446744073709551616) : IntKind.u64.wrap x = x := by
  simp [IntKind.wrap, IntKind.bits, IntKind.signed]; omega
theorem sub_w (n k m : Nat) (hn : n ≤ 1099511627776) (hk : k ≤ 40) (hm : n + 1 = 2 ^ k + m) : IntKind.u64.wrap (IntKind.u64.wrap ((n : Int) + 1) - IntKind.u64.wrap (2 ^ k)) = (m : Int) := by
  have h := Nat.pow_le_pow_right (n := 2) (by omega) hk
  have e : ((2 : Int) ^ k) = ((2 ^ k : Nat) : Int) := by simp
  rw [e]
  generalize 2 ^ k = q at *
  rw [u64w ((n : Int) + 1) (by omega) (by omega), u64w (q : Int) (by omega) (by omega), u64w _ (by omega) (by omega)]
  omega
set_option maxHeartbeats 2000000 in
theorem write_u (n k m : Nat) (hn : n ≤ 1099511627776) (hk : k ≤ 40) (hm : n + 1 = 2 ^ k + m) (lS lL : Int) (nS nL : Nat) (bS bL : List Nat)
    (HT : Hid (∀ V, Calls Tryz.prog 244 #[.int .u64 (n : Int)] V fun e w' => e = .returned (.int .i64 (k : Int)) ∧ V = w'))
    (HF : Hid (∀ V, Calls Tryz.prog 217 #[.int .u64 (k : Int)] V (Gv V lS nS bS 0)))
    (HP : Hid (∀ A c V, Rd V V.heap.size A bS → Calls Tryz.prog 65 #[.agg #[.int .i64 lS, .slice A nS c], .int .u64 (m : Int), .int .i64 (k : Int)] V (Gv V lL nL bL 0))) (w : World) :
    Calls Tryz.prog 216 #[.int .u64 (n : Int), .func (.func 217) #[] #[]] w (Gv w lL nL bL 0) := by
  have t1 : decide ((n : Int) ≤ 1099511627776) = true := by simp; omega
  have k0 : (0 : Int) ≤ (k : Int) := by omega
  go_enter Tryz.func216, Tryz.ntmps216
  go_wp2_with fail
  refine (range1 0 true 0 rfl _ _ (World.size_alloc _ _)).mono ?_
  rintro e w1 ⟨rfl, B1⟩
  have HA := Lib.hid (res_at B1)
  clear B1
  go_wp2_with fail
  refine (HT.out _).mono ?_
  rintro e _ ⟨rfl, rfl⟩
  go_wp2_with fail
  refine (HF.out _).mono ?_
  rintro e w2 ⟨A1, c1, rfl, R1, B2⟩
  have HLow : Hid (Below w.heap.size w w2) := HA.out.2.1.trans (B2.mono (Nat.le_of_lt HA.out.2.2))
  have HRes : Hid (w2.heap[w.heap.size]? = some (.cells #[.int .i64 0, .slice none 0 0] 27 (0, 0))) := (B2.block _ HA.out.2.2).trans HA.out.1
  have HLt : Hid (w.heap.size < w2.heap.size) := Nat.lt_of_lt_of_le HA.out.2.2 B2.size
  have HR := Lib.hid R1
  clear R1 B2
  go_wp2_with fail
  generalize hV : w2.alloc (.cells #[.int .i64 lS, .slice A1 nS c1] 27) = V
  have HVb : Hid (Below w2.heap.size w2 V) := hV ▸ one_below _ _
  have HK : Hid (∀ w' : World, w'.heap[w2.heap.size]? = V.heap[w2.heap.size]? → w'.cell? ⟨w2.heap.size, 0, none⟩ = some (.int .i64 lS) ∧ w'.cell? ⟨w2.heap.size, 1, none⟩ = some (.slice A1 nS c1)) := by
    subst hV
    exact fun w' h => box_held h
  have HSz0 : w2.heap.size < V.heap.size := by subst hV; rw [World.size_alloc]; omega
  clear hV
  have HRV : Hid (Rd V V.heap.size A1 bS) := HR.out.on HVb.out
  have HG : Hid (∀ w6 A4 c4, Rd w6 w6.heap.size A4 bL → Below V.heap.size V w6 → (w6.cell? ⟨w.heap.size, 0, none⟩ = some (.int .i64 0) ∧ w6.cell? ⟨w.heap.size, 1, none⟩ = some (.slice none 0 0) ∧ w6.frozen? ⟨w.heap.size, 0, none⟩ = false ∧ w6.frozen? ⟨w.heap.size, 1, none⟩ = false) ∧
      Hid (Gv w lL nL bL 0 (.returned (.tuple #[.agg #[.int .i64 lL, .slice A4 nL c4], .int .i64 0])) ((w6.setCell ⟨w.heap.size, 0, none⟩ (.int .i64 lL)).setCell ⟨w.heap.size, 1, none⟩ (.slice A4 nL c4)))) := by
    intro w6 A4 c4 R4 B4
    have b6 : Below w2.heap.size w2 w6 := HVb.out.trans (B4.mono HVb.out.size)
    exact gv_store2 R4 (Nat.le_refl _) ((b6.block _ HLt.out).trans HRes.out) (HLow.out.trans (b6.mono HLow.out.size)) 0
  have HNe : Hid (w2.heap.size ≠ w.heap.size) := fun e => by have := HLt.out; omega
  have HW := Lib.hid (sub_w n k m hn hk hm)
  have HSz : Hid (w2.heap.size < V.heap.size) := HSz0
  clear HA HF HT HR hm
  go_region_held3 (fun w' => w'.cell? ⟨w2.heap.size, 0, none⟩ = some (.int .i64 lS) ∧ w'.cell? ⟨w2.heap.size, 1, none⟩ = some (.slice A1 nS c1))
    ((refine HK.out _ ?_; first | exact (Below.heap_setCell _ _ _ _ HNe.out).trans ((Below.heap_setCell _ _ _ _ HNe.out).trans hb6.out) | exact (Below.heap_setCell _ _ _ _ HNe.out).trans hb6.out | exact hb6.out | exact rfl))
    (first
      | (go_at_call 65; rw [HW.out]; refine (HP.out A1 c1 V.drew HRV.out).mono ?_; rintro e w6 ⟨A4, c4, rfl, R4, B4⟩; have hk6 : Hid (Below V.heap.size V w6) := ((Below.refl _ V).drew).trans B4; have hb6 : Hid (w6.heap[w2.heap.size]? = V.heap[w2.heap.size]?) := hk6.out.block _ HSz.out; obtain ⟨⟨d0, d1, g0, g1⟩, HGf⟩ := HG.out w6 A4 c4 R4 hk6.out; clear R4 B4))
  go_wp2
  exact bodyPost_ret (v := .tuple #[.agg #[.int .i64 lL, .slice A4 nL c4], .int .i64 0]) (by simp [results, Tryz.results216, go_sem, d0, d1]) rfl HGf.out
set_option maxHeartbeats 2000000 in
theorem gamma_pass (n : Nat) (l e0 : Int) (m : Nat) (b : List Nat)
    (HF : Hid (∀ V, Calls Tryz.prog 216 #[.int .u64 (n : Int), .func (.func 217) #[] #[]] V (Gv V l m b e0))) (w : World) :
    Calls Tryz.prog 178 #[.int .u64 (n : Int)] w (Gv w l m b e0) := by
  go_enter Tryz.func178, Tryz.ntmps178
  go_wp2_with fail
  refine (HF.out _).mono ?_
  rintro e w1 ⟨A1, c1, rfl, R1, B1⟩
  obtain ⟨hr, hb, _⟩ := res_at B1
  obtain ⟨⟨d0, d1, g0, g1⟩, HG⟩ := gv_store2 (len := l) (n := m) (A := A1) (c := c1) R1 (Nat.le_refl _) hr hb e0
  clear hr hb B1 R1
  go_wp2
  exact bodyPost_ret (v := .tuple #[.agg #[.int .i64 l, .slice A1 m c1], .int .i64 e0]) (by simp [results, Tryz.results178, go_sem, d0, d1]) rfl HG.out
theorem gamma_ok (n : Nat) (hn : n ≤ 1099511627776) (L : List Bool) (hL : L = gam n) (w : World) : Calls Tryz.prog 178 #[.int .u64 (n : Int)] w (Gv w (L.length : Int) (pack L).length (pack L) 0) := by
  have h1 := lg_le n
  have h2 := lg_lt n
  have h40 := lg_lt_of n 41 (by omega)
  rw [Nat.pow_succ] at h2
  refine gamma_pass n _ 0 _ _ (fun V => write_u n (lg n) (n + 1 - 2 ^ lg n) hn (by omega) (by omega) _ _ _ _ _ _ (fun V => tail_any n (by omega) V) (fun V => code_any (lg n) (uc (lg n)) 0 (by rw [if_neg (by omega)]) (by rw [if_neg (by omega)]) V) (fun A c V h => ?_) V) w
  exact put_l (uc (lg n)) L A c _ _ (by omega) (Nat.div_eq_of_lt (by omega)) (by rw [uc_length]; omega) (by omega) (by rw [hL, nb_sub _ _ h1 (by rw [Nat.pow_succ]; omega)]; rfl) V h
end
section
set_option maxRecDepth 100000
set_option linter.unusedVariables false
open Go.RowKit
def okK (k : Int) : Bool := decide (1 ≤ k ∧ k ≤ 16)
set_option maxHeartbeats 400000 in
theorem isK_any (k : Int) (w : World) : Calls Tryz.prog 63 #[.int .i64 k] w fun e w' => e = .returned (.bool (okK k)) ∧ w = w' := by
  by_cases h1 : 1 ≤ k
  · by_cases h2 : k ≤ 16
    · have e : okK k = true := by unfold okK; simp; omega
      have t1 : decide ((1 : Int) ≤ k) = true := by simp; omega
      have t2 : decide (k ≤ 16) = true := by simp; omega
      rw [e]
      go_enter Tryz.func63, Tryz.ntmps63
      go_wp2
      go_ret
      exact ⟨rfl, rfl⟩
    · have e : okK k = false := by unfold okK; simp; omega
      have t1 : decide ((1 : Int) ≤ k) = true := by simp; omega
      have t2 : decide (k ≤ 16) = false := by simp; omega
      rw [e]
      go_enter Tryz.func63, Tryz.ntmps63
      go_wp2
      go_ret
      exact ⟨rfl, rfl⟩
  · have e : okK k = false := by unfold okK; simp; omega
    have t1 : decide ((1 : Int) ≤ k) = false := by simp; omega
    rw [e]
    go_enter Tryz.func63, Tryz.ntmps63
    go_wp2
    go_ret
    exact ⟨rfl, rfl⟩
theorem bitLen_sz (m : Nat) (h1 : 1 ≤ m) (h2 : m < 18446744073709551616) : Lib.bitLen (m - 1) = sz m := by
  rcases (show m = 1 ∨ ∃ q, m = q + 2 from by
    rcases m with _ | _ | q
    · omega
    · exact .inl rfl
    · exact .inr ⟨q, rfl⟩) with rfl | ⟨q, rfl⟩
  · rfl
  · have e : q + 2 - 1 = q + 1 := by omega
    rw [e, bitLen_succ q (by omega)]
    unfold sz lg
    rw [if_neg (by omega), e]
theorem sub_sh (m z : Nat) (h1 : z ≤ 57) (hm : m ≤ 2 ^ z) (s : Nat) (hs : s + m = 2 ^ z) : IntKind.u64.wrap (IntKind.u64.wrap (2 ^ z) - (m : Int)) = (s : Int) := by
  have h := Nat.pow_le_pow_right (n := 2) (by omega) h1
  have e : ((2 : Int) ^ z) = ((2 ^ z : Nat) : Int) := by simp
  rw [e]
  generalize 2 ^ z = q at *
  rw [u64w (q : Int) (by omega) (by omega), u64w _ (by omega) (by omega)]
  omega
set_option maxHeartbeats 1000000 in
theorem sizes_any (m : Nat) (h1 : 1 ≤ m) (h2 : m ≤ 72057594037927936) (w : World) :
    Calls Tryz.prog 263 #[.int .u64 (m : Int)] w fun e w' => e = .returned (.tuple #[.int .i64 (sz m : Int), .int .u64 (sh m : Int)]) ∧ Below w.heap.size w w' := by
  have HL := Lib.hid (len64_any (m - 1) (by omega))
  rw [bitLen_sz m h1 (by omega)] at HL
  have hz := sz_le m 57 (by omega)
  have HW := Lib.hid (sub_sh m (sz m) hz (sz_ge m) (sh m) (sh_add m))
  have e1 : ((m - 1 : Nat) : Int) = (m : Int) - 1 := by omega
  rw [e1] at HL
  generalize sh m = s at *
  generalize sz m = z at *
  have z0 : (0 : Int) ≤ (z : Int) := by omega
  go_enter Tryz.func263, Tryz.ntmps263
  go_wp2_with fail
  refine (HL.out _).mono ?_
  rintro e _ ⟨rfl, rfl⟩
  go_wp2_with fail
  go_region_held3 (fun _ => True) (trivial) (fail)
  rw [HW.out]
  go_wp2
  go_ret2
  exact ⟨rfl, (Below.refl _ _).drew⟩
theorem str_w (s k f g : Nat) (hs : s ≤ 40) (hk : k ≤ 16) (hf : 2 ^ s = f) (hg : f + g = 2 ^ (s + k)) : IntKind.u64.wrap (IntKind.u64.wrap ((f : Int) * 2 ^ k) - (f : Int)) = (g : Int) := by
  have h := Nat.pow_le_pow_right (n := 2) (by omega) (show s + k ≤ 56 by omega)
  have e : ((f : Int) * 2 ^ k) = ((2 ^ (s + k) : Nat) : Int) := by rw [Nat.pow_add, hf]; simp
  rw [e]
  generalize 2 ^ (s + k) = q at *
  rw [u64w (q : Int) (by omega) (by omega), u64w _ (by omega) (by omega)]
  omega
theorem pow_w (s f : Nat) (hs : s ≤ 40) (hf : 2 ^ s = f) : IntKind.u64.wrap (2 ^ s) = (f : Int) := by
  have h := Nat.pow_le_pow_right (n := 2) (by omega) hs
  have e : ((2 : Int) ^ s) = ((2 ^ s : Nat) : Int) := by simp
  rw [e, hf]
  rw [hf] at h
  exact u64w _ (by omega) (by omega)
set_option maxHeartbeats 1000000 in
theorem stretch_any (s k f g : Nat) (hs : s ≤ 40) (hk : k ≤ 16) (hf : 2 ^ s = f) (hg : f + g = 2 ^ (s + k)) (w : World) :
    Calls Tryz.prog 225 #[.int .i64 (s : Int), .int .i64 (k : Int)] w fun e w' => e = .returned (.tuple #[.int .u64 (f : Int), .int .u64 (g : Int)]) ∧ Below w.heap.size w w' := by
  have HP := Lib.hid (pow_w s f hs hf)
  have HW := Lib.hid (str_w s k f g hs hk hf hg)
  clear hf hg
  have s0 : (0 : Int) ≤ (s : Int) := by omega
  have k0 : (0 : Int) ≤ (k : Int) := by omega
  go_enter Tryz.func225, Tryz.ntmps225
  go_wp2_with fail
  rw [HP.out]
  go_region_held3 (fun _ => True) (trivial) (fail)
  rw [HW.out]
  go_wp2
  go_ret2
  exact ⟨rfl, (Below.refl _ _).drew⟩
end
section
set_option maxRecDepth 100000
set_option linter.unusedVariables false
open Go.RowKit
theorem shl_w (k m : Nat) (hk : k ≤ 63) (hm : m < 2 ^ k) : IntKind.u64.wrap (IntKind.u64.wrap (IntKind.u64.wrap (2 ^ k) + (m : Int)) - 1) = ((2 ^ k + m - 1 : Nat) : Int) := by
  have h := Nat.pow_le_pow_right (n := 2) (by omega) hk
  have e : ((2 : Int) ^ k) = ((2 ^ k : Nat) : Int) := by simp
  have h1 := Nat.two_pow_pos k
  rw [e]
  generalize 2 ^ k = q at *
  rw [u64w (q : Int) (by omega) (by omega), u64w ((q : Int) + (m : Int)) (by omega) (by omega), u64w _ (by omega) (by omega)]
  omega
set_option maxHeartbeats 2000000 in
theorem read_u_e (w : World) (len : Int) (A : Option Addr) (c N : Nat) (bs : List Nat) (p : Int) (hR : Rd w w.heap.size A bs) (k fr : Nat) (e0 : Int) (h0 : e0 ≠ 0)
    (HF : Hid (∀ V, Rd V V.heap.size A bs → Calls Tryz.prog 228 #[.agg #[.int .i64 len, .slice A N c], .int .i64 p] V (ReadP V k fr e0))) :
    Calls Tryz.prog 227 #[.agg #[.int .i64 len, .slice A N c], .int .i64 p, .func (.func 228) #[] #[]] w (ReadP w 0 0 e0) := by
  have HA := Lib.hid hR; clear hR
  have t0 : (e0 != 0) = true := by simpa using h0
  go_enter Tryz.func227, Tryz.ntmps227
  go_wp2_with fail
  refine (HF.out _ (HA.out.on (one_below _ _))).mono ?_
  rintro e w1 ⟨rfl, B1⟩
  have HB : Hid (Below w.heap.size w w1) := (one_below w _).trans (B1.mono (by rw [World.size_alloc]; omega))
  rw [World.size_alloc] at B1
  have HBx := Lib.hid B1
  obtain ⟨p1, q1⟩ := box_at B1
  clear B1
  go_wp2_with fail
  refine (range1 e0 _ e0 (by unfold rgE; rw [if_neg (fun h => h0 h.1)]) _ _ rfl).mono ?_
  rintro e w2 ⟨rfl, B2⟩
  have HB2 : Hid (Below w.heap.size w w2) := HB.out.trans (B2.mono HB.out.size)
  clear B2 h0
  go_wp2
  go_ret3
  exact ⟨rfl, HB2.out⟩
set_option maxHeartbeats 2000000 in
theorem read_u_big (w : World) (len : Int) (A : Option Addr) (c N : Nat) (bs : List Nat) (p : Int) (hR : Rd w w.heap.size A bs) (k fr : Nat) (hk : 63 < k)
    (HF : Hid (∀ V, Rd V V.heap.size A bs → Calls Tryz.prog 228 #[.agg #[.int .i64 len, .slice A N c], .int .i64 p] V (ReadP V k fr 0))) :
    Calls Tryz.prog 227 #[.agg #[.int .i64 len, .slice A N c], .int .i64 p, .func (.func 228) #[] #[]] w (ReadP w 0 0 3) := by
  have HA := Lib.hid hR; clear hR
  have t1 : decide ((k : Int) ≤ 63) = false := by simp; omega
  go_enter Tryz.func227, Tryz.ntmps227
  go_wp2_with fail
  refine (HF.out _ (HA.out.on (one_below _ _))).mono ?_
  rintro e w1 ⟨rfl, B1⟩
  have HB : Hid (Below w.heap.size w w1) := (one_below w _).trans (B1.mono (by rw [World.size_alloc]; omega))
  rw [World.size_alloc] at B1
  have HBx := Lib.hid B1
  obtain ⟨p1, q1⟩ := box_at B1
  clear B1
  go_wp2_with fail
  refine (range1 0 false 3 rfl _ _ rfl).mono ?_
  rintro e w2 ⟨rfl, B2⟩
  have HB2 : Hid (Below w.heap.size w w2) := HB.out.trans (B2.mono HB.out.size)
  clear B2
  go_wp2
  go_ret3
  exact ⟨rfl, HB2.out⟩
set_option maxHeartbeats 2000000 in
theorem read_u_short (w : World) (len : Int) (A : Option Addr) (c N : Nat) (bs : List Nat) (p : Int) (hR : Rd w w.heap.size A bs) (k fr : Nat) (hk : k ≤ 63) (e1 : Int) (h1 : e1 ≠ 0)
    (HF : Hid (∀ V, Rd V V.heap.size A bs → Calls Tryz.prog 228 #[.agg #[.int .i64 len, .slice A N c], .int .i64 p] V (ReadP V k fr 0)))
    (HG : Hid (∀ V, Rd V V.heap.size A bs → Calls Tryz.prog 66 #[.agg #[.int .i64 len, .slice A N c], .int .i64 (fr : Int), .int .i64 (k : Int)] V (Got V 0 e1))) :
    Calls Tryz.prog 227 #[.agg #[.int .i64 len, .slice A N c], .int .i64 p, .func (.func 228) #[] #[]] w (ReadP w 0 0 e1) := by
  have HA := Lib.hid hR; clear hR
  have t1 : decide ((k : Int) ≤ 63) = true := by simp; omega
  have t2 : (e1 != 0) = true := by simpa using h1
  go_enter Tryz.func227, Tryz.ntmps227
  go_wp2_with fail
  refine (HF.out _ (HA.out.on (one_below _ _))).mono ?_
  rintro e w1 ⟨rfl, B1⟩
  have HB : Hid (Below w.heap.size w w1) := (one_below w _).trans (B1.mono (by rw [World.size_alloc]; omega))
  rw [World.size_alloc] at B1
  have HBx := Lib.hid B1
  obtain ⟨p1, q1⟩ := box_at B1
  clear B1
  go_wp2_with fail
  refine (range1 0 true 0 rfl _ _ rfl).mono ?_
  rintro e w2 ⟨rfl, B2⟩
  have HB2 : Hid (Below w.heap.size w w2) := HB.out.trans (B2.mono HB.out.size)
  have HBy : Hid (Below (w.heap.size + 1) (w.alloc (.cells #[.int .i64 len, .slice A N c] 27)) w2) := HBx.out.trans (B2.mono (by have := HBx.out.size; rw [World.size_alloc] at this; omega))
  clear B2 p1 q1 HBx
  obtain ⟨p1, q1⟩ := box_at HBy.out
  go_wp2_with fail
  refine (HG.out _ (HA.out.on HB2.out)).mono ?_
  rintro e w3 ⟨rfl, B3⟩
  have HB3 : Hid (Below w.heap.size w w3) := HB2.out.trans (B3.mono HB2.out.size)
  clear B3
  go_wp2_with fail
  refine (range1 e1 _ e1 (by unfold rgE; rw [if_neg (fun h => h1 h.1)]) _ _ rfl).mono ?_
  rintro e w4 ⟨rfl, B4⟩
  have HB4 : Hid (Below w.heap.size w w4) := HB3.out.trans (B4.mono HB3.out.size)
  clear B4 h1
  go_wp2
  go_ret3
  exact ⟨rfl, HB4.out⟩
set_option maxHeartbeats 2000000 in
theorem read_u_over (w : World) (len : Int) (A : Option Addr) (c N : Nat) (bs : List Nat) (p : Int) (hR : Rd w w.heap.size A bs) (k fr m : Nat) (hk : k ≤ 63) (hm : m < 2 ^ k) (hq : 1099511627776 < 2 ^ k + m - 1)
    (HF : Hid (∀ V, Rd V V.heap.size A bs → Calls Tryz.prog 228 #[.agg #[.int .i64 len, .slice A N c], .int .i64 p] V (ReadP V k fr 0)))
    (HG : Hid (∀ V, Rd V V.heap.size A bs → Calls Tryz.prog 66 #[.agg #[.int .i64 len, .slice A N c], .int .i64 (fr : Int), .int .i64 (k : Int)] V (Got V m 0))) :
    Calls Tryz.prog 227 #[.agg #[.int .i64 len, .slice A N c], .int .i64 p, .func (.func 228) #[] #[]] w (ReadP w 0 0 3) := by
  have HA := Lib.hid hR; clear hR
  have t1 : decide ((k : Int) ≤ 63) = true := by simp; omega
  go_enter Tryz.func227, Tryz.ntmps227
  go_wp2_with fail
  refine (HF.out _ (HA.out.on (one_below _ _))).mono ?_
  rintro e w1 ⟨rfl, B1⟩
  have HB : Hid (Below w.heap.size w w1) := (one_below w _).trans (B1.mono (by rw [World.size_alloc]; omega))
  rw [World.size_alloc] at B1
  have HBx := Lib.hid B1
  obtain ⟨p1, q1⟩ := box_at B1
  clear B1
  go_wp2_with fail
  refine (range1 0 true 0 rfl _ _ rfl).mono ?_
  rintro e w2 ⟨rfl, B2⟩
  have HB2 : Hid (Below w.heap.size w w2) := HB.out.trans (B2.mono HB.out.size)
  have HBy : Hid (Below (w.heap.size + 1) (w.alloc (.cells #[.int .i64 len, .slice A N c] 27)) w2) := HBx.out.trans (B2.mono (by have := HBx.out.size; rw [World.size_alloc] at this; omega))
  clear B2 p1 q1 HBx
  obtain ⟨p1, q1⟩ := box_at HBy.out
  go_wp2_with fail
  refine (HG.out _ (HA.out.on HB2.out)).mono ?_
  rintro e w3 ⟨rfl, B3⟩
  have HB3 : Hid (Below w.heap.size w w3) := HB2.out.trans (B3.mono HB2.out.size)
  clear B3
  have HW := Lib.hid (shl_w k m hk hm)
  have t3 : decide (((2 ^ k + m - 1 : Nat) : Int) ≤ 1099511627776) = false := by simp only [decide_eq_false_iff_not]; omega
  clear hq hm
  generalize 2 ^ k + m - 1 = r at *
  go_wp2_with fail
  rw [HW.out, t3]
  refine (range1 0 false 3 rfl _ _ rfl).mono ?_
  rintro e w4 ⟨rfl, B4⟩
  have HB4 : Hid (Below w.heap.size w w4) := HB3.out.trans (B4.mono HB3.out.size)
  clear B4
  go_wp2
  go_ret3
  exact ⟨rfl, HB4.out⟩
set_option maxHeartbeats 2000000 in
theorem read_u_ok (w : World) (len : Int) (A : Option Addr) (c N : Nat) (bs : List Nat) (p : Int) (hR : Rd w w.heap.size A bs) (k fr m : Nat) (hk : k ≤ 63) (hm : m < 2 ^ k) (hf : fr ≤ 8192) (r to : Nat) (hr : 2 ^ k + m - 1 = r) (hto : fr + k = to) (hq : r ≤ 1099511627776)
    (HF : Hid (∀ V, Rd V V.heap.size A bs → Calls Tryz.prog 228 #[.agg #[.int .i64 len, .slice A N c], .int .i64 p] V (ReadP V k fr 0)))
    (HG : Hid (∀ V, Rd V V.heap.size A bs → Calls Tryz.prog 66 #[.agg #[.int .i64 len, .slice A N c], .int .i64 (fr : Int), .int .i64 (k : Int)] V (Got V m 0))) :
    Calls Tryz.prog 227 #[.agg #[.int .i64 len, .slice A N c], .int .i64 p, .func (.func 228) #[] #[]] w (ReadP w r to 0) := by
  have HA := Lib.hid hR; clear hR
  have t1 : decide ((k : Int) ≤ 63) = true := by simp; omega
  go_enter Tryz.func227, Tryz.ntmps227
  go_wp2_with fail
  refine (HF.out _ (HA.out.on (one_below _ _))).mono ?_
  rintro e w1 ⟨rfl, B1⟩
  have HB : Hid (Below w.heap.size w w1) := (one_below w _).trans (B1.mono (by rw [World.size_alloc]; omega))
  rw [World.size_alloc] at B1
  have HBx := Lib.hid B1
  obtain ⟨p1, q1⟩ := box_at B1
  clear B1
  go_wp2_with fail
  refine (range1 0 true 0 rfl _ _ rfl).mono ?_
  rintro e w2 ⟨rfl, B2⟩
  have HB2 : Hid (Below w.heap.size w w2) := HB.out.trans (B2.mono HB.out.size)
  have HBy : Hid (Below (w.heap.size + 1) (w.alloc (.cells #[.int .i64 len, .slice A N c] 27)) w2) := HBx.out.trans (B2.mono (by have := HBx.out.size; rw [World.size_alloc] at this; omega))
  clear B2 p1 q1 HBx
  obtain ⟨p1, q1⟩ := box_at HBy.out
  go_wp2_with fail
  refine (HG.out _ (HA.out.on HB2.out)).mono ?_
  rintro e w3 ⟨rfl, B3⟩
  have HB3 : Hid (Below w.heap.size w w3) := HB2.out.trans (B3.mono HB2.out.size)
  clear B3
  have HW := Lib.hid (shl_w k m hk hm)
  rw [hr] at HW
  have t3 : decide ((r : Int) ≤ 1099511627776) = true := by simp only [decide_eq_true_eq]; omega
  clear hr hm
  go_wp2_with fail
  rw [HW.out, t3]
  refine (range1 0 true 0 rfl _ _ rfl).mono ?_
  rintro e w4 ⟨rfl, B4⟩
  have HB4 : Hid (Below w.heap.size w w4) := HB3.out.trans (B4.mono HB3.out.size)
  clear B4
  go_wp2
  go_ret3
  exact ⟨by rw [← hto]; rfl, HB4.out⟩
set_option maxHeartbeats 2000000 in
theorem rgamma_pass (w : World) (len : Int) (A : Option Addr) (c N : Nat) (bs : List Nat) (p : Int) (hR : Rd w w.heap.size A bs) (k fr : Nat) (e0 : Int)
    (HF : Hid (∀ V, Rd V V.heap.size A bs → Calls Tryz.prog 227 #[.agg #[.int .i64 len, .slice A N c], .int .i64 p, .func (.func 228) #[] #[]] V (ReadP V k fr e0))) :
    Calls Tryz.prog 185 #[.agg #[.int .i64 len, .slice A N c], .int .i64 p] w (ReadP w k fr e0) := by
  have HA := Lib.hid hR; clear hR
  go_enter Tryz.func185, Tryz.ntmps185
  go_wp2_with fail
  refine (HF.out _ (HA.out.on (one_below _ _))).mono ?_
  rintro e w1 ⟨rfl, B1⟩
  have HB : Hid (Below w.heap.size w w1) := (one_below w _).trans (B1.mono (by rw [World.size_alloc]; omega))
  clear B1
  go_wp2
  go_ret3
  exact ⟨rfl, HB.out⟩
theorem readU_l (l : List Bool) (hl : l.length ≤ 8192) (A : Option Addr) (c p : Nat) (hp : p ≤ l.length) (w : World) (h : Rd w w.heap.size A (pack l)) :
    Calls Tryz.prog 228 #[.agg #[.int .i64 (l.length : Int), .slice A (pack l).length c], .int .i64 (p : Int)] w (ReadP w (uR l p).1 (uR l p).2.1 (uR l p).2.2) := by
  unfold uR
  cases hx : pos p (l.drop p) with
  | nil => exact read_none l hl A c p hp hx w h
  | cons x xs => exact read_l l hl A c p hp x xs hx (x - p) (x + 1) rfl rfl w h
theorem got_l (l : List Bool) (hl : l.length ≤ 8192) (A : Option Addr) (c p k : Nat) (h1 : k ≤ 64) (h2 : p + k ≤ l.length) (w : World) (h : Rd w w.heap.size A (pack l)) :
    Calls Tryz.prog 66 #[.agg #[.int .i64 (l.length : Int), .slice A (pack l).length c], .int .i64 (p : Int), .int .i64 (k : Int)] w (Got w (num ((l.drop p).take k)) 0) := get_l l hl A c p k _ h1 h2 rfl w h
theorem num_take_lt (l : List Bool) (p k : Nat) : num ((l.drop p).take k) < 2 ^ k :=
  Nat.lt_of_lt_of_le (num_lt _) (Nat.pow_le_pow_right (by omega) (by rw [List.length_take]; omega))
theorem read_u_l (l : List Bool) (hl : l.length ≤ 8192) (A : Option Addr) (c : Nat) (p : Int) (r : Nat × Nat × Int) (hr : r.2.1 ≤ l.length) (HF : ∀ V, Rd V V.heap.size A (pack l) → Calls Tryz.prog 228 #[.agg #[.int .i64 (l.length : Int), .slice A (pack l).length c], .int .i64 p] V (ReadP V r.1 r.2.1 r.2.2)) (w : World) (h : Rd w w.heap.size A (pack l)) :
    Calls Tryz.prog 227 #[.agg #[.int .i64 (l.length : Int), .slice A (pack l).length c], .int .i64 p, .func (.func 228) #[] #[]] w (ReadP w (thenR l r).1 (thenR l r).2.1 (thenR l r).2.2) := by
  obtain ⟨k, fr, e0⟩ := r
  unfold thenR
  by_cases h0 : e0 = 0
  · subst h0
    rw [if_pos rfl]
    unfold restR
    by_cases h1 : 63 < k
    · rw [if_pos h1]
      exact read_u_big w _ A c _ (pack l) p h k fr h1 HF
    · rw [if_neg h1]
      by_cases h2 : l.length < fr + k
      · rw [if_pos h2]
        refine read_u_short w _ A c _ (pack l) p h k fr (by omega) 7 (by decide) HF (fun V hV => ?_)
        have hg := get_short l hl A c (fr : Int) (k : Int) V hV (by omega) (by omega) (by omega) (by simp only at hr; omega) (by omega)
        exact hg
      · rw [if_neg h2]
        by_cases h3 : 1099511627776 < 2 ^ k + num ((l.drop fr).take k) - 1
        · rw [if_pos h3]
          exact read_u_over w _ A c _ (pack l) p h k fr _ (by omega) (num_take_lt l fr k) h3 HF (fun V hV => got_l l hl A c fr k (by omega) (by omega) V hV)
        · rw [if_neg h3]
          exact read_u_ok w _ A c _ (pack l) p h k fr _ (by omega) (num_take_lt l fr k) (by omega) _ _ rfl rfl (Nat.not_lt.1 h3) HF (fun V hV => got_l l hl A c fr k (by omega) (by omega) V hV)
  · rw [if_neg h0]
    exact read_u_e w _ A c _ (pack l) p h k fr e0 h0 HF
theorem rgamma_l (l : List Bool) (hl : l.length ≤ 8192) (A : Option Addr) (c p : Nat) (hp : p ≤ l.length) (w : World) (h : Rd w w.heap.size A (pack l)) :
    Calls Tryz.prog 185 #[.agg #[.int .i64 (l.length : Int), .slice A (pack l).length c], .int .i64 (p : Int)] w (ReadP w (gamR l p).1 (gamR l p).2.1 (gamR l p).2.2) :=
  rgamma_pass w _ A c _ (pack l) _ h _ _ _ (fun V hV => read_u_l l hl A c (p : Int) (uR l p) (uR_bound l p hp).2.1 (fun V hV => readU_l l hl A c p hp V hV) V hV)
end
section
set_option maxRecDepth 100000
set_option linter.unusedVariables false
open Go.RowKit
theorem res2_at {w w1 : World} {o : Obj} (B1 : Below ((w.alloc o).alloc (.cells #[.int .i64 0, .slice none 0 0] 27)).heap.size ((w.alloc o).alloc (.cells #[.int .i64 0, .slice none 0 0] 27)) w1) :
    w1.heap[w.heap.size + 1]? = some (.cells #[.int .i64 0, .slice none 0 0] 27 (0, 0)) ∧ Below w.heap.size w w1 ∧ w.heap.size + 1 < w1.heap.size := by
  obtain ⟨a, b, c⟩ := res_at B1
  rw [World.size_alloc] at a b c
  exact ⟨a, (one_below w o).trans (b.mono (by omega)), c⟩
set_option maxHeartbeats 600000 in
theorem putLeast_s (n m z sh : Nat) (hz : z ≤ 57) (hz1 : n < sh) (hn : n ≤ 144115188075855872) (hs : sh ≤ 144115188075855872) (len lL : Int) (A : Option Addr) (c N nL : Nat) (bs bL : List Nat) (w : World) (hA : Rd w w.heap.size A bs)
    (HZ : Hid (∀ V, Calls Tryz.prog 263 #[.int .u64 (m : Int)] V fun e w' => e = .returned (.tuple #[.int .i64 (z : Int), .int .u64 (sh : Int)]) ∧ Below V.heap.size V w'))
    (HP : Hid (∀ V, Rd V V.heap.size A bs → Calls Tryz.prog 65 #[.agg #[.int .i64 len, .slice A N c], .int .u64 (n : Int), .int .i64 ((z : Int) - 1)] V (Gv V lL nL bL 0))) :
    Calls Tryz.prog 250 #[.agg #[.int .i64 len, .slice A N c], .int .u64 (n : Int), .int .u64 (m : Int)] w (Gv w lL nL bL 0) := by
  have HA := Lib.hid hA; clear hA
  have t1 : decide ((n : Int) < (sh : Int)) = true := by simp; omega
  go_enter Tryz.func250, Tryz.ntmps250
  go_wp2_with fail
  refine (HZ.out _).mono ?_
  rintro e w1 ⟨rfl, B1⟩
  obtain ⟨hr, hb, hz0⟩ := res2_at B1
  have HRes := Lib.hid hr
  have HLow := Lib.hid hb
  have HLt := Lib.hid hz0
  have hs2 : ((w.alloc (.cells #[.int .i64 len, .slice A N c] 27)).alloc (.cells #[.int .i64 0, .slice none 0 0] 27)).heap.size = w.heap.size + 2 := by rw [World.size_alloc, World.size_alloc]
  rw [hs2] at B1
  have hbx : w1.heap[w.heap.size]? = some (.cells #[.int .i64 len, .slice A N c] 27 (0, 0)) := (B1.block _ (by omega)).trans ((Below.heap_alloc _ _ _ (by simp)).trans (World.alloc_heap_new w _))
  have p1 := (blk_cells hbx).1
  have q1 := (blk_cells hbx).2.1
  clear B1 hr hb hz0 hs2 hbx
  go_wp2_with fail
  refine (HP.out _ (HA.out.on HLow.out)).mono ?_
  rintro e w2 ⟨A2, c2, rfl, R2, B2⟩
  obtain ⟨⟨d0, d1, g0, g1⟩, HG⟩ := gv_store2 (w := w) (len := lL) (n := nL) (A := A2) (c := c2) R2 (Nat.le_succ _) ((B2.block _ HLt.out).trans HRes.out) (HLow.out.trans (B2.mono HLow.out.size)) 0
  clear R2 B2 p1 q1
  go_wp2
  exact bodyPost_ret (v := .tuple #[.agg #[.int .i64 lL, .slice A2 nL c2], .int .i64 0]) (by simp [results, Tryz.results250, go_sem, d0, d1]) rfl HG.out
set_option maxHeartbeats 600000 in
theorem putLeast_l (n m z sh : Nat) (hz : z ≤ 57) (hz1 : sh ≤ n) (hn : n ≤ 144115188075855872) (hs : sh ≤ 144115188075855872) (len lL : Int) (A : Option Addr) (c N nL : Nat) (bs bL : List Nat) (w : World) (hA : Rd w w.heap.size A bs)
    (HZ : Hid (∀ V, Calls Tryz.prog 263 #[.int .u64 (m : Int)] V fun e w' => e = .returned (.tuple #[.int .i64 (z : Int), .int .u64 (sh : Int)]) ∧ Below V.heap.size V w'))
    (HP : Hid (∀ V, Rd V V.heap.size A bs → Calls Tryz.prog 65 #[.agg #[.int .i64 len, .slice A N c], .int .u64 ((n : Int) + (sh : Int)), .int .i64 (z : Int)] V (Gv V lL nL bL 0))) :
    Calls Tryz.prog 250 #[.agg #[.int .i64 len, .slice A N c], .int .u64 (n : Int), .int .u64 (m : Int)] w (Gv w lL nL bL 0) := by
  have HA := Lib.hid hA; clear hA
  have t1 : decide ((n : Int) < (sh : Int)) = false := by simp; omega
  go_enter Tryz.func250, Tryz.ntmps250
  go_wp2_with fail
  refine (HZ.out _).mono ?_
  rintro e w1 ⟨rfl, B1⟩
  obtain ⟨hr, hb, hz0⟩ := res2_at B1
  have HRes := Lib.hid hr
  have HLow := Lib.hid hb
  have HLt := Lib.hid hz0
  have hs2 : ((w.alloc (.cells #[.int .i64 len, .slice A N c] 27)).alloc (.cells #[.int .i64 0, .slice none 0 0] 27)).heap.size = w.heap.size + 2 := by rw [World.size_alloc, World.size_alloc]
  rw [hs2] at B1
  have hbx : w1.heap[w.heap.size]? = some (.cells #[.int .i64 len, .slice A N c] 27 (0, 0)) := (B1.block _ (by omega)).trans ((Below.heap_alloc _ _ _ (by simp)).trans (World.alloc_heap_new w _))
  have p1 := (blk_cells hbx).1
  have q1 := (blk_cells hbx).2.1
  clear B1 hr hb hz0 hs2 hbx
  go_wp2_with fail
  refine (HP.out _ (HA.out.on HLow.out)).mono ?_
  rintro e w2 ⟨A2, c2, rfl, R2, B2⟩
  obtain ⟨⟨d0, d1, g0, g1⟩, HG⟩ := gv_store2 (w := w) (len := lL) (n := nL) (A := A2) (c := c2) R2 (Nat.le_succ _) ((B2.block _ HLt.out).trans HRes.out) (HLow.out.trans (B2.mono HLow.out.size)) 0
  clear R2 B2 p1 q1
  go_wp2
  exact bodyPost_ret (v := .tuple #[.agg #[.int .i64 lL, .slice A2 nL c2], .int .i64 0]) (by simp [results, Tryz.results250, go_sem, d0, d1]) rfl HG.out
theorem putLeast_l2 (l L : List Bool) (n m : Nat) (hm : 1 ≤ m) (hm2 : m ≤ 72057594037927936) (hn : n < m) (hL : L = l ++ lst n m) (hl : l.length + sz m ≤ 8192) (A : Option Addr) (c : Nat) (w : World) (h : Rd w w.heap.size A (pack l)) :
    Calls Tryz.prog 250 #[.agg #[.int .i64 (l.length : Int), .slice A (pack l).length c], .int .u64 (n : Int), .int .u64 (m : Int)] w (Gv w (L.length : Int) (pack L).length (pack L) 0) := by
  have hz := sz_le m 56 (by omega)
  have hs := sh_add m
  have h56 := Nat.pow_le_pow_right (n := 2) (by omega) hz
  have hc := sh_lt m hm
  unfold lst at hL
  by_cases hs1 : n < sh m
  · rw [if_pos hs1] at hL
    obtain ⟨z1, z2, z3⟩ : 1 ≤ sz m ∧ sh m < 2 ^ (sz m - 1) ∧ True := by
      rcases hc with ⟨a, b, c⟩ | ⟨a, b, c, d⟩
      · omega
      · exact ⟨a, b, trivial⟩
    refine putLeast_s n m (sz m) (sh m) (by omega) hs1 (by omega) (by omega) _ _ A c _ _ _ _ w h (fun V => sizes_any m hm hm2 V) (fun V hV => ?_)
    have e : ((sz m : Int) - 1) = ((sz m - 1 : Nat) : Int) := by omega
    rw [e]
    exact put_l l L A c n (sz m - 1) (by omega) (Nat.div_eq_of_lt (by omega)) (by omega) (by omega) hL V hV
  · rw [if_neg hs1] at hL
    refine putLeast_l n m (sz m) (sh m) (by omega) (by omega) (by omega) (by omega) _ _ A c _ _ _ _ w h (fun V => sizes_any m hm hm2 V) (fun V hV => ?_)
    have e : ((n : Int) + (sh m : Int)) = ((n + sh m : Nat) : Int) := by omega
    rw [e]
    exact put_l l L A c (n + sh m) (sz m) (by omega) (Nat.div_eq_of_lt (by omega)) (by omega) (by omega) hL V hV
set_option maxHeartbeats 600000 in
theorem putParts_w (q n m : Int) (lS lL : Int) (nS nL : Nat) (bS bL : List Nat) (w : World)
    (HF : Hid (∀ V, Calls Tryz.prog 217 #[.int .u64 q] V (Gv V lS nS bS 0)))
    (HP : Hid (∀ A c V, Rd V V.heap.size A bS → Calls Tryz.prog 250 #[.agg #[.int .i64 lS, .slice A nS c], .int .u64 n, .int .u64 m] V (Gv V lL nL bL 0))) :
    Calls Tryz.prog 226 #[.int .u64 q, .int .u64 n, .int .u64 m] w (Gv w lL nL bL 0) := by
  go_enter Tryz.func226, Tryz.ntmps226
  go_wp2_with fail
  refine (HF.out _).mono ?_
  rintro e w1 ⟨A1, c1, rfl, R1, B1⟩
  have HA := Lib.hid (res_at B1)
  have HR := Lib.hid R1
  clear B1 R1
  go_wp2_with fail
  refine (HP.out A1 c1 _ (HR.out.on (one_below _ _))).mono ?_
  rintro e w2 ⟨A2, c2, rfl, R2, B2⟩
  rw [World.size_alloc] at B2
  have b2 : Below w1.heap.size w1 w2 := (one_below w1 _).trans (B2.mono (by omega))
  obtain ⟨⟨d0, d1, g0, g1⟩, HG⟩ := gv_store2 (w := w) (len := lL) (n := nL) (A := A2) (c := c2) R2 (Nat.le_refl _) ((b2.block _ HA.out.2.2).trans HA.out.1) (HA.out.2.1.trans (b2.mono (Nat.le_of_lt HA.out.2.2))) 0
  clear R2 B2 b2 HA
  go_wp2
  exact bodyPost_ret (v := .tuple #[.agg #[.int .i64 lL, .slice A2 nL c2], .int .i64 0]) (by simp [results, Tryz.results226, go_sem, d0, d1]) rfl HG.out
theorem putParts_l (q n m : Nat) (hq : q ≤ 8127) (hm : 1 ≤ m) (hm2 : m ≤ 72057594037927936) (hn : n < m) (L : List Bool) (hL : L = uc q ++ lst n m) (w : World) :
    Calls Tryz.prog 226 #[.int .u64 (q : Int), .int .u64 (n : Int), .int .u64 (m : Int)] w (Gv w (L.length : Int) (pack L).length (pack L) 0) := by
  have hz := sz_le m 56 (by omega)
  exact putParts_w _ _ _ _ _ _ _ _ _ w (fun V => code_any q (uc q) 0 (by rw [if_neg (by omega)]) (by rw [if_neg (by omega)]) V) (fun A c V h => putLeast_l2 (uc q) L n m hm hm2 hn hL (by rw [uc_length]; omega) A c V h)
theorem wz3 (g k h : Nat) (hh : g / k = h) : ((g : Int) / (k : Int)) = (h : Int) := by
  rw [← hh]; simp
theorem wz2 (h k s : Nat) (hs : h * k = s) (hs2 : s ≤ 1000000) : wrap64 ((h : Int) * (k : Int)) = (s : Int) := by
  have e : ((h : Int) * (k : Int)) = (s : Int) := by rw [← hs]; simp
  rw [e]
  unfold wrap64; omega
set_option maxHeartbeats 600000 in
theorem zeta_w (n k g h s f q y : Nat) (hk : 1 ≤ k) (hk2 : k ≤ 16) (hn : n ≤ 1099511627776) (hg : g ≤ 40) (hh : g / k = h) (hs : h * k = s) (hs2 : s ≤ 40) (hh2 : h ≤ 40) (hy : n + 1 = f + y) (lL : Int) (nL : Nat) (bL : List Nat)
    (HL : Hid (∀ V, Calls Tryz.prog 215 #[.int .u64 ((n : Int) + 1)] V fun e w' => e = .returned (.int .i64 ((g : Int) + 1)) ∧ V = w'))
    (HS : Hid (∀ V, Calls Tryz.prog 225 #[.int .i64 (s : Int), .int .i64 (k : Int)] V fun e w' => e = .returned (.tuple #[.int .u64 (f : Int), .int .u64 (q : Int)]) ∧ Below V.heap.size V w'))
    (HP : Hid (∀ V, Calls Tryz.prog 226 #[.int .u64 (h : Int), .int .u64 (y : Int), .int .u64 (q : Int)] V (Gv V lL nL bL 0))) (w : World) :
    Calls Tryz.prog 184 #[.int .u64 (n : Int), .int .i64 (k : Int)] w (Gv w lL nL bL 0) := by
  have HD := Lib.hid (isK_any (k : Int))
  rw [show okK (k : Int) = true from by unfold okK; simp; omega] at HD
  have t2 : decide ((n : Int) ≤ 1099511627776) = true := by simp; omega
  have hk0 : ¬ ((k : Int) = 0) := by omega
  have HY : Hid ((n : Int) + 1 - (f : Int) = (y : Int)) := by show _ = _; omega
  go_enter Tryz.func184, Tryz.ntmps184
  go_wp2_with fail
  refine (HD.out _).mono ?_
  rintro e _ ⟨rfl, rfl⟩
  go_wp2_with fail
  refine (range2 0 true true 0 rfl _ _ (World.size_alloc _ _)).mono ?_
  rintro e w1 ⟨rfl, B1⟩
  have HA := Lib.hid (res_at B1)
  clear B1
  go_wp2_with fail
  refine (HL.out _).mono ?_
  rintro e _ ⟨rfl, rfl⟩
  go_wp2_with fail
  rw [wz3 g k h hh, wz2 h k s hs (by omega)]
  refine (HS.out _).mono ?_
  rintro e w2 ⟨rfl, B2⟩
  have HB2 := Lib.hid B2; clear B2
  go_wp2_with fail
  rw [HY.out]
  refine (HP.out _).mono ?_
  rintro e w3 ⟨A2, c2, rfl, R2, B3⟩
  have b3 : Below w1.heap.size w1 w3 := HB2.out.trans (B3.mono HB2.out.size)
  obtain ⟨⟨d0, d1, g0, g1⟩, HG⟩ := gv_store2 (w := w) (len := lL) (n := nL) (A := A2) (c := c2) R2 (Nat.le_refl _) ((b3.block _ HA.out.2.2).trans HA.out.1) (HA.out.2.1.trans (b3.mono (Nat.le_of_lt HA.out.2.2))) 0
  clear R2 B3 b3 HA
  go_wp2
  exact bodyPost_ret (v := .tuple #[.agg #[.int .i64 lL, .slice A2 nL c2], .int .i64 0]) (by simp [results, Tryz.results184, go_sem, d0, d1]) rfl HG.out
theorem zeta_ok (n k : Nat) (hk : 1 ≤ k) (hk2 : k ≤ 16) (hn : n ≤ 1099511627776) (L : List Bool) (hL : L = zet n k) (w : World) :
    Calls Tryz.prog 184 #[.int .u64 (n : Int), .int .i64 (k : Int)] w (Gv w (L.length : Int) (pack L).length (pack L) 0) := by
  have k40 := lg_lt_of n 41 (by omega)
  have hs := zet_40 n k hn
  obtain ⟨z1, z2⟩ := zet_in n k hk
  have zp := zq_pos (lg n / k) k hk
  have zl := zq_le (lg n / k) k hs hk2
  have hd := Nat.div_le_self (lg n) k
  have hpw := Nat.pow_le_pow_right (n := 2) (by omega) (show lg n / k * k ≤ lg n / k * k + k by omega)
  refine zeta_w n k (lg n) (lg n / k) (lg n / k * k) (2 ^ (lg n / k * k)) (zq (lg n / k) k) (n + 1 - 2 ^ (lg n / k * k)) hk hk2 hn (by omega) rfl rfl hs (by omega) (by omega) _ _ _ (fun V => ?_) (fun V => stretch_any _ k _ _ hs hk2 rfl (by unfold zq; omega) V) (fun V => putParts_l _ _ _ (by omega) zp zl z2 L hL V) w
  have h := len64_any (n + 1) (by omega) V
  rw [bitLen_succ n (by omega)] at h
  exact h
end
section
set_option maxRecDepth 100000
set_option linter.unusedVariables false
open Go.RowKit Go.Shelf
def zets (k : Nat) (gs : List Nat) : List Bool := gs.flatMap fun g => zet g k
theorem zets_snoc (k : Nat) (gs : List Nat) (g : Nat) : zets k (gs ++ [g]) = zets k gs ++ zet g k := by simp [zets]
theorem zets_cons (k : Nat) (gs : List Nat) (g : Nat) : zets k (g :: gs) = zet g k ++ zets k gs := by simp [zets]
theorem zets_take (k : Nat) (gs : List Nat) (i : Nat) : (zets k (gs.take i)).length ≤ (zets k gs).length := by
  conv => rhs; rw [← List.take_append_drop i gs]
  simp only [zets, List.flatMap_append, List.length_append]
  omega
theorem zet_len (g k : Nat) (hk : 1 ≤ k) (hk2 : k ≤ 16) (hg : g ≤ 2097152) : (zet g k).length ≤ 8192 := by
  have h1 := zet_40 g k (by omega)
  have h2 : lg g / k ≤ lg g / k * k := Nat.le_mul_of_pos_right _ (by omega)
  unfold zet
  have h3 := lst_length_le (g + 1 - 2 ^ (lg g / k * k)) (zq (lg g / k) k)
  have h4 : sz (zq (lg g / k) k) ≤ lg g / k * k + k := sz_le _ _ (by unfold zq; exact Nat.sub_le _ _)
  rw [List.length_append, uc_length]
  omega
theorem okK_true {k : Int} (h : okK k = true) : ∃ n : Nat, k = (n : Int) ∧ 1 ≤ n ∧ n ≤ 16 := by
  unfold okK at h
  simp at h
  exact ⟨k.toNat, by omega, by omega, by omega⟩
theorem okK_nat (n : Nat) (h1 : 1 ≤ n) (h2 : n ≤ 16) : okK (n : Int) = true := by unfold okK; simp; omega
def WrRel (gs : List Nat) (k Ba : Nat) (w1 : World) (p : Value) (wr : World) : Prop :=
  ∃ (i : Nat) (Aa : Option Addr) (ca : Nat), i ≤ gs.length ∧ p = .int .i64 (i : Int) ∧ (zets k (gs.take i)).length ≤ 8192 ∧
    wr.heap[Ba]? = some (.cells #[.int .i64 ((zets k (gs.take i)).length : Int), .slice Aa (pack (zets k (gs.take i))).length ca] 27 (0, 0)) ∧ Rd wr wr.heap.size Aa (pack (zets k (gs.take i))) ∧ Below w1.heap.size w1 wr
set_option maxHeartbeats 4000000 in
theorem write_in (l : List Nat) (hl : Rising l) (n : Nat) (hn : l.length = n) (a : Nat) (ha : a ≤ 1048576) (k : Nat) (hk : 1 ≤ k) (hk2 : k ≤ 16) (gs : List Nat) (hgs : gps (a : Int) l = gs) (R : List Bool) (e0 : Int)
    (hR1 : (zets k gs).length ≤ 8192 → R = zets k gs ∧ e0 = 0) (hR2 : 8192 < (zets k gs).length → R = [] ∧ e0 = 8) (A : Option Addr) (c : Nat) (w : World) (h : RdV w w.heap.size A (zc (ns l))) :
    Calls Tryz.prog 145 #[.slice A n c, .int .i64 (a : Int), .int .i64 (k : Int)] w (Gave w R e0) := by
  have HG : Hid (∀ V, Below w.heap.size w V → Calls Tryz.prog 183 #[.slice A n c, .int .i64 (a : Int)] V (NumsP V gs 0)) := fun V hV => by
    have := gaps_ok l hl n hn a ha A c V (h.on hV)
    rwa [hgs] at this
  have hk0 := isK_any (k : Int)
  rw [okK_nat k hk hk2] at hk0
  have HK := Lib.hid hk0; clear hk0
  have HR := Lib.hid (range1 0 true 0 rfl)
  have hgl : gs.length = n := by rw [← hgs, gps_length, hn]
  have HL := Lib.hid hgl; clear hgl
  have hgle : ∀ g ∈ gs, g ≤ 2097152 := by rw [← hgs]; exact gps_le a ha l hl
  have HLe := Lib.hid hgle; clear hgle
  have h300 : n ≤ 300 := by have := hl.1; omega
  have H1 := Lib.hid hR1; have H2 := Lib.hid hR2
  clear h hn hgs hR1 hR2 hl ha
  go_enter Tryz.func145, Tryz.ntmps145
  go_wp2_with fail
  refine (HG.out _ (one_below w _)).mono ?_
  rintro e w1 ⟨A2, c2, rfl, -, -, X2, B1⟩
  have HA := Lib.hid (res_at B1)
  have HX2 := Lib.hid X2
  clear B1 X2
  rw [HL.out]
  go_wp2_with fail
  refine (HK.out _).mono ?_
  rintro e _ ⟨rfl, rfl⟩
  go_wp2_with fail
  refine (HR.out _ _ rfl).mono ?_
  rintro e w2 ⟨rfl, B2⟩
  have HX := Lib.hid (HX2.out.on B2)
  have HLow : Hid (Below w.heap.size w w2 ∧ w2.heap[w.heap.size]? = some (.cells #[.int .i64 0, .slice none 0 0] 27 (0, 0)) ∧ w.heap.size < w2.heap.size) := by
    obtain ⟨hr, hb, hz⟩ := HA.out
    exact ⟨hb.trans (B2.mono hb.size), (B2.block _ hz).trans hr, Nat.lt_of_lt_of_le hz B2.size⟩
  clear B2
  go_wp2
  go_loopw [34] (fun p wr => WrRel gs k w2.heap.size w2 p wr) (fun p _ => n - (intOf p).toNat)
  case atStart => exact ⟨0, none, 0, Nat.zero_le _, rfl, by simp [zets], (by have e := World.alloc_heap_new w2 (.cells #[.int .i64 0, .slice none 0 0] 27); simpa [zets, pack_nil] using e), .inl (by simp [zets, pack_nil]), one_below w2 _⟩
  case round =>
    obtain ⟨i, Aa, ca, him, rfl, htot, hbox, hrd, hbel⟩ := hrel
    rw [HL.out] at him
    have HBox := Lib.hid hbox; have HRd := Lib.hid hrd; have HBel := Lib.hid hbel
    clear hbox hrd
    by_cases hlt : i < n
    · have hil : i < gs.length := by rw [HL.out]; exact hlt
      obtain ⟨bx, ox, rfl, hbx, kx⟩ := (HX.out.on hbel).at_ (nc_get gs i hil)
      have hgl2 := HLe.out _ (at_mem gs i hil)
      have htk := take_snoc gs i hil
      have hzt := zets_take k gs (i + 1)
      rw [htk, zets_snoc] at hzt
      have hsn : zets k (gs.take (i + 1)) = zets k (gs.take i) ++ zet (gs[i]?.getD 0) k := by rw [htk, zets_snoc]
      clear htk hbel
      generalize gs[i]?.getD 0 = g at *
      have hZ := zeta_ok g k hk hk2 (by omega) (zet g k) rfl
      have HSn := Lib.hid hsn; clear hsn
      have hCl := zet_len g k hk hk2 hgl2
      generalize zet g k = C at *
      have HZ := Lib.hid hZ; clear hZ
      have hBw : w2.heap.size < wr.heap.size := (Array.getElem?_eq_some_iff.1 HBox.out).1
      generalize hP : zets k (gs.take i) = P at *
      have HP := Lib.hid hP; clear hP
      rw [List.length_append] at hzt
      by_cases hfit : P.length + C.length ≤ 8192
      · have HJ : Hid (∀ A5 c5 V, Rd V V.heap.size Aa (pack P) → Rd V V.heap.size A5 (pack C) → Calls Tryz.prog 23 #[.agg #[.int .i64 (P.length : Int), .slice Aa (pack P).length ca], .agg #[.int .i64 (C.length : Int), .slice A5 (pack C).length c5]] V (Gv V ((zets k (gs.take (i + 1))).length : Int) (pack (zets k (gs.take (i + 1)))).length (pack (zets k (gs.take (i + 1)))) 0)) := fun A5 c5 V h1 h2 => join_l P C _ Aa A5 ca c5 hfit HSn.out V h1 h2
        have hle2 : (zets k (gs.take (i + 1))).length ≤ 8192 := by rw [HSn.out, List.length_append]; exact hfit
        have HLe2 := Lib.hid hle2
        clear hzt hfit hle2 htot
        generalize hQ : zets k (gs.take (i + 1)) = Q at *
        have HQ := Lib.hid hQ
        clear HP HSn hQ
        generalize hpp : pack P = pp at *
        generalize hpc : pack C = pc at *
        generalize hpq : pack Q = pq at *
        generalize P.length = lp at *
        generalize C.length = lc at *
        generalize hlq : Q.length = lq at *
        have HPQ := Lib.hid hpq; have HLQ := Lib.hid hlq
        clear hpp hpc hpq hlq
        go_wp2_with fail
        refine (HZ.out _).mono ?_
        rintro e w3 ⟨A5, c5, rfl, R5, B5⟩
        have hb3 := (B5.block _ hBw).trans HBox.out
        have n0 : w3.cell? ⟨w2.heap.size, 0, none⟩ = some (.int .i64 (lp : Int)) := (cell_at hb3 _).trans rfl
        have n1' : w3.cell? ⟨w2.heap.size, 1, none⟩ = some (.slice Aa pp.length ca) := (cell_at hb3 _).trans rfl
        have hs3 : w2.heap.size < w3.heap.size := Nat.lt_of_lt_of_le hBw B5.size
        have HB3 := Lib.hid hb3; have HR5 := Lib.hid R5; have HB5 := Lib.hid B5
        clear hb3 R5 B5
        go_wp2_with fail
        refine (HJ.out A5 c5 _ (((HRd.out.below HB5.out HB5.out.size)).on (one_below w3 _)) (HR5.out.on (one_below w3 _))).mono ?_
        rintro e w5 ⟨A6, c6, rfl, R6, B6⟩
        have hb4 : w5.heap[w2.heap.size]? = some (.cells #[.int .i64 (lp : Int), .slice Aa pp.length ca] 27 (0, 0)) := (B6.block _ (by rw [World.size_alloc]; omega)).trans ((Below.heap_alloc _ _ _ hs3).trans HB3.out)
        have q0 : w5.cell? ⟨w2.heap.size, 0, none⟩ = some (.int .i64 (lp : Int)) := (cell_at hb4 _).trans rfl
        have q1 : w5.cell? ⟨w2.heap.size, 1, none⟩ = some (.slice Aa pp.length ca) := (cell_at hb4 _).trans rfl
        have f0 := frz_at hb4 0
        have f1 := frz_at hb4 1
        have Hb4 := Lib.hid hb4
        have HR6 := Lib.hid R6
        have HB6 : Hid (Below w2.heap.size w2 w5) := HBel.out.trans ((HB5.out.trans (((one_below w3 _).trans (B6.mono (by rw [World.size_alloc]; omega))).mono HB5.out.size)).mono HBel.out.size)
        clear hb4 R6 B6 n0 n1'
        have HBx8 : Hid (((w5.setCell ⟨w2.heap.size, 0, none⟩ (.int .i64 (lq : Int))).setCell ⟨w2.heap.size, 1, none⟩ (.slice A6 pq.length c6)).heap[w2.heap.size]? = some (.cells #[.int .i64 (lq : Int), .slice A6 pq.length c6] 27 (0, 0))) := by
          show _ = _
          rw [heap_set_same _ _ _ _ _ _ (heap_set_same _ _ _ _ _ _ Hb4.out)]
          simp
        have HRd8 : Hid (Rd ((w5.setCell ⟨w2.heap.size, 0, none⟩ (.int .i64 (lq : Int))).setCell ⟨w2.heap.size, 1, none⟩ (.slice A6 pq.length c6)) ((w5.setCell ⟨w2.heap.size, 0, none⟩ (.int .i64 (lq : Int))).setCell ⟨w2.heap.size, 1, none⟩ (.slice A6 pq.length c6)).heap.size A6 pq) := by
          have e1 : (w5.setCell ⟨w2.heap.size, 0, none⟩ (.int .i64 (lq : Int))).heap[w2.heap.size]? = some (.cells #[.int .i64 (lq : Int), .slice Aa pp.length ca] 27 (0, 0)) := by
            rw [heap_set_same _ _ _ _ _ _ Hb4.out]; simp
          have r8 := (HR6.out.setK (i := 0) (.int .i64 (lq : Int)) Hb4.out).setK (i := 1) (.slice A6 pq.length c6) e1
          have hsz : ((w5.setCell ⟨w2.heap.size, 0, none⟩ (.int .i64 (lq : Int))).setCell ⟨w2.heap.size, 1, none⟩ (.slice A6 pq.length c6)).heap.size = w5.heap.size := by simp [World.setCell]
          show Rd _ _ A6 pq
          rw [hsz]; exact r8
        have HB8 : Hid (Below w2.heap.size w2 ((w5.setCell ⟨w2.heap.size, 0, none⟩ (.int .i64 (lq : Int))).setCell ⟨w2.heap.size, 1, none⟩ (.slice A6 pq.length c6))) := (HB6.out.setCell (Nat.le_refl _) _).setCell (Nat.le_refl _) _
        go_wp2
        go_roundw
        case rel => exact ⟨i + 1, A6, c6, by rw [HL.out]; omega, by go_num, by rw [HQ.out, HLQ.out]; exact HLe2.out, by rw [HQ.out, HLQ.out, HPQ.out]; exact HBx8.out, by rw [HQ.out, HPQ.out]; exact HRd8.out, HB8.out⟩
        case measure => simp [intOf]; omega
      · have hJ := fun A5 c5 V (h1 : Rd V V.heap.size Aa (pack P)) (h2 : Rd V V.heap.size A5 (pack C)) => join_l8 P C htot hCl Aa A5 ca c5 (by omega) V h1 h2
        have HJ := Lib.hid hJ; clear hJ
        obtain ⟨rfl, rfl⟩ := H2.out (by omega)
        clear hzt hfit htot hCl HP HSn H1 H2
        generalize hpp : pack P = pp at *
        generalize hpc : pack C = pc at *
        generalize P.length = lp at *
        generalize C.length = lc at *
        clear hpp hpc
        go_wp2_with fail
        refine (HZ.out _).mono ?_
        rintro e w3 ⟨A5, c5, rfl, R5, B5⟩
        have hb3 := (B5.block _ hBw).trans HBox.out
        have n0 : w3.cell? ⟨w2.heap.size, 0, none⟩ = some (.int .i64 (lp : Int)) := (cell_at hb3 _).trans rfl
        have n1' : w3.cell? ⟨w2.heap.size, 1, none⟩ = some (.slice Aa pp.length ca) := (cell_at hb3 _).trans rfl
        have hs3 : w2.heap.size < w3.heap.size := Nat.lt_of_lt_of_le hBw B5.size
        have HB3 := Lib.hid hb3; have HR5 := Lib.hid R5; have HB5 := Lib.hid B5
        clear hb3 R5 B5
        go_wp2_with fail
        refine (HJ.out A5 c5 _ (((HRd.out.below HB5.out HB5.out.size)).on (one_below w3 _)) (HR5.out.on (one_below w3 _))).mono ?_
        rintro e w5 ⟨A6, c6, rfl, R6, B6⟩
        have hb4 : w5.heap[w2.heap.size]? = some (.cells #[.int .i64 (lp : Int), .slice Aa pp.length ca] 27 (0, 0)) := (B6.block _ (by rw [World.size_alloc]; omega)).trans ((Below.heap_alloc _ _ _ hs3).trans HB3.out)
        have q0 : w5.cell? ⟨w2.heap.size, 0, none⟩ = some (.int .i64 (lp : Int)) := (cell_at hb4 _).trans rfl
        have q1 : w5.cell? ⟨w2.heap.size, 1, none⟩ = some (.slice Aa pp.length ca) := (cell_at hb4 _).trans rfl
        have f0 := frz_at hb4 0
        have f1 := frz_at hb4 1
        have HB6 : Hid (Below w2.heap.size w2 w5) := HBel.out.trans ((HB5.out.trans (((one_below w3 _).trans (B6.mono (by rw [World.size_alloc]; omega))).mono HB5.out.size)).mono HBel.out.size)
        have HB8 : Hid (Below w2.heap.size w2 ((w5.setCell ⟨w2.heap.size, 0, none⟩ (.int .i64 0)).setCell ⟨w2.heap.size, 1, none⟩ (.slice A6 0 c6))) := (HB6.out.setCell (Nat.le_refl _) _).setCell (Nat.le_refl _) _
        clear hb4 R6 B6 n0 n1'
        obtain ⟨⟨d0, d1, g0, g1⟩, HG2⟩ := gv_store2 (w := w) (w1 := (w5.setCell ⟨w2.heap.size, 0, none⟩ (.int .i64 0)).setCell ⟨w2.heap.size, 1, none⟩ (.slice A6 0 c6)) (len := 0) (n := 0) (bs := []) (A := none) (c := 0) (r := w.heap.size) (Rd.nil _ _ none) (Nat.le_refl _) ((HB8.out.block _ HLow.out.2.2).trans HLow.out.2.1) (HLow.out.1.trans (HB8.out.mono HLow.out.1.size)) 8
        have hs8 := HLow.out.2.2
        go_wp2
        exact bodyPost_ret (v := .tuple #[.agg #[.int .i64 0, .slice none 0 0], .int .i64 8]) (by simp [results, Tryz.results145, go_sem, d0, d1]) rfl HG2.out
    · have e : gs.take i = gs := List.take_of_length_le (by rw [HL.out]; omega)
      rw [e] at HBox HRd htot
      obtain ⟨rfl, rfl⟩ := H1.out htot
      generalize zets k gs = Q at *
      have n0 : wr.cell? ⟨w2.heap.size, 0, none⟩ = some (.int .i64 (Q.length : Int)) := (cell_at HBox.out _).trans rfl
      have n1' : wr.cell? ⟨w2.heap.size, 1, none⟩ = some (.slice Aa (pack Q).length ca) := (cell_at HBox.out _).trans rfl
      obtain ⟨⟨d0, d1, g0, g1⟩, HG2⟩ := gv_store (w := w) (w1 := wr) (L := Q) (A := Aa) (c := ca) (r := w.heap.size) HRd.out (Nat.le_refl _) ((hbel.block _ HLow.out.2.2).trans HLow.out.2.1) (HLow.out.1.trans (hbel.mono HLow.out.1.size))
      clear hbel e htot
      generalize Q.length = lq at *
      generalize (pack Q).length = nq at *
      go_wp2
      exact bodyPost_ret (v := .tuple #[.agg #[.int .i64 (lq : Int), .slice Aa nq ca], .int .i64 0]) (by simp [results, Tryz.results145, go_sem, d0, d1]) rfl HG2.out
theorem write_any (xs : List Int) (n : Nat) (hn : xs.length = n) (hn2 : n ≤ 9223372036854775807) (a k : Int) (A : Option Addr) (c : Nat) (w : World) (h : RdV w w.heap.size A (zc xs)) (l : List Nat) (m j : Nat) (hx : xs = ns l) (hl : Rising l) (ha : a = (m : Int)) (hm : m ≤ 1048576) (hk : k = (j : Int)) (hj1 : 1 ≤ j) (hj2 : j ≤ 16) :
    Calls Tryz.prog 145 #[.slice A n c, .int .i64 a, .int .i64 k] w (Gave w (if (zets j (gps (m : Int) l)).length ≤ 8192 then zets j (gps (m : Int) l) else []) (if (zets j (gps (m : Int) l)).length ≤ 8192 then 0 else 8)) := by
  subst hx; subst ha; subst hk
  refine write_in l hl n (by rw [ns_length] at hn; exact hn) m hm j hj1 hj2 _ rfl _ _ (fun h => ?_) (fun h => ?_) A c w h
  · rw [if_pos h, if_pos h]; exact ⟨rfl, rfl⟩
  · rw [if_neg (by omega), if_neg (by omega)]; exact ⟨rfl, rfl⟩
end
end
section
section
set_option maxRecDepth 100000
set_option linter.unusedVariables false
open Go.RowKit
set_option maxHeartbeats 600000 in
theorem getLeast_a (m z sh p : Nat) (hz : z ≤ 57) (hp : p ≤ 8192) (x1 to : Nat) (hx : x1 < sh) (hto0 : to + 1 = p + z) (len : Int) (A : Option Addr) (c N : Nat) (bs : List Nat) (w : World) (hA : Rd w w.heap.size A bs)
    (HZ : Hid (∀ V, Calls Tryz.prog 263 #[.int .u64 (m : Int)] V fun e w' => e = .returned (.tuple #[.int .i64 (z : Int), .int .u64 (sh : Int)]) ∧ Below V.heap.size V w'))
    (H1 : Hid (∀ V, Rd V V.heap.size A bs → Calls Tryz.prog 66 #[.agg #[.int .i64 len, .slice A N c], .int .i64 (p : Int), .int .i64 ((z : Int) - 1)] V (Got V x1 0))) :
    Calls Tryz.prog 252 #[.agg #[.int .i64 len, .slice A N c], .int .i64 (p : Int), .int .u64 (m : Int)] w (ReadP w x1 to 0) := by
  have HA := Lib.hid hA; clear hA
  have t1 : decide ((x1 : Int) < (sh : Int)) = true := by simp; omega
  have hto : (to : Int) = (p : Int) + (z : Int) - 1 := by omega
  clear hto0
  go_enter Tryz.func252, Tryz.ntmps252
  go_wp2_with fail
  refine (HZ.out _).mono ?_
  rintro e w1 ⟨rfl, B1⟩
  have HB : Hid (Below w.heap.size w w1) := (one_below w _).trans (B1.mono (by rw [World.size_alloc]; omega))
  rw [World.size_alloc] at B1
  have HBx := Lib.hid B1
  obtain ⟨p1, q1⟩ := box_at B1
  clear B1
  go_wp2_with fail
  refine (H1.out _ (HA.out.on HB.out)).mono ?_
  rintro e w2 ⟨rfl, B2⟩
  have HB2 : Hid (Below w.heap.size w w2) := HB.out.trans (B2.mono HB.out.size)
  have HBy : Hid (Below (w.heap.size + 1) (w.alloc (.cells #[.int .i64 len, .slice A N c] 27)) w2) := HBx.out.trans (B2.mono (by have := HBx.out.size; rw [World.size_alloc] at this; omega))
  clear B2 p1 q1 HBx
  obtain ⟨p1, q1⟩ := box_at HBy.out
  go_wp2
  go_ret3
  exact ⟨by rw [hto]; rfl, HB2.out⟩
set_option maxHeartbeats 600000 in
theorem getLeast_b (m z sh p : Nat) (hz : z ≤ 57) (hp : p ≤ 8192) (e1 e2 : Int) (h1 : e1 ≠ 0) (h2 : e2 ≠ 0) (len : Int) (A : Option Addr) (c N : Nat) (bs : List Nat) (w : World) (hA : Rd w w.heap.size A bs)
    (HZ : Hid (∀ V, Calls Tryz.prog 263 #[.int .u64 (m : Int)] V fun e w' => e = .returned (.tuple #[.int .i64 (z : Int), .int .u64 (sh : Int)]) ∧ Below V.heap.size V w'))
    (H1 : Hid (∀ V, Rd V V.heap.size A bs → Calls Tryz.prog 66 #[.agg #[.int .i64 len, .slice A N c], .int .i64 (p : Int), .int .i64 ((z : Int) - 1)] V (Got V 0 e1)))
    (H2 : Hid (∀ V, Rd V V.heap.size A bs → Calls Tryz.prog 66 #[.agg #[.int .i64 len, .slice A N c], .int .i64 (p : Int), .int .i64 (z : Int)] V (Got V 0 e2))) :
    Calls Tryz.prog 252 #[.agg #[.int .i64 len, .slice A N c], .int .i64 (p : Int), .int .u64 (m : Int)] w (ReadP w 0 0 e2) := by
  have HA := Lib.hid hA; clear hA
  have t0 : (e1 == 0) = false := by simpa using h1
  have t2 : (e2 != 0) = true := by simpa using h2
  go_enter Tryz.func252, Tryz.ntmps252
  go_wp2_with fail
  refine (HZ.out _).mono ?_
  rintro e w1 ⟨rfl, B1⟩
  have HB : Hid (Below w.heap.size w w1) := (one_below w _).trans (B1.mono (by rw [World.size_alloc]; omega))
  rw [World.size_alloc] at B1
  have HBx := Lib.hid B1
  obtain ⟨p1, q1⟩ := box_at B1
  clear B1
  go_wp2_with fail
  refine (H1.out _ (HA.out.on HB.out)).mono ?_
  rintro e w2 ⟨rfl, B2⟩
  have HB2 : Hid (Below w.heap.size w w2) := HB.out.trans (B2.mono HB.out.size)
  have HBy : Hid (Below (w.heap.size + 1) (w.alloc (.cells #[.int .i64 len, .slice A N c] 27)) w2) := HBx.out.trans (B2.mono (by have := HBx.out.size; rw [World.size_alloc] at this; omega))
  clear B2 p1 q1 HBx
  obtain ⟨p1, q1⟩ := box_at HBy.out
  go_wp2_with fail
  refine (H2.out _ (HA.out.on HB2.out)).mono ?_
  rintro e w3 ⟨rfl, B3⟩
  have HB3 : Hid (Below w.heap.size w w3) := HB2.out.trans (B3.mono HB2.out.size)
  clear B3
  go_wp2
  go_ret3
  exact ⟨rfl, HB3.out⟩
set_option maxHeartbeats 600000 in
theorem getLeast_c (m z sh p : Nat) (hz : z ≤ 57) (hp : p ≤ 8192) (e1 : Int) (h1 : e1 ≠ 0) (x2 r to : Nat) (hx2 : x2 ≤ 144115188075855872) (hr0 : r + sh = x2) (hto0 : to = p + z) (len : Int) (A : Option Addr) (c N : Nat) (bs : List Nat) (w : World) (hA : Rd w w.heap.size A bs)
    (HZ : Hid (∀ V, Calls Tryz.prog 263 #[.int .u64 (m : Int)] V fun e w' => e = .returned (.tuple #[.int .i64 (z : Int), .int .u64 (sh : Int)]) ∧ Below V.heap.size V w'))
    (H1 : Hid (∀ V, Rd V V.heap.size A bs → Calls Tryz.prog 66 #[.agg #[.int .i64 len, .slice A N c], .int .i64 (p : Int), .int .i64 ((z : Int) - 1)] V (Got V 0 e1)))
    (H2 : Hid (∀ V, Rd V V.heap.size A bs → Calls Tryz.prog 66 #[.agg #[.int .i64 len, .slice A N c], .int .i64 (p : Int), .int .i64 (z : Int)] V (Got V x2 0))) :
    Calls Tryz.prog 252 #[.agg #[.int .i64 len, .slice A N c], .int .i64 (p : Int), .int .u64 (m : Int)] w (ReadP w r to 0) := by
  have HA := Lib.hid hA; clear hA
  have t0 : (e1 == 0) = false := by simpa using h1
  have hr : (r : Int) = (x2 : Int) - (sh : Int) := by omega
  have hto : (to : Int) = (p : Int) + (z : Int) := by omega
  clear hto0
  go_enter Tryz.func252, Tryz.ntmps252
  go_wp2_with fail
  refine (HZ.out _).mono ?_
  rintro e w1 ⟨rfl, B1⟩
  have HB : Hid (Below w.heap.size w w1) := (one_below w _).trans (B1.mono (by rw [World.size_alloc]; omega))
  rw [World.size_alloc] at B1
  have HBx := Lib.hid B1
  obtain ⟨p1, q1⟩ := box_at B1
  clear B1
  go_wp2_with fail
  refine (H1.out _ (HA.out.on HB.out)).mono ?_
  rintro e w2 ⟨rfl, B2⟩
  have HB2 : Hid (Below w.heap.size w w2) := HB.out.trans (B2.mono HB.out.size)
  have HBy : Hid (Below (w.heap.size + 1) (w.alloc (.cells #[.int .i64 len, .slice A N c] 27)) w2) := HBx.out.trans (B2.mono (by have := HBx.out.size; rw [World.size_alloc] at this; omega))
  clear B2 p1 q1 HBx
  obtain ⟨p1, q1⟩ := box_at HBy.out
  go_wp2_with fail
  refine (H2.out _ (HA.out.on HB2.out)).mono ?_
  rintro e w3 ⟨rfl, B3⟩
  have HB3 : Hid (Below w.heap.size w w3) := HB2.out.trans (B3.mono HB2.out.size)
  clear B3
  go_wp2
  go_ret3
  exact ⟨by rw [hr, hto]; rfl, HB3.out⟩
set_option maxHeartbeats 600000 in
theorem getLeast_d (m z sh p : Nat) (hz : z ≤ 57) (hp : p ≤ 8192) (x1 : Nat) (e2 : Int) (hx : sh ≤ x1) (h2 : e2 ≠ 0) (len : Int) (A : Option Addr) (c N : Nat) (bs : List Nat) (w : World) (hA : Rd w w.heap.size A bs)
    (HZ : Hid (∀ V, Calls Tryz.prog 263 #[.int .u64 (m : Int)] V fun e w' => e = .returned (.tuple #[.int .i64 (z : Int), .int .u64 (sh : Int)]) ∧ Below V.heap.size V w'))
    (H1 : Hid (∀ V, Rd V V.heap.size A bs → Calls Tryz.prog 66 #[.agg #[.int .i64 len, .slice A N c], .int .i64 (p : Int), .int .i64 ((z : Int) - 1)] V (Got V x1 0)))
    (H2 : Hid (∀ V, Rd V V.heap.size A bs → Calls Tryz.prog 66 #[.agg #[.int .i64 len, .slice A N c], .int .i64 (p : Int), .int .i64 (z : Int)] V (Got V 0 e2))) :
    Calls Tryz.prog 252 #[.agg #[.int .i64 len, .slice A N c], .int .i64 (p : Int), .int .u64 (m : Int)] w (ReadP w 0 0 e2) := by
  have HA := Lib.hid hA; clear hA
  have t1 : decide ((x1 : Int) < (sh : Int)) = false := by simp; omega
  have t2 : (e2 != 0) = true := by simpa using h2
  go_enter Tryz.func252, Tryz.ntmps252
  go_wp2_with fail
  refine (HZ.out _).mono ?_
  rintro e w1 ⟨rfl, B1⟩
  have HB : Hid (Below w.heap.size w w1) := (one_below w _).trans (B1.mono (by rw [World.size_alloc]; omega))
  rw [World.size_alloc] at B1
  have HBx := Lib.hid B1
  obtain ⟨p1, q1⟩ := box_at B1
  clear B1
  go_wp2_with fail
  refine (H1.out _ (HA.out.on HB.out)).mono ?_
  rintro e w2 ⟨rfl, B2⟩
  have HB2 : Hid (Below w.heap.size w w2) := HB.out.trans (B2.mono HB.out.size)
  have HBy : Hid (Below (w.heap.size + 1) (w.alloc (.cells #[.int .i64 len, .slice A N c] 27)) w2) := HBx.out.trans (B2.mono (by have := HBx.out.size; rw [World.size_alloc] at this; omega))
  clear B2 p1 q1 HBx
  obtain ⟨p1, q1⟩ := box_at HBy.out
  go_wp2_with fail
  refine (H2.out _ (HA.out.on HB2.out)).mono ?_
  rintro e w3 ⟨rfl, B3⟩
  have HB3 : Hid (Below w.heap.size w w3) := HB2.out.trans (B3.mono HB2.out.size)
  clear B3
  go_wp2
  go_ret3
  exact ⟨rfl, HB3.out⟩
set_option maxHeartbeats 600000 in
theorem getLeast_e (m z sh p : Nat) (hz : z ≤ 57) (hp : p ≤ 8192) (x1 : Nat) (hx : sh ≤ x1) (x2 r to : Nat) (hx2 : x2 ≤ 144115188075855872) (hr0 : r + sh = x2) (hto0 : to = p + z) (len : Int) (A : Option Addr) (c N : Nat) (bs : List Nat) (w : World) (hA : Rd w w.heap.size A bs)
    (HZ : Hid (∀ V, Calls Tryz.prog 263 #[.int .u64 (m : Int)] V fun e w' => e = .returned (.tuple #[.int .i64 (z : Int), .int .u64 (sh : Int)]) ∧ Below V.heap.size V w'))
    (H1 : Hid (∀ V, Rd V V.heap.size A bs → Calls Tryz.prog 66 #[.agg #[.int .i64 len, .slice A N c], .int .i64 (p : Int), .int .i64 ((z : Int) - 1)] V (Got V x1 0)))
    (H2 : Hid (∀ V, Rd V V.heap.size A bs → Calls Tryz.prog 66 #[.agg #[.int .i64 len, .slice A N c], .int .i64 (p : Int), .int .i64 (z : Int)] V (Got V x2 0))) :
    Calls Tryz.prog 252 #[.agg #[.int .i64 len, .slice A N c], .int .i64 (p : Int), .int .u64 (m : Int)] w (ReadP w r to 0) := by
  have HA := Lib.hid hA; clear hA
  have t1 : decide ((x1 : Int) < (sh : Int)) = false := by simp; omega
  have hr : (r : Int) = (x2 : Int) - (sh : Int) := by omega
  have hto : (to : Int) = (p : Int) + (z : Int) := by omega
  clear hto0
  go_enter Tryz.func252, Tryz.ntmps252
  go_wp2_with fail
  refine (HZ.out _).mono ?_
  rintro e w1 ⟨rfl, B1⟩
  have HB : Hid (Below w.heap.size w w1) := (one_below w _).trans (B1.mono (by rw [World.size_alloc]; omega))
  rw [World.size_alloc] at B1
  have HBx := Lib.hid B1
  obtain ⟨p1, q1⟩ := box_at B1
  clear B1
  go_wp2_with fail
  refine (H1.out _ (HA.out.on HB.out)).mono ?_
  rintro e w2 ⟨rfl, B2⟩
  have HB2 : Hid (Below w.heap.size w w2) := HB.out.trans (B2.mono HB.out.size)
  have HBy : Hid (Below (w.heap.size + 1) (w.alloc (.cells #[.int .i64 len, .slice A N c] 27)) w2) := HBx.out.trans (B2.mono (by have := HBx.out.size; rw [World.size_alloc] at this; omega))
  clear B2 p1 q1 HBx
  obtain ⟨p1, q1⟩ := box_at HBy.out
  go_wp2_with fail
  refine (H2.out _ (HA.out.on HB2.out)).mono ?_
  rintro e w3 ⟨rfl, B3⟩
  have HB3 : Hid (Below w.heap.size w w3) := HB2.out.trans (B3.mono HB2.out.size)
  clear B3
  go_wp2
  go_ret3
  exact ⟨by rw [hr, hto]; rfl, HB3.out⟩
theorem getLeast_l (l : List Bool) (hl : l.length ≤ 8192) (m : Nat) (hm : 1 ≤ m) (hm2 : m ≤ 72057594037927936) (A : Option Addr) (c p : Nat) (hp : p ≤ l.length) (w : World) (h : Rd w w.heap.size A (pack l)) :
    Calls Tryz.prog 252 #[.agg #[.int .i64 (l.length : Int), .slice A (pack l).length c], .int .i64 (p : Int), .int .u64 (m : Int)] w (ReadP w (lstR l p m).1 (lstR l p m).2.1 (lstR l p m).2.2) := by
  have hz := sz_le m 56 (by omega)
  have hs := sh_add m
  have h56 := Nat.pow_le_pow_right (n := 2) (by omega) hz
  have HZ : Hid (∀ V, Calls Tryz.prog 263 #[.int .u64 (m : Int)] V fun e w' => e = .returned (.tuple #[.int .i64 (sz m : Int), .int .u64 (sh m : Int)]) ∧ Below V.heap.size V w') := fun V => sizes_any m hm hm2 V
  have short : ∀ k : Nat, k ≤ 64 → l.length < p + k → Hid (∀ V, Rd V V.heap.size A (pack l) → Calls Tryz.prog 66 #[.agg #[.int .i64 (l.length : Int), .slice A (pack l).length c], .int .i64 (p : Int), .int .i64 (k : Int)] V (Got V 0 7)) := fun k h1 h2 V hV => get_short l hl A c (p : Int) (k : Int) V hV (by omega) (by omega) (by omega) (by omega) (by omega)
  have good : ∀ k : Nat, k ≤ 64 → p + k ≤ l.length → Hid (∀ V, Rd V V.heap.size A (pack l) → Calls Tryz.prog 66 #[.agg #[.int .i64 (l.length : Int), .slice A (pack l).length c], .int .i64 (p : Int), .int .i64 (k : Int)] V (Got V (num ((l.drop p).take k)) 0)) := fun k h1 h2 V hV => got_l l hl A c p k h1 h2 V hV
  unfold lstR
  rcases sh_lt m hm with ⟨a, b, d⟩ | ⟨a, b, d, d2⟩
  · rw [if_neg (by omega), if_pos (by omega)]
    have H1 : Hid (∀ V, Rd V V.heap.size A (pack l) → Calls Tryz.prog 66 #[.agg #[.int .i64 (l.length : Int), .slice A (pack l).length c], .int .i64 (p : Int), .int .i64 ((sz m : Int) - 1)] V (Got V 0 3)) := fun V hV => get_range l hl A c (p : Int) _ V hV (.inl (by omega))
    have hn : num ((l.drop p).take (sz m)) = 0 := by rw [a]; rfl
    exact getLeast_c m (sz m) (sh m) p (by omega) (by omega) 3 (by decide) _ _ _ (by omega) (by rw [hn, b]) rfl _ A c _ _ w h HZ H1 (good (sz m) (by omega) (by omega))
  · have ez : ((sz m : Int) - 1) = ((sz m - 1 : Nat) : Int) := by omega
    by_cases h1 : p + (sz m - 1) ≤ l.length
    · have G1 := good (sz m - 1) (by omega) h1
      rw [← ez] at G1
      by_cases h2 : num ((l.drop p).take (sz m - 1)) < sh m
      · rw [if_pos ⟨a, h1, h2⟩]
        exact getLeast_a m (sz m) (sh m) p (by omega) (by omega) _ _ h2 (by simp only; omega) _ A c _ _ w h HZ G1
      · rw [if_neg (fun h => h2 h.2.2)]
        by_cases h3 : p + sz m ≤ l.length
        · rw [if_pos h3]
          have f := num_take_le (l.drop p) (sz m - 1) 1 (by rw [List.length_drop]; omega)
          rw [show sz m - 1 + 1 = sz m by omega] at f
          have g := num_take_lt l p (sz m)
          exact getLeast_e m (sz m) (sh m) p (by omega) (by omega) _ (by omega) _ _ _ (by omega) (Nat.sub_add_cancel (by omega)) rfl _ A c _ _ w h HZ G1 (good (sz m) (by omega) h3)
        · rw [if_neg h3]
          exact getLeast_d m (sz m) (sh m) p (by omega) (by omega) _ 7 (by omega) (by decide) _ A c _ _ w h HZ G1 (short (sz m) (by omega) (by omega))
    · have G1 := short (sz m - 1) (by omega) (by omega)
      rw [← ez] at G1
      rw [if_neg (fun h => h1 h.2.1), if_neg (by omega)]
      exact getLeast_b m (sz m) (sh m) p (by omega) (by omega) 7 7 (by decide) (by decide) _ A c _ _ w h HZ G1 (short (sz m) (by omega) (by omega))
end
section
set_option maxRecDepth 100000
set_option linter.unusedVariables false
open Go.RowKit
theorem mulI (h k s : Nat) (hs : h * k = s) : ((h : Int) * (k : Int)) = (s : Int) := by rw [← hs]; simp
theorem range1_hid (e : Int) (he : e ≠ 0) (b : Bool) (w : World) (B : Nat) (hB : w.heap.size = B) :
    Calls Tryz.prog 48 #[.int .i64 e, .slice (some ⟨B, 0, none⟩) 1 1] (w.alloc (.cells #[.bool b] 4)) fun x w' => x = .returned (.int .i64 e) ∧ Below w.heap.size w w' :=
  range1 e b e (by unfold rgE; rw [if_neg (fun h => he h.1)]) w B hB
set_option maxHeartbeats 1000000 in
theorem rzeta_u (len : Int) (A : Option Addr) (c N : Nat) (bs : List Nat) (p : Int) (w : World) (hA : Rd w w.heap.size A bs) (ec : Int) (ok : Bool) (he : rgE ec [decide (0 ≤ p), decide (p ≤ len), ok] = 0) (k : Int) (h fr : Nat) (hq : h ≤ 8192) (eu : Int) (h0 : eu ≠ 0) (hk : 1 ≤ k ∧ k ≤ 16)
    (HC : Hid (∀ V, Rd V V.heap.size A bs → Calls Tryz.prog 53 #[.agg #[.int .i64 len, .slice A N c]] V fun e w' => e = .returned (.int .i64 ec) ∧ Below V.heap.size V w'))
    (HO : Hid (∀ V, Calls Tryz.prog 63 #[.int .i64 k] V fun e w' => e = .returned (.bool ok) ∧ V = w'))
    (HU : Hid (∀ V, Rd V V.heap.size A bs → Calls Tryz.prog 228 #[.agg #[.int .i64 len, .slice A N c], .int .i64 p] V (ReadP V h fr eu))) :
    Calls Tryz.prog 230 #[.agg #[.int .i64 len, .slice A N c], .int .i64 p, .int .i64 k] w (ReadP w 0 0 eu) := by
  have HA := Lib.hid hA; clear hA
  have HR := Lib.hid (range3 ec (decide (0 ≤ p)) (decide (p ≤ len)) ok 0 he)
  clear he
  go_enter Tryz.func230, Tryz.ntmps230
  go_wp2_with fail
  generalize hV : w.alloc (.cells #[.int .i64 len, .slice A N c] 27) = V0
  have HV : Hid (Below w.heap.size w V0) := hV ▸ one_below _ _
  have HVs : Hid (w.heap.size + 1 = V0.heap.size) := by show _ = _; rw [← hV, World.size_alloc]
  have HK : Hid (∀ w' : World, Below V0.heap.size V0 w' → w'.cell? ⟨w.heap.size, 0, none⟩ = some (.int .i64 len) ∧ w'.cell? ⟨w.heap.size, 1, none⟩ = some (.slice A N c)) := by
    subst hV
    exact fun w' h => box_at (by rwa [World.size_alloc] at h)
  clear hV
  go_region_held3 (fun w' => w'.cell? ⟨w.heap.size, 0, none⟩ = some (.int .i64 len) ∧ w'.cell? ⟨w.heap.size, 1, none⟩ = some (.slice A N c))
    ((refine HK.out _ ?_; first | exact hk2.out | exact hk1.out.trans ((one_below _ _).mono hk1.out.size) | exact hk1.out | exact (Below.refl _ _).drew))
    (first
      | (go_at_call 48; have hx := hk1.out; refine (HR.out w1 _ rfl).mono ?_; rintro e w2 ⟨rfl, B2⟩; have hk2 : Hid (Below V0.heap.size V0 w2) := hx.trans (B2.mono hx.size); clear B2 hx)
      | (go_at_call 63; have hx := hk1.out; refine (HO.out w1).mono ?_; rintro e _ ⟨rfl, rfl⟩; clear hx)
      | (go_at_call 53; refine (HC.out V0.drew (HA.out.on HV.out.drew)).mono ?_; rintro e w1 ⟨rfl, B1⟩; have hk1 : Hid (Below V0.heap.size V0 w1) := ((Below.refl _ V0).drew).trans B1; clear B1))
  obtain ⟨p1, q1⟩ := HK.out w2 hk2.out
  have HB2 : Hid (Below w.heap.size w w2) := HV.out.trans (hk2.out.mono HV.out.size)
  have t0 : (eu != 0) = true := by simpa using h0
  have HKw : Hid (∀ w' : World, Below w2.heap.size w2 w' → w'.cell? ⟨w.heap.size, 0, none⟩ = some (.int .i64 len) ∧ w'.cell? ⟨w.heap.size, 1, none⟩ = some (.slice A N c)) := fun w' h => HK.out w' (hk2.out.trans (h.mono hk2.out.size))
  clear HK hk1 hk2
  go_wp2_with fail
  refine (HU.out _ (HA.out.on HB2.out)).mono ?_
  rintro e w3 ⟨rfl, B3⟩
  have HB3 : Hid (Below w.heap.size w w3) := HB2.out.trans (B3.mono HB2.out.size)
  have H23 := Lib.hid B3
  clear B3 p1 q1
  obtain ⟨p1, q1⟩ := HKw.out w3 H23.out
  go_wp2_with fail
  refine (range1_hid eu h0 _ _ _ rfl).mono ?_
  rintro e w4 ⟨rfl, B4⟩
  have HB4 : Hid (Below w.heap.size w w4) := HB3.out.trans (B4.mono HB3.out.size)
  have H24 : Hid (Below w2.heap.size w2 w4) := H23.out.trans (B4.mono H23.out.size)
  clear B4 p1 q1
  clear HKw H23 H24
  go_wp2
  go_ret3
  exact ⟨rfl, HB4.out⟩
set_option maxHeartbeats 1000000 in
theorem rzeta_q (len : Int) (A : Option Addr) (c N : Nat) (bs : List Nat) (p : Int) (w : World) (hA : Rd w w.heap.size A bs) (ec : Int) (ok : Bool) (he : rgE ec [decide (0 ≤ p), decide (p ≤ len), ok] = 0) (k h fr s : Nat) (hk2 : k ≤ 16) (hh : h ≤ 8192) (hs : h * k = s) (hs2 : s ≤ 200000) (hq : 40 < s)
    (HC : Hid (∀ V, Rd V V.heap.size A bs → Calls Tryz.prog 53 #[.agg #[.int .i64 len, .slice A N c]] V fun e w' => e = .returned (.int .i64 ec) ∧ Below V.heap.size V w'))
    (HO : Hid (∀ V, Calls Tryz.prog 63 #[.int .i64 (k : Int)] V fun e w' => e = .returned (.bool ok) ∧ V = w'))
    (HU : Hid (∀ V, Rd V V.heap.size A bs → Calls Tryz.prog 228 #[.agg #[.int .i64 len, .slice A N c], .int .i64 p] V (ReadP V h fr 0))) :
    Calls Tryz.prog 230 #[.agg #[.int .i64 len, .slice A N c], .int .i64 p, .int .i64 (k : Int)] w (ReadP w 0 0 3) := by
  have HA := Lib.hid hA; clear hA
  have HR := Lib.hid (range3 ec (decide (0 ≤ p)) (decide (p ≤ len)) ok 0 he)
  clear he
  go_enter Tryz.func230, Tryz.ntmps230
  go_wp2_with fail
  generalize hV : w.alloc (.cells #[.int .i64 len, .slice A N c] 27) = V0
  have HV : Hid (Below w.heap.size w V0) := hV ▸ one_below _ _
  have HVs : Hid (w.heap.size + 1 = V0.heap.size) := by show _ = _; rw [← hV, World.size_alloc]
  have HK : Hid (∀ w' : World, Below V0.heap.size V0 w' → w'.cell? ⟨w.heap.size, 0, none⟩ = some (.int .i64 len) ∧ w'.cell? ⟨w.heap.size, 1, none⟩ = some (.slice A N c)) := by
    subst hV
    exact fun w' h => box_at (by rwa [World.size_alloc] at h)
  clear hV
  go_region_held3 (fun w' => w'.cell? ⟨w.heap.size, 0, none⟩ = some (.int .i64 len) ∧ w'.cell? ⟨w.heap.size, 1, none⟩ = some (.slice A N c))
    ((refine HK.out _ ?_; first | exact hk2.out | exact hk1.out.trans ((one_below _ _).mono hk1.out.size) | exact hk1.out | exact (Below.refl _ _).drew))
    (first
      | (go_at_call 48; have hx := hk1.out; refine (HR.out w1 _ rfl).mono ?_; rintro e w2 ⟨rfl, B2⟩; have hk2 : Hid (Below V0.heap.size V0 w2) := hx.trans (B2.mono hx.size); clear B2 hx)
      | (go_at_call 63; have hx := hk1.out; refine (HO.out w1).mono ?_; rintro e _ ⟨rfl, rfl⟩; clear hx)
      | (go_at_call 53; refine (HC.out V0.drew (HA.out.on HV.out.drew)).mono ?_; rintro e w1 ⟨rfl, B1⟩; have hk1 : Hid (Below V0.heap.size V0 w1) := ((Below.refl _ V0).drew).trans B1; clear B1))
  obtain ⟨p1, q1⟩ := HK.out w2 hk2.out
  have HB2 : Hid (Below w.heap.size w w2) := HV.out.trans (hk2.out.mono HV.out.size)
  have t0 : decide ((s : Int) ≤ 40) = false := by simp; omega
  have HKw : Hid (∀ w' : World, Below w2.heap.size w2 w' → w'.cell? ⟨w.heap.size, 0, none⟩ = some (.int .i64 len) ∧ w'.cell? ⟨w.heap.size, 1, none⟩ = some (.slice A N c)) := fun w' h => HK.out w' (hk2.out.trans (h.mono hk2.out.size))
  clear HK hk1 hk2
  go_wp2_with fail
  refine (HU.out _ (HA.out.on HB2.out)).mono ?_
  rintro e w3 ⟨rfl, B3⟩
  have HB3 : Hid (Below w.heap.size w w3) := HB2.out.trans (B3.mono HB2.out.size)
  have H23 := Lib.hid B3
  clear B3 p1 q1
  obtain ⟨p1, q1⟩ := HKw.out w3 H23.out
  go_wp2_with fail
  rw [mulI h k s hs, t0]
  refine (range1 0 false 3 rfl _ _ rfl).mono ?_
  rintro e w4 ⟨rfl, B4⟩
  have HB4 : Hid (Below w.heap.size w w4) := HB3.out.trans (B4.mono HB3.out.size)
  have H24 : Hid (Below w2.heap.size w2 w4) := H23.out.trans (B4.mono H23.out.size)
  clear B4 p1 q1
  clear HKw H23 H24
  go_wp2
  go_ret3
  exact ⟨rfl, HB4.out⟩
set_option maxHeartbeats 1000000 in
theorem rzeta_s (len : Int) (A : Option Addr) (c N : Nat) (bs : List Nat) (p : Int) (w : World) (hA : Rd w w.heap.size A bs) (ec : Int) (ok : Bool) (he : rgE ec [decide (0 ≤ p), decide (p ≤ len), ok] = 0) (k h fr s f y r : Nat) (hk2 : k ≤ 16) (hh : h ≤ 40) (hfr : fr ≤ 8192) (hs : h * k = s) (hs2 : s ≤ 40) (hf : f ≤ 1099511627776) (hf1 : 1 ≤ f) (hr : r ≤ 72057594037927936) (to : Nat) (er : Int) (h1 : er ≠ 0)
    (HC : Hid (∀ V, Rd V V.heap.size A bs → Calls Tryz.prog 53 #[.agg #[.int .i64 len, .slice A N c]] V fun e w' => e = .returned (.int .i64 ec) ∧ Below V.heap.size V w'))
    (HO : Hid (∀ V, Calls Tryz.prog 63 #[.int .i64 (k : Int)] V fun e w' => e = .returned (.bool ok) ∧ V = w'))
    (HU : Hid (∀ V, Rd V V.heap.size A bs → Calls Tryz.prog 228 #[.agg #[.int .i64 len, .slice A N c], .int .i64 p] V (ReadP V h fr 0)))
    (HS : Hid (∀ V, Calls Tryz.prog 225 #[.int .i64 (s : Int), .int .i64 (k : Int)] V fun e w' => e = .returned (.tuple #[.int .u64 (f : Int), .int .u64 (y : Int)]) ∧ Below V.heap.size V w'))
    (HG : Hid (∀ V, Rd V V.heap.size A bs → Calls Tryz.prog 252 #[.agg #[.int .i64 len, .slice A N c], .int .i64 (fr : Int), .int .u64 (y : Int)] V (ReadP V r to er))) :
    Calls Tryz.prog 230 #[.agg #[.int .i64 len, .slice A N c], .int .i64 p, .int .i64 (k : Int)] w (ReadP w 0 0 er) := by
  have HA := Lib.hid hA; clear hA
  have HR := Lib.hid (range3 ec (decide (0 ≤ p)) (decide (p ≤ len)) ok 0 he)
  clear he
  go_enter Tryz.func230, Tryz.ntmps230
  go_wp2_with fail
  generalize hV : w.alloc (.cells #[.int .i64 len, .slice A N c] 27) = V0
  have HV : Hid (Below w.heap.size w V0) := hV ▸ one_below _ _
  have HVs : Hid (w.heap.size + 1 = V0.heap.size) := by show _ = _; rw [← hV, World.size_alloc]
  have HK : Hid (∀ w' : World, Below V0.heap.size V0 w' → w'.cell? ⟨w.heap.size, 0, none⟩ = some (.int .i64 len) ∧ w'.cell? ⟨w.heap.size, 1, none⟩ = some (.slice A N c)) := by
    subst hV
    exact fun w' h => box_at (by rwa [World.size_alloc] at h)
  clear hV
  go_region_held3 (fun w' => w'.cell? ⟨w.heap.size, 0, none⟩ = some (.int .i64 len) ∧ w'.cell? ⟨w.heap.size, 1, none⟩ = some (.slice A N c))
    ((refine HK.out _ ?_; first | exact hk2.out | exact hk1.out.trans ((one_below _ _).mono hk1.out.size) | exact hk1.out | exact (Below.refl _ _).drew))
    (first
      | (go_at_call 48; have hx := hk1.out; refine (HR.out w1 _ rfl).mono ?_; rintro e w2 ⟨rfl, B2⟩; have hk2 : Hid (Below V0.heap.size V0 w2) := hx.trans (B2.mono hx.size); clear B2 hx)
      | (go_at_call 63; have hx := hk1.out; refine (HO.out w1).mono ?_; rintro e _ ⟨rfl, rfl⟩; clear hx)
      | (go_at_call 53; refine (HC.out V0.drew (HA.out.on HV.out.drew)).mono ?_; rintro e w1 ⟨rfl, B1⟩; have hk1 : Hid (Below V0.heap.size V0 w1) := ((Below.refl _ V0).drew).trans B1; clear B1))
  obtain ⟨p1, q1⟩ := HK.out w2 hk2.out
  have HB2 : Hid (Below w.heap.size w w2) := HV.out.trans (hk2.out.mono HV.out.size)
  have t0 : decide ((s : Int) ≤ 40) = true := by simp; omega
  have t1 : (er != 0) = true := by simpa using h1
  have HKw : Hid (∀ w' : World, Below w2.heap.size w2 w' → w'.cell? ⟨w.heap.size, 0, none⟩ = some (.int .i64 len) ∧ w'.cell? ⟨w.heap.size, 1, none⟩ = some (.slice A N c)) := fun w' h => HK.out w' (hk2.out.trans (h.mono hk2.out.size))
  clear HK hk1 hk2
  go_wp2_with fail
  refine (HU.out _ (HA.out.on HB2.out)).mono ?_
  rintro e w3 ⟨rfl, B3⟩
  have HB3 : Hid (Below w.heap.size w w3) := HB2.out.trans (B3.mono HB2.out.size)
  have H23 := Lib.hid B3
  clear B3 p1 q1
  obtain ⟨p1, q1⟩ := HKw.out w3 H23.out
  go_wp2_with fail
  rw [mulI h k s hs, t0]
  refine (range1 0 true 0 rfl _ _ rfl).mono ?_
  rintro e w4 ⟨rfl, B4⟩
  have HB4 : Hid (Below w.heap.size w w4) := HB3.out.trans (B4.mono HB3.out.size)
  have H24 : Hid (Below w2.heap.size w2 w4) := H23.out.trans (B4.mono H23.out.size)
  clear B4 p1 q1
  go_wp2_with fail
  refine (HS.out _).mono ?_
  rintro e w4b ⟨rfl, B4⟩
  replace HB4 : Hid (Below w.heap.size w w4b) := HB4.out.trans (B4.mono HB4.out.size)
  replace H24 : Hid (Below w2.heap.size w2 w4b) := H24.out.trans (B4.mono H24.out.size)
  clear B4
  obtain ⟨p1, q1⟩ := HKw.out w4b H24.out
  go_wp2_with fail
  refine (HG.out _ (HA.out.on HB4.out)).mono ?_
  rintro e w5 ⟨rfl, B5⟩
  have HB5 : Hid (Below w.heap.size w w5) := HB4.out.trans (B5.mono HB4.out.size)
  clear B5 p1 q1 HKw H23 H24
  go_wp2_with fail
  refine (range1_hid er h1 _ _ _ rfl).mono ?_
  rintro e w6 ⟨rfl, B6⟩
  have HB6 : Hid (Below w.heap.size w w6) := HB5.out.trans (B6.mono HB5.out.size)
  clear B6
  go_wp2
  go_ret3
  exact ⟨rfl, HB6.out⟩
set_option maxHeartbeats 1000000 in
theorem rzeta_o (len : Int) (A : Option Addr) (c N : Nat) (bs : List Nat) (p : Int) (w : World) (hA : Rd w w.heap.size A bs) (ec : Int) (ok : Bool) (he : rgE ec [decide (0 ≤ p), decide (p ≤ len), ok] = 0) (k h fr s f y r : Nat) (hk2 : k ≤ 16) (hh : h ≤ 40) (hfr : fr ≤ 8192) (hs : h * k = s) (hs2 : s ≤ 40) (hf : f ≤ 1099511627776) (hf1 : 1 ≤ f) (hr : r ≤ 72057594037927936) (to : Nat) (h1 : 1099511627776 < f + r - 1)
    (HC : Hid (∀ V, Rd V V.heap.size A bs → Calls Tryz.prog 53 #[.agg #[.int .i64 len, .slice A N c]] V fun e w' => e = .returned (.int .i64 ec) ∧ Below V.heap.size V w'))
    (HO : Hid (∀ V, Calls Tryz.prog 63 #[.int .i64 (k : Int)] V fun e w' => e = .returned (.bool ok) ∧ V = w'))
    (HU : Hid (∀ V, Rd V V.heap.size A bs → Calls Tryz.prog 228 #[.agg #[.int .i64 len, .slice A N c], .int .i64 p] V (ReadP V h fr 0)))
    (HS : Hid (∀ V, Calls Tryz.prog 225 #[.int .i64 (s : Int), .int .i64 (k : Int)] V fun e w' => e = .returned (.tuple #[.int .u64 (f : Int), .int .u64 (y : Int)]) ∧ Below V.heap.size V w'))
    (HG : Hid (∀ V, Rd V V.heap.size A bs → Calls Tryz.prog 252 #[.agg #[.int .i64 len, .slice A N c], .int .i64 (fr : Int), .int .u64 (y : Int)] V (ReadP V r to 0))) :
    Calls Tryz.prog 230 #[.agg #[.int .i64 len, .slice A N c], .int .i64 p, .int .i64 (k : Int)] w (ReadP w 0 0 3) := by
  have HA := Lib.hid hA; clear hA
  have HR := Lib.hid (range3 ec (decide (0 ≤ p)) (decide (p ≤ len)) ok 0 he)
  clear he
  go_enter Tryz.func230, Tryz.ntmps230
  go_wp2_with fail
  generalize hV : w.alloc (.cells #[.int .i64 len, .slice A N c] 27) = V0
  have HV : Hid (Below w.heap.size w V0) := hV ▸ one_below _ _
  have HVs : Hid (w.heap.size + 1 = V0.heap.size) := by show _ = _; rw [← hV, World.size_alloc]
  have HK : Hid (∀ w' : World, Below V0.heap.size V0 w' → w'.cell? ⟨w.heap.size, 0, none⟩ = some (.int .i64 len) ∧ w'.cell? ⟨w.heap.size, 1, none⟩ = some (.slice A N c)) := by
    subst hV
    exact fun w' h => box_at (by rwa [World.size_alloc] at h)
  clear hV
  go_region_held3 (fun w' => w'.cell? ⟨w.heap.size, 0, none⟩ = some (.int .i64 len) ∧ w'.cell? ⟨w.heap.size, 1, none⟩ = some (.slice A N c))
    ((refine HK.out _ ?_; first | exact hk2.out | exact hk1.out.trans ((one_below _ _).mono hk1.out.size) | exact hk1.out | exact (Below.refl _ _).drew))
    (first
      | (go_at_call 48; have hx := hk1.out; refine (HR.out w1 _ rfl).mono ?_; rintro e w2 ⟨rfl, B2⟩; have hk2 : Hid (Below V0.heap.size V0 w2) := hx.trans (B2.mono hx.size); clear B2 hx)
      | (go_at_call 63; have hx := hk1.out; refine (HO.out w1).mono ?_; rintro e _ ⟨rfl, rfl⟩; clear hx)
      | (go_at_call 53; refine (HC.out V0.drew (HA.out.on HV.out.drew)).mono ?_; rintro e w1 ⟨rfl, B1⟩; have hk1 : Hid (Below V0.heap.size V0 w1) := ((Below.refl _ V0).drew).trans B1; clear B1))
  obtain ⟨p1, q1⟩ := HK.out w2 hk2.out
  have HB2 : Hid (Below w.heap.size w w2) := HV.out.trans (hk2.out.mono HV.out.size)
  have t0 : decide ((s : Int) ≤ 40) = true := by simp; omega
  have t1 : decide ((f : Int) + (r : Int) - 1 ≤ 1099511627776) = false := by simp; omega
  have HKw : Hid (∀ w' : World, Below w2.heap.size w2 w' → w'.cell? ⟨w.heap.size, 0, none⟩ = some (.int .i64 len) ∧ w'.cell? ⟨w.heap.size, 1, none⟩ = some (.slice A N c)) := fun w' h => HK.out w' (hk2.out.trans (h.mono hk2.out.size))
  clear HK hk1 hk2
  go_wp2_with fail
  refine (HU.out _ (HA.out.on HB2.out)).mono ?_
  rintro e w3 ⟨rfl, B3⟩
  have HB3 : Hid (Below w.heap.size w w3) := HB2.out.trans (B3.mono HB2.out.size)
  have H23 := Lib.hid B3
  clear B3 p1 q1
  obtain ⟨p1, q1⟩ := HKw.out w3 H23.out
  go_wp2_with fail
  rw [mulI h k s hs, t0]
  refine (range1 0 true 0 rfl _ _ rfl).mono ?_
  rintro e w4 ⟨rfl, B4⟩
  have HB4 : Hid (Below w.heap.size w w4) := HB3.out.trans (B4.mono HB3.out.size)
  have H24 : Hid (Below w2.heap.size w2 w4) := H23.out.trans (B4.mono H23.out.size)
  clear B4 p1 q1
  go_wp2_with fail
  refine (HS.out _).mono ?_
  rintro e w4b ⟨rfl, B4⟩
  replace HB4 : Hid (Below w.heap.size w w4b) := HB4.out.trans (B4.mono HB4.out.size)
  replace H24 : Hid (Below w2.heap.size w2 w4b) := H24.out.trans (B4.mono H24.out.size)
  clear B4
  obtain ⟨p1, q1⟩ := HKw.out w4b H24.out
  go_wp2_with fail
  refine (HG.out _ (HA.out.on HB4.out)).mono ?_
  rintro e w5 ⟨rfl, B5⟩
  have HB5 : Hid (Below w.heap.size w w5) := HB4.out.trans (B5.mono HB4.out.size)
  clear B5 p1 q1 HKw H23 H24
  go_wp2_with fail
  refine (range1 0 false 3 rfl _ _ rfl).mono ?_
  rintro e w6 ⟨rfl, B6⟩
  have HB6 : Hid (Below w.heap.size w w6) := HB5.out.trans (B6.mono HB5.out.size)
  clear B6
  go_wp2
  go_ret3
  exact ⟨rfl, HB6.out⟩
set_option maxHeartbeats 1000000 in
theorem rzeta_k (len : Int) (A : Option Addr) (c N : Nat) (bs : List Nat) (p : Int) (w : World) (hA : Rd w w.heap.size A bs) (ec : Int) (ok : Bool) (he : rgE ec [decide (0 ≤ p), decide (p ≤ len), ok] = 0) (k h fr s f y r : Nat) (hk2 : k ≤ 16) (hh : h ≤ 40) (hfr : fr ≤ 8192) (hs : h * k = s) (hs2 : s ≤ 40) (hf : f ≤ 1099511627776) (hf1 : 1 ≤ f) (hr : r ≤ 72057594037927936) (to : Nat) (x : Nat) (hx : x + 1 = f + r) (h1 : f + r - 1 ≤ 1099511627776)
    (HC : Hid (∀ V, Rd V V.heap.size A bs → Calls Tryz.prog 53 #[.agg #[.int .i64 len, .slice A N c]] V fun e w' => e = .returned (.int .i64 ec) ∧ Below V.heap.size V w'))
    (HO : Hid (∀ V, Calls Tryz.prog 63 #[.int .i64 (k : Int)] V fun e w' => e = .returned (.bool ok) ∧ V = w'))
    (HU : Hid (∀ V, Rd V V.heap.size A bs → Calls Tryz.prog 228 #[.agg #[.int .i64 len, .slice A N c], .int .i64 p] V (ReadP V h fr 0)))
    (HS : Hid (∀ V, Calls Tryz.prog 225 #[.int .i64 (s : Int), .int .i64 (k : Int)] V fun e w' => e = .returned (.tuple #[.int .u64 (f : Int), .int .u64 (y : Int)]) ∧ Below V.heap.size V w'))
    (HG : Hid (∀ V, Rd V V.heap.size A bs → Calls Tryz.prog 252 #[.agg #[.int .i64 len, .slice A N c], .int .i64 (fr : Int), .int .u64 (y : Int)] V (ReadP V r to 0))) :
    Calls Tryz.prog 230 #[.agg #[.int .i64 len, .slice A N c], .int .i64 p, .int .i64 (k : Int)] w (ReadP w x to 0) := by
  have HA := Lib.hid hA; clear hA
  have HR := Lib.hid (range3 ec (decide (0 ≤ p)) (decide (p ≤ len)) ok 0 he)
  clear he
  go_enter Tryz.func230, Tryz.ntmps230
  go_wp2_with fail
  generalize hV : w.alloc (.cells #[.int .i64 len, .slice A N c] 27) = V0
  have HV : Hid (Below w.heap.size w V0) := hV ▸ one_below _ _
  have HVs : Hid (w.heap.size + 1 = V0.heap.size) := by show _ = _; rw [← hV, World.size_alloc]
  have HK : Hid (∀ w' : World, Below V0.heap.size V0 w' → w'.cell? ⟨w.heap.size, 0, none⟩ = some (.int .i64 len) ∧ w'.cell? ⟨w.heap.size, 1, none⟩ = some (.slice A N c)) := by
    subst hV
    exact fun w' h => box_at (by rwa [World.size_alloc] at h)
  clear hV
  go_region_held3 (fun w' => w'.cell? ⟨w.heap.size, 0, none⟩ = some (.int .i64 len) ∧ w'.cell? ⟨w.heap.size, 1, none⟩ = some (.slice A N c))
    ((refine HK.out _ ?_; first | exact hk2.out | exact hk1.out.trans ((one_below _ _).mono hk1.out.size) | exact hk1.out | exact (Below.refl _ _).drew))
    (first
      | (go_at_call 48; have hx := hk1.out; refine (HR.out w1 _ rfl).mono ?_; rintro e w2 ⟨rfl, B2⟩; have hk2 : Hid (Below V0.heap.size V0 w2) := hx.trans (B2.mono hx.size); clear B2 hx)
      | (go_at_call 63; have hx := hk1.out; refine (HO.out w1).mono ?_; rintro e _ ⟨rfl, rfl⟩; clear hx)
      | (go_at_call 53; refine (HC.out V0.drew (HA.out.on HV.out.drew)).mono ?_; rintro e w1 ⟨rfl, B1⟩; have hk1 : Hid (Below V0.heap.size V0 w1) := ((Below.refl _ V0).drew).trans B1; clear B1))
  obtain ⟨p1, q1⟩ := HK.out w2 hk2.out
  have HB2 : Hid (Below w.heap.size w w2) := HV.out.trans (hk2.out.mono HV.out.size)
  have t0 : decide ((s : Int) ≤ 40) = true := by simp; omega
  have t1 : decide ((f : Int) + (r : Int) - 1 ≤ 1099511627776) = true := by simp; omega
  have hxi : (x : Int) = (f : Int) + (r : Int) - 1 := by omega
  have HKw : Hid (∀ w' : World, Below w2.heap.size w2 w' → w'.cell? ⟨w.heap.size, 0, none⟩ = some (.int .i64 len) ∧ w'.cell? ⟨w.heap.size, 1, none⟩ = some (.slice A N c)) := fun w' h => HK.out w' (hk2.out.trans (h.mono hk2.out.size))
  clear HK hk1 hk2
  go_wp2_with fail
  refine (HU.out _ (HA.out.on HB2.out)).mono ?_
  rintro e w3 ⟨rfl, B3⟩
  have HB3 : Hid (Below w.heap.size w w3) := HB2.out.trans (B3.mono HB2.out.size)
  have H23 := Lib.hid B3
  clear B3 p1 q1
  obtain ⟨p1, q1⟩ := HKw.out w3 H23.out
  go_wp2_with fail
  rw [mulI h k s hs, t0]
  refine (range1 0 true 0 rfl _ _ rfl).mono ?_
  rintro e w4 ⟨rfl, B4⟩
  have HB4 : Hid (Below w.heap.size w w4) := HB3.out.trans (B4.mono HB3.out.size)
  have H24 : Hid (Below w2.heap.size w2 w4) := H23.out.trans (B4.mono H23.out.size)
  clear B4 p1 q1
  go_wp2_with fail
  refine (HS.out _).mono ?_
  rintro e w4b ⟨rfl, B4⟩
  replace HB4 : Hid (Below w.heap.size w w4b) := HB4.out.trans (B4.mono HB4.out.size)
  replace H24 : Hid (Below w2.heap.size w2 w4b) := H24.out.trans (B4.mono H24.out.size)
  clear B4
  obtain ⟨p1, q1⟩ := HKw.out w4b H24.out
  go_wp2_with fail
  refine (HG.out _ (HA.out.on HB4.out)).mono ?_
  rintro e w5 ⟨rfl, B5⟩
  have HB5 : Hid (Below w.heap.size w w5) := HB4.out.trans (B5.mono HB4.out.size)
  clear B5 p1 q1 HKw H23 H24
  go_wp2_with fail
  refine (range1 0 true 0 rfl _ _ rfl).mono ?_
  rintro e w6 ⟨rfl, B6⟩
  have HB6 : Hid (Below w.heap.size w w6) := HB5.out.trans (B6.mono HB5.out.size)
  clear B6
  go_wp2
  go_ret3
  exact ⟨by rw [hxi]; rfl, HB6.out⟩
def rcE (len : Int) (bs : List Nat) (p : Int) (ok : Bool) : Int := if chk len bs ≠ 0 then chk len bs else if p < 0 ∨ len < p ∨ ok = false then 3 else 0
theorem rcE_eq (len : Int) (bs : List Nat) (p : Int) (ok : Bool) : rgE (chk len bs) [decide (0 ≤ p), decide (p ≤ len), ok] = rcE len bs p ok := by
  by_cases hc : chk len bs = 0
  · have e1 : rcE len bs p ok = if p < 0 ∨ len < p ∨ ok = false then 3 else 0 := by unfold rcE; rw [if_neg (fun h => h hc)]
    rw [e1, hc]
    unfold rgE
    by_cases h : p < 0 ∨ len < p ∨ ok = false
    · rw [if_pos h, if_pos]
      refine ⟨rfl, ?_⟩
      rcases h with h | h | h
      · rw [decide_eq_false (show ¬ 0 ≤ p by omega)]; simp
      · rw [decide_eq_false (show ¬ p ≤ len by omega)]; simp
      · rw [h]; simp
    · rw [if_neg h, if_neg]
      rw [decide_eq_true (show 0 ≤ p by omega), decide_eq_true (show p ≤ len by omega)]
      have : ok = true := by
        cases ok
        · exact absurd (.inr (.inr rfl)) h
        · rfl
      rw [this]; simp
  · have e1 : rcE len bs p ok = chk len bs := by unfold rcE; rw [if_pos hc]
    rw [e1]
    unfold rgE
    rw [if_neg (fun h => hc h.1)]
theorem ck_hid (len : Int) (A : Option Addr) (c : Nat) (bs : List Nat) (hb : ∀ b ∈ bs, b < 256) : Hid (∀ V, Rd V V.heap.size A bs → Calls Tryz.prog 53 #[.agg #[.int .i64 len, .slice A bs.length c]] V fun e w' => e = .returned (.int .i64 (chk len bs)) ∧ Below V.heap.size V w') := fun V h => check_any len A c bs V hb h
theorem rcE_ok (l : List Bool) (hl : l.length ≤ 8192) (p : Nat) (hp : p ≤ l.length) (ok : Bool) (hok : ok = true) : rgE (chk (l.length : Int) (pack l)) [decide (0 ≤ (p : Int)), decide ((p : Int) ≤ (l.length : Int)), ok] = 0 := by
  rw [rcE_eq]; unfold rcE; rw [chk_pack l hl, if_neg (by omega), if_neg (by simp [hok]; omega)]
theorem rzeta_l (l : List Bool) (hl : l.length ≤ 8192) (k : Nat) (hk : 1 ≤ k) (hk2 : k ≤ 16) (A : Option Addr) (c p : Nat) (hp : p ≤ l.length) (w : World) (h : Rd w w.heap.size A (pack l)) :
    Calls Tryz.prog 230 #[.agg #[.int .i64 (l.length : Int), .slice A (pack l).length c], .int .i64 (p : Int), .int .i64 (k : Int)] w (ReadP w (zetR l p k).1 (zetR l p k).2.1 (zetR l p k).2.2) := by
  have he := rcE_ok l hl p hp (okK (k : Int)) (by unfold okK; simp; omega)
  have hc := ck_hid (l.length : Int) A c (pack l) (pack_lt l)
  have ho : Hid (∀ V, Calls Tryz.prog 63 #[.int .i64 (k : Int)] V fun e w' => e = .returned (.bool (okK (k : Int))) ∧ V = w') := fun V => isK_any (k : Int) V
  have hu : Hid (∀ V, Rd V V.heap.size A (pack l) → Calls Tryz.prog 228 #[.agg #[.int .i64 (l.length : Int), .slice A (pack l).length c], .int .i64 (p : Int)] V (ReadP V (uR l p).1 (uR l p).2.1 (uR l p).2.2)) := fun V hV => readU_l l hl A c p hp V hV
  have hb := uR_bound l p hp
  unfold zetR
  generalize uR l p = u at *
  obtain ⟨q, fr, eu⟩ := u
  simp only at hb hu ⊢
  have hqk : q * k ≤ 8192 * 16 := Nat.mul_le_mul (by omega) hk2
  by_cases h0 : eu = 0
  · subst h0
    rw [if_neg (by simp)]
    by_cases h1 : 40 < q * k
    · rw [if_pos h1]
      exact rzeta_q _ A c _ (pack l) _ w h _ _ he k q fr _ hk2 (by omega) rfl (by omega) h1 hc ho hu
    · rw [if_neg h1]
      have zp := zq_pos q k hk
      have zl := zq_le q k (by omega) hk2
      have hq40 : q ≤ 40 := Nat.le_trans (Nat.le_mul_of_pos_right q (by omega)) (Nat.not_lt.1 h1)
      have hp1 := Nat.pow_le_pow_right (n := 2) (by omega) (show q * k ≤ 40 by omega)
      have hp2 := Nat.two_pow_pos (q * k)
      have hp3 := Nat.pow_le_pow_right (n := 2) (by omega) (show q * k ≤ q * k + k by omega)
      have hst : Hid (∀ V, Calls Tryz.prog 225 #[.int .i64 ((q * k : Nat) : Int), .int .i64 (k : Int)] V fun e w' => e = .returned (.tuple #[.int .u64 ((2 ^ (q * k) : Nat) : Int), .int .u64 ((zq q k : Nat) : Int)]) ∧ Below V.heap.size V w') := fun V => stretch_any _ k _ _ (by omega) hk2 rfl (by unfold zq; omega) V
      have hg : Hid (∀ V, Rd V V.heap.size A (pack l) → Calls Tryz.prog 252 #[.agg #[.int .i64 (l.length : Int), .slice A (pack l).length c], .int .i64 (fr : Int), .int .u64 ((zq q k : Nat) : Int)] V (ReadP V (lstR l fr (zq q k)).1 (lstR l fr (zq q k)).2.1 (lstR l fr (zq q k)).2.2)) := fun V hV => getLeast_l l hl (zq q k) zp zl A c fr (by omega) V hV
      have hlb := lstR_bound l fr (zq q k) zp (by omega)
      unfold remR
      simp only
      generalize lstR l fr (zq q k) = v at *
      obtain ⟨r, to, er⟩ := v
      simp only at hlb hg ⊢
      generalize 2 ^ (q * k) = f at *
      by_cases h2 : er = 0
      · subst h2
        rw [if_neg (by simp)]
        by_cases h3 : 1099511627776 < f + r - 1
        · rw [if_pos h3]
          exact rzeta_o _ A c _ (pack l) _ w h _ _ he k q fr _ f (zq q k) r hk2 hq40 (by omega) rfl (by omega) (by omega) (by omega) (by omega) to h3 hc ho hu hst hg
        · rw [if_neg h3]
          exact rzeta_k _ A c _ (pack l) _ w h _ _ he k q fr _ f (zq q k) r hk2 hq40 (by omega) rfl (by omega) (by omega) (by omega) (by omega) to _ (by omega) (Nat.not_lt.1 h3) hc ho hu hst hg
      · rw [if_pos h2]
        exact rzeta_s _ A c _ (pack l) _ w h _ _ he k q fr _ f (zq q k) r hk2 hq40 (by omega) rfl (by omega) (by omega) (by omega) (by omega) to er h2 hc ho hu hst hg
  · rw [if_pos h0]
    exact rzeta_u _ A c _ (pack l) _ w h _ _ he (k : Int) q fr (by omega) eu h0 (by omega) hc ho hu
end
section
set_option maxRecDepth 100000
set_option linter.unusedVariables false
open Go.RowKit Go.Shelf
def rdG (L : List Bool) (k a : Nat) : Nat → List Nat → Nat → List Nat × Nat × Int
  | 0, l, s => (l, s, 0)
  | m + 1, l, s => if (zetR L s k).2.2 ≠ 0 then ([], 0, (zetR L s k).2.2) else if elE l (zetR L s k).1 a ≠ 0 then ([], 0, 3) else rdG L k a m (l ++ [(el l (zetR L s k).1 a).toNat]) (zetR L s k).2.1
theorem rdG_succ (L : List Bool) (k a m : Nat) (l : List Nat) (s : Nat) : rdG L k a (m + 1) l s = if (zetR L s k).2.2 ≠ 0 then ([], 0, (zetR L s k).2.2) else if elE l (zetR L s k).1 a ≠ 0 then ([], 0, 3) else rdG L k a m (l ++ [(el l (zetR L s k).1 a).toNat]) (zetR L s k).2.1 := rfl
theorem zetR_bd (l : List Bool) (s k : Nat) (hs : s ≤ l.length) (hk : 1 ≤ k) : (zetR l s k).1 ≤ 1099511627776 ∧ (zetR l s k).2.1 ≤ l.length ∧ ((zetR l s k).2.2 = 0 ∨ (zetR l s k).2.2 = 3 ∨ (zetR l s k).2.2 = 7) := by
  obtain ⟨b1, b2, b3⟩ := uR_bound l s hs
  unfold zetR
  split
  · simp only; omega
  · split
    · simp
    · obtain ⟨c1, c2, c3⟩ := lstR_bound l (uR l s).2.1 (zq (uR l s).1 k) (zq_pos _ _ hk) b2
      unfold remR
      simp only
      split
      · simp only; omega
      · split
        · simp
        · rename_i h1 h2
          simp only at h2 ⊢
          exact ⟨by omega, c1, .inl trivial⟩
theorem rdG_gaps (k a : Nat) (hk : 1 ≤ k) (t : List Bool) : ∀ (gs : List Nat) (p : List Bool) (m l : List Nat), (∀ g ∈ gs, g ≤ 2097152) → bk a m gs = some l →
    rdG (p ++ (zets k gs ++ t)) k a gs.length m p.length = (l, p.length + (zets k gs).length, 0)
  | [], p, m, l, _, h => by unfold bk at h; cases h; simp [rdG, zets]
  | g :: gs, p, m, l, hg, h => by
    have e := zetR_zet p (zets k gs ++ t) g k hk (by have := hg g (by simp); omega)
    rw [← List.append_assoc (zet g k), ← zets_cons] at e
    unfold bk at h
    split at h
    · rename_i he
      rw [List.length_cons]
      unfold rdG
      rw [e]
      simp only
      rw [if_neg (by simp), if_neg (by simpa using he)]
      have ih := rdG_gaps k a hk t gs (p ++ zet g k) _ l (fun x hx => hg x (by simp [hx])) h
      rw [List.length_append, List.append_assoc, ← List.append_assoc (zet g k), ← zets_cons] at ih
      rw [ih, zets_cons, List.length_append]
      congr 2
      omega
    · cases h
theorem range6 (e : Int) (a b c d f g : Bool) (r : Int) (hr : rgE e [a, b, c, d, f, g] = r) (w : World) (B : Nat) (hB : w.heap.size = B) :
    Calls Tryz.prog 48 #[.int .i64 e, .slice (some ⟨B, 0, none⟩) 6 6] (w.alloc (.cells #[.bool a, .bool b, .bool c, .bool d, .bool f, .bool g] 4)) fun x w' => x = .returned (.int .i64 r) ∧ Below w.heap.size w w' :=
  hB ▸ range_on e [a, b, c, d, f, g] 6 rfl (by decide) r hr w
def rdE (len : Int) (bs : List Nat) (p a k m : Int) : Int := rgE (chk len bs) [decide (0 ≤ p), decide (p ≤ len), okN a, okK k, decide (0 ≤ m), decide (m ≤ 300)]
def RdP (w : World) (l : List Nat) (to : Nat) (err : Int) (e : Ending) (w' : World) : Prop :=
  ∃ A c, e = .returned (.tuple #[.slice A l.length c, .int .i64 (to : Int), .int .i64 err]) ∧ l.length ≤ c ∧ (A = none → c = 0) ∧ RdV w' w'.heap.size A (zc (ns l)) ∧ Below w.heap.size w w'
set_option maxHeartbeats 1000000 in
theorem gread_bad (len : Int) (A : Option Addr) (c N : Nat) (bs : List Nat) (p a k m : Int) (w : World) (hA : Rd w w.heap.size A bs) (e0 : Int) (he : rdE len bs p a k m = e0) (h0 : e0 ≠ 0)
    (HC : Hid (∀ V, Rd V V.heap.size A bs → Calls Tryz.prog 53 #[.agg #[.int .i64 len, .slice A N c]] V fun e w' => e = .returned (.int .i64 (chk len bs)) ∧ Below V.heap.size V w')) :
    Calls Tryz.prog 188 #[.agg #[.int .i64 len, .slice A N c], .int .i64 p, .int .i64 a, .int .i64 k, .int .i64 m] w (RdP w [] 0 e0) := by
  have HA := Lib.hid hA; clear hA
  have HN := Lib.hid (node_any a)
  have HO := Lib.hid (isK_any k)
  unfold rdE at he
  generalize chk len bs = ec at *
  generalize okN a = on at *
  generalize okK k = ok at *
  have HR := Lib.hid (range6 ec (decide (0 ≤ p)) (decide (p ≤ len)) on ok (decide (0 ≤ m)) (decide (m ≤ 300)) e0 he)
  clear he
  go_enter Tryz.func188, Tryz.ntmps188
  go_wp2_with fail
  generalize hV : w.alloc (.cells #[.int .i64 len, .slice A N c] 27) = V0
  have HV : Hid (Below w.heap.size w V0) := hV ▸ one_below _ _
  have HVs : Hid (w.heap.size + 1 = V0.heap.size) := by show _ = _; rw [← hV, World.size_alloc]
  have HK : Hid (∀ w' : World, Below V0.heap.size V0 w' → w'.cell? ⟨w.heap.size, 0, none⟩ = some (.int .i64 len) ∧ w'.cell? ⟨w.heap.size, 1, none⟩ = some (.slice A N c)) := by
    subst hV
    exact fun w' h => box_at (by rwa [World.size_alloc] at h)
  clear hV
  go_region_held3 (fun w' => w'.cell? ⟨w.heap.size, 0, none⟩ = some (.int .i64 len) ∧ w'.cell? ⟨w.heap.size, 1, none⟩ = some (.slice A N c))
    ((refine HK.out _ ?_; first | exact hk2.out | exact hk1.out.trans ((one_below _ _).mono hk1.out.size) | exact hk1.out | exact (Below.refl _ _).drew))
    (first
      | (go_at_call 48; have hx := hk1.out; refine (HR.out w1 _ rfl).mono ?_; rintro e w2 ⟨rfl, B2⟩; have hk2 : Hid (Below V0.heap.size V0 w2) := hx.trans (B2.mono hx.size); clear B2 hx)
      | (go_at_call 49; have hx := hk1.out; refine (HN.out w1).mono ?_; rintro e _ ⟨rfl, rfl⟩; clear hx)
      | (go_at_call 63; have hx := hk1.out; refine (HO.out w1).mono ?_; rintro e _ ⟨rfl, rfl⟩; clear hx)
      | (go_at_call 53; refine (HC.out V0.drew (HA.out.on HV.out.drew)).mono ?_; rintro e w1 ⟨rfl, B1⟩; have hk1 : Hid (Below V0.heap.size V0 w1) := ((Below.refl _ V0).drew).trans B1; clear B1))
  obtain ⟨p1, q1⟩ := HK.out w2 hk2.out
  have HB2 : Hid (Below w.heap.size w w2) := HV.out.trans (hk2.out.mono HV.out.size)
  have t0 : (e0 != 0) = true := by simpa using h0
  clear h0 HK hk1 hk2 p1 q1
  go_wp2
  go_ret3
  exact ⟨none, 0, rfl, Nat.le_refl _, fun _ => rfl, .inl rfl, HB2.out⟩
def RdRel (L : List Bool) (k a many p0 : Nat) (V0 : World) (fr v p : Value) (wr : World) : Prop :=
  ∃ (i : Nat) (l : List Nat) (s : Nat), i ≤ many ∧ p = .int .i64 (i : Int) ∧ fr = .int .i64 (s : Int) ∧ s ≤ L.length ∧ l.length = i ∧ (∀ x ∈ l, x ≤ 1048576) ∧ rdG L k a many [] p0 = rdG L k a (many - i) l s ∧
    wr.ownsRow V0.heap.size 3 1 v i (zc (ns l)) ∧ Below V0.heap.size V0 wr
def RdO (w : World) (l : List Nat) (to : Nat) (err : Int) (e : Ending) (w' : World) : Prop :=
  ∃ A c, e = .returned (.tuple #[.slice A l.length c, .int .i64 (to : Int), .int .i64 err]) ∧ w'.ownsRow w.heap.size 3 1 (.slice A l.length c) l.length (zc (ns l)) ∧ Below w.heap.size w w'
set_option maxHeartbeats 4000000 in
theorem gread_own (L : List Bool) (hL : L.length ≤ 8192) (p0 : Nat) (hp : p0 ≤ L.length) (a : Nat) (ha : a ≤ 1048576) (k : Nat) (hk : 1 ≤ k) (hk2 : k ≤ 16) (many : Nat) (hm : many ≤ 300) (R : List Nat) (to : Nat) (e0 : Int)
    (hR : rdG L k a many [] p0 = (R, to, e0)) (A : Option Addr) (c : Nat) (w : World) (hA : Rd w w.heap.size A (pack L)) :
    Calls Tryz.prog 188 #[.agg #[.int .i64 (L.length : Int), .slice A (pack L).length c], .int .i64 (p0 : Int), .int .i64 (a : Int), .int .i64 (k : Int), .int .i64 (many : Int)] w (RdO w R to e0) := by
  have HC : Hid (∀ V, Rd V V.heap.size A (pack L) → Calls Tryz.prog 53 #[.agg #[.int .i64 (L.length : Int), .slice A (pack L).length c]] V fun e w' => e = .returned (.int .i64 0) ∧ Below V.heap.size V w') := fun V hV => check_l L hL A c V hV
  have HZ : Hid (∀ s V, s ≤ L.length → Rd V V.heap.size A (pack L) → Calls Tryz.prog 230 #[.agg #[.int .i64 (L.length : Int), .slice A (pack L).length c], .int .i64 (s : Int), .int .i64 (k : Int)] V (ReadP V (zetR L s k).1 (zetR L s k).2.1 (zetR L s k).2.2)) := fun s V hs hV => rzeta_l L hL k hk hk2 A c s hs V hV
  have hn0 := node_any (a : Int)
  rw [okN_nat a ha] at hn0
  have HN := Lib.hid hn0; clear hn0
  have hk0 := isK_any (k : Int)
  rw [okK_nat k hk hk2] at hk0
  have HO := Lib.hid hk0; clear hk0
  have HR := Lib.hid (range6 0 true true true true true true 0 rfl)
  obtain ⟨i0, hi, hz0, hz1, hz2⟩ := info_parts info3
  have HA := Lib.hid hA; clear hA
  have HRes := Lib.hid hR; clear hR
  have HP0 := Lib.hid hp; clear hp
  generalize hll : L.length = len at *
  generalize hpl : (pack L).length = NB at *
  have HLL := Lib.hid hll; clear hll hpl
  have t1 : decide ((p0 : Int) ≤ (len : Int)) = true := by have := HP0.out; have := HLL.out; simp; omega
  have t2 : decide (p0 ≤ len) = true := by have := HP0.out; have := HLL.out; simp; omega
  have t3 : decide ((many : Int) ≤ 300) = true := by simp; omega
  have t4 : decide (many ≤ 300) = true := by simp; omega
  go_enter Tryz.func188, Tryz.ntmps188
  go_wp2_with fail
  generalize hV : w.alloc (.cells #[.int .i64 (len : Int), .slice A NB c] 27) = V0
  have HV : Hid (Below w.heap.size w V0) := hV ▸ one_below _ _
  have HVs : Hid (w.heap.size + 1 = V0.heap.size) := by show _ = _; rw [← hV, World.size_alloc]
  have HK : Hid (∀ w' : World, Below V0.heap.size V0 w' → w'.cell? ⟨w.heap.size, 0, none⟩ = some (.int .i64 (len : Int)) ∧ w'.cell? ⟨w.heap.size, 1, none⟩ = some (.slice A NB c)) := by
    subst hV
    exact fun w' h => box_at (by rwa [World.size_alloc] at h)
  clear hV
  go_region_held3 (fun w' => w'.cell? ⟨w.heap.size, 0, none⟩ = some (.int .i64 (len : Int)) ∧ w'.cell? ⟨w.heap.size, 1, none⟩ = some (.slice A NB c))
    ((refine HK.out _ ?_; first | exact hk2.out | exact hk1.out.trans ((one_below _ _).mono hk1.out.size) | exact hk1.out | exact (Below.refl _ _).drew))
    (first
      | (go_at_call 48; have hx := hk1.out; refine (HR.out w1 _ rfl).mono ?_; rintro e w2 ⟨rfl, B2⟩; have hk2 : Hid (Below V0.heap.size V0 w2) := hx.trans (B2.mono hx.size); clear B2 hx)
      | (go_at_call 49; have hx := hk1.out; refine (HN.out w1).mono ?_; rintro e _ ⟨rfl, rfl⟩; clear hx)
      | (go_at_call 63; have hx := hk1.out; refine (HO.out w1).mono ?_; rintro e _ ⟨rfl, rfl⟩; clear hx)
      | (go_at_call 53; refine (HC.out V0.drew (HA.out.on HV.out.drew)).mono ?_; rintro e w1 ⟨rfl, B1⟩; have hk1 : Hid (Below V0.heap.size V0 w1) := ((Below.refl _ V0).drew).trans B1; clear B1))
  have HB2 := Lib.hid hk2.out
  clear hk1 hk2 t1 t2 t3 t4
  go_wp2
  go_loopw [1, 14, 41] (fun fr v p wr => RdRel L k a many p0 V0 fr v p wr) (fun _ _ p _ => many - (intOf p).toNat)
  case atStart => exact ⟨0, [], p0, Nat.zero_le _, rfl, rfl, by rw [HLL.out]; exact HP0.out, rfl, by simp, rfl, ⟨rfl, .inl ⟨rfl, rfl⟩⟩, HB2.out⟩
  case round =>
    obtain ⟨i, l, s, him, rfl, rfl, hs, hli, hle, hrd, hrow, hbel⟩ := hrel
    rw [HLL.out] at hs
    by_cases hlt : i < many
    · obtain ⟨p1, q1⟩ := HK.out wr hbel
      have hZ := HZ.out s wr hs (HA.out.on (HV.out.trans (hbel.mono HV.out.size)))
      obtain ⟨b1, b2, b3⟩ := zetR_bd L s k (by rw [HLL.out]; exact hs) hk
      rw [HLL.out] at b2
      obtain ⟨j, hj⟩ : ∃ j, many - i = j + 1 := ⟨many - i - 1, by omega⟩
      rw [hj, rdG_succ] at hrd
      have hj2 : many - (i + 1) = j := by omega
      have HB := Lib.hid hbel; clear hbel
      generalize (zetR L s k).1 = g at *
      generalize (zetR L s k).2.1 = s2 at *
      generalize (zetR L s k).2.2 = ez at *
      obtain ⟨Av, cv, rfl⟩ := own_slice3 hrow
      have HRow := Lib.hid hrow
      by_cases hz : ez = 0
      · subst hz
        rw [if_neg (by omega)] at hrd
        have hE := fun V hV => elem_any l i hli (by omega) hle g (by omega) a ha Av cv V hV
        unfold elV at hE
        by_cases h0 : elE l g a = 0
        · rw [if_neg (by omega)] at hrd
          rw [h0, if_pos rfl] at hE
          have hel : ∃ x : Nat, el l g a = (x : Int) ∧ x ≤ 1048576 := by
            unfold elE at h0
            split at h0
            · omega
            · exact ⟨(el l g a).toNat, by omega, by omega⟩
          obtain ⟨x, hx, hx2⟩ := hel
          rw [hx] at hE
          rw [hx, Int.toNat_natCast] at hrd
          have HE := Lib.hid hE; have HRd := Lib.hid hrd; have HZ2 := Lib.hid hZ
          have HLe := Lib.hid hle; have HLi := Lib.hid hli; have HJ2 := Lib.hid hj2
          clear hE hrd hZ hle hli hx h0 hj hj2 b3 hrow
          go_wp2_with fail
          refine HZ2.out.mono ?_
          rintro e w3 ⟨rfl, B3⟩
          have HB3 : Hid (Below V0.heap.size V0 w3) := HB.out.trans (B3.mono HB.out.size)
          have HRow3 := Lib.hid (own_below HRow.out B3)
          have hz3 : V0.heap.size ≤ w3.heap.size := Nat.le_trans HB.out.size B3.size
          clear B3 p1 q1
          have hrow := HRow3.out
          go_wp2_with fail
          refine (HE.out _ (own_rdv HRow3.out)).mono ?_
          rintro e _ ⟨rfl, rfl⟩
          go_wp2_with (at_builtin; refine wpList_append_own _ rfl _ _ 22 rfl V0.heap.size 3 i0 (.int .i64 0) 1 8 Tryz.underlying22 hi hz0 hz1 hz2 rfl (by decide) _ _ _ rfl (hrow.alloc _) ⟨w3.heap.size, 0, none⟩ 1 1 [.int .i64 (x : Int)] rfl rfl (news_row w3 [.int .i64 (x : Int)] _) (by simp [Value.oneCell']) (by unfold maxLen; omega) (by omega) (by simp; omega) ?_; intro v' w4 hown' hgrow _)
          have hzz : zc (ns l) ++ [Value.int .i64 (x : Int)] = zc (ns (l ++ [x])) := by rw [ns_append, zc_append]; rfl
          rw [hzz] at hown'
          have HO4 := Lib.hid hown'
          have HB4 : Hid (Below V0.heap.size V0 w4) := HB3.out.trans (((Below.refl V0.heap.size w3).alloc hz3 _).trans (grown_low hgrow (hrow.alloc _) (by simp; omega)))
          clear hown' hgrow hrow hzz
          go_roundw
          case rel => exact ⟨i + 1, l ++ [x], s2, by omega, by go_num, rfl, by rw [HLL.out]; exact b2, by rw [List.length_append, HLi.out]; rfl, fun y hy => by
            rcases List.mem_append.1 hy with h | h
            · exact HLe.out y h
            · obtain rfl : y = x := by simpa using h
              exact hx2, by rw [HJ2.out]; exact HRd.out, HO4.out, HB4.out⟩
          case measure => simp [intOf]; omega
        · have h3 : elE l g a = 3 := by rcases elE_or l g a with h | h <;> omega
          rw [if_pos h0] at hrd
          rw [h3, if_neg (by omega)] at hE
          have HE := Lib.hid hE; have HZ2 := Lib.hid hZ
          have hres := HRes.out.symm.trans hrd
          simp only [Prod.mk.injEq] at hres
          obtain ⟨rfl, rfl, rfl⟩ := hres
          clear hE hrd hZ hle hli h3 h0 hj hj2 b3 hrow HRes
          go_wp2_with fail
          refine HZ2.out.mono ?_
          rintro e w3 ⟨rfl, B3⟩
          have HB3 : Hid (Below V0.heap.size V0 w3) := HB.out.trans (B3.mono HB.out.size)
          have HRow3 := Lib.hid (own_below HRow.out B3)
          clear B3 p1 q1
          go_wp2_with fail
          refine (HE.out _ (own_rdv HRow3.out)).mono ?_
          rintro e _ ⟨rfl, rfl⟩
          go_wp2
          go_ret3
          exact ⟨none, 0, rfl, ⟨rfl, .inl ⟨rfl, rfl⟩⟩, HV.out.trans (HB3.out.mono HV.out.size)⟩
      · rw [if_pos hz] at hrd
        have HZ2 := Lib.hid hZ
        have hres := HRes.out.symm.trans hrd
        simp only [Prod.mk.injEq] at hres
        have t0 : (ez != 0) = true := by simpa using hz
        clear hz
        obtain ⟨rfl, rfl, rfl⟩ := hres
        clear hrd hZ hle hli hj hj2 b3 hrow HRes
        go_wp2_with fail
        refine HZ2.out.mono ?_
        rintro e w3 ⟨rfl, B3⟩
        have HB3 : Hid (Below V0.heap.size V0 w3) := HB.out.trans (B3.mono HB.out.size)
        clear B3 p1 q1
        go_wp2
        go_ret3
        exact ⟨none, 0, rfl, ⟨rfl, .inl ⟨rfl, rfl⟩⟩, HV.out.trans (HB3.out.mono HV.out.size)⟩
    · obtain rfl : i = many := by omega
      rw [Nat.sub_self] at hrd
      have hres := HRes.out.symm.trans hrd
      simp only [rdG, Prod.mk.injEq] at hres
      obtain ⟨rfl, rfl, rfl⟩ := hres
      obtain ⟨Av, cv, rfl⟩ := own_slice3 hrow
      have HO := Lib.hid hrow
      have HB := Lib.hid hbel
      have HLi := Lib.hid hli
      clear hrow hbel hrd hli hle HRes
      go_wp2
      go_ret3
      exact ⟨Av, cv, (by rw [HLi.out]; rfl), by rw [HLi.out]; exact own_base HO.out HV.out.size, HV.out.trans (HB.out.mono HV.out.size)⟩
end
end
section
set_option linter.unusedVariables false
def gams (xs : List Nat) : List Bool := xs.flatMap gam
theorem gams_nil : gams [] = [] := rfl
theorem gams_cons (x : Nat) (t : List Nat) : gams (x :: t) = gam x ++ gams t := by simp [gams]
theorem gams_append (a b : List Nat) : gams (a ++ b) = gams a ++ gams b := by simp [gams]
def bnums : List Nat → List Nat
  | [] => []
  | b :: t => b :: t.map (· - 1)
def rnx (ls : Nat) : Nat → List Rn → List Nat
  | _, [] => []
  | e, p :: t => (p.1 - e) :: (p.2 - ls) :: rnx ls (p.1 + p.2 + 1) t
def rnu (a : Int) (ls : Nat) : List Rn → List Nat
  | [] => []
  | p :: t => fold ((p.1 : Int) - a) :: (p.2 - ls) :: rnx ls (p.1 + p.2 + 1) t
def rsR (ls : Nat) (r : List Nat) : List Rn := if ls = 0 then [] else lng ls (rs r)
def rsS (ls : Nat) (r : List Nat) : List Nat := if ls = 0 then r else flatR (sht ls (rs r))
def runB (a ls : Nat) (r : List Nat) : List Bool := if ls = 0 then [] else gam (rsR ls r).length ++ gams (rnu (a : Int) ls (rsR ls r))
def restB (a ls k : Nat) (r : List Nat) : List Bool := if r = [] then [] else runB a ls r ++ zets k (gps (a : Int) (rsS ls r))
def bksB (bk : Nat) (F l : List Nat) : List Bool := if bk = 0 then [] else gam (bks F l).length ++ gams (bnums (bks F l))
def bksR (bk : Nat) (F l : List Nat) : List Nat := if bk = 0 then l else notin F l
def sbits (a bk ls k : Nat) (l F : List Nat) : List Bool := gam l.length ++ if l = [] then [] else bksB bk F l ++ restB a ls k (bksR bk F l)
def pnum (L : List Bool) (s most : Nat) : Option (Nat × Nat) := if (gamR L s).2.2 = 0 ∧ (gamR L s).1 ≤ most then some ((gamR L s).1, (gamR L s).2.1) else none
def pbl (L : List Bool) : Nat → List Nat → Nat → Option (List Nat × Nat)
  | 0, acc, s => some (acc, s)
  | m + 1, acc, s => match pnum L s 300 with
    | none => none
    | some (x, s') => pbl L m (acc ++ [x + (if acc = [] then 0 else 1)]) s'
def pblocks (L : List Bool) (s : Nat) : Option (List Nat × Nat) := match pnum L s 300 with
  | none => none
  | some (n, s') => pbl L n [] s'
def fro (a : Nat) (g : Nat) (acc : List (Int × Int)) : Int := match acc.getLast? with
  | none => (a : Int) + unfold_ g
  | some p => p.1 + p.2 + 1 + (g : Int)
def prn (L : List Bool) (a ls : Nat) : Nat → List (Int × Int) → Nat → Option (List (Int × Int) × Nat)
  | 0, acc, s => some (acc, s)
  | m + 1, acc, s => match pnum L s 2097152 with
    | none => none
    | some (g, s1) => match pnum L s1 300 with
      | none => none
      | some (x, s2) => prn L a ls m (acc ++ [(fro a g acc, ((ls + x : Nat) : Int))]) s2
def pruns (L : List Bool) (a ls s : Nat) : Option (List (Int × Int) × Nat) := match pnum L s 300 with
  | none => none
  | some (n, s') => prn L a ls n [] s'
def prest (L : List Bool) (a ls k : Nat) (many : Int) (s : Nat) : Option (List Nat × Nat) :=
  if many = 0 then some ([], s) else
  match (if ls = 0 then some ([], s) else pruns L a ls s) with
  | none => none
  | some (r, s1) =>
    if (mgA r []).2 ≠ 0 then none else if many - ((mgA r []).1.length : Int) < 0 then none else
    if (rdG L k a (many - ((mgA r []).1.length : Int)).toNat [] s1).2.2 ≠ 0 then none else
    if (mgA r (ns (rdG L k a (many - ((mgA r []).1.length : Int)).toNat [] s1).1)).2 ≠ 0 then none else
    some ((mgA r (ns (rdG L k a (many - ((mgA r []).1.length : Int)).toNat [] s1).1)).1, (rdG L k a (many - ((mgA r []).1.length : Int)).toNat [] s1).2.1)
def ptold (L : List Bool) (a ls k : Nat) (F : List Nat) (n s : Nat) : Option (List Nat × Nat) :=
  match pblocks L s with
  | none => none
  | some (B, s2) => if bchk (ns B) F.length ≠ 0 then none else
    match prest L a ls k ((n : Int) - ((cp true B F).length : Int)) s2 with
    | none => none
    | some (r, s3) => if (un (cp true B F) r).2 ≠ 0 then none else some ((un (cp true B F) r).1, s3)
def ptake (L : List Bool) (a bk ls k : Nat) (F : List Nat) (s : Nat) : Option (List Nat × Nat) :=
  match pnum L s 300 with
  | none => none
  | some (n, s1) => if n = 0 then some ([], s1) else if bk = 0 then prest L a ls k (n : Int) s1 else ptold L a ls k F n s1
def sread (L : List Bool) (a bk ls k : Nat) (F : List Nat) (s : Nat) : List Nat × Nat × Int :=
  match ptake L a bk ls k F s with
  | none => ([], 0, 1)
  | some (l, s') => if (L.drop s).take (sbits a bk ls k l F).length = sbits a bk ls k l F then (l, s', 0) else ([], 0, 1)
theorem pnum_gam (p t : List Bool) (n most : Nat) (h : n ≤ most) (hn : n ≤ 1099511627776) : pnum (p ++ (gam n ++ t)) p.length most = some (n, p.length + (gam n).length) := by
  unfold pnum
  rw [gamR_gam p t n hn]
  exact if_pos ⟨rfl, h⟩
theorem pbl_gams : ∀ (B acc : List Nat) (p t : List Bool), acc ≠ [] → (∀ b ∈ B, 1 ≤ b ∧ b ≤ 301) →
    pbl (p ++ (gams (B.map (· - 1)) ++ t)) B.length acc p.length = some (acc ++ B, p.length + (gams (B.map (· - 1))).length)
  | [], acc, p, t, _, _ => by simp [pbl, gams]
  | b :: B, acc, p, t, ha, hb => by
    have h1 := hb b (by simp)
    have e := pnum_gam p (gams (B.map (· - 1)) ++ t) (b - 1) 300 (by omega) (by omega)
    rw [List.map_cons, gams_cons, List.append_assoc]
    show pbl _ (B.length + 1) acc _ = _
    unfold pbl
    rw [e]
    simp only
    rw [if_neg ha, show b - 1 + 1 = b by omega]
    have ih := pbl_gams B (acc ++ [b]) (p ++ gam (b - 1)) t (by simp) (fun c hc => hb c (by simp [hc]))
    rw [List.append_assoc, List.length_append] at ih
    rw [ih]
    simp [Nat.add_assoc]
theorem pblocks_gams (B : List Nat) (p t : List Bool) (hl : B.length ≤ 300) (h1 : ∀ b ∈ B, b ≤ 300) (h2 : ∀ b ∈ B.drop 1, 1 ≤ b) :
    pblocks (p ++ (gam B.length ++ (gams (bnums B) ++ t))) p.length = some (B, p.length + (gam B.length).length + (gams (bnums B)).length) := by
  unfold pblocks
  rw [pnum_gam p _ B.length 300 hl (by omega)]
  simp only
  cases B with
  | nil => simp [pbl, bnums, gams]
  | cons b t2 =>
    have hb := h1 b (by simp)
    show pbl _ (t2.length + 1) [] _ = _
    unfold pbl bnums
    rw [gams_cons]
    have e := pnum_gam (p ++ gam (t2.length + 1)) (gams (t2.map (· - 1)) ++ t) b 300 hb (by omega)
    rw [List.append_assoc, List.length_append] at e
    rw [List.append_assoc, List.length_cons, e]
    simp only
    rw [if_pos trivial, show b + 0 = b from rfl, List.nil_append]
    have ih := pbl_gams t2 [b] (p ++ (gam (t2.length + 1) ++ gam b)) t (by simp) (fun c hc => ⟨by simp at h2; exact h2 c hc, by have := h1 c (by simp [hc]); omega⟩)
    rw [List.append_assoc, List.append_assoc, List.length_append, List.length_append] at ih
    rw [← Nat.add_assoc] at ih
    rw [ih]
    simp [Nat.add_assoc]
theorem prn_gams (a ls : Nat) : ∀ (R : List Rn) (e : Nat) (acc : List (Int × Int)) (p t : List Bool), (∀ g, fro a g acc = (e : Int) + (g : Int)) → Sep ((e : Int) - 1) R → (∀ q ∈ R, ls ≤ q.2 ∧ q.2 ≤ 300 ∧ q.1 + q.2 ≤ 1048577) →
    prn (p ++ (gams (rnx ls e R) ++ t)) a ls R.length acc p.length = some (acc ++ rz R, p.length + (gams (rnx ls e R)).length)
  | [], e, acc, p, t, _, _, _ => by simp [prn, rnx, gams, rz]
  | q :: R, e, acc, p, t, hf, hs, hb => by
    obtain ⟨s1, s2, s3⟩ := hs
    obtain ⟨b1, b2, b3⟩ := hb q (by simp)
    unfold rnx
    rw [gams_cons, gams_cons]
    have e1 := pnum_gam p (gam (q.2 - ls) ++ (gams (rnx ls (q.1 + q.2 + 1) R) ++ t)) (q.1 - e) 2097152 (by omega) (by omega)
    have e2 := pnum_gam (p ++ gam (q.1 - e)) (gams (rnx ls (q.1 + q.2 + 1) R) ++ t) (q.2 - ls) 300 (by omega) (by omega)
    rw [List.append_assoc, List.length_append] at e2
    rw [List.append_assoc, List.append_assoc]
    show prn _ a ls (R.length + 1) acc _ = _
    unfold prn
    rw [e1]
    simp only
    rw [e2]
    simp only
    rw [hf, show (e : Int) + ((q.1 - e : Nat) : Int) = (q.1 : Int) by omega, show ls + (q.2 - ls) = q.2 by omega]
    have ih := prn_gams a ls R (q.1 + q.2 + 1) (acc ++ [((q.1 : Int), (q.2 : Int))]) (p ++ (gam (q.1 - e) ++ gam (q.2 - ls))) t (fun g => by simp [fro]) (by
      rwa [show ((q.1 + q.2 + 1 : Nat) : Int) - 1 = ((q.1 + q.2 : Nat) : Int) by omega]) (fun c hc => hb c (by simp [hc]))
    rw [List.append_assoc, List.append_assoc, List.length_append, List.length_append, ← Nat.add_assoc] at ih
    rw [ih]
    simp [rz, Nat.add_assoc]
theorem pruns_gams (a ls : Nat) (ha : a ≤ 1048576) (R : List Rn) (p t : List Bool) (hl : R.length ≤ 300) (hs : Sep (-1) R) (hb : ∀ q ∈ R, ls ≤ q.2 ∧ q.2 ≤ 300 ∧ q.1 + q.2 ≤ 1048577) :
    pruns (p ++ (gam R.length ++ (gams (rnu (a : Int) ls R) ++ t))) a ls p.length = some (rz R, p.length + (gam R.length).length + (gams (rnu (a : Int) ls R)).length) := by
  unfold pruns
  rw [pnum_gam p _ R.length 300 hl (by omega)]
  simp only
  cases R with
  | nil => simp [prn, rnu, gams, rz]
  | cons q R =>
    obtain ⟨s1, s2, s3⟩ := hs
    obtain ⟨b1, b2, b3⟩ := hb q (by simp)
    have hfo : fold ((q.1 : Int) - (a : Int)) ≤ 2097152 := by unfold fold; split <;> omega
    show prn _ a ls (R.length + 1) [] _ = _
    unfold rnu
    rw [gams_cons, gams_cons]
    have e1 := pnum_gam (p ++ gam (R.length + 1)) (gam (q.2 - ls) ++ (gams (rnx ls (q.1 + q.2 + 1) R) ++ t)) (fold ((q.1 : Int) - (a : Int))) 2097152 hfo (by omega)
    have e2 := pnum_gam (p ++ (gam (R.length + 1) ++ gam (fold ((q.1 : Int) - (a : Int))))) (gams (rnx ls (q.1 + q.2 + 1) R) ++ t) (q.2 - ls) 300 (by omega) (by omega)
    rw [List.append_assoc, List.length_append] at e1
    rw [List.append_assoc, List.append_assoc, List.length_append, List.length_append, ← Nat.add_assoc] at e2
    rw [List.append_assoc, List.append_assoc, List.length_cons]
    unfold prn
    rw [e1]
    simp only
    rw [e2]
    simp only
    rw [show fro a (fold ((q.1 : Int) - (a : Int))) [] = (q.1 : Int) from (by
      show (a : Int) + unfold_ _ = _
      rw [unfold_fold]; omega), show ls + (q.2 - ls) = q.2 by omega]
    have ih := prn_gams a ls R (q.1 + q.2 + 1) ([] ++ [((q.1 : Int), (q.2 : Int))]) (p ++ (gam (R.length + 1) ++ (gam (fold ((q.1 : Int) - (a : Int))) ++ gam (q.2 - ls)))) t (fun g => by simp [fro]) (by
      rwa [show ((q.1 + q.2 + 1 : Nat) : Int) - 1 = ((q.1 + q.2 : Nat) : Int) by omega]) (fun c hc => hb c (by simp [hc]))
    rw [List.append_assoc, List.append_assoc, List.append_assoc, List.length_append, List.length_append, List.length_append, ← Nat.add_assoc, ← Nat.add_assoc] at ih
    rw [ih]
    simp [rz, Nat.add_assoc]
theorem rsR_ok (ls : Nat) (r : List Nat) (h : Rising r) : OkR (rsR ls r) := by
  unfold rsR
  split
  · exact ⟨by simp, trivial, by simp⟩
  · exact okR_filter _ _ (rs_okR r h)
theorem rsR_ge (ls : Nat) (r : List Nat) : ∀ q ∈ rsR ls r, ls ≤ q.2 := by
  unfold rsR
  split
  · simp
  · intro q hq; have := (List.mem_filter.1 hq).2; simpa using this
theorem rsS_rising (ls : Nat) (r : List Nat) (h : Rising r) : Rising (rsS ls r) := by
  unfold rsS
  split
  · exact h
  · exact sht_rising ls r h
theorem rs_merge (ls : Nat) (r : List Nat) (h : Rising r) : mg (rsR ls r) (rsS ls r) = (r, 0) := by
  unfold rsR rsS
  split
  · exact mg_of (R := []) (by simp [flatR]) h
  · exact mg_split ls r h
theorem rsR_flat (ls : Nat) (r : List Nat) (h : Rising r) : mg (rsR ls r) [] = (flatR (rsR ls r), 0) ∧ (flatR (rsR ls r)).length + (rsS ls r).length = r.length := by
  have hm := (mg_zero (rsR_ok ls r h) (rsS_rising ls r h) (rs_merge ls r h)).2
  have hl : (flatR (rsR ls r)).length + (rsS ls r).length = r.length := by have := hm.length_eq; rwa [List.length_append] at this
  have hr : Rising (flatR (rsR ls r)) := flatR_sep_rising _ (rsR_ok ls r h) (by have := h.1; omega)
  exact ⟨mg_of (by rw [List.append_nil]) hr, hl⟩
theorem prest_bits (a ls k : Nat) (ha : a ≤ 1048576) (hk : 1 ≤ k) (r : List Nat) (h : Rising r) (p t : List Bool) :
    prest (p ++ (restB a ls k r ++ t)) a ls k (r.length : Int) p.length = some (r, p.length + (restB a ls k r).length) := by
  unfold prest restB
  by_cases h0 : r = []
  · subst h0; simp
  · rw [if_neg h0, if_neg (by have : r.length ≠ 0 := fun e => h0 (List.eq_nil_of_length_eq_zero e); omega)]
    obtain ⟨f1, f2⟩ := rsR_flat ls r h
    have hR := rsR_ok ls r h
    have hS := rsS_rising ls r h
    have e1 : (if ls = 0 then some ([], p.length) else pruns (p ++ (runB a ls r ++ zets k (gps (a : Int) (rsS ls r)) ++ t)) a ls p.length) = some (rz (rsR ls r), p.length + (runB a ls r).length) := by
      by_cases hz : ls = 0
      · rw [if_pos hz]; simp [rsR, runB, hz, rz]
      · rw [if_neg hz]
        have := pruns_gams a ls ha (rsR ls r) p (zets k (gps (a : Int) (rsS ls r)) ++ t) hR.1 hR.2.1 (fun q hq => ⟨rsR_ge ls r q hq, hR.2.2 q hq⟩)
        unfold runB
        rw [if_neg hz]
        simp only [List.append_assoc] at this ⊢
        rw [this, List.length_append, Nat.add_assoc]
    rw [e1]
    simp only
    rw [show ([] : List Int) = ns [] from rfl, mgA_ok _ hR [] ⟨by simp, trivial⟩, f1]
    simp only
    have e2 := rdG_gaps k a hk t (gps (a : Int) (rsS ls r)) (p ++ runB a ls r) [] (rsS ls r) (gps_le a ha _ hS) (bk_gps a ha _ hS)
    rw [gps_length, List.length_append, List.append_assoc] at e2
    rw [if_neg (by simp), if_neg (by omega), show ((r.length : Int) - ((flatR (rsR ls r)).length : Int)).toNat = (rsS ls r).length by omega, List.append_assoc, e2]
    simp only
    rw [mgA_ok _ hR _ hS, rs_merge ls r h]
    simp [Nat.add_assoc]
theorem le_sum : ∀ (B : List Nat) (b : Nat), b ∈ B → b ≤ B.sum
  | [], b, h => by simp at h
  | c :: t, b, h => by
    rw [List.sum_cons]
    rcases List.mem_cons.1 h with rfl | h
    · omega
    · have := le_sum t b h; omega
theorem bks_le (F l : List Nat) (h : F.length ≤ 300) : (bks F l).length ≤ 300 ∧ ∀ b ∈ bks F l, b ≤ 300 := by
  have h1 := bks_len F l
  have h2 := (bks_ok F l).2.2
  refine ⟨by omega, fun b hb => ?_⟩
  have := le_sum _ b hb
  omega
theorem ptake_bits (a bk ls k : Nat) (ha : a ≤ 1048576) (hk : 1 ≤ k) (l F : List Nat) (h : Rising l) (hF : bk ≠ 0 → Rising F) (p t : List Bool) :
    ptake (p ++ (sbits a bk ls k l F ++ t)) a bk ls k F p.length = some (l, p.length + (sbits a bk ls k l F).length) := by
  unfold ptake sbits
  rw [List.append_assoc, pnum_gam p _ l.length 300 h.1 (by have := h.1; omega)]
  simp only
  by_cases h0 : l = []
  · subst h0; simp
  · have hl : l.length ≠ 0 := fun e => h0 (List.eq_nil_of_length_eq_zero e)
    rw [if_neg hl, if_neg h0]
    by_cases hb : bk = 0
    · rw [if_pos hb]
      simp only [bksB, bksR, if_pos hb, List.nil_append]
      have := prest_bits a ls k ha hk l h (p ++ gam l.length) t
      rw [List.append_assoc, List.length_append] at this
      rw [this]
      simp [Nat.add_assoc]
    · rw [if_neg hb]
      simp only [bksB, bksR, if_neg hb]
      have hF := hF hb
      obtain ⟨q1, q2⟩ := bks_le F l hF.1
      unfold ptold
      have e1 := pblocks_gams (bks F l) (p ++ gam l.length) (restB a ls k (notin F l) ++ t) q1 q2 (bks_ok F l).2.1
      have e2 := prest_bits a ls k ha hk (notin F l) (notin_rising F l h) (p ++ (gam l.length ++ (gam (bks F l).length ++ gams (bnums (bks F l))))) t
      simp only [List.append_assoc, List.length_append] at e1 e2 ⊢
      rw [e1]
      simp only
      rw [if_neg (by rw [bchk_ok _ _ (bks_ok F l)]; simp), cp_bks]
      have hlen := both_len F l hF h
      rw [show (l.length : Int) - ((both F l).length : Int) = ((notin F l).length : Int) by omega]
      simp only [Nat.add_assoc] at e2 ⊢
      rw [e2]
      simp only
      rw [un_back F l hF h]
      simp
theorem sread_bits (a bk ls k : Nat) (ha : a ≤ 1048576) (hk : 1 ≤ k) (l F : List Nat) (h : Rising l) (hF : bk ≠ 0 → Rising F) (p t : List Bool) :
    sread (p ++ (sbits a bk ls k l F ++ t)) a bk ls k F p.length = (l, p.length + (sbits a bk ls k l F).length, 0) := by
  unfold sread
  rw [ptake_bits a bk ls k ha hk l F h hF p t]
  simp only
  rw [if_pos (by rw [List.drop_append_of_le_length (Nat.le_refl _), List.drop_length, List.nil_append, List.take_append_of_le_length (Nat.le_refl _), List.take_length])]
theorem mgA_rising (r : List (Int × Int)) (xs : List Int) (h : (mgA r xs).2 = 0) : Rising (mgA r xs).1 := by
  unfold mgA at h ⊢
  by_cases h0 : mgE0 r xs = 0
  · rw [if_neg (by simpa using h0)] at h ⊢
    obtain ⟨R, l, rfl, hR, rfl, hl⟩ := mgA_zero r xs h0
    rw [rn_rz, show (ns l).map Int.toNat = l from ns_nat l] at h ⊢
    exact (mg_zero hR hl (Prod.ext rfl h)).1
  · rw [if_pos (by simpa using h0)]; exact ⟨by simp, trivial⟩
theorem un_rising (a b : List Nat) (ha : Rising a) (hb : Rising b) (h : (un a b).2 = 0) : Rising (un a b).1 := by
  rcases un_or a b with e | e | ⟨e, hl⟩
  · rw [e]; exact ⟨by simp, trivial⟩
  · rw [e]; exact ⟨by simp, trivial⟩
  · rw [e]
    refine ⟨hl, (ris_pairwise _ _).2 ⟨fun x hx => ?_, ?_⟩⟩
    · rcases List.mem_append.1 ((nso_perm (a ++ b)).subset hx) with h | h
      · exact ris_le a _ ha.2 x h
      · exact ris_le b _ hb.2 x h
    · have ht : tw (nso (a ++ b)) = false := by
        cases hh : tw (nso (a ++ b)) with
        | false => rfl
        | true => unfold un at e; rw [if_pos hh] at e; simp at e
      exact (tw_false _ (nso_sorted _)).1 ht
theorem prest_rising (L : List Bool) (a ls k : Nat) (many : Int) (s : Nat) (l : List Nat) (s' : Nat) (h : prest L a ls k many s = some (l, s')) : Rising l := by
  unfold prest at h
  split at h
  · cases h; exact ⟨by simp, trivial⟩
  · split at h
    · cases h
    · split at h
      · cases h
      · split at h
        · cases h
        · split at h
          · cases h
          · split at h
            · cases h
            · rename_i hh
              cases h
              exact mgA_rising _ _ (by simpa using hh)
theorem ptake_rising (L : List Bool) (a bk ls k : Nat) (F : List Nat) (hF : bk ≠ 0 → Rising F) (s : Nat) (l : List Nat) (s' : Nat) (h : ptake L a bk ls k F s = some (l, s')) : Rising l := by
  unfold ptake at h
  split at h
  · cases h
  · split at h
    · cases h; exact ⟨by simp, trivial⟩
    · split at h
      · exact prest_rising _ _ _ _ _ _ _ _ h
      · rename_i hb
        unfold ptold at h
        split at h
        · cases h
        · split at h
          · cases h
          · split at h
            · cases h
            · rename_i hp
              split at h
              · cases h
              · rename_i hu
                cases h
                exact un_rising _ _ (cp_rising _ _ (hF hb)) (prest_rising _ _ _ _ _ _ _ _ hp) (by simpa using hu)
theorem sread_only (L : List Bool) (a bk ls k : Nat) (ha : a ≤ 1048576) (hk : 1 ≤ k) (F : List Nat) (hF : bk ≠ 0 → Rising F) (s : Nat) (hs : s ≤ L.length) (l : List Nat) (s' : Nat) (h : sread L a bk ls k F s = (l, s', 0)) :
    Rising l ∧ s' = s + (sbits a bk ls k l F).length ∧ (L.drop s).take (sbits a bk ls k l F).length = sbits a bk ls k l F := by
  unfold sread at h
  split at h
  · cases h
  · rename_i l2 s2 hp
    split at h
    · rename_i he
      cases h
      have hr := ptake_rising L a bk ls k F hF s l s' hp
      have hd : L = L.take s ++ (sbits a bk ls k l F ++ (L.drop s).drop (sbits a bk ls k l F).length) := by
        conv => lhs; rw [← List.take_append_drop s L, ← List.take_append_drop (sbits a bk ls k l F).length (L.drop s), he]
      have hl : (L.take s).length = s := by rw [List.length_take]; omega
      have := ptake_bits a bk ls k ha hk l F hr hF (L.take s) ((L.drop s).drop (sbits a bk ls k l F).length)
      rw [← hd, hl, hp] at this
      simp only [Option.some.injEq, Prod.mk.injEq] at this
      exact ⟨hr, this.2, he⟩
    · cases h
end
end Go.Proofs.YtbddcokjkdoaaaaGreat
