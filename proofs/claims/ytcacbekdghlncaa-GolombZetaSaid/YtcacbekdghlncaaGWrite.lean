/- The program's Least, Code and Zeta, whatever they are handed; each with its conditions. -/
import Derived.Test.YtcacbekdghlncaaGLib
import Derived.Test.YtcacbekdghlncaaERead
namespace Go.Proofs.Ytcacbekdghlncaa
set_option maxRecDepth 100000
set_option linter.unusedVariables false
open Go.RowKit

/-- The result's place behind a box, behind a call. -/
theorem res2_at {w w1 : World} {o : Obj} (B1 : Below ((w.alloc o).alloc (.cells #[.int .i64 0, .slice none 0 0] 25)).heap.size ((w.alloc o).alloc (.cells #[.int .i64 0, .slice none 0 0] 25)) w1) :
    w1.heap[w.heap.size + 1]? = some (.cells #[.int .i64 0, .slice none 0 0] 25 (0, 0)) ∧ Below w.heap.size w w1 ∧ w.heap.size + 1 < w1.heap.size := by
  obtain ⟨a, b, c⟩ := res_at B1
  rw [World.size_alloc] at a b c
  exact ⟨a, (one_below w o).trans (b.mono (by omega)), c⟩

set_option maxHeartbeats 600000 in
theorem putLeast_s (n m z sh : Nat) (hz : z ≤ 57) (hz1 : n < sh) (hn : n ≤ 144115188075855872) (hs : sh ≤ 144115188075855872) (len lL : Int) (A : Option Addr) (c N nL : Nat) (bs bL : List Nat) (w : World) (hA : Rd w w.heap.size A bs)
    (HZ : Hid (∀ V, Calls Try.prog 92 #[.int .u64 (m : Int)] V fun e w' => e = .returned (.tuple #[.int .i64 (z : Int), .int .u64 (sh : Int)]) ∧ Below V.heap.size V w'))
    (HP : Hid (∀ V, Rd V V.heap.size A bs → Calls Try.prog 65 #[.agg #[.int .i64 len, .slice A N c], .int .u64 (n : Int), .int .i64 ((z : Int) - 1)] V (Gv V lL nL bL 0))) :
    Calls Try.prog 75 #[.agg #[.int .i64 len, .slice A N c], .int .u64 (n : Int), .int .u64 (m : Int)] w (Gv w lL nL bL 0) := by
  have HA := Lib.hid hA; clear hA
  have t1 : decide ((n : Int) < (sh : Int)) = true := by simp; omega
  go_enter Try.func75, Try.ntmps75
  go_wp2_with fail
  refine (HZ.out _).mono ?_
  rintro e w1 ⟨rfl, B1⟩
  obtain ⟨hr, hb, hz0⟩ := res2_at B1
  have HRes := Lib.hid hr
  have HLow := Lib.hid hb
  have HLt := Lib.hid hz0
  have hs2 : ((w.alloc (.cells #[.int .i64 len, .slice A N c] 25)).alloc (.cells #[.int .i64 0, .slice none 0 0] 25)).heap.size = w.heap.size + 2 := by rw [World.size_alloc, World.size_alloc]
  rw [hs2] at B1
  have hbx : w1.heap[w.heap.size]? = some (.cells #[.int .i64 len, .slice A N c] 25 (0, 0)) := (B1.block _ (by omega)).trans ((Below.heap_alloc _ _ _ (by simp)).trans (World.alloc_heap_new w _))
  have p1 := (blk_cells hbx).1
  have q1 := (blk_cells hbx).2.1
  clear B1 hr hb hz0 hs2 hbx
  go_wp2_with fail
  refine (HP.out _ (HA.out.on HLow.out)).mono ?_
  rintro e w2 ⟨A2, c2, rfl, R2, B2⟩
  obtain ⟨⟨d0, d1, g0, g1⟩, HG⟩ := gv_store2 (w := w) (len := lL) (n := nL) (A := A2) (c := c2) R2 (Nat.le_succ _) ((B2.block _ HLt.out).trans HRes.out) (HLow.out.trans (B2.mono HLow.out.size)) 0
  clear R2 B2 p1 q1
  go_wp2
  exact bodyPost_ret (v := .tuple #[.agg #[.int .i64 lL, .slice A2 nL c2], .int .i64 0]) (by simp [results, Try.results75, go_sem, d0, d1]) rfl HG.out
set_option maxHeartbeats 600000 in
theorem putLeast_l (n m z sh : Nat) (hz : z ≤ 57) (hz1 : sh ≤ n) (hn : n ≤ 144115188075855872) (hs : sh ≤ 144115188075855872) (len lL : Int) (A : Option Addr) (c N nL : Nat) (bs bL : List Nat) (w : World) (hA : Rd w w.heap.size A bs)
    (HZ : Hid (∀ V, Calls Try.prog 92 #[.int .u64 (m : Int)] V fun e w' => e = .returned (.tuple #[.int .i64 (z : Int), .int .u64 (sh : Int)]) ∧ Below V.heap.size V w'))
    (HP : Hid (∀ V, Rd V V.heap.size A bs → Calls Try.prog 65 #[.agg #[.int .i64 len, .slice A N c], .int .u64 ((n : Int) + (sh : Int)), .int .i64 (z : Int)] V (Gv V lL nL bL 0))) :
    Calls Try.prog 75 #[.agg #[.int .i64 len, .slice A N c], .int .u64 (n : Int), .int .u64 (m : Int)] w (Gv w lL nL bL 0) := by
  have HA := Lib.hid hA; clear hA
  have t1 : decide ((n : Int) < (sh : Int)) = false := by simp; omega
  go_enter Try.func75, Try.ntmps75
  go_wp2_with fail
  refine (HZ.out _).mono ?_
  rintro e w1 ⟨rfl, B1⟩
  obtain ⟨hr, hb, hz0⟩ := res2_at B1
  have HRes := Lib.hid hr
  have HLow := Lib.hid hb
  have HLt := Lib.hid hz0
  have hs2 : ((w.alloc (.cells #[.int .i64 len, .slice A N c] 25)).alloc (.cells #[.int .i64 0, .slice none 0 0] 25)).heap.size = w.heap.size + 2 := by rw [World.size_alloc, World.size_alloc]
  rw [hs2] at B1
  have hbx : w1.heap[w.heap.size]? = some (.cells #[.int .i64 len, .slice A N c] 25 (0, 0)) := (B1.block _ (by omega)).trans ((Below.heap_alloc _ _ _ (by simp)).trans (World.alloc_heap_new w _))
  have p1 := (blk_cells hbx).1
  have q1 := (blk_cells hbx).2.1
  clear B1 hr hb hz0 hs2 hbx
  go_wp2_with fail
  refine (HP.out _ (HA.out.on HLow.out)).mono ?_
  rintro e w2 ⟨A2, c2, rfl, R2, B2⟩
  obtain ⟨⟨d0, d1, g0, g1⟩, HG⟩ := gv_store2 (w := w) (len := lL) (n := nL) (A := A2) (c := c2) R2 (Nat.le_succ _) ((B2.block _ HLt.out).trans HRes.out) (HLow.out.trans (B2.mono HLow.out.size)) 0
  clear R2 B2 p1 q1
  go_wp2
  exact bodyPost_ret (v := .tuple #[.agg #[.int .i64 lL, .slice A2 nL c2], .int .i64 0]) (by simp [results, Try.results75, go_sem, d0, d1]) rfl HG.out

theorem putLeast_l2 (l L : List Bool) (n m : Nat) (hm : 1 ≤ m) (hm2 : m ≤ 72057594037927936) (hn : n < m) (hL : L = l ++ lst n m) (hl : l.length + sz m ≤ 8192) (A : Option Addr) (c : Nat) (w : World) (h : Rd w w.heap.size A (pack l)) :
    Calls Try.prog 75 #[.agg #[.int .i64 (l.length : Int), .slice A (pack l).length c], .int .u64 (n : Int), .int .u64 (m : Int)] w (Gv w (L.length : Int) (pack L).length (pack L) 0) := by
  have hz := sz_le m 56 (by omega)
  have hs := sh_add m
  have h56 := Nat.pow_le_pow_right (n := 2) (by omega) hz
  have hc := sh_lt m hm
  unfold lst at hL
  by_cases hs1 : n < sh m
  · rw [if_pos hs1] at hL
    obtain ⟨z1, z2, z3⟩ : 1 ≤ sz m ∧ sh m < 2 ^ (sz m - 1) ∧ True := by
      rcases hc with ⟨a, b, c⟩ | ⟨a, b, c, d⟩
      · omega
      · exact ⟨a, b, trivial⟩
    refine putLeast_s n m (sz m) (sh m) (by omega) hs1 (by omega) (by omega) _ _ A c _ _ _ _ w h (fun V => sizes_any m hm hm2 V) (fun V hV => ?_)
    have e : ((sz m : Int) - 1) = ((sz m - 1 : Nat) : Int) := by omega
    rw [e]
    exact put_l l L A c n (sz m - 1) (by omega) (Nat.div_eq_of_lt (by omega)) (by omega) (by omega) hL V hV
  · rw [if_neg hs1] at hL
    refine putLeast_l n m (sz m) (sh m) (by omega) (by omega) (by omega) (by omega) _ _ A c _ _ _ _ w h (fun V => sizes_any m hm hm2 V) (fun V hV => ?_)
    have e : ((n : Int) + (sh m : Int)) = ((n + sh m : Nat) : Int) := by omega
    rw [e]
    exact put_l l L A c (n + sh m) (sz m) (by omega) (Nat.div_eq_of_lt (by omega)) (by omega) (by omega) hL V hV

set_option maxHeartbeats 600000 in
theorem putParts_w (q n m : Int) (lS lL : Int) (nS nL : Nat) (bS bL : List Nat) (w : World)
    (HF : Hid (∀ V, Calls Try.prog 54 #[.int .u64 q] V (Gv V lS nS bS 0)))
    (HP : Hid (∀ A c V, Rd V V.heap.size A bS → Calls Try.prog 75 #[.agg #[.int .i64 lS, .slice A nS c], .int .u64 n, .int .u64 m] V (Gv V lL nL bL 0))) :
    Calls Try.prog 76 #[.int .u64 q, .int .u64 n, .int .u64 m] w (Gv w lL nL bL 0) := by
  go_enter Try.func76, Try.ntmps76
  go_wp2_with fail
  refine (HF.out _).mono ?_
  rintro e w1 ⟨A1, c1, rfl, R1, B1⟩
  have HA := Lib.hid (res_at B1)
  have HR := Lib.hid R1
  clear B1 R1
  go_wp2_with fail
  refine (HP.out A1 c1 _ (HR.out.on (one_below _ _))).mono ?_
  rintro e w2 ⟨A2, c2, rfl, R2, B2⟩
  rw [World.size_alloc] at B2
  have b2 : Below w1.heap.size w1 w2 := (one_below w1 _).trans (B2.mono (by omega))
  obtain ⟨⟨d0, d1, g0, g1⟩, HG⟩ := gv_store2 (w := w) (len := lL) (n := nL) (A := A2) (c := c2) R2 (Nat.le_refl _) ((b2.block _ HA.out.2.2).trans HA.out.1) (HA.out.2.1.trans (b2.mono (Nat.le_of_lt HA.out.2.2))) 0
  clear R2 B2 b2 HA
  go_wp2
  exact bodyPost_ret (v := .tuple #[.agg #[.int .i64 lL, .slice A2 nL c2], .int .i64 0]) (by simp [results, Try.results76, go_sem, d0, d1]) rfl HG.out
theorem putParts_l (q n m : Nat) (hq : q ≤ 8127) (hm : 1 ≤ m) (hm2 : m ≤ 72057594037927936) (hn : n < m) (L : List Bool) (hL : L = uc q ++ lst n m) (w : World) :
    Calls Try.prog 76 #[.int .u64 (q : Int), .int .u64 (n : Int), .int .u64 (m : Int)] w (Gv w (L.length : Int) (pack L).length (pack L) 0) := by
  have hz := sz_le m 56 (by omega)
  exact putParts_w _ _ _ _ _ _ _ _ _ w (fun V => code_any q (uc q) 0 (by rw [if_neg (by omega)]) (by rw [if_neg (by omega)]) V) (fun A c V h => putLeast_l2 (uc q) L n m hm hm2 hn hL (by rw [uc_length]; omega) A c V h)

set_option maxHeartbeats 600000 in
theorem least_e (n m : Nat) (r1 : Bool) (h : rgE 0 [r1, decide (n < m)] = 3) (t1 : okM m = r1) (w : World) :
    Calls Try.prog 35 #[.int .u64 (n : Int), .int .u64 (m : Int)] w (Gv w 0 0 (pack []) 3) := by
  have HD := Lib.hid (isDiv_any m)
  rw [t1] at HD
  clear t1
  have HR := Lib.hid (range2 0 r1 (decide (n < m)) 3 h)
  clear h
  go_enter Try.func35, Try.ntmps35
  go_wp2_with fail
  refine (HD.out _).mono ?_
  rintro e _ ⟨rfl, rfl⟩
  go_wp2_with fail
  refine (HR.out _ _ (World.size_alloc _ _)).mono ?_
  rintro e w1 ⟨rfl, B1⟩
  obtain ⟨hr, hb, _⟩ := res_at B1
  obtain ⟨⟨d0, d1, g0, g1⟩, HG⟩ := gv_store2 (len := 0) (n := 0) (A := none) (c := 0) (Rd.nil w1 _ none) (Nat.le_refl _) hr hb 3
  clear hr hb B1
  go_wp2
  exact bodyPost_ret (v := .tuple #[.agg #[.int .i64 0, .slice none 0 0], .int .i64 3]) (by simp [results, Try.results35, go_sem, d0, d1]) rfl HG.out
set_option maxHeartbeats 600000 in
theorem least_w (n m : Nat) (t1 : okM m = true) (h2 : n < m) (lL : Int) (nL : Nat) (bL : List Nat)
    (HP : Hid (∀ V, Calls Try.prog 75 #[.agg #[.int .i64 0, .slice none 0 0], .int .u64 (n : Int), .int .u64 (m : Int)] V (Gv V lL nL bL 0))) (w : World) :
    Calls Try.prog 35 #[.int .u64 (n : Int), .int .u64 (m : Int)] w (Gv w lL nL bL 0) := by
  have HD := Lib.hid (isDiv_any m)
  rw [t1] at HD
  clear t1
  have t2 : decide ((n : Int) < (m : Int)) = true := by simp; omega
  go_enter Try.func35, Try.ntmps35
  go_wp2_with fail
  refine (HD.out _).mono ?_
  rintro e _ ⟨rfl, rfl⟩
  go_wp2_with fail
  refine (range2 0 true true 0 rfl _ _ (World.size_alloc _ _)).mono ?_
  rintro e w1 ⟨rfl, B1⟩
  have HA := Lib.hid (res_at B1)
  clear B1
  go_wp2_with fail
  refine (HP.out _).mono ?_
  rintro e w2 ⟨A2, c2, rfl, R2, B2⟩
  obtain ⟨⟨d0, d1, g0, g1⟩, HG⟩ := gv_store2 (w := w) (len := lL) (n := nL) (A := A2) (c := c2) R2 (Nat.le_refl _) ((B2.block _ HA.out.2.2).trans HA.out.1) (HA.out.2.1.trans (B2.mono (Nat.le_of_lt HA.out.2.2))) 0
  clear R2 B2 HA
  go_wp2
  exact bodyPost_ret (v := .tuple #[.agg #[.int .i64 lL, .slice A2 nL c2], .int .i64 0]) (by simp [results, Try.results35, go_sem, d0, d1]) rfl HG.out
theorem least_ok (n m : Nat) (hm : 1 ≤ m) (hm2 : m ≤ 1099511627776) (hn : n < m) (L : List Bool) (hL : L = lst n m) (w : World) :
    Calls Try.prog 35 #[.int .u64 (n : Int), .int .u64 (m : Int)] w (Gv w (L.length : Int) (pack L).length (pack L) 0) :=
  least_w n m (by unfold okM; simp; omega) hn _ _ _ (fun V => putLeast_l2 [] L n m hm (by omega) hn hL (by have := sz_le m 56 (by omega); simp; omega) none 0 V (Rd.nil _ _ _)) w
theorem least_no (n m : Nat) (h : ¬ (1 ≤ m ∧ m ≤ 1099511627776 ∧ n < m)) (w : World) :
    Calls Try.prog 35 #[.int .u64 (n : Int), .int .u64 (m : Int)] w (Gv w 0 0 (pack []) 3) := by
  refine least_e n m _ ?_ rfl w
  unfold rgE okM
  rw [if_pos]
  refine ⟨rfl, ?_⟩
  by_cases h1 : 1 ≤ m ∧ m ≤ 1099511627776
  · rw [decide_eq_false (show ¬ n < m by omega)]; simp
  · rw [decide_eq_false h1]; simp

set_option maxHeartbeats 600000 in
theorem code_e (n m : Nat) (hn : n < 18446744073709551616) (r1 : Bool) (h : rgE 0 [r1, decide ((n : Int) ≤ 1099511627776), decide ((n : Int) / 8128 < (m : Int))] = 3) (t1 : okM m = r1) (w : World) :
    Calls Try.prog 36 #[.int .u64 (n : Int), .int .u64 (m : Int)] w (Gv w 0 0 (pack []) 3) := by
  have HD := Lib.hid (isDiv_any m)
  rw [t1] at HD
  clear t1
  have HR := Lib.hid (range3 0 r1 _ _ 3 h)
  clear h
  go_enter Try.func36, Try.ntmps36
  go_wp2_with fail
  refine (HD.out _).mono ?_
  rintro e _ ⟨rfl, rfl⟩
  go_wp2_with fail
  refine (HR.out _ _ (World.size_alloc _ _)).mono ?_
  rintro e w1 ⟨rfl, B1⟩
  obtain ⟨hr, hb, _⟩ := res_at B1
  obtain ⟨⟨d0, d1, g0, g1⟩, HG⟩ := gv_store2 (len := 0) (n := 0) (A := none) (c := 0) (Rd.nil w1 _ none) (Nat.le_refl _) hr hb 3
  clear hr hb B1
  go_wp2
  exact bodyPost_ret (v := .tuple #[.agg #[.int .i64 0, .slice none 0 0], .int .i64 3]) (by simp [results, Try.results36, go_sem, d0, d1]) rfl HG.out
set_option maxHeartbeats 600000 in
theorem code_w (n m : Nat) (hm : 1 ≤ m) (hm2 : m ≤ 1099511627776) (h2 : n ≤ 1099511627776) (h3 : n / 8128 < m) (lL : Int) (nL : Nat) (bL : List Nat)
    (HP : Hid (∀ V, Calls Try.prog 76 #[.int .u64 ((n / m : Nat) : Int), .int .u64 ((n % m : Nat) : Int), .int .u64 (m : Int)] V (Gv V lL nL bL 0))) (w : World) :
    Calls Try.prog 36 #[.int .u64 (n : Int), .int .u64 (m : Int)] w (Gv w lL nL bL 0) := by
  have HD := Lib.hid (isDiv_any m)
  rw [show okM m = true from by unfold okM; simp; omega] at HD
  have t2 : decide ((n : Int) ≤ 1099511627776) = true := by simp; omega
  have t3 : decide ((n : Int) / 8128 < (m : Int)) = true := by simp; omega
  have HQ : Hid (IntKind.u64.wrap ((n : Int) / (m : Int)) = ((n / m : Nat) : Int)) := by
    show _ = _
    have := Nat.div_le_self n m
    have e : ((n : Int) / (m : Int)) = ((n / m : Nat) : Int) := by simp
    rw [e]
    generalize n / m = q at *
    exact u64w _ (by omega) (by omega)
  have HM : Hid ((n : Int) % (m : Int) = ((n % m : Nat) : Int)) := by show _ = _; simp
  have HM2 : Hid ((n : Int).tmod (m : Int) = ((n % m : Nat) : Int)) := by show _ = _; rw [Int.tmod_eq_emod_of_nonneg (by omega)]; simp
  have hm0 : ¬ ((m : Int) = 0) := by omega
  have hm1 : ¬ (m = 0) := by omega
  go_enter Try.func36, Try.ntmps36
  go_wp2_with fail
  refine (HD.out _).mono ?_
  rintro e _ ⟨rfl, rfl⟩
  go_wp2_with fail
  refine (range3 0 true true true 0 rfl _ _ (World.size_alloc _ _)).mono ?_
  rintro e w1 ⟨rfl, B1⟩
  have HA := Lib.hid (res_at B1)
  clear B1
  have HF : Hid (∀ w6 A4 c4, Rd w6 w6.heap.size A4 bL → Below w1.heap.size w1 w6 → (w6.cell? ⟨w.heap.size, 0, none⟩ = some (.int .i64 0) ∧ w6.cell? ⟨w.heap.size, 1, none⟩ = some (.slice none 0 0) ∧ w6.frozen? ⟨w.heap.size, 0, none⟩ = false ∧ w6.frozen? ⟨w.heap.size, 1, none⟩ = false) ∧
      Hid (Gv w lL nL bL 0 (.returned (.tuple #[.agg #[.int .i64 lL, .slice A4 nL c4], .int .i64 0])) ((w6.setCell ⟨w.heap.size, 0, none⟩ (.int .i64 lL)).setCell ⟨w.heap.size, 1, none⟩ (.slice A4 nL c4)))) := by
    intro w6 A4 c4 R4 B4
    exact gv_store2 R4 (Nat.le_refl _) ((B4.block _ HA.out.2.2).trans HA.out.1) (HA.out.2.1.trans (B4.mono (Nat.le_of_lt HA.out.2.2))) 0
  clear HA
  go_wp2_with fail
  go_region_held3 (fun _ => True) (trivial)
    (first
      | (go_at_call 76; rw [HQ.out]; (first | rw [HM.out] | rw [HM2.out]); refine (HP.out w1.drew).mono ?_; rintro e w6 ⟨A4, c4, rfl, R4, B4⟩; obtain ⟨⟨d0, d1, g0, g1⟩, HGf⟩ := HF.out w6 A4 c4 R4 (((Below.refl _ w1).drew).trans B4); clear R4 B4))
  all_goals go_wp2
  all_goals exact bodyPost_ret (v := .tuple #[.agg #[.int .i64 lL, .slice A4 nL c4], .int .i64 0]) (by simp [results, Try.results36, go_sem, d0, d1]) rfl HGf.out

theorem code_ok (n m : Nat) (hm : 1 ≤ m) (hm2 : m ≤ 1099511627776) (hn : n ≤ 1099511627776) (hq : n / m < 8128) (L : List Bool) (hL : L = gol n m) (w : World) :
    Calls Try.prog 36 #[.int .u64 (n : Int), .int .u64 (m : Int)] w (Gv w (L.length : Int) (pack L).length (pack L) 0) := by
  have h3 : n / 8128 < m := by
    rw [Nat.div_lt_iff_lt_mul (by omega)] at hq ⊢
    rw [Nat.mul_comm]; exact hq
  exact code_w n m hm hm2 hn h3 _ _ _ (fun V => putParts_l (n / m) (n % m) m (by omega) hm (by omega) (Nat.mod_lt _ (by omega)) L hL V) w
theorem code_no (n m : Nat) (hn64 : n < 18446744073709551616) (h : ¬ (1 ≤ m ∧ m ≤ 1099511627776 ∧ n ≤ 1099511627776 ∧ n / m < 8128)) (w : World) :
    Calls Try.prog 36 #[.int .u64 (n : Int), .int .u64 (m : Int)] w (Gv w 0 0 (pack []) 3) := by
  refine code_e n m hn64 _ ?_ rfl w
  unfold rgE okM
  rw [if_pos]
  refine ⟨rfl, ?_⟩
  by_cases h1 : 1 ≤ m ∧ m ≤ 1099511627776
  · by_cases h2 : n ≤ 1099511627776
    · have h3 : ¬ n / 8128 < m := by
        intro h3
        refine h ⟨h1.1, h1.2, h2, ?_⟩
        rw [Nat.div_lt_iff_lt_mul (by omega)] at h3 ⊢
        rw [Nat.mul_comm]; exact h3
      rw [decide_eq_false (show ¬ (n : Int) / 8128 < (m : Int) by omega)]; simp
    · rw [decide_eq_false (show ¬ (n : Int) ≤ 1099511627776 by omega)]; simp
  · rw [decide_eq_false h1]; simp

set_option maxHeartbeats 600000 in
theorem zeta_e (n : Nat) (k : Int) (r1 : Bool) (h : rgE 0 [r1, decide ((n : Int) ≤ 1099511627776)] = 3) (t1 : okK k = r1) (w : World) :
    Calls Try.prog 44 #[.int .u64 (n : Int), .int .i64 k] w (Gv w 0 0 (pack []) 3) := by
  have HD := Lib.hid (isK_any k)
  rw [t1] at HD
  clear t1
  have HR := Lib.hid (range2 0 r1 _ 3 h)
  clear h
  go_enter Try.func44, Try.ntmps44
  go_wp2_with fail
  refine (HD.out _).mono ?_
  rintro e _ ⟨rfl, rfl⟩
  go_wp2_with fail
  refine (HR.out _ _ (World.size_alloc _ _)).mono ?_
  rintro e w1 ⟨rfl, B1⟩
  obtain ⟨hr, hb, _⟩ := res_at B1
  obtain ⟨⟨d0, d1, g0, g1⟩, HG⟩ := gv_store2 (len := 0) (n := 0) (A := none) (c := 0) (Rd.nil w1 _ none) (Nat.le_refl _) hr hb 3
  clear hr hb B1
  go_wp2
  exact bodyPost_ret (v := .tuple #[.agg #[.int .i64 0, .slice none 0 0], .int .i64 3]) (by simp [results, Try.results44, go_sem, d0, d1]) rfl HG.out
theorem wz3 (g k h : Nat) (hh : g / k = h) : ((g : Int) / (k : Int)) = (h : Int) := by
  rw [← hh]; simp
theorem wz1 (g k h : Nat) (hg : g ≤ 40) (hh : g / k = h) : wrap64 ((g : Int) / (k : Int)) = (h : Int) := by
  have := Nat.div_le_self g k
  have e : ((g : Int) / (k : Int)) = ((g / k : Nat) : Int) := by simp
  rw [e, hh]
  rw [hh] at this
  unfold wrap64; omega
theorem wz2 (h k s : Nat) (hs : h * k = s) (hs2 : s ≤ 1000000) : wrap64 ((h : Int) * (k : Int)) = (s : Int) := by
  have e : ((h : Int) * (k : Int)) = (s : Int) := by rw [← hs]; simp
  rw [e]
  unfold wrap64; omega
set_option maxHeartbeats 600000 in
theorem zeta_w (n k g h s f q y : Nat) (hk : 1 ≤ k) (hk2 : k ≤ 16) (hn : n ≤ 1099511627776) (hg : g ≤ 40) (hh : g / k = h) (hs : h * k = s) (hs2 : s ≤ 40) (hh2 : h ≤ 40) (hy : n + 1 = f + y) (lL : Int) (nL : Nat) (bL : List Nat)
    (HL : Hid (∀ V, Calls Try.prog 80 #[.int .u64 ((n : Int) + 1)] V fun e w' => e = .returned (.int .i64 ((g : Int) + 1)) ∧ V = w'))
    (HS : Hid (∀ V, Calls Try.prog 81 #[.int .i64 (s : Int), .int .i64 (k : Int)] V fun e w' => e = .returned (.tuple #[.int .u64 (f : Int), .int .u64 (q : Int)]) ∧ Below V.heap.size V w'))
    (HP : Hid (∀ V, Calls Try.prog 76 #[.int .u64 (h : Int), .int .u64 (y : Int), .int .u64 (q : Int)] V (Gv V lL nL bL 0))) (w : World) :
    Calls Try.prog 44 #[.int .u64 (n : Int), .int .i64 (k : Int)] w (Gv w lL nL bL 0) := by
  have HD := Lib.hid (isK_any (k : Int))
  rw [show okK (k : Int) = true from by unfold okK; simp; omega] at HD
  have t2 : decide ((n : Int) ≤ 1099511627776) = true := by simp; omega
  have hk0 : ¬ ((k : Int) = 0) := by omega
  have HY : Hid ((n : Int) + 1 - (f : Int) = (y : Int)) := by show _ = _; omega
  go_enter Try.func44, Try.ntmps44
  go_wp2_with fail
  refine (HD.out _).mono ?_
  rintro e _ ⟨rfl, rfl⟩
  go_wp2_with fail
  refine (range2 0 true true 0 rfl _ _ (World.size_alloc _ _)).mono ?_
  rintro e w1 ⟨rfl, B1⟩
  have HA := Lib.hid (res_at B1)
  clear B1
  go_wp2_with fail
  refine (HL.out _).mono ?_
  rintro e _ ⟨rfl, rfl⟩
  go_wp2_with fail
  rw [wz3 g k h hh, wz2 h k s hs (by omega)]
  refine (HS.out _).mono ?_
  rintro e w2 ⟨rfl, B2⟩
  have HB2 := Lib.hid B2; clear B2
  go_wp2_with fail
  rw [HY.out]
  refine (HP.out _).mono ?_
  rintro e w3 ⟨A2, c2, rfl, R2, B3⟩
  have b3 : Below w1.heap.size w1 w3 := HB2.out.trans (B3.mono HB2.out.size)
  obtain ⟨⟨d0, d1, g0, g1⟩, HG⟩ := gv_store2 (w := w) (len := lL) (n := nL) (A := A2) (c := c2) R2 (Nat.le_refl _) ((b3.block _ HA.out.2.2).trans HA.out.1) (HA.out.2.1.trans (b3.mono (Nat.le_of_lt HA.out.2.2))) 0
  clear R2 B3 b3 HA
  go_wp2
  exact bodyPost_ret (v := .tuple #[.agg #[.int .i64 lL, .slice A2 nL c2], .int .i64 0]) (by simp [results, Try.results44, go_sem, d0, d1]) rfl HG.out
theorem zeta_ok (n k : Nat) (hk : 1 ≤ k) (hk2 : k ≤ 16) (hn : n ≤ 1099511627776) (L : List Bool) (hL : L = zet n k) (w : World) :
    Calls Try.prog 44 #[.int .u64 (n : Int), .int .i64 (k : Int)] w (Gv w (L.length : Int) (pack L).length (pack L) 0) := by
  have k40 := lg_lt_of n 41 (by omega)
  have hs := zet_40 n k hn
  obtain ⟨z1, z2⟩ := zet_in n k hk
  have zp := zq_pos (lg n / k) k hk
  have zl := zq_le (lg n / k) k hs hk2
  have hd := Nat.div_le_self (lg n) k
  have hpw := Nat.pow_le_pow_right (n := 2) (by omega) (show lg n / k * k ≤ lg n / k * k + k by omega)
  refine zeta_w n k (lg n) (lg n / k) (lg n / k * k) (2 ^ (lg n / k * k)) (zq (lg n / k) k) (n + 1 - 2 ^ (lg n / k * k)) hk hk2 hn (by omega) rfl rfl hs (by omega) (by omega) _ _ _ (fun V => ?_) (fun V => stretch_any _ k _ _ hs hk2 rfl (by unfold zq; omega) V) (fun V => putParts_l _ _ _ (by omega) zp zl z2 L hL V) w
  have h := len64_any (n + 1) (by omega) V
  rw [bitLen_succ n (by omega)] at h
  exact h
theorem zeta_no (n : Nat) (k : Int) (h : ¬ (1 ≤ k ∧ k ≤ 16 ∧ n ≤ 1099511627776)) (w : World) :
    Calls Try.prog 44 #[.int .u64 (n : Int), .int .i64 k] w (Gv w 0 0 (pack []) 3) := by
  refine zeta_e n k _ ?_ rfl w
  unfold rgE okK
  rw [if_pos]
  refine ⟨rfl, ?_⟩
  by_cases h1 : 1 ≤ k ∧ k ≤ 16
  · rw [decide_eq_false (show ¬ (n : Int) ≤ 1099511627776 by omega)]; simp
  · rw [decide_eq_false h1]; simp
end Go.Proofs.Ytcacbekdghlncaa
