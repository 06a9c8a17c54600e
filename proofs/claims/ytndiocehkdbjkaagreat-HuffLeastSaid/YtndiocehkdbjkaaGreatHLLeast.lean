/- The law HuffLeast: no lengths with room cost less; for whatever is handed in. -/
import Derived.Test.YtndiocehkdbjkaaGreatJL6
namespace Go.Proofs.YtndiocehkdbjkaaGreat
set_option maxRecDepth 100000
set_option linter.unusedVariables false
open Go.RowKit Go.Shelf

set_option maxHeartbeats 4000000 in
theorem hls_e (A A2 : Option Addr) (n m c c2 : Nat) (w : World) (e0 : Int) (h0 : e0 ≠ 0) (HL : Hid (∀ V, Below w.heap.size w V → Calls Tryz.prog 13 #[.slice A n c] V (GzM V 0 [] e0))) :
    Calls Tryz.prog 3 #[.slice A n c, .slice A2 m c2] w fun e w' => e = .returned (.bool true) ∧ Below w.heap.size w w' := by
  have t0 : (e0 != 0) = true := by simpa using h0
  clear h0
  go_enter Tryz.func3, Tryz.ntmps3
  go_wp2_with fail
  refine (HL.out _ (Below.refl _ _)).mono ?_
  rintro e w1_ ⟨A1, c1, rfl, hc1, hn1, Rq, Bq⟩
  have Sq : Below w.heap.size w w1_ := Bq
  have HB : Hid (Below w.heap.size w w1_) := Sq
  clear Bq Sq
  have HR1 := Lib.hid Rq; clear Rq
  go_wp2_with fail
  refine (huffbegun_true _).mono ?_
  rintro e w2_ ⟨rfl, Bq⟩
  have Sq : Below w1_.heap.size w1_ w2_ := Bq
  replace HR1 : Hid (RdV w2_ w2_.heap.size A1 (zc (ns []))) := HR1.out.on Sq
  replace HB : Hid (Below w.heap.size w w2_) := HB.out.trans (Sq.mono HB.out.size)
  clear Bq Sq
  go_wp2_with fail
  refine (kbegun _).mono ?_
  rintro e w3_ ⟨rfl, Bq⟩
  have Sq : Below w2_.heap.size w2_ w3_ := Bq
  replace HR1 : Hid (RdV w3_ w3_.heap.size A1 (zc (ns []))) := HR1.out.on Sq
  replace HB : Hid (Below w.heap.size w w3_) := HB.out.trans (Sq.mono HB.out.size)
  clear Bq Sq
  go_wp2
  go_ret
  exact ⟨rfl, HB.out⟩
/-- How many are not 0. -/
def cn : List Nat → Nat
  | [] => 0
  | x :: t => (if x = 0 then 0 else 1) + cn t
theorem cn_app : ∀ a b : List Nat, cn (a ++ b) = cn a + cn b
  | [], b => by simp [cn]
  | x :: t, b => by
    show (if x = 0 then 0 else 1) + cn (t ++ b) = (if x = 0 then 0 else 1) + cn t + cn b
    rw [cn_app t b, Nat.add_assoc]
theorem cn_le : ∀ a : List Nat, cn a ≤ a.length
  | [] => Nat.le_refl _
  | x :: t => by have := cn_le t; unfold cn; rw [List.length_cons]; split <;> omega
theorem cn_groups : ∀ (os : List Nat) (i : Nat), (groups i os).length = cn os
  | [], _ => rfl
  | x :: t, i => by
    unfold groups cn
    by_cases h : x = 0
    · rw [if_pos h, if_pos h, cn_groups t (i + 1)]; omega
    · rw [if_neg h, if_neg h, List.length_cons, cn_groups t (i + 1)]; omega
theorem cn_stand (os : List Nat) : stand os = cn os := cn_groups os 0
theorem cn_at (os : List Nat) (i : Nat) (h : i < os.length) : cn (os.take (i + 1)) = cn (os.take i) + (if os[i]?.getD 0 = 0 then 0 else 1) := by
  rw [take_snoc os i h, cn_app]
  simp [cn]
/-- At each round's head: so many of the first i stand. -/
def LeaRel (os : List Nat) (w2 : World) (v p : Value) (wr : World) : Prop :=
  ∃ i : Nat, i ≤ os.length ∧ p = .int .i64 (i : Int) ∧ v = .int .i64 (cn (os.take i) : Int) ∧ Below w2.heap.size w2 wr
set_option maxHeartbeats 8000000 in
theorem hls_0 (A A2 : Option Addr) (n m c c2 : Nat) (w : World) (os l : List Nat) (S : Nat) (k r k2 h2 r2 i2 : Int) (hn : os.length = n) (h64 : n ≤ 64) (hb : ∀ x ∈ os, x ≤ 1048576) (hS : cn os = S) (hc : (1 < S ∧ r = 0) ∨ (S = 1 ∧ 0 < r) ∨ S = 0)
    (hF : h2 ≠ 0 ∨ (h2 = 0 ∧ i2 ≠ 0) ∨ (h2 = 0 ∧ i2 = 0 ∧ r2 < 0) ∨ (h2 = 0 ∧ i2 = 0 ∧ 0 ≤ r2 ∧ k ≤ k2))
    (HA : Hid (∀ V, Below w.heap.size w V → RdV V V.heap.size A (zc (ns os)))) (HL : Hid (∀ V, Below w.heap.size w V → Calls Tryz.prog 13 #[.slice A n c] V (GzM V n l 0)))
    (HC1 : Hid (∀ A1 c1 V, Below w.heap.size w V → RdV V V.heap.size A1 (zc (ns l)) → Calls Tryz.prog 16 #[.slice A n c, .slice A1 n c1] V fun e w' => e = .returned (.tuple #[.int .i64 k, .int .i64 0]) ∧ Below V.heap.size V w'))
    (HRo : Hid (∀ A1 c1 V, RdV V V.heap.size A1 (zc (ns l)) → Calls Tryz.prog 17 #[.slice A1 n c1] V fun e w' => e = .returned (.tuple #[.int .i64 r, .int .i64 0]) ∧ Below V.heap.size V w'))
    (HC2 : Hid (∀ V, Below w.heap.size w V → Calls Tryz.prog 16 #[.slice A n c, .slice A2 m c2] V fun e w' => e = .returned (.tuple #[.int .i64 k2, .int .i64 h2]) ∧ Below V.heap.size V w'))
    (HR2 : Hid (∀ V, Below w.heap.size w V → Calls Tryz.prog 17 #[.slice A2 m c2] V fun e w' => e = .returned (.tuple #[.int .i64 r2, .int .i64 i2]) ∧ Below V.heap.size V w')) :
    Calls Tryz.prog 3 #[.slice A n c, .slice A2 m c2] w fun e w' => e = .returned (.bool true) ∧ Below w.heap.size w w' := by
  have HN := Lib.hid hn; have HBd := Lib.hid hb; have HS := Lib.hid hS; have HCc := Lib.hid hc; have HFf := Lib.hid hF
  clear hn hb hS hc hF
  go_enter Tryz.func3, Tryz.ntmps3
  go_wp2_with fail
  refine (HL.out _ (Below.refl _ _)).mono ?_
  rintro e w1_ ⟨A1, c1, rfl, hc1, hn1, Rq, Bq⟩
  have Sq : Below w.heap.size w w1_ := Bq
  have HB : Hid (Below w.heap.size w w1_) := Sq
  clear Bq Sq
  have HR1 := Lib.hid Rq; clear Rq
  go_wp2_with fail
  refine (huffbegun_true _).mono ?_
  rintro e w2_ ⟨rfl, Bq⟩
  have Sq : Below w1_.heap.size w1_ w2_ := Bq
  replace HR1 : Hid (RdV w2_ w2_.heap.size A1 (zc (ns l))) := HR1.out.on Sq
  replace HB : Hid (Below w.heap.size w w2_) := HB.out.trans (Sq.mono HB.out.size)
  clear Bq Sq
  go_wp2_with fail
  refine (kbegun _).mono ?_
  rintro e w3_ ⟨rfl, Bq⟩
  have Sq : Below w2_.heap.size w2_ w3_ := Bq
  replace HR1 : Hid (RdV w3_ w3_.heap.size A1 (zc (ns l))) := HR1.out.on Sq
  replace HB : Hid (Below w.heap.size w w3_) := HB.out.trans (Sq.mono HB.out.size)
  clear Bq Sq
  go_wp2_with fail
  refine (HC1.out A1 c1 _ HB.out HR1.out).mono ?_
  rintro e w4_ ⟨rfl, Bq⟩
  have Sq : Below w3_.heap.size w3_ w4_ := Bq
  replace HR1 : Hid (RdV w4_ w4_.heap.size A1 (zc (ns l))) := HR1.out.on Sq
  replace HB : Hid (Below w.heap.size w w4_) := HB.out.trans (Sq.mono HB.out.size)
  clear Bq Sq
  go_wp2_with fail
  refine (HRo.out A1 c1 _ HR1.out).mono ?_
  rintro e w5_ ⟨rfl, Bq⟩
  have Sq : Below w4_.heap.size w4_ w5_ := Bq
  replace HR1 : Hid (RdV w5_ w5_.heap.size A1 (zc (ns l))) := HR1.out.on Sq
  replace HB : Hid (Below w.heap.size w w5_) := HB.out.trans (Sq.mono HB.out.size)
  clear Bq Sq
  clear HL HC1 HRo
  go_wp2
  go_loopw [11, 12] (fun v p wr => LeaRel os w5_ v p wr) (fun _ p _ => n - (intOf p).toNat)
  case atStart => exact ⟨0, Nat.zero_le _, rfl, rfl, Below.refl _ _⟩
  case round =>
    obtain ⟨i, hi', rfl, rfl, hbel⟩ := hrel
    rw [HN.out] at hi'
    by_cases hlt : i < n
    · have hin : i < os.length := by rw [HN.out]; exact hlt
      have hca := cn_at os i hin
      have hcl : cn (os.take i) ≤ i := Nat.le_trans (cn_le _) (by rw [List.length_take]; omega)
      obtain ⟨bk, off, rfl, hb, hc⟩ := (HA.out wr (HB.out.trans (hbel.mono HB.out.size))).at_ (ns_get os i hin)
      have HBe := Lib.hid hbel
      clear hbel
      generalize os[i]?.getD 0 = x at *
      generalize cn (os.take i) = q at *
      have u1 : IntKind.i64.wrap ((q : Int) + 1) = (q : Int) + 1 := IntWalk.i64_in _ (by omega)
      by_cases hx : x = 0
      · subst hx
        rw [if_pos rfl, Nat.add_zero] at hca
        have HT := Lib.hid hca; clear hca
        go_wp2
        go_roundw
        case rel => exact ⟨i + 1, by rw [HN.out]; omega, by go_num, by rw [HT.out] <;> simp, HBe.out⟩
        case measure => simp [intOf] <;> omega
      · rw [if_neg hx] at hca
        have HT := Lib.hid hca; clear hca
        have t1 : decide ((x : Int) > 0) = true := by simp; omega
        have t2 : decide ((0 : Int) < (x : Int)) = true := by simp; omega
        have t3 : decide (0 < x) = true := by simp; omega
        clear hx
        go_wp2
        go_roundw
        case rel => exact ⟨i + 1, by rw [HN.out]; omega, by go_num, by rw [HT.out]; try go_num, HBe.out⟩
        case measure => simp [intOf] <;> omega
    · have e : os.take i = os := List.take_of_length_le (by rw [HN.out]; omega)
      rw [e, HS.out]
      obtain rfl : i = n := by omega
      have HBr : Hid (Below w.heap.size w wr) := HB.out.trans (hbel.mono HB.out.size)
      clear hbel e HA
      rcases HCc.out with ⟨d1, rfl⟩ | ⟨rfl, d1⟩ | rfl
      · have t1 : decide ((S : Int) > 1) = true := by simp; omega
        have t2 : decide ((1 : Int) < (S : Int)) = true := by simp; omega
        have t3 : decide (1 < S) = true := by simpa using d1
        have t4 : ((S : Int) == 1) = false := by simp; omega
        have t5 : (S == 1) = false := by simp; omega
        clear d1
        replace HB : Hid (Below w.heap.size w wr) := HBr
        go_wp2_with fail
        refine (HC2.out _ HB.out).mono ?_
        rintro e w7_ ⟨rfl, Bq⟩
        have Sq : Below wr.heap.size wr w7_ := Bq
        replace HB : Hid (Below w.heap.size w w7_) := HB.out.trans (Sq.mono HB.out.size)
        clear Bq Sq
        go_wp2_with fail
        refine (HR2.out _ HB.out).mono ?_
        rintro e w8_ ⟨rfl, Bq⟩
        have Sq : Below w7_.heap.size w7_ w8_ := Bq
        replace HB : Hid (Below w.heap.size w w8_) := HB.out.trans (Sq.mono HB.out.size)
        clear Bq Sq
        rcases HFf.out with f | ⟨rfl, f⟩ | ⟨rfl, rfl, f⟩ | ⟨rfl, rfl, f, g⟩
        · have s1 : (h2 != 0) = true := by simpa using f
          go_wp2
          go_ret
          exact ⟨by simp, HB.out⟩
        · have s1 : (i2 != 0) = true := by simpa using f
          go_wp2
          go_ret
          exact ⟨by simp, HB.out⟩
        · have s1 : decide (r2 < 0) = true := by simpa using f
          go_wp2
          go_ret
          exact ⟨by simp, HB.out⟩
        · have s1 : decide (r2 < 0) = false := by simp; omega
          have s2 : decide (k ≤ k2) = true := by simpa using g
          have s3 : decide (k2 ≥ k) = true := by simpa using g
          go_wp2
          go_ret
          exact ⟨by simp, HB.out⟩
      · have t1 : decide (r ≤ 0) = false := by simp; omega
        clear d1
        replace HB : Hid (Below w.heap.size w wr) := HBr
        go_wp2_with fail
        refine (HC2.out _ HB.out).mono ?_
        rintro e w7_ ⟨rfl, Bq⟩
        have Sq : Below wr.heap.size wr w7_ := Bq
        replace HB : Hid (Below w.heap.size w w7_) := HB.out.trans (Sq.mono HB.out.size)
        clear Bq Sq
        go_wp2_with fail
        refine (HR2.out _ HB.out).mono ?_
        rintro e w8_ ⟨rfl, Bq⟩
        have Sq : Below w7_.heap.size w7_ w8_ := Bq
        replace HB : Hid (Below w.heap.size w w8_) := HB.out.trans (Sq.mono HB.out.size)
        clear Bq Sq
        rcases HFf.out with f | ⟨rfl, f⟩ | ⟨rfl, rfl, f⟩ | ⟨rfl, rfl, f, g⟩
        · have s1 : (h2 != 0) = true := by simpa using f
          go_wp2
          go_ret
          exact ⟨by simp, HB.out⟩
        · have s1 : (i2 != 0) = true := by simpa using f
          go_wp2
          go_ret
          exact ⟨by simp, HB.out⟩
        · have s1 : decide (r2 < 0) = true := by simpa using f
          go_wp2
          go_ret
          exact ⟨by simp, HB.out⟩
        · have s1 : decide (r2 < 0) = false := by simp; omega
          have s2 : decide (k ≤ k2) = true := by simpa using g
          have s3 : decide (k2 ≥ k) = true := by simpa using g
          go_wp2
          go_ret
          exact ⟨by simp, HB.out⟩
      · skip
        replace HB : Hid (Below w.heap.size w wr) := HBr
        go_wp2_with fail
        refine (HC2.out _ HB.out).mono ?_
        rintro e w7_ ⟨rfl, Bq⟩
        have Sq : Below wr.heap.size wr w7_ := Bq
        replace HB : Hid (Below w.heap.size w w7_) := HB.out.trans (Sq.mono HB.out.size)
        clear Bq Sq
        go_wp2_with fail
        refine (HR2.out _ HB.out).mono ?_
        rintro e w8_ ⟨rfl, Bq⟩
        have Sq : Below w7_.heap.size w7_ w8_ := Bq
        replace HB : Hid (Below w.heap.size w w8_) := HB.out.trans (Sq.mono HB.out.size)
        clear Bq Sq
        rcases HFf.out with f | ⟨rfl, f⟩ | ⟨rfl, rfl, f⟩ | ⟨rfl, rfl, f, g⟩
        · have s1 : (h2 != 0) = true := by simpa using f
          go_wp2
          go_ret
          exact ⟨by simp, HB.out⟩
        · have s1 : (i2 != 0) = true := by simpa using f
          go_wp2
          go_ret
          exact ⟨by simp, HB.out⟩
        · have s1 : decide (r2 < 0) = true := by simpa using f
          go_wp2
          go_ret
          exact ⟨by simp, HB.out⟩
        · have s1 : decide (r2 < 0) = false := by simp; omega
          have s2 : decide (k ≤ k2) = true := by simpa using g
          have s3 : decide (k2 ≥ k) = true := by simpa using g
          go_wp2
          go_ret
          exact ⟨by simp, HB.out⟩
theorem stE_pos : ∀ (os ls : List Nat), stE os ls = 0 → ∀ i o l : Nat, os[i]? = some o → ls[i]? = some l → o ≠ 0 → l ≠ 0
  | [], _, _, i, o, l, h1, _ => by simp at h1
  | _ :: _, [], _, i, o, l, _, h2 => by simp at h2
  | x :: a, y :: b, h, i, o, l, h1, h2 => by
    unfold stE at h
    by_cases hc : x ≠ 0 ∧ y = 0
    · rw [if_pos hc] at h; omega
    · rw [if_neg hc] at h
      cases i with
      | zero =>
        simp only [List.getElem?_cons_zero, Option.some.injEq] at h1 h2
        subst h1; subst h2
        exact fun hx hy => hc ⟨hx, hy⟩
      | succ i =>
        simp only [List.getElem?_cons_succ] at h1 h2
        exact stE_pos a b h i o l h1 h2
theorem huffLeast_law (A : Option Addr) (c : Nat) (xs : List Int) (A2 : Option Addr) (c2 : Nat) (ys : List Int) (w : World) (hb : ∀ x ∈ xs, -9223372036854775808 ≤ x ∧ x ≤ 9223372036854775807) (h : RdV w w.heap.size A (zc xs)) (hs : xs.length ≤ 9223372036854775807) (hb2 : ∀ x ∈ ys, -9223372036854775808 ≤ x ∧ x ≤ 9223372036854775807) (h2 : RdV w w.heap.size A2 (zc ys)) (hs2 : ys.length ≤ 9223372036854775807) :
    Calls Tryz.prog 3 #[.slice A xs.length c, .slice A2 ys.length c2] w fun e w' => e = .returned (.bool true) ∧ Below w.heap.size w w' := by
  have HX : ∀ V, Below w.heap.size w V → Calls Tryz.prog 13 #[.slice A xs.length c] V (GotZ V (hlA xs)) := fun V hV => lengths_any xs _ rfl hs A c V (h.on hV)
  by_cases h0 : (hlA xs).2 = 0
  · obtain ⟨os, rfl, h64, ho, e1, h24⟩ := hlA_zero xs h0
    rw [e1] at HX
    have hC2 : ∀ V, Below w.heap.size w V → Calls Tryz.prog 16 #[.slice A (ns os).length c, .slice A2 ys.length c2] V fun e w' => e = .returned (.tuple #[.int .i64 (coV (ns os) ys), .int .i64 (coE (ns os) ys)]) ∧ Below V.heap.size V w' := fun V hV => cost_any (ns os) ys _ _ rfl rfl hs hs2 A A2 c c2 V (h.on hV) (h2.on hV)
    rw [ns_length] at hs HX hC2 ⊢
    have hll : (hl os).length = os.length := hl_length os
    have HL : Hid (∀ V, Below w.heap.size w V → Calls Tryz.prog 13 #[.slice A os.length c] V (GzM V os.length (hl os) 0)) := fun V hV => (HX V hV).mono fun _ _ q => gzM q hll
    have hC := coE_hl os h64 ho h24
    have hk0 : kchk (ns (hl os)) = 0 := kchk_ok (hl os) (by rw [hll]; exact h64) h24
    have hro : roR (ns (hl os)) = 16777216 - (tkn (hl os) : Int) := by unfold roR; rw [if_pos hk0, ns_nat]
    refine hls_0 A A2 _ _ c c2 w os (hl os) (cn os) (dot os (hl os) : Int) (roR (ns (hl os))) (coV (ns os) ys) (coE (ns os) ys) (roR ys) (kchk ys) rfl h64 ho rfl ?_ ?_ (Lib.hid fun V hV => h.on hV) HL (Lib.hid fun A1 c1 V hV hR => ?_) (Lib.hid fun A1 c1 V hR => ?_) (Lib.hid hC2) (Lib.hid fun V hV => room_any ys _ rfl hs2 A2 c2 V (h2.on hV))
    · rw [hro, ← cn_stand]
      rcases (show 2 ≤ stand os ∨ stand os = 1 ∨ stand os = 0 by omega) with q | q | q
      · have := hl_room2 os q h24
        exact .inl ⟨by omega, by omega⟩
      · have := hl_room1 os q
        exact .inr (.inl ⟨q, by omega⟩)
      · exact .inr (.inr q)
    · rcases coE_cases (ns os) ys with ⟨k1, he⟩ | ⟨k1, k3, he⟩ | ⟨k1, k3, k4, he⟩ | ⟨os', ls, e2, rfl, hl', k64, ko, k24⟩
      · exact .inl (by rw [he]; exact k1)
      · exact .inl (by rw [he]; decide)
      · exact .inl (by rw [he]; exact k4)
      · have : os = os' := by have := congrArg (List.map Int.toNat) e2; rwa [ns_nat, ns_nat] at this
        subst this
        have hq : kchk (ns ls) = 0 := kchk_ok ls k64 k24
        have hr : roR (ns ls) = 16777216 - (tkn ls : Int) := by unfold roR; rw [if_pos hq, ns_nat]
        have hE := coE_ok os ls hl' k64 ko k24
        by_cases hz : stE os ls = 0
        · have hV : coV (ns os) (ns ls) = (dot os ls : Int) := by unfold coV; rw [if_pos (by rw [hE, hz]), ns_nat, ns_nat]
          rw [hE, hz, hq, hr, hV]
          by_cases hp : 16777216 - (tkn ls : Int) < 0
          · exact .inr (.inr (.inl ⟨rfl, rfl, hp⟩))
          · have := least os ls hl' (stE_pos os ls hz) k24 (by omega)
            exact .inr (.inr (.inr ⟨rfl, rfl, by omega, by omega⟩))
        · exact .inl (by rw [hE]; exact hz)
    · have := cost_any (ns os) (ns (hl os)) os.length os.length (ns_length os) (by rw [ns_length, hll]) hs hs A A1 c c1 V (h.on hV) hR
      rwa [hC.1, hC.2] at this
    · have := room_any (ns (hl os)) os.length (by rw [ns_length, hll]) hs A1 c1 V hR
      rwa [hk0] at this
  · rw [hlA_err xs h0] at HX
    exact hls_e A A2 _ _ c c2 w _ h0 (Lib.hid fun V hV => (HX V hV).mono fun _ _ q => gzM q rfl)
end Go.Proofs.YtndiocehkdbjkaaGreat
