/- How the list of one node is read (entry.Read), whoever is asked for the list by which it is told. -/
import Derived.Test.YticdnodlapafoaaGreatPkRd
import Derived.Test.YticdnodlapafoaaGreatPkSr
import Derived.Deep.RegionHeld3
namespace Go.Proofs.YticdnodlapafoaaGreat
set_option maxRecDepth 100000
set_option linter.unusedVariables false
open Go.RowKit Go.Shelf

/-- A list is read, or an error comes back. -/
def EnR (w : World) (r : Option (List Nat × Nat)) (e : Ending) (w' : World) : Prop :=
  match r with
  | some (l, s) => RdF w l s 0 e w'
  | none => ∃ v to er, e = .returned (.tuple #[v, .int .i64 to, .int .i64 er]) ∧ er ≠ 0 ∧ Below w.heap.size w w'
/-- The list that is asked for. -/
def LsP (w : World) (l : List Nat) (e : Ending) (w' : World) : Prop :=
  ∃ A c, e = .returned (.slice A l.length c) ∧ l.length ≤ c ∧ (A = none → c = 0) ∧ RdV w' w'.heap.size A (zc (ns l)) ∧ Below w.heap.size w w'
def LsL (w : World) (n : Nat) (l : List Nat) (e : Ending) (w' : World) : Prop :=
  ∃ A c, e = .returned (.slice A n c) ∧ n ≤ c ∧ (A = none → c = 0) ∧ RdV w' w'.heap.size A (zc (ns l)) ∧ Below w.heap.size w w'
def RdL (w : World) (n : Nat) (l : List Nat) (to er : Int) (e : Ending) (w' : World) : Prop :=
  ∃ A c, e = .returned (.tuple #[.slice A n c, .int .i64 to, .int .i64 er]) ∧ n ≤ c ∧ (A = none → c = 0) ∧ FrV w w' A l ∧ Below w.heap.size w w'
theorem pbox (w : World) (a b c d e f : Value) : ∃ w1, w.alloc (.cells #[a, b, c, d, e, f] 54) = w1 ∧ Below w.heap.size w w1 ∧ w1.heap.size = w.heap.size + 1 ∧ ∀ V, Below w1.heap.size w1 V → V.heap[w.heap.size]? = some (.cells #[a, b, c, d, e, f] 54 (0, 0)) :=
  ⟨_, rfl, one_below _ _, World.size_alloc _ _, fun V hV => (hV.block _ (by rw [World.size_alloc]; omega)).trans (World.alloc_heap_new w _)⟩
set_option maxHeartbeats 4000000 in
theorem entry_e (N B ls k len : Int) (n c : Nat) (A : Option Addr) (s i : Int) (fv : Value) (er : Int) (t0 : (er != 0) = true) (w : World)
    (HRb : Hid (∀ V, Below w.heap.size w V → Calls Tryz.prog 146 #[.agg #[.int .i64 N, .int .i64 B, .int .i64 ls, .int .i64 k, .int .i64 len, .slice A n c], .int .i64 s, .int .i64 i] V fun e w' => ∃ a b : Int, e = .returned (.tuple #[.int .i64 a, .int .i64 b, .int .i64 er]) ∧ Below V.heap.size V w')) :
    Calls Tryz.prog 119 #[.agg #[.int .i64 N, .int .i64 B, .int .i64 ls, .int .i64 k, .int .i64 len, .slice A n c], .int .i64 s, .int .i64 i, fv] w fun e w' => e = .returned (.tuple #[.slice none 0 0, .int .i64 0, .int .i64 er]) ∧ Below w.heap.size w w' := by
  obtain ⟨w1, ew1, hb1, hs1, hk1⟩ := pbox w (.int .i64 N) (.int .i64 B) (.int .i64 ls) (.int .i64 k) (.int .i64 len) (.slice A n c)
  have hb := hk1 w1 (Below.refl _ _)
  have HB1 := Lib.hid hb1
  have c0 := (cell_at hb 0).trans rfl
  simp only [List.getElem?_toArray, List.getElem?_cons_zero] at c0
  obtain ⟨⟨c1, c2, c3⟩, c4, c5⟩ := six_at hb
  clear hb1 hs1 hk1 hb
  go_enter Tryz.func119, Tryz.ntmps119
  go_wp2_with fail
  try rw [ew1]
  refine (HRb.out w1 HB1.out).mono ?_
  rintro e w2 ⟨a, b, rfl, q2⟩
  have HB2 := Lib.hid q2
  clear q2 ew1 c0 c1 c2 c3 c4 c5
  go_wp2
  go_ret3
  exact ⟨rfl, HB1.out.trans (HB2.out.mono HB1.out.size)⟩
set_option maxHeartbeats 8000000 in
theorem entry_0 (N B ls k len : Int) (n c : Nat) (A : Option Addr) (s i : Int) (fv : Value) (s1 : Int) (nl : Nat) (l : List Nat) (to er : Int) (w : World)
    (HRb : Hid (∀ V, Below w.heap.size w V → Calls Tryz.prog 146 #[.agg #[.int .i64 N, .int .i64 B, .int .i64 ls, .int .i64 k, .int .i64 len, .slice A n c], .int .i64 s, .int .i64 i] V fun e w' => e = .returned (.tuple #[.int .i64 0, .int .i64 s1, .int .i64 0]) ∧ Below V.heap.size V w'))
    (HSr : Hid (∀ V, Below w.heap.size w V → Calls Tryz.prog 16 #[.agg #[.int .i64 len, .slice A n c], .int .i64 s1, .int .i64 i, .slice none 0 0, .agg #[.int .i64 0, .int .i64 ls, .int .i64 k]] V (RdL V nl l to er))) :
    Calls Tryz.prog 119 #[.agg #[.int .i64 N, .int .i64 B, .int .i64 ls, .int .i64 k, .int .i64 len, .slice A n c], .int .i64 s, .int .i64 i, fv] w (RdL w nl l to er) := by
  obtain ⟨w1, ew1, hb1, hs1, hk1⟩ := pbox w (.int .i64 N) (.int .i64 B) (.int .i64 ls) (.int .i64 k) (.int .i64 len) (.slice A n c)
  have hb := hk1 w1 (Below.refl _ _)
  have HB1 := Lib.hid hb1
  have HK1 := Lib.hid hk1
  have c0 := (cell_at hb 0).trans rfl
  simp only [List.getElem?_toArray, List.getElem?_cons_zero] at c0
  obtain ⟨⟨c1, c2, c3⟩, c4, c5⟩ := six_at hb
  clear hb1 hs1 hk1 hb
  go_enter Tryz.func119, Tryz.ntmps119
  go_wp2_with fail
  try rw [ew1]
  refine (HRb.out w1 HB1.out).mono ?_
  rintro e w2 ⟨rfl, q2⟩
  have HB2 := Lib.hid q2
  have HKc : Hid (∀ V, Below w2.heap.size w2 V → V.cell? ⟨w.heap.size, 1, none⟩ = some (.int .i64 B) ∧ V.cell? ⟨w.heap.size, 2, none⟩ = some (.int .i64 ls) ∧ V.cell? ⟨w.heap.size, 3, none⟩ = some (.int .i64 k) ∧ V.cell? ⟨w.heap.size, 4, none⟩ = some (.int .i64 len) ∧ V.cell? ⟨w.heap.size, 5, none⟩ = some (.slice A n c)) := fun V hV => by
    obtain ⟨⟨c1, c2, c3⟩, c4, c5⟩ := six_at (HK1.out V (HB2.out.trans (hV.mono HB2.out.size)))
    exact ⟨c1, c2, c3, c4, c5⟩
  have HD : Hid (Below w2.heap.size w2 w2.drew) := (Below.refl _ _).drew
  have HL2 : Hid (Below w.heap.size w w2) := HB1.out.trans (HB2.out.mono HB1.out.size)
  clear q2 ew1 c0 c1 c2 c3 c4 c5
  go_wp2
  go_region_held3 (fun V => V.cell? ⟨w.heap.size, 1, none⟩ = some (.int .i64 B) ∧ V.cell? ⟨w.heap.size, 2, none⟩ = some (.int .i64 ls) ∧ V.cell? ⟨w.heap.size, 3, none⟩ = some (.int .i64 k) ∧ V.cell? ⟨w.heap.size, 4, none⟩ = some (.int .i64 len) ∧ V.cell? ⟨w.heap.size, 5, none⟩ = some (.slice A n c))
    ((refine HKc.out _ ?_; first | exact hk2.out | exact hk1.out | exact HD.out))
    ((first
      | (go_at_call 16; have hx := hk1.out; refine (HSr.out wa (HL2.out.trans (hx.mono HL2.out.size))).mono ?_; rintro e wb ⟨A5, c5, rfl, g1, g2, g3, bq⟩; have hk2 : Hid (Below w2.heap.size w2 wb) := hx.trans (bq.mono hx.size); have g4 : FrV w wb A5 l := ⟨g3.1, fun b o s h => Nat.le_trans (HL2.out.trans (hx.mono HL2.out.size)).size (g3.2 b o s h)⟩; have HR := Lib.hid (And.intro g1 (And.intro g2 g4)); clear bq hx g1 g2 g3 g4)
      | (go_at_call 147; refine (with_any _ _ _ _ _).mono ?_; rintro e wa ⟨rfl, bq⟩; have hk1 : Hid (Below w2.heap.size w2 wa) := HD.out.trans (bq.mono HD.out.size); clear bq)))
  go_wp2
  go_ret3
  exact ⟨_, _, rfl, HR.out.1, HR.out.2.1, HR.out.2.2, HL2.out.trans (hk2.out.mono HL2.out.size)⟩
set_option maxHeartbeats 8000000 in
theorem entry_r (N B ls k len : Int) (n c : Nat) (A : Option Addr) (s : Int) (i r j : Nat) (hj : (i : Int) - (r : Int) = (j : Int)) (hi : i ≤ 1048576) (hr : 0 < r) (g : Nat) (cb : Array Value) (s1 : Int) (nl : Nat) (l : List Nat) (to er : Int) (m : Nat) (F : List Nat) (w : World)
    (eg : ∀ args w, (callFunc g args).run Tryz.prog w = .ok (.enter g args) w)
    (HRb : Hid (∀ V, Below w.heap.size w V → Calls Tryz.prog 146 #[.agg #[.int .i64 N, .int .i64 B, .int .i64 ls, .int .i64 k, .int .i64 len, .slice A n c], .int .i64 s, .int .i64 (i : Int)] V fun e w' => e = .returned (.tuple #[.int .i64 (r : Int), .int .i64 s1, .int .i64 0]) ∧ Below V.heap.size V w'))
    (HLs : Hid (∀ V, Below w.heap.size w V → Calls Tryz.prog g (#[.int .i64 (j : Int)] ++ cb) V (LsL V m F)))
    (HSr : Hid (∀ A2 c2 V, Below w.heap.size w V → m ≤ c2 → (A2 = none → c2 = 0) → RdV V V.heap.size A2 (zc (ns F)) → Calls Tryz.prog 16 #[.agg #[.int .i64 len, .slice A n c], .int .i64 s1, .int .i64 (i : Int), .slice A2 m c2, .agg #[.int .i64 (r : Int), .int .i64 ls, .int .i64 k]] V (RdL V nl l to er))) :
    Calls Tryz.prog 119 #[.agg #[.int .i64 N, .int .i64 B, .int .i64 ls, .int .i64 k, .int .i64 len, .slice A n c], .int .i64 s, .int .i64 (i : Int), .func (.func g) #[] cb] w (RdL w nl l to er) := by
  obtain ⟨w1, ew1, hb1, hs1, hk1⟩ := pbox w (.int .i64 N) (.int .i64 B) (.int .i64 ls) (.int .i64 k) (.int .i64 len) (.slice A n c)
  have hb := hk1 w1 (Below.refl _ _)
  have HB1 := Lib.hid hb1
  have HK1 := Lib.hid hk1
  have c0 := (cell_at hb 0).trans rfl
  simp only [List.getElem?_toArray, List.getElem?_cons_zero] at c0
  obtain ⟨⟨c1, c2, c3⟩, c4, c5⟩ := six_at hb
  have t1 : decide ((0 : Int) < (r : Int)) = true := by simp; omega
  have t2 : decide (0 < r) = true := by simpa using hr
  have t3 : IntKind.i64.wrap (j : Int) = (j : Int) := by rw [IntKind.wrap_i64]; omega
  clear hb1 hs1 hk1 hb
  go_enter Tryz.func119, Tryz.ntmps119
  go_wp2_with fail
  try rw [ew1]
  refine (HRb.out w1 HB1.out).mono ?_
  rintro e w2' ⟨rfl, q2⟩
  have HB2 := Lib.hid q2
  have HL2 : Hid (Below w.heap.size w w2') := HB1.out.trans (HB2.out.mono HB1.out.size)
  clear q2 ew1 c0 c1 c2 c3 c4 c5
  go_wp2_with fail
  refine (HLs.out w2' HL2.out).mono ?_
  rintro e w2 ⟨A2, c2, rfl, g1, g2, g3, q3⟩
  have HG := Lib.hid (And.intro g1 (And.intro g2 g3))
  have HB3 : Hid (Below w1.heap.size w1 w2) := HB2.out.trans (q3.mono HB2.out.size)
  have HKc : Hid (∀ V, Below w2.heap.size w2 V → V.cell? ⟨w.heap.size, 1, none⟩ = some (.int .i64 B) ∧ V.cell? ⟨w.heap.size, 2, none⟩ = some (.int .i64 ls) ∧ V.cell? ⟨w.heap.size, 3, none⟩ = some (.int .i64 k) ∧ V.cell? ⟨w.heap.size, 4, none⟩ = some (.int .i64 len) ∧ V.cell? ⟨w.heap.size, 5, none⟩ = some (.slice A n c)) := fun V hV => by
    obtain ⟨⟨c1, c2, c3⟩, c4, c5⟩ := six_at (HK1.out V (HB3.out.trans (hV.mono HB3.out.size)))
    exact ⟨c1, c2, c3, c4, c5⟩
  have HD : Hid (Below w2.heap.size w2 w2.drew) := (Below.refl _ _).drew
  have HL3 : Hid (Below w.heap.size w w2) := HB1.out.trans (HB3.out.mono HB1.out.size)
  clear q3 g1 g2 g3 t1 t2 t3 hj
  go_wp2
  go_region_held3 (fun V => V.cell? ⟨w.heap.size, 1, none⟩ = some (.int .i64 B) ∧ V.cell? ⟨w.heap.size, 2, none⟩ = some (.int .i64 ls) ∧ V.cell? ⟨w.heap.size, 3, none⟩ = some (.int .i64 k) ∧ V.cell? ⟨w.heap.size, 4, none⟩ = some (.int .i64 len) ∧ V.cell? ⟨w.heap.size, 5, none⟩ = some (.slice A n c))
    ((refine HKc.out _ ?_; first | exact hk2.out | exact hk1.out | exact HD.out))
    ((first
      | (go_at_call 16; have hx := hk1.out; refine (HSr.out A2 c2 wa (HL3.out.trans (hx.mono HL3.out.size)) HG.out.1 HG.out.2.1 (HG.out.2.2.on hx)).mono ?_; rintro e wb ⟨A5, c5, rfl, g1, g2, g3, bq⟩; have hk2 : Hid (Below w2.heap.size w2 wb) := hx.trans (bq.mono hx.size); have g4 : FrV w wb A5 l := ⟨g3.1, fun b o s h => Nat.le_trans (HL3.out.trans (hx.mono HL3.out.size)).size (g3.2 b o s h)⟩; have HR := Lib.hid (And.intro g1 (And.intro g2 g4)); clear bq hx g1 g2 g3 g4)
      | (go_at_call 147; refine (with_any _ _ _ _ _).mono ?_; rintro e wa ⟨rfl, bq⟩; have hk1 : Hid (Below w2.heap.size w2 wa) := HD.out.trans (bq.mono HD.out.size); clear bq)))
  go_wp2
  go_ret3
  exact ⟨_, _, rfl, HR.out.1, HR.out.2.1, HR.out.2.2, HL3.out.trans (hk2.out.mono HL3.out.size)⟩
theorem srd_ok (L : List Bool) (hL : L.length ≤ 8192) (A : Option Addr) (c : Nat) (s i r ls k : Nat) (hs : s ≤ L.length) (hi : i ≤ 1048576) (hr : r ≤ 7) (hls : ls = 0 ∨ 2 ≤ ls ∧ ls ≤ 300) (hk : 1 ≤ k) (hk2 : k ≤ 16) (F : List Nat) (hF : r ≠ 0 → Rising F) (hF2 : F.length ≤ 300) (A2 : Option Addr) (c2 : Nat) (hc : F.length ≤ c2) (hA2 : A2 = none → c2 = 0) (w : World) (h1 : Rd w w.heap.size A (pack L)) (h2 : RdV w w.heap.size A2 (zc (ns F))) :
    Calls Tryz.prog 16 #[.agg #[.int .i64 (L.length : Int), .slice A (pack L).length c], .int .i64 (s : Int), .int .i64 (i : Int), .slice A2 F.length c2, .agg #[.int .i64 (r : Int), .int .i64 (ls : Int), .int .i64 (k : Int)]] w (RdL w (sread L i r ls k F s).1.length (sread L i r ls k F s).1 ((sread L i r ls k F s).2.1 : Int) (sread L i r ls k F s).2.2) := by
  have h := sread_allF (L.length : Int) A c (pack L) (pack_lt L) (s : Int) (i : Int) (ns F) F.length (ns_length F) (by omega) A2 c2 hA2 hc (r : Int) (ls : Int) (k : Int) w h1 h2
  have e : srE (L.length : Int) (pack L) (s : Int) (i : Int) (ns F) (r : Int) (ls : Int) (k : Int) = 0 := by
    unfold srE
    rw [hck_ok r ls k hr hls hk hk2, chk_pack L hL, okN_nat i hi, decide_eq_true (show (0 : Int) ≤ (s : Int) by omega), decide_eq_true (show (s : Int) ≤ (L.length : Int) by omega)]
    have q : rgE 0 [true, true, true] = 0 := by decide
    rw [q, if_neg (by simp), if_neg (by simp)]
    by_cases h0 : (r : Int) = 0
    · rw [if_pos h0]
    · rw [if_neg h0]; exact rchk_ok F (hF (by omega))
  have e2 : srX (L.length : Int) (pack L) (s : Int) (i : Int) (ns F) (r : Int) (ls : Int) (k : Int) = sread L i r ls k F s := by
    unfold srX
    rw [e, if_neg (by simp)]
    simp only [Int.toNat_natCast, unpack_pack, tn_ns]
  rw [e2] at h
  exact h
theorem enr_of {w w' : World} {e : Ending} {L : List Bool} {a r ls k s : Nat} {F : List Nat} (h : RdL w (sread L a r ls k F s).1.length (sread L a r ls k F s).1 ((sread L a r ls k F s).2.1 : Int) (sread L a r ls k F s).2.2 e w') :
    EnR w (if (sread L a r ls k F s).2.2 = 0 then some ((sread L a r ls k F s).1, (sread L a r ls k F s).2.1) else none) e w' := by
  obtain ⟨A, c, he, h1, h2, h3, h4⟩ := h
  by_cases h0 : (sread L a r ls k F s).2.2 = 0
  · rw [if_pos h0]
    rw [h0] at he
    exact ⟨A, c, he, h1, h2, h3, h4⟩
  · rw [if_neg h0]
    exact ⟨_, _, _, he, h0, h4⟩
theorem entry_ok (N : Int) (B ls k : Nat) (hB : B ≤ 7) (hls : ls = 0 ∨ 2 ≤ ls ∧ ls ≤ 300) (hk : 1 ≤ k) (hk2 : k ≤ 16) (L : List Bool) (hL : L.length ≤ 8192) (A : Option Addr) (c s i : Nat) (hs : s ≤ L.length) (hi : i ≤ 1048576) (G : List (List Nat)) (hG : RowsR G) (g : Nat) (cb : Array Value) (w : World) (h : Rd w w.heap.size A (pack L))
    (eg : ∀ args w, (callFunc g args).run Tryz.prog w = .ok (.enter g args) w)
    (HLs : Hid (∀ V j, j < i → Below w.heap.size w V → Calls Tryz.prog g (#[.int .i64 (j : Int)] ++ cb) V (LsL V (row G j).length (row G j)))) :
    Calls Tryz.prog 119 #[.agg #[.int .i64 N, .int .i64 (B : Int), .int .i64 (ls : Int), .int .i64 (k : Int), .int .i64 (L.length : Int), .slice A (pack L).length c], .int .i64 (s : Int), .int .i64 (i : Int), .func (.func g) #[] cb] w (EnR w (rdN L B ls k G i s)) := by
  have hRb := fun V (hV : Below w.heap.size w V) => rb_ok N (ls : Int) (k : Int) B hB L hL c A s i hs V (h.on hV)
  unfold rdN
  by_cases h0 : B = 0
  · rw [if_pos h0]
    have e1 : rbV L B i s = (0, s, 0) := by unfold rbV; rw [if_pos h0]
    rw [e1] at hRb
    refine (entry_0 N (B : Int) (ls : Int) (k : Int) (L.length : Int) (pack L).length c A (s : Int) (i : Int) _ (s : Int) _ _ _ _ w (Lib.hid fun V hV => hRb V hV) (Lib.hid fun V hV => srd_ok L hL A c s i 0 ls k hs hi (by omega) hls hk hk2 [] (fun q => absurd rfl q) (by simp) none 0 (by simp) (fun _ => rfl) V (h.on hV) (.inl rfl))).mono fun e w' q => enr_of q
  · rw [if_neg h0]
    have hb := thenR_bound L (uR L s)
    by_cases h1 : (gamR L s).2.2 = 0 ∧ (gamR L s).1 ≤ min B i
    · rw [if_pos h1]
      have e1 : rbV L B i s = ((gamR L s).1, (gamR L s).2.1, 0) := by unfold rbV; rw [if_neg h0, if_pos h1]
      rw [e1] at hRb
      have hto : (gamR L s).2.1 ≤ L.length := hb.1
      obtain ⟨r, hr⟩ : ∃ r, (gamR L s).1 = r := ⟨_, rfl⟩
      have hr7 : r ≤ min B i := by rw [← hr]; exact h1.2
      rw [hr] at hRb ⊢
      by_cases h2 : r = 0
      · subst h2
        refine (entry_0 N (B : Int) (ls : Int) (k : Int) (L.length : Int) (pack L).length c A (s : Int) (i : Int) _ ((gamR L s).2.1 : Int) _ _ _ _ w (Lib.hid fun V hV => hRb V hV) (Lib.hid fun V hV => srd_ok L hL A c _ i 0 ls k hto hi (by omega) hls hk hk2 [] (fun q => absurd rfl q) (by simp) none 0 (by simp) (fun _ => rfl) V (h.on hV) (.inl rfl))).mono fun e w' q => enr_of q
      · have hF : ndF G i r = row G (i - r) := by unfold ndF; rw [if_neg h2]
        have hR := row_rising hG (i - r)
        rw [hF]
        refine (entry_r N (B : Int) (ls : Int) (k : Int) (L.length : Int) (pack L).length c A (s : Int) i r (i - r) (by omega) hi (by omega) g cb ((gamR L s).2.1 : Int) _ _ _ _ _ _ w eg (Lib.hid fun V hV => hRb V hV) (Lib.hid fun V hV => HLs.out V (i - r) (by omega) hV) (Lib.hid fun A2 c2 V hV q1 q2 q3 => srd_ok L hL A c _ i r ls k hto hi (by omega) hls hk hk2 _ (fun _ => hR) hR.1 A2 c2 q1 q2 V (h.on hV) q3)).mono fun e w' q => enr_of q
    · rw [if_neg h1]
      have e1 : (rbV L B i s).2.2 ≠ 0 := by
        unfold rbV
        rw [if_neg h0, if_neg h1]
        show ¬ (if (gamR L s).2.2 = 0 then (3 : Int) else (gamR L s).2.2) = 0
        split <;> omega
      refine (entry_e N (B : Int) (ls : Int) (k : Int) (L.length : Int) (pack L).length c A (s : Int) (i : Int) _ (rbV L B i s).2.2 (by simpa using e1) w (Lib.hid fun V hV => (hRb V hV).mono fun e w' q => ⟨_, _, q.1, q.2⟩)).mono fun e w' q => ⟨_, _, _, q.1, e1, q.2⟩
end Go.Proofs.YticdnodlapafoaaGreat
