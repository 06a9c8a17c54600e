/- Texts of this proof, one behind the other; each fact names its conditions. -/
import Derived.Test.YtbddcokjkdoaaaaGreatSN23
import Derived.Test.YtbddcokjkdoaaaaGreatSN19
import Derived.Deep.RegionHeld3
import Derived.Deep.RegionLaw
import Derived.Test.YtbddcokjkdoaaaaGreatSN17
import Derived.Test.YtbddcokjkdoaaaaGreatSN1
namespace Go.Proofs.YtbddcokjkdoaaaaGreat
section
set_option maxRecDepth 100000
set_option linter.unusedVariables false
open Go.RowKit Go.Shelf
def EnR (w : World) (r : Option (List Nat × Nat)) (e : Ending) (w' : World) : Prop :=
  match r with
  | some (l, s) => RdF w l s 0 e w'
  | none => ∃ v to er, e = .returned (.tuple #[v, .int .i64 to, .int .i64 er]) ∧ er ≠ 0 ∧ Below w.heap.size w w'
def LsL (w : World) (n : Nat) (l : List Nat) (e : Ending) (w' : World) : Prop :=
  ∃ A c, e = .returned (.slice A n c) ∧ n ≤ c ∧ (A = none → c = 0) ∧ RdV w' w'.heap.size A (zc (ns l)) ∧ Below w.heap.size w w'
def RdL (w : World) (n : Nat) (l : List Nat) (to er : Int) (e : Ending) (w' : World) : Prop :=
  ∃ A c, e = .returned (.tuple #[.slice A n c, .int .i64 to, .int .i64 er]) ∧ n ≤ c ∧ (A = none → c = 0) ∧ FrV w w' A l ∧ Below w.heap.size w w'
theorem pbox (w : World) (a b c d e f : Value) : ∃ w1, w.alloc (.cells #[a, b, c, d, e, f] 44) = w1 ∧ Below w.heap.size w w1 ∧ w1.heap.size = w.heap.size + 1 ∧ ∀ V, Below w1.heap.size w1 V → V.heap[w.heap.size]? = some (.cells #[a, b, c, d, e, f] 44 (0, 0)) :=
  ⟨_, rfl, one_below _ _, World.size_alloc _ _, fun V hV => (hV.block _ (by rw [World.size_alloc]; omega)).trans (World.alloc_heap_new w _)⟩
set_option maxHeartbeats 4000000 in
theorem entry_e (N B ls k len : Int) (n c : Nat) (A : Option Addr) (s i : Int) (fv : Value) (er : Int) (t0 : (er != 0) = true) (w : World)
    (HRb : Hid (∀ V, Below w.heap.size w V → Calls Tryz.prog 166 #[.agg #[.int .i64 N, .int .i64 B, .int .i64 ls, .int .i64 k, .int .i64 len, .slice A n c], .int .i64 s, .int .i64 i] V fun e w' => ∃ a b : Int, e = .returned (.tuple #[.int .i64 a, .int .i64 b, .int .i64 er]) ∧ Below V.heap.size V w')) :
    Calls Tryz.prog 123 #[.agg #[.int .i64 N, .int .i64 B, .int .i64 ls, .int .i64 k, .int .i64 len, .slice A n c], .int .i64 s, .int .i64 i, fv] w fun e w' => e = .returned (.tuple #[.slice none 0 0, .int .i64 0, .int .i64 er]) ∧ Below w.heap.size w w' := by
  obtain ⟨w1, ew1, hb1, hs1, hk1⟩ := pbox w (.int .i64 N) (.int .i64 B) (.int .i64 ls) (.int .i64 k) (.int .i64 len) (.slice A n c)
  have hb := hk1 w1 (Below.refl _ _)
  have HB1 := Lib.hid hb1
  have c0 := (cell_at hb 0).trans rfl
  simp only [List.getElem?_toArray, List.getElem?_cons_zero] at c0
  obtain ⟨⟨c1, c2, c3⟩, c4, c5⟩ := six_at hb
  clear hb1 hs1 hk1 hb
  go_enter Tryz.func123, Tryz.ntmps123
  go_wp2_with fail
  try rw [ew1]
  refine (HRb.out w1 HB1.out).mono ?_
  rintro e w2 ⟨a, b, rfl, q2⟩
  have HB2 := Lib.hid q2
  clear q2 ew1 c0 c1 c2 c3 c4 c5
  go_wp2
  go_ret3
  exact ⟨rfl, HB1.out.trans (HB2.out.mono HB1.out.size)⟩
set_option maxHeartbeats 8000000 in
theorem entry_0 (N B ls k len : Int) (n c : Nat) (A : Option Addr) (s i : Int) (fv : Value) (s1 : Int) (nl : Nat) (l : List Nat) (to er : Int) (w : World)
    (HRb : Hid (∀ V, Below w.heap.size w V → Calls Tryz.prog 166 #[.agg #[.int .i64 N, .int .i64 B, .int .i64 ls, .int .i64 k, .int .i64 len, .slice A n c], .int .i64 s, .int .i64 i] V fun e w' => e = .returned (.tuple #[.int .i64 0, .int .i64 s1, .int .i64 0]) ∧ Below V.heap.size V w'))
    (HSr : Hid (∀ V, Below w.heap.size w V → Calls Tryz.prog 14 #[.agg #[.int .i64 len, .slice A n c], .int .i64 s1, .int .i64 i, .slice none 0 0, .agg #[.int .i64 0, .int .i64 ls, .int .i64 k]] V (RdL V nl l to er))) :
    Calls Tryz.prog 123 #[.agg #[.int .i64 N, .int .i64 B, .int .i64 ls, .int .i64 k, .int .i64 len, .slice A n c], .int .i64 s, .int .i64 i, fv] w (RdL w nl l to er) := by
  obtain ⟨w1, ew1, hb1, hs1, hk1⟩ := pbox w (.int .i64 N) (.int .i64 B) (.int .i64 ls) (.int .i64 k) (.int .i64 len) (.slice A n c)
  have hb := hk1 w1 (Below.refl _ _)
  have HB1 := Lib.hid hb1
  have HK1 := Lib.hid hk1
  have c0 := (cell_at hb 0).trans rfl
  simp only [List.getElem?_toArray, List.getElem?_cons_zero] at c0
  obtain ⟨⟨c1, c2, c3⟩, c4, c5⟩ := six_at hb
  clear hb1 hs1 hk1 hb
  go_enter Tryz.func123, Tryz.ntmps123
  go_wp2_with fail
  try rw [ew1]
  refine (HRb.out w1 HB1.out).mono ?_
  rintro e w2 ⟨rfl, q2⟩
  have HB2 := Lib.hid q2
  have HKc : Hid (∀ V, Below w2.heap.size w2 V → V.cell? ⟨w.heap.size, 1, none⟩ = some (.int .i64 B) ∧ V.cell? ⟨w.heap.size, 2, none⟩ = some (.int .i64 ls) ∧ V.cell? ⟨w.heap.size, 3, none⟩ = some (.int .i64 k) ∧ V.cell? ⟨w.heap.size, 4, none⟩ = some (.int .i64 len) ∧ V.cell? ⟨w.heap.size, 5, none⟩ = some (.slice A n c)) := fun V hV => by
    obtain ⟨⟨c1, c2, c3⟩, c4, c5⟩ := six_at (HK1.out V (HB2.out.trans (hV.mono HB2.out.size)))
    exact ⟨c1, c2, c3, c4, c5⟩
  have HD : Hid (Below w2.heap.size w2 w2.drew) := (Below.refl _ _).drew
  have HL2 : Hid (Below w.heap.size w w2) := HB1.out.trans (HB2.out.mono HB1.out.size)
  clear q2 ew1 c0 c1 c2 c3 c4 c5
  go_wp2
  go_region_held3 (fun V => V.cell? ⟨w.heap.size, 1, none⟩ = some (.int .i64 B) ∧ V.cell? ⟨w.heap.size, 2, none⟩ = some (.int .i64 ls) ∧ V.cell? ⟨w.heap.size, 3, none⟩ = some (.int .i64 k) ∧ V.cell? ⟨w.heap.size, 4, none⟩ = some (.int .i64 len) ∧ V.cell? ⟨w.heap.size, 5, none⟩ = some (.slice A n c))
    ((refine HKc.out _ ?_; first | exact hk2.out | exact hk1.out | exact HD.out))
    ((first
      | (go_at_call 14; have hx := hk1.out; refine (HSr.out wa (HL2.out.trans (hx.mono HL2.out.size))).mono ?_; rintro e wb ⟨A5, c5, rfl, g1, g2, g3, bq⟩; have hk2 : Hid (Below w2.heap.size w2 wb) := hx.trans (bq.mono hx.size); have g4 : FrV w wb A5 l := ⟨g3.1, fun b o s h => Nat.le_trans (HL2.out.trans (hx.mono HL2.out.size)).size (g3.2 b o s h)⟩; have HR := Lib.hid (And.intro g1 (And.intro g2 g4)); clear bq hx g1 g2 g3 g4)
      | (go_at_call 167; refine (with_any _ _ _ _ _).mono ?_; rintro e wa ⟨rfl, bq⟩; have hk1 : Hid (Below w2.heap.size w2 wa) := HD.out.trans (bq.mono HD.out.size); clear bq)))
  go_wp2
  go_ret3
  exact ⟨_, _, rfl, HR.out.1, HR.out.2.1, HR.out.2.2, HL2.out.trans (hk2.out.mono HL2.out.size)⟩
set_option maxHeartbeats 8000000 in
theorem entry_r (N B ls k len : Int) (n c : Nat) (A : Option Addr) (s : Int) (i r j : Nat) (hj : (i : Int) - (r : Int) = (j : Int)) (hi : i ≤ 1048576) (hr : 0 < r) (g : Nat) (cb : Array Value) (s1 : Int) (nl : Nat) (l : List Nat) (to er : Int) (m : Nat) (F : List Nat) (w : World)
    (eg : ∀ args w, (callFunc g args).run Tryz.prog w = .ok (.enter g args) w)
    (HRb : Hid (∀ V, Below w.heap.size w V → Calls Tryz.prog 166 #[.agg #[.int .i64 N, .int .i64 B, .int .i64 ls, .int .i64 k, .int .i64 len, .slice A n c], .int .i64 s, .int .i64 (i : Int)] V fun e w' => e = .returned (.tuple #[.int .i64 (r : Int), .int .i64 s1, .int .i64 0]) ∧ Below V.heap.size V w'))
    (HLs : Hid (∀ V, Below w.heap.size w V → Calls Tryz.prog g (#[.int .i64 (j : Int)] ++ cb) V (LsL V m F)))
    (HSr : Hid (∀ A2 c2 V, Below w.heap.size w V → m ≤ c2 → (A2 = none → c2 = 0) → RdV V V.heap.size A2 (zc (ns F)) → Calls Tryz.prog 14 #[.agg #[.int .i64 len, .slice A n c], .int .i64 s1, .int .i64 (i : Int), .slice A2 m c2, .agg #[.int .i64 (r : Int), .int .i64 ls, .int .i64 k]] V (RdL V nl l to er))) :
    Calls Tryz.prog 123 #[.agg #[.int .i64 N, .int .i64 B, .int .i64 ls, .int .i64 k, .int .i64 len, .slice A n c], .int .i64 s, .int .i64 (i : Int), .func (.func g) #[] cb] w (RdL w nl l to er) := by
  obtain ⟨w1, ew1, hb1, hs1, hk1⟩ := pbox w (.int .i64 N) (.int .i64 B) (.int .i64 ls) (.int .i64 k) (.int .i64 len) (.slice A n c)
  have hb := hk1 w1 (Below.refl _ _)
  have HB1 := Lib.hid hb1
  have HK1 := Lib.hid hk1
  have c0 := (cell_at hb 0).trans rfl
  simp only [List.getElem?_toArray, List.getElem?_cons_zero] at c0
  obtain ⟨⟨c1, c2, c3⟩, c4, c5⟩ := six_at hb
  have t1 : decide ((0 : Int) < (r : Int)) = true := by simp; omega
  have t2 : decide (0 < r) = true := by simpa using hr
  have t3 : IntKind.i64.wrap (j : Int) = (j : Int) := by rw [IntKind.wrap_i64]; omega
  clear hb1 hs1 hk1 hb
  go_enter Tryz.func123, Tryz.ntmps123
  go_wp2_with fail
  try rw [ew1]
  refine (HRb.out w1 HB1.out).mono ?_
  rintro e w2' ⟨rfl, q2⟩
  have HB2 := Lib.hid q2
  have HL2 : Hid (Below w.heap.size w w2') := HB1.out.trans (HB2.out.mono HB1.out.size)
  clear q2 ew1 c0 c1 c2 c3 c4 c5
  go_wp2_with fail
  refine (HLs.out w2' HL2.out).mono ?_
  rintro e w2 ⟨A2, c2, rfl, g1, g2, g3, q3⟩
  have HG := Lib.hid (And.intro g1 (And.intro g2 g3))
  have HB3 : Hid (Below w1.heap.size w1 w2) := HB2.out.trans (q3.mono HB2.out.size)
  have HKc : Hid (∀ V, Below w2.heap.size w2 V → V.cell? ⟨w.heap.size, 1, none⟩ = some (.int .i64 B) ∧ V.cell? ⟨w.heap.size, 2, none⟩ = some (.int .i64 ls) ∧ V.cell? ⟨w.heap.size, 3, none⟩ = some (.int .i64 k) ∧ V.cell? ⟨w.heap.size, 4, none⟩ = some (.int .i64 len) ∧ V.cell? ⟨w.heap.size, 5, none⟩ = some (.slice A n c)) := fun V hV => by
    obtain ⟨⟨c1, c2, c3⟩, c4, c5⟩ := six_at (HK1.out V (HB3.out.trans (hV.mono HB3.out.size)))
    exact ⟨c1, c2, c3, c4, c5⟩
  have HD : Hid (Below w2.heap.size w2 w2.drew) := (Below.refl _ _).drew
  have HL3 : Hid (Below w.heap.size w w2) := HB1.out.trans (HB3.out.mono HB1.out.size)
  clear q3 g1 g2 g3 t1 t2 t3 hj
  go_wp2
  go_region_held3 (fun V => V.cell? ⟨w.heap.size, 1, none⟩ = some (.int .i64 B) ∧ V.cell? ⟨w.heap.size, 2, none⟩ = some (.int .i64 ls) ∧ V.cell? ⟨w.heap.size, 3, none⟩ = some (.int .i64 k) ∧ V.cell? ⟨w.heap.size, 4, none⟩ = some (.int .i64 len) ∧ V.cell? ⟨w.heap.size, 5, none⟩ = some (.slice A n c))
    ((refine HKc.out _ ?_; first | exact hk2.out | exact hk1.out | exact HD.out))
    ((first
      | (go_at_call 14; have hx := hk1.out; refine (HSr.out A2 c2 wa (HL3.out.trans (hx.mono HL3.out.size)) HG.out.1 HG.out.2.1 (HG.out.2.2.on hx)).mono ?_; rintro e wb ⟨A5, c5, rfl, g1, g2, g3, bq⟩; have hk2 : Hid (Below w2.heap.size w2 wb) := hx.trans (bq.mono hx.size); have g4 : FrV w wb A5 l := ⟨g3.1, fun b o s h => Nat.le_trans (HL3.out.trans (hx.mono HL3.out.size)).size (g3.2 b o s h)⟩; have HR := Lib.hid (And.intro g1 (And.intro g2 g4)); clear bq hx g1 g2 g3 g4)
      | (go_at_call 167; refine (with_any _ _ _ _ _).mono ?_; rintro e wa ⟨rfl, bq⟩; have hk1 : Hid (Below w2.heap.size w2 wa) := HD.out.trans (bq.mono HD.out.size); clear bq)))
  go_wp2
  go_ret3
  exact ⟨_, _, rfl, HR.out.1, HR.out.2.1, HR.out.2.2, HL3.out.trans (hk2.out.mono HL3.out.size)⟩
theorem srd_ok (L : List Bool) (hL : L.length ≤ 8192) (A : Option Addr) (c : Nat) (s i r ls k : Nat) (hs : s ≤ L.length) (hi : i ≤ 1048576) (hr : r ≤ 7) (hls : ls = 0 ∨ 2 ≤ ls ∧ ls ≤ 300) (hk : 1 ≤ k) (hk2 : k ≤ 16) (F : List Nat) (hF : r ≠ 0 → Rising F) (hF2 : F.length ≤ 300) (A2 : Option Addr) (c2 : Nat) (hc : F.length ≤ c2) (hA2 : A2 = none → c2 = 0) (w : World) (h1 : Rd w w.heap.size A (pack L)) (h2 : RdV w w.heap.size A2 (zc (ns F))) :
    Calls Tryz.prog 14 #[.agg #[.int .i64 (L.length : Int), .slice A (pack L).length c], .int .i64 (s : Int), .int .i64 (i : Int), .slice A2 F.length c2, .agg #[.int .i64 (r : Int), .int .i64 (ls : Int), .int .i64 (k : Int)]] w (RdL w (sread L i r ls k F s).1.length (sread L i r ls k F s).1 ((sread L i r ls k F s).2.1 : Int) (sread L i r ls k F s).2.2) := by
  have h := sread_allF (L.length : Int) A c (pack L) (pack_lt L) (s : Int) (i : Int) (ns F) F.length (ns_length F) (by omega) A2 c2 hA2 hc (r : Int) (ls : Int) (k : Int) w h1 h2
  have e : srE (L.length : Int) (pack L) (s : Int) (i : Int) (ns F) (r : Int) (ls : Int) (k : Int) = 0 := by
    unfold srE
    rw [hck_ok r ls k hr hls hk hk2, chk_pack L hL, okN_nat i hi, decide_eq_true (show (0 : Int) ≤ (s : Int) by omega), decide_eq_true (show (s : Int) ≤ (L.length : Int) by omega)]
    have q : rgE 0 [true, true, true] = 0 := by decide
    rw [q, if_neg (by simp), if_neg (by simp)]
    by_cases h0 : (r : Int) = 0
    · rw [if_pos h0]
    · rw [if_neg h0]; exact rchk_ok F (hF (by omega))
  have e2 : srX (L.length : Int) (pack L) (s : Int) (i : Int) (ns F) (r : Int) (ls : Int) (k : Int) = sread L i r ls k F s := by
    unfold srX
    rw [e, if_neg (by simp)]
    simp only [Int.toNat_natCast, unpack_pack, tn_ns]
  rw [e2] at h
  exact h
theorem enr_of {w w' : World} {e : Ending} {L : List Bool} {a r ls k s : Nat} {F : List Nat} (h : RdL w (sread L a r ls k F s).1.length (sread L a r ls k F s).1 ((sread L a r ls k F s).2.1 : Int) (sread L a r ls k F s).2.2 e w') :
    EnR w (if (sread L a r ls k F s).2.2 = 0 then some ((sread L a r ls k F s).1, (sread L a r ls k F s).2.1) else none) e w' := by
  obtain ⟨A, c, he, h1, h2, h3, h4⟩ := h
  by_cases h0 : (sread L a r ls k F s).2.2 = 0
  · rw [if_pos h0]
    rw [h0] at he
    exact ⟨A, c, he, h1, h2, h3, h4⟩
  · rw [if_neg h0]
    exact ⟨_, _, _, he, h0, h4⟩
theorem entry_ok (N : Int) (B ls k : Nat) (hB : B ≤ 7) (hls : ls = 0 ∨ 2 ≤ ls ∧ ls ≤ 300) (hk : 1 ≤ k) (hk2 : k ≤ 16) (L : List Bool) (hL : L.length ≤ 8192) (A : Option Addr) (c s i : Nat) (hs : s ≤ L.length) (hi : i ≤ 1048576) (G : List (List Nat)) (hG : RowsR G) (g : Nat) (cb : Array Value) (w : World) (h : Rd w w.heap.size A (pack L))
    (eg : ∀ args w, (callFunc g args).run Tryz.prog w = .ok (.enter g args) w)
    (HLs : Hid (∀ V j, j < i → Below w.heap.size w V → Calls Tryz.prog g (#[.int .i64 (j : Int)] ++ cb) V (LsL V (row G j).length (row G j)))) :
    Calls Tryz.prog 123 #[.agg #[.int .i64 N, .int .i64 (B : Int), .int .i64 (ls : Int), .int .i64 (k : Int), .int .i64 (L.length : Int), .slice A (pack L).length c], .int .i64 (s : Int), .int .i64 (i : Int), .func (.func g) #[] cb] w (EnR w (rdN L B ls k G i s)) := by
  have hRb := fun V (hV : Below w.heap.size w V) => rb_ok N (ls : Int) (k : Int) B hB L hL c A s i hs V (h.on hV)
  unfold rdN
  by_cases h0 : B = 0
  · rw [if_pos h0]
    have e1 : rbV L B i s = (0, s, 0) := by unfold rbV; rw [if_pos h0]
    rw [e1] at hRb
    refine (entry_0 N (B : Int) (ls : Int) (k : Int) (L.length : Int) (pack L).length c A (s : Int) (i : Int) _ (s : Int) _ _ _ _ w (Lib.hid fun V hV => hRb V hV) (Lib.hid fun V hV => srd_ok L hL A c s i 0 ls k hs hi (by omega) hls hk hk2 [] (fun q => absurd rfl q) (by simp) none 0 (by simp) (fun _ => rfl) V (h.on hV) (.inl rfl))).mono fun e w' q => enr_of q
  · rw [if_neg h0]
    have hb := thenR_bound L (uR L s)
    by_cases h1 : (gamR L s).2.2 = 0 ∧ (gamR L s).1 ≤ min B i
    · rw [if_pos h1]
      have e1 : rbV L B i s = ((gamR L s).1, (gamR L s).2.1, 0) := by unfold rbV; rw [if_neg h0, if_pos h1]
      rw [e1] at hRb
      have hto : (gamR L s).2.1 ≤ L.length := hb.1
      obtain ⟨r, hr⟩ : ∃ r, (gamR L s).1 = r := ⟨_, rfl⟩
      have hr7 : r ≤ min B i := by rw [← hr]; exact h1.2
      rw [hr] at hRb ⊢
      by_cases h2 : r = 0
      · subst h2
        refine (entry_0 N (B : Int) (ls : Int) (k : Int) (L.length : Int) (pack L).length c A (s : Int) (i : Int) _ ((gamR L s).2.1 : Int) _ _ _ _ w (Lib.hid fun V hV => hRb V hV) (Lib.hid fun V hV => srd_ok L hL A c _ i 0 ls k hto hi (by omega) hls hk hk2 [] (fun q => absurd rfl q) (by simp) none 0 (by simp) (fun _ => rfl) V (h.on hV) (.inl rfl))).mono fun e w' q => enr_of q
      · have hF : ndF G i r = row G (i - r) := by unfold ndF; rw [if_neg h2]
        have hR := row_rising hG (i - r)
        rw [hF]
        refine (entry_r N (B : Int) (ls : Int) (k : Int) (L.length : Int) (pack L).length c A (s : Int) i r (i - r) (by omega) hi (by omega) g cb ((gamR L s).2.1 : Int) _ _ _ _ _ _ w eg (Lib.hid fun V hV => hRb V hV) (Lib.hid fun V hV => HLs.out V (i - r) (by omega) hV) (Lib.hid fun A2 c2 V hV q1 q2 q3 => srd_ok L hL A c _ i r ls k hto hi (by omega) hls hk hk2 _ (fun _ => hR) hR.1 A2 c2 q1 q2 V (h.on hV) q3)).mono fun e w' q => enr_of q
    · rw [if_neg h1]
      have e1 : (rbV L B i s).2.2 ≠ 0 := by
        unfold rbV
        rw [if_neg h0, if_neg h1]
        show ¬ (if (gamR L s).2.2 = 0 then (3 : Int) else (gamR L s).2.2) = 0
        split <;> omega
      refine (entry_e N (B : Int) (ls : Int) (k : Int) (L.length : Int) (pack L).length c A (s : Int) (i : Int) _ (rbV L B i s).2.2 (by simpa using e1) w (Lib.hid fun V hV => (hRb V hV).mono fun e w' q => ⟨_, _, q.1, q.2⟩)).mono fun e w' q => ⟨_, _, _, q.1, e1, q.2⟩
end
section
set_option maxRecDepth 100000
set_option linter.unusedVariables false
open Go.RowKit Go.Shelf
theorem take_room {L x : List Bool} {s n : Nat} (hs : s ≤ L.length) (hx : x.length = n) (h : (L.drop s).take n = x) : s + n ≤ L.length := by
  have := congrArg List.length h
  rw [List.length_take, List.length_drop, hx] at this
  omega
theorem sread_inv {L : List Bool} {a bk ls k : Nat} (ha : a ≤ 1048576) (hk : 1 ≤ k) {F : List Nat} (hF : bk ≠ 0 → Rising F) {s : Nat} (hs : s ≤ L.length) {l : List Nat} {s' : Nat}
    (h : (if (sread L a bk ls k F s).2.2 = 0 then some ((sread L a bk ls k F s).1, (sread L a bk ls k F s).2.1) else none) = some (l, s')) : Rising l ∧ s' ≤ L.length := by
  by_cases h0 : (sread L a bk ls k F s).2.2 = 0
  · rw [if_pos h0] at h
    simp only [Option.some.injEq, Prod.mk.injEq] at h
    have e : sread L a bk ls k F s = (l, s', 0) := by
      rw [← h.1, ← h.2]
      exact Prod.ext rfl (Prod.ext rfl h0)
    obtain ⟨h1, h2, h3⟩ := sread_only L a bk ls k ha hk F hF s hs l s' e
    exact ⟨h1, by rw [h2]; exact take_room hs rfl h3⟩
  · rw [if_neg h0] at h; cases h
theorem rdN_inv {L : List Bool} {B ls k : Nat} (hk : 1 ≤ k) {G : List (List Nat)} (hG : RowsR G) {i s : Nat} (hi : i ≤ 1048576) (hs : s ≤ L.length) {l : List Nat} {s' : Nat} (h : rdN L B ls k G i s = some (l, s')) : Rising l ∧ s' ≤ L.length := by
  unfold rdN at h
  by_cases h0 : B = 0
  · rw [if_pos h0] at h
    exact sread_inv hi hk (fun q => absurd rfl q) hs h
  · rw [if_neg h0] at h
    by_cases h1 : (gamR L s).2.2 = 0 ∧ (gamR L s).1 ≤ min B i
    · rw [if_pos h1] at h
      exact sread_inv hi hk (fun q => ndF_rising hG i _ q) (thenR_bound L (uR L s)).1 h
    · rw [if_neg h1] at h; cases h
theorem rdA_inv {L : List Bool} {B ls k : Nat} (hk : 1 ≤ k) : ∀ n (G : List (List Nat)) s, n ≤ 1048576 → rdA L B ls k n = some (G, s) → RowsR G ∧ s ≤ L.length
  | 0, G, s, _, h => by
    simp only [rdA, Option.some.injEq, Prod.mk.injEq] at h
    rw [← h.1, ← h.2]
    exact ⟨fun l hl => by simp at hl, Nat.zero_le _⟩
  | n + 1, G, s, hn, h => by
    unfold rdA at h
    cases e : rdA L B ls k n with
    | none => rw [e] at h; cases h
    | some p =>
      obtain ⟨g', s'⟩ := p
      rw [e] at h
      simp only at h
      obtain ⟨h1, h2⟩ := rdA_inv hk n g' s' (by omega) e
      cases e2 : rdN L B ls k g' n s' with
      | none => rw [e2] at h; cases h
      | some q =>
        obtain ⟨l, s2⟩ := q
        rw [e2] at h
        simp only [Option.some.injEq, Prod.mk.injEq] at h
        obtain ⟨h3, h4⟩ := rdN_inv hk h1 (by omega) h2 e2
        rw [← h.1, ← h.2]
        refine ⟨fun l' hl => ?_, h4⟩
        rcases List.mem_append.1 hl with q | q
        · exact h1 l' q
        · rw [List.mem_singleton.1 q]; exact h3
structure UpS (w0 W : World) (U : Nat) (N B ls k : Int) (L : List Bool) (A : Option Addr) (c s : Nat) (G : List (List Nat)) (m : Nat) (v : Value) (R : List Rw) : Prop where
  low : Below w0.heap.size w0 W
  ge : w0.heap.size ≤ U
  row : W.heap[U]? = some (.cells #[.int .i64 N, .int .i64 B, .int .i64 ls, .int .i64 k, .int .i64 (L.length : Int), .slice A (pack L).length c, .int .i64 (s : Int), v] 176 (0, 0))
  eq : gs R = G.map ns
  len : R.length = m
  own : W.ownsRow (U + 1) 22 1 v m (rcl R)
  rows : ∀ r ∈ R, RdV W W.heap.size r.1 (zc r.2.2) ∧ r.2.2.length ≤ r.2.1 ∧ (r.1 = none → r.2.1 = 0) ∧ (r.2.2 ≠ [] → ∀ b o s, r.1 = some ⟨b, o, s⟩ → U < b ∧ v.ownBlock ≠ some b)
theorem UpS.lt {w0 W : World} {U : Nat} {N B ls k : Int} {L : List Bool} {A : Option Addr} {c s : Nat} {G : List (List Nat)} {m : Nat} {v : Value} {R : List Rw} (h : UpS w0 W U N B ls k L A c s G m v R) : U < W.heap.size := (Array.getElem?_eq_some_iff.1 h.row).1
theorem UpS.on {w0 W X : World} {U : Nat} {N B ls k : Int} {L : List Bool} {A : Option Addr} {c s : Nat} {G : List (List Nat)} {m : Nat} {v : Value} {R : List Rw} (h : UpS w0 W U N B ls k L A c s G m v R) (hb : Below W.heap.size W X) : UpS w0 X U N B ls k L A c s G m v R :=
  ⟨h.low.trans (hb.mono h.low.size), h.ge, (hb.block _ h.lt).trans h.row, h.eq, h.len, own_below h.own hb, fun r hr => ⟨(h.rows r hr).1.on hb, (h.rows r hr).2⟩⟩
theorem UpS.glen {w0 W : World} {U : Nat} {N B ls k : Int} {L : List Bool} {A : Option Addr} {c s : Nat} {G : List (List Nat)} {m : Nat} {v : Value} {R : List Rw} (h : UpS w0 W U N B ls k L A c s G m v R) : G.length = m := by
  have := congrArg List.length h.eq
  rw [gs_length, List.length_map, h.len] at this
  exact this.symm
theorem rdv_kept {W Z : World} {A : Option Addr} {xs : List Int} (h : RdV W W.heap.size A (zc xs)) (hk : xs ≠ [] → ∀ b o s, A = some ⟨b, o, s⟩ → b < W.heap.size → Z.heap[b]? = W.heap[b]?) (hz : W.heap.size ≤ Z.heap.size) : RdV Z Z.heap.size A (zc xs) := by
  by_cases h0 : xs = []
  · subst h0; exact .inl rfl
  · rcases h with h | ⟨b, off, rfl, hb, hc⟩
    · exact absurd (by simpa [zc] using h) h0
    · refine .inr ⟨b, off, rfl, Nat.lt_of_lt_of_le hb hz, fun i v hi => ?_⟩
      have := hc i v hi
      unfold World.cell? at this ⊢
      simp only at this ⊢
      rw [hk h0 b off none rfl hb]; exact this
theorem rdv_lt {W : World} {A : Option Addr} {xs : List Int} (h : RdV W W.heap.size A (zc xs)) (h0 : xs ≠ []) {b o : Nat} {s} (e : A = some ⟨b, o, s⟩) : b < W.heap.size := by
  rcases h with h | ⟨b', off, h1, hb, _⟩
  · exact absurd (by simpa [zc] using h) h0
  · rw [e] at h1; cases h1; exact hb
theorem UpS.app {w0 W Y : World} {U : Nat} {N B ls k : Int} {L : List Bool} {A : Option Addr} {c s : Nat} {G : List (List Nat)} {m : Nat} {v v' : Value} {R : List Rw} {o : Obj} {l : List Nat} {A1 : Option Addr} {c1 : Nat} (h : UpS w0 W U N B ls k L A c s G m v R)
    (r1 : RdV W W.heap.size A1 (zc (ns l))) (hc : l.length ≤ c1) (hA : A1 = none → c1 = 0) (hf : ns l ≠ [] → ∀ b o s, A1 = some ⟨b, o, s⟩ → U < b ∧ v.ownBlock ≠ some b)
    (hg : (W.alloc o).grownBy Y v.ownBlock) (ho : Y.ownsRow (U + 1) 22 1 v' (m + 1) (rcl R ++ [.slice A1 l.length c1])) (hl : v'.ownBlock = v.ownBlock ∨ v'.ownBlock = some (W.alloc o).heap.size) :
    (Y.cell? ⟨U, 7, none⟩ = some v ∧ Y.frozen? ⟨U, 7, none⟩ = false) ∧ UpS w0 (Y.setCell ⟨U, 7, none⟩ v') U N B ls k L A c s (G ++ [l]) (m + 1) v' (R ++ [(A1, c1, ns l)]) := by
  have hU := h.lt
  have hu : v.ownBlock ≠ some U := fun e => by have := (own_lt h.own e).1; omega
  have hr := app_row hg h.row hu
  obtain ⟨hk, hz⟩ := app_keep (P := U) (j := 7) (u' := v') hg
  refine ⟨⟨(cell_at hr 7).trans rfl, frz_at hr 7⟩, ⟨?_, h.ge, ?_, ?_, by rw [List.length_append, h.len]; rfl, ?_, ?_⟩⟩
  · refine h.low.trans ⟨hg.os, hg.tape, hg.output, hz, fun b hb => ?_⟩
    have hb2 : b < W.heap.size := Nat.lt_of_lt_of_le hb h.low.size
    refine hk b hb2 (fun e => ?_) (by have := h.ge; omega)
    have := (own_lt h.own e).1; have := h.ge; omega
  · rw [heap_set_same _ _ _ _ _ _ hr]; simp
  · unfold gs; rw [List.map_append, List.map_append, ← h.eq]; rfl
  · have e : rcl (R ++ [(A1, c1, ns l)]) = rcl R ++ [.slice A1 l.length c1] := by unfold rcl; rw [List.map_append]; simp [sl, ns_length]
    rw [e]
    refine own_kept ho fun g hg' => Below.heap_setCell Y ⟨U, 7, none⟩ v' g ?_
    have := (own_lt ho hg').1
    show g ≠ U
    omega
  · intro r hr'
    have hnew : ∀ (r : Rw), RdV W W.heap.size r.1 (zc r.2.2) → (r.2.2 ≠ [] → ∀ b o s, r.1 = some ⟨b, o, s⟩ → U < b ∧ v.ownBlock ≠ some b) → RdV (Y.setCell ⟨U, 7, none⟩ v') (Y.setCell ⟨U, 7, none⟩ v').heap.size r.1 (zc r.2.2) ∧ (r.2.2 ≠ [] → ∀ b o s, r.1 = some ⟨b, o, s⟩ → U < b ∧ v'.ownBlock ≠ some b) := fun r q1 q2 => by
      refine ⟨rdv_kept q1 (fun h0 b o s e hb => hk b hb (q2 h0 b o s e).2 (by have := (q2 h0 b o s e).1; omega)) hz, fun h0 b o s e => ⟨(q2 h0 b o s e).1, ?_⟩⟩
      rcases hl with hl | hl
      · rw [hl]; exact (q2 h0 b o s e).2
      · rw [hl, World.size_alloc]
        have := rdv_lt q1 h0 e
        intro q; simp at q; omega
    rcases List.mem_append.1 hr' with q | q
    · obtain ⟨q1, q2, q3, q4⟩ := h.rows r q
      obtain ⟨p1, p2⟩ := hnew r q1 q4
      exact ⟨p1, q2, q3, p2⟩
    · rw [List.mem_singleton.1 q]
      obtain ⟨p1, p2⟩ := hnew (A1, c1, ns l) r1 hf
      exact ⟨p1, by rw [ns_length]; exact hc, hA, p2⟩
theorem UpS.at_ {w0 W : World} {U : Nat} {N B ls k : Int} {L : List Bool} {A : Option Addr} {c s : Nat} {G : List (List Nat)} {m : Nat} {v : Value} {R : List Rw} (h : UpS w0 W U N B ls k L A c s G m v R) (s' : Nat) : UpS w0 (W.setCell ⟨U, 6, none⟩ (.int .i64 (s' : Int))) U N B ls k L A c s' G m v R := by
  have hz : W.heap.size ≤ (W.setCell ⟨U, 6, none⟩ (.int .i64 (s' : Int))).heap.size := by simp [World.setCell]
  have hk : ∀ b, b ≠ U → (W.setCell ⟨U, 6, none⟩ (.int .i64 (s' : Int))).heap[b]? = W.heap[b]? := fun b hb => Below.heap_setCell W ⟨U, 6, none⟩ _ b hb
  refine ⟨h.low.setCell (p := ⟨U, 6, none⟩) h.ge _, h.ge, ?_, h.eq, h.len, ?_, fun r hr => ⟨?_, (h.rows r hr).2⟩⟩
  · rw [heap_set_same _ _ _ _ _ _ h.row]; simp
  · refine own_kept h.own fun g hg => hk g ?_
    have := (own_lt h.own hg).1
    omega
  · exact rdv_kept (h.rows r hr).1 (fun h0 b o s e _ => hk b (by have := ((h.rows r hr).2.2.2 h0 b o s e).1; omega)) hz
theorem entersTk : ∀ args w, (callFunc 157 args).run Tryz.prog w = .ok (.enter 157 args) w := enters_of Tryz.func157 (by kernel_rfl) rfl
set_option maxHeartbeats 4000000 in
theorem take1_ok {w0 W : World} {U : Nat} {N B ls k : Int} {L : List Bool} {A : Option Addr} {c s : Nat} {G : List (List Nat)} {m : Nat} {v : Value} {R : List Rw} (h : UpS w0 W U N B ls k L A c s G m v R) (hm : m ≤ 100) (j : Nat) (hj : j < m) (X : Nat) (T : TypeId) (hX : W.heap[X]? = some (.cells #[.pointer (some ⟨U, 0, none⟩)] T (0, 0))) :
    Calls Tryz.prog 157 (#[.int .i64 (j : Int)] ++ #[.pointer (some ⟨X, 0, none⟩)]) W (LsL W (row G j).length (row G j)) := by
  have hjR : j < R.length := by rw [h.len]; exact hj
  have hrow : (R[j]?.getD (none, 0, [])).2.2 = ns (row G j) := by
    have e : (gs R)[j]? = (G.map ns)[j]? := by rw [h.eq]
    have hjG : j < G.length := by rw [h.glen]; exact hj
    unfold gs at e
    rw [List.getElem?_map, List.getElem?_map, List.getElem?_eq_getElem hjR, List.getElem?_eq_getElem hjG] at e
    simp only [Option.map_some, Option.some.injEq] at e
    unfold Go.Proofs.YtbddcokjkdoaaaaGreat.row
    rw [List.getElem?_eq_getElem hjR, List.getElem?_eq_getElem hjG]
    exact e
  obtain ⟨r1, r2, r3, -⟩ := h.rows _ (rw_mem R j hjR)
  obtain ⟨gA, gc, rfl⟩ := own_sliceK h.own
  have hrd := own_rdvT h.own
  obtain ⟨b, off, rfl, hb, hc⟩ := hrd.at_ (rcl_get R j hjR)
  have x0 := box_cell hX
  have x7 : W.cell? ⟨U, 7, none⟩ = some (.slice (some ⟨b, off, none⟩) m gc) := (cell_at h.row 7).trans rfl
  have hfin : Hid (LsL W (row G j).length (row G j) (.returned (sl (R[j]?.getD (none, 0, [])))) W) := by
    refine ⟨(R[j]?.getD (none, 0, [])).1, (R[j]?.getD (none, 0, [])).2.1, ?_, ?_, r3, ?_, Below.refl _ _⟩
    · unfold sl; rw [hrow, ns_length]
    · rw [hrow, ns_length] at r2; exact r2
    · rw [hrow] at r1; exact r1
  generalize sl (R[j]?.getD (none, 0, [])) = y at *
  have t3 : (0 : Int) ≤ (j : Int) := by omega
  have t4 : (j : Int) < (m : Int) := by omega
  clear r1 r2 r3 hrow hrd hb hX h hjR
  go_enter Tryz.func157, Tryz.ntmps157
  go_wp2
  go_ret
  exact hfin.out
end
section
set_option maxRecDepth 100000
set_option linter.unusedVariables false
open Go.RowKit Go.Shelf
theorem info_rowL : (Tryz.prog.info? 22).map (fun i => (i.zero, i.size, i.bytes)) = some (some (.slice none 0 0), 1, 24) := by kernel_rfl
attribute [local go_sem] Oper.semAt_some
theorem app_row2 {w : World} {ops : Array Oper} {o : Oper} {a : Act} {K : Act → World → Prop} {Q : Exit → Act → World → Prop} {E : Prop} (hgd : o.guard = none) (s x : Operand)
    (ho : o.op = .call { callee := .builtin .append, args := #[s, x], argTypes := #[40, 40] }) (base : Nat)
    (v : Value) (n : Nat) (xs : List Value) (hs : a.eval s = v) (hown : w.ownsRow base 22 1 v n xs)
    (ad : Addr) (y : Value) (hx : a.eval x = .slice (some ad) 1 1) (hc : w.cell? ad = some y) (h1 : y.oneCell' = true)
    (hb : n ≤ 1000000) (hbase : base ≤ w.heap.size)
    (h : ∀ v' w', w'.ownsRow base 22 1 v' (n + 1) (xs ++ [y]) → w.grownBy w' v.ownBlock → (v'.ownBlock = v.ownBlock ∨ v'.ownBlock = some w.heap.size) → K (a.put o.dst v') w') : if Region.wanted o (yielded ops a.tmps) = true then Oper.wp Tryz.prog o a w K Q else E := by
  have hw : Region.wanted o (yielded ops a.tmps) = true := by simp [Region.wanted, hgd]
  rw [if_pos hw]
  obtain ⟨i0, hi, hz0, hz1, hz2⟩ := info_parts info_rowL
  obtain ⟨v', w', hrun, h2, h3, _, h4⟩ := run_append_own_at (P := Tryz.prog) w base 40 o.type 22 i0 (.slice none 0 0) 1 24 Tryz.underlying40 hi hz0 hz1 hz2 rfl (by decide) v n xs hown ad 1 1 [y] rfl (fun j u hj => by
    cases j with
    | zero => simp at hj; subst hj; have : ad.add 0 = ad := by obtain ⟨b, f, s⟩ := ad; unfold Addr.add; split <;> simp_all
              rw [this]; exact hc
    | succ j => simp at hj) (by simpa using h1) (by unfold maxLen; omega) (by omega) hbase
  unfold Oper.wp execOp
  simp only [ho, resolve, invoke, builtin, Sem.run_bind, Sem.run_pure, Result.andThen_ok, List.map_toArray, List.map_cons, List.map_nil, hs, hx, hrun]
  exact h v' w' h2 h3 h4
def TkG (w0 W : World) (U : Nat) (N B ls k : Int) (L : List Bool) (A : Option Addr) (c : Nat) (G : List (List Nat)) (m : Nat) (R : List Rw) (r : Option (List Nat × Nat)) (e : Ending) (w' : World) : Prop :=
  match r with
  | some (l, s') => e = .returned (.int .i64 0) ∧ ∃ v' A1 c1, UpS w0 w' U N B ls k L A c s' (G ++ [l]) (m + 1) v' (R ++ [(A1, c1, ns l)])
  | none => ∃ er, e = .returned (.int .i64 er) ∧ er ≠ 0 ∧ Below W.heap.size W w'
set_option maxHeartbeats 8000000 in
theorem take_ok {w0 W : World} {U : Nat} {N : Int} {B ls k : Nat} {L : List Bool} {A : Option Addr} {c s : Nat} {G : List (List Nat)} {m : Nat} {v : Value} {R : List Rw} (h : UpS w0 W U N (B : Int) (ls : Int) (k : Int) L A c s G m v R) (hm : m ≤ 100)
    (hB : B ≤ 7) (hls : ls = 0 ∨ 2 ≤ ls ∧ ls ≤ 300) (hk : 1 ≤ k) (hk2 : k ≤ 16) (hL : L.length ≤ 8192) (hs : s ≤ L.length) (hG : RowsR G) (h0 : Rd w0 w0.heap.size A (pack L)) (r : Option (List Nat × Nat)) (hr : rdN L B ls k G m s = r) :
    Calls Tryz.prog 117 #[.pointer (some ⟨U, 0, none⟩)] W (TkG w0 W U N (B : Int) (ls : Int) (k : Int) L A c G m R r) := by
  have hmf : ∀ (fn : Fn) (first cap : Array Value) (w : World), (Instr.makeFunc fn first cap).run Tryz.prog w = .ok (.func fn first cap) w := fun _ _ _ _ => rfl
  have hU := h.lt
  obtain ⟨X, hX⟩ : ∃ X, W.heap.size = X := ⟨_, rfl⟩
  obtain ⟨W1, hW1⟩ : ∃ W1, W.alloc (.cells #[.pointer (some ⟨U, 0, none⟩)] 217) = W1 := ⟨_, rfl⟩
  have hb1 : Below W.heap.size W W1 := hW1 ▸ one_below W _
  have hx1 : W1.heap[X]? = some (.cells #[.pointer (some ⟨U, 0, none⟩)] 217 (0, 0)) := by rw [← hW1, ← hX]; exact World.alloc_heap_new W _
  have h1 := h.on hb1
  have HB1 := Lib.hid hb1
  have hsz1 : W1.heap.size = X + 1 := by rw [← hW1, World.size_alloc, hX]
  have HEn : Hid (∀ V, Below W1.heap.size W1 V → Calls Tryz.prog 123 #[.agg #[.int .i64 N, .int .i64 (B : Int), .int .i64 (ls : Int), .int .i64 (k : Int), .int .i64 (L.length : Int), .slice A (pack L).length c], .int .i64 (s : Int), .int .i64 (m : Int), .func (.func 157) #[] #[.pointer (some ⟨X, 0, none⟩)]] V (EnR V r)) := fun V hV => by
    have h2 := h1.on hV
    have := entry_ok N B ls k hB hls hk hk2 L hL A c s m hs (by omega) G hG 157 #[.pointer (some ⟨X, 0, none⟩)] V (h0.on h2.low) entersTk (Lib.hid fun V2 j hj hV2 => take1_ok (h2.on hV2) hm j hj X 217 ((hV2.block _ (by have := hV.size; omega)).trans ((hV.block _ (by omega)).trans hx1)))
    rw [hr] at this
    exact this
  have HU1 := Lib.hid h1
  have HX1 := Lib.hid hx1
  have HS : Hid (∀ V, Below W1.heap.size W1 V → V.cell? ⟨X, 0, none⟩ = some (.pointer (some ⟨U, 0, none⟩)) ∧ V.cell? ⟨U, 0, none⟩ = some (.int .i64 N) ∧ V.cell? ⟨U, 1, none⟩ = some (.int .i64 (B : Int)) ∧ V.cell? ⟨U, 2, none⟩ = some (.int .i64 (ls : Int)) ∧ V.cell? ⟨U, 3, none⟩ = some (.int .i64 (k : Int)) ∧ V.cell? ⟨U, 4, none⟩ = some (.int .i64 (L.length : Int)) ∧ V.cell? ⟨U, 5, none⟩ = some (.slice A (pack L).length c) ∧ V.cell? ⟨U, 6, none⟩ = some (.int .i64 (s : Int)) ∧ V.cell? ⟨U, 7, none⟩ = some v) := fun V hV => by
    have hx := (hV.block X (by omega)).trans HX1.out
    have hu := (HU1.out.on hV).row
    exact ⟨(cell_at hx 0).trans rfl, (cell_at hu 0).trans rfl, (cell_at hu 1).trans rfl, (cell_at hu 2).trans rfl, (cell_at hu 3).trans rfl, (cell_at hu 4).trans rfl, (cell_at hu 5).trans rfl, (cell_at hu 6).trans rfl, (cell_at hu 7).trans rfl⟩
  have HD : Hid (Below W1.heap.size W1 W1.drew) := (Below.refl _ _).drew
  obtain ⟨gA, gc, rfl⟩ := own_sliceK h.own
  have HH := Lib.hid h
  have HXU : Hid (U < X ∧ W1.heap.size = X + 1 ∧ W.heap.size = X) := ⟨by omega, hsz1, hX⟩
  clear h h1 hx1 hb1 hU hsz1 h0 hs hG hr hB hls hk hk2 hL
  cases r with
  | none =>
    go_enter Tryz.func117, Tryz.ntmps117
    go_wp2
    try rw [hW1]
    try rw [hX]
    clear hW1 hX
    go_region_held3 (fun V => V.cell? ⟨X, 0, none⟩ = some (.pointer (some ⟨U, 0, none⟩)) ∧ V.cell? ⟨U, 0, none⟩ = some (.int .i64 N) ∧ V.cell? ⟨U, 1, none⟩ = some (.int .i64 (B : Int)) ∧ V.cell? ⟨U, 2, none⟩ = some (.int .i64 (ls : Int)) ∧ V.cell? ⟨U, 3, none⟩ = some (.int .i64 (k : Int)) ∧ V.cell? ⟨U, 4, none⟩ = some (.int .i64 (L.length : Int)) ∧ V.cell? ⟨U, 5, none⟩ = some (.slice A (pack L).length c) ∧ V.cell? ⟨U, 6, none⟩ = some (.int .i64 (s : Int)) ∧ V.cell? ⟨U, 7, none⟩ = some (.slice gA m gc))
      ((refine HS.out _ ?_; first | exact hk1.out | exact HD.out))
      ((go_at_call 123; refine (HEn.out _ HD.out).mono ?_; rintro e wa ⟨v1, to1, er, rfl, g1, bq⟩; have hk1 : Hid (Below W1.heap.size W1 wa) := HD.out.trans (bq.mono HD.out.size); have HE0 := Lib.hid g1; have t9 : (er != 0) = true := (by simpa using g1); clear bq g1))
    go_wp2
    go_ret
    exact ⟨er, rfl, HE0.out, HB1.out.trans (hk1.out.mono HB1.out.size)⟩
  | some q =>
    obtain ⟨l, s'⟩ := q
    go_enter Tryz.func117, Tryz.ntmps117
    go_wp2
    try rw [hW1]
    try rw [hX]
    clear hW1 hX
    go_region_held3 (fun V => V.cell? ⟨X, 0, none⟩ = some (.pointer (some ⟨U, 0, none⟩)) ∧ V.cell? ⟨U, 0, none⟩ = some (.int .i64 N) ∧ V.cell? ⟨U, 1, none⟩ = some (.int .i64 (B : Int)) ∧ V.cell? ⟨U, 2, none⟩ = some (.int .i64 (ls : Int)) ∧ V.cell? ⟨U, 3, none⟩ = some (.int .i64 (k : Int)) ∧ V.cell? ⟨U, 4, none⟩ = some (.int .i64 (L.length : Int)) ∧ V.cell? ⟨U, 5, none⟩ = some (.slice A (pack L).length c) ∧ V.cell? ⟨U, 6, none⟩ = some (.int .i64 (s : Int)) ∧ V.cell? ⟨U, 7, none⟩ = some (.slice gA m gc))
      ((refine HS.out _ ?_; first | exact hk1.out | exact HD.out))
      ((go_at_call 123; refine (HEn.out _ HD.out).mono ?_; rintro e wa ⟨A5, c5, rfl, g1, g2, g3, bq⟩; have hk1 : Hid (Below W1.heap.size W1 wa) := HD.out.trans (bq.mono HD.out.size); have HRl : Hid (l.length ≤ c5 ∧ (A5 = none → c5 = 0) ∧ RdV wa wa.heap.size A5 (zc (ns l)) ∧ ∀ b o s, A5 = some ⟨b, o, s⟩ → W1.heap.size ≤ b) := ⟨g1, g2, g3.1, fun b o s e => Nat.le_trans (HD.out.size) (g3.2 b o s e)⟩; clear bq g1 g2 g3))
    have hua := HU1.out.on hk1.out
    have HUa := Lib.hid hua
    have hxa := (hk1.out.block X (by have := HXU.out.2.1; omega)).trans HX1.out
    have x0 := box_cell hxa
    have x7 : wa.cell? ⟨U, 7, none⟩ = some (.slice gA m gc) := (cell_at hua.row 7).trans rfl
    have HXa := Lib.hid hxa
    have hlt := hua.lt
    have x7b : (wa.alloc (.cells #[.slice A5 l.length c5] 22)).cell? ⟨U, 7, none⟩ = some (.slice gA m gc) := ((one_below wa _).cell (p := ⟨U, 7, none⟩) hlt).trans x7
    have hXs : X < wa.heap.size := World.block_lt_of_cell? _ _ x0
    have x0b : (wa.alloc (.cells #[.slice A5 l.length c5] 22)).cell? ⟨X, 0, none⟩ = some (.pointer (some ⟨U, 0, none⟩)) := ((one_below wa _).cell (p := ⟨X, 0, none⟩) hXs).trans x0
    have HAp : Hid (∀ (v' : Value) (Y : World), Y.ownsRow (U + 1) 22 1 v' (m + 1) (rcl R ++ [.slice A5 l.length c5]) → (wa.drew.alloc (.cells #[.slice A5 l.length c5] 22)).grownBy Y (Value.slice gA m gc).ownBlock → (v'.ownBlock = (Value.slice gA m gc).ownBlock ∨ v'.ownBlock = some (wa.drew.alloc (.cells #[.slice A5 l.length c5] 22)).heap.size) →
        (Y.cell? ⟨X, 0, none⟩ = some (.pointer (some ⟨U, 0, none⟩)) ∧ Y.cell? ⟨U, 7, none⟩ = some (.slice gA m gc) ∧ Y.frozen? ⟨U, 7, none⟩ = false) ∧ UpS w0 (Y.setCell ⟨U, 7, none⟩ v') U N (B : Int) (ls : Int) (k : Int) L A c s (G ++ [l]) (m + 1) v' (R ++ [(A5, c5, ns l)]) ∧ (Y.setCell ⟨U, 7, none⟩ v').cell? ⟨X, 0, none⟩ = some (.pointer (some ⟨U, 0, none⟩))) := fun v' Y q1 q2 q3 => by
      have hd : Below wa.heap.size wa wa.drew := (Below.refl _ _).drew
      have hu := HUa.out.on hd
      have hfr : ns l ≠ [] → ∀ b o s, A5 = some ⟨b, o, s⟩ → U < b ∧ (Value.slice gA m gc).ownBlock ≠ some b := fun _ b o s e => by
        have h5 := HRl.out.2.2.2 b o s e
        have h6 := HXU.out
        refine ⟨by omega, fun q => ?_⟩
        have h7 := (own_lt HH.out.own q).2.1
        omega
      obtain ⟨⟨p1, p2⟩, p3⟩ := hu.app (HRl.out.2.2.1.on hd) HRl.out.1 HRl.out.2.1 hfr q2 q1 q3
      have hne : (Value.slice gA m gc).ownBlock ≠ some X := fun q => by
        have h7 := (own_lt HH.out.own q).2.1
        have h6 := HXU.out
        omega
      have hxy : Y.heap[X]? = some (.cells #[.pointer (some ⟨U, 0, none⟩)] 217 (0, 0)) := app_row q2 ((hd.block X (by have := HXa.out; exact (Array.getElem?_eq_some_iff.1 this).1)).trans HXa.out) hne
      have hxz : (Y.setCell ⟨U, 7, none⟩ v').heap[X]? = some (.cells #[.pointer (some ⟨U, 0, none⟩)] 217 (0, 0)) := (Below.heap_setCell Y ⟨U, 7, none⟩ v' X (by have := HXU.out; show X ≠ U; omega)).trans hxy
      exact ⟨⟨box_cell hxy, p1, p2⟩, p3, box_cell hxz⟩
    have HO : Hid (wa.drew.ownsRow (U + 1) 22 1 (.slice gA m gc) m (rcl R)) := own_below HUa.out.own ((Below.refl _ wa).drew)
    clear hua hxa hlt
    go_wp2
    go_region_law
      ((refine app_row2 (by rfl) (.tmp 32) (.tmp 34) (by rfl) (U + 1) (.slice gA m gc) m (rcl R) (by rfl) (HO.out.alloc _) ⟨wa.drew.heap.size, 0, none⟩ (.slice A5 l.length c5) (by rfl) (box_cell (World.alloc_heap_new wa.drew _)) rfl (by omega) (by have := HXU.out; have := HUa.out.lt; show _ ≤ (wa.alloc _).heap.size; simp; omega) ?_; intro v' w4 hown' hgrow hloc; obtain ⟨A6, c6, rfl⟩ := own_sliceK hown'; obtain ⟨⟨p0, p1, p2⟩, p3, p4⟩ := HAp.out _ w4 hown' hgrow hloc; have HP3 := Lib.hid p3; have HP4 := Lib.hid p4; clear p3 p4 hown' hgrow hloc))
    all_goals (
      obtain ⟨W8, hW8⟩ : ∃ W8, w4.setCell ⟨U, 7, none⟩ (.slice A6 (m + 1) c6) = W8 := ⟨_, rfl⟩
      rw [hW8] at HP3 HP4 ⊢
      clear hW8 p0 p1 p2 x0 x7 x0b x7b
      have y0 := HP4.out
      have y6 : W8.cell? ⟨U, 6, none⟩ = some (.int .i64 (s : Int)) := (cell_at HP3.out.row 6).trans rfl
      have f6 := frz_at HP3.out.row 6
      have HFin := Lib.hid (HP3.out.at_ s')
      go_wp2
      go_ret
      exact ⟨rfl, _, _, _, HFin.out⟩)
end
section
set_option maxRecDepth 100000
set_option linter.unusedVariables false
open Go.RowKit Go.Shelf
def RdK (lo : Nat) (w : World) (A : Option Addr) (R : List Rw) : Prop := ∀ W : World, (∀ k, lo ≤ k → k < w.heap.size → W.heap[k]? = w.heap[k]?) → w.heap.size ≤ W.heap.size → RdG W W.heap.size A R
theorem RdK.here {lo : Nat} {w : World} {A : Option Addr} {R : List Rw} (h : RdK lo w A R) : RdG w w.heap.size A R := h w (fun _ _ _ => rfl) (Nat.le_refl _)
theorem RdK.same {lo : Nat} {w X : World} {A : Option Addr} {R : List Rw} (h : RdK lo w A R) (hk : ∀ k, lo ≤ k → k < w.heap.size → X.heap[k]? = w.heap[k]?) (hs : w.heap.size ≤ X.heap.size) : RdK lo X A R :=
  fun W q1 q2 => h W (fun k k1 k2 => (q1 k k1 (Nat.lt_of_lt_of_le k2 hs)).trans (hk k k1 k2)) (Nat.le_trans hs q2)
theorem RdK.on {lo : Nat} {w X : World} {A : Option Addr} {R : List Rw} (h : RdK lo w A R) (hb : Below w.heap.size w X) : RdK lo X A R := h.same (fun k _ q => hb.block k q) hb.size
theorem RdK.mono {lo lo' : Nat} {w : World} {A : Option Addr} {R : List Rw} (h : RdK lo w A R) (hl : lo' ≤ lo) : RdK lo' w A R := fun W q1 q2 => h W (fun k k1 k2 => q1 k (by omega) k2) q2
theorem UpS.rdk {w0 W : World} {U : Nat} {N B ls k : Int} {L : List Bool} {A : Option Addr} {c s : Nat} {G : List (List Nat)} {m : Nat} {gA : Option Addr} {gc : Nat} {R : List Rw} (h : UpS w0 W U N B ls k L A c s G m (.slice gA m gc) R) (hG : RowsR G) : RdK (U + 1) W gA R := by
  intro X hk hz
  refine ⟨?_, fun r hr => ⟨?_, ?_⟩⟩
  · refine own_rdvT (own_kept (Y := X) h.own fun g hg => hk g ?_ ?_)
    · exact (own_lt h.own hg).1
    · exact (own_lt h.own hg).2.1
  · obtain ⟨q1, -, -, q4⟩ := h.rows r hr
    exact rdv_kept q1 (fun h0 b o s e hb => hk b (by have := (q4 h0 b o s e).1; omega) hb) hz
  · have hm : r.2.2 ∈ gs R := List.mem_map.2 ⟨r, hr, rfl⟩
    rw [h.eq] at hm
    obtain ⟨l, hl, e⟩ := List.mem_map.1 hm
    rw [← e, ns_length]
    have := (hG l hl).1
    omega
def UnG (w : World) (r : Option (List (List Nat) × Nat)) (e : Ending) (w' : World) : Prop :=
  match r with
  | some (G, s) => ∃ AG cG R, e = .returned (.tuple #[.agg #[.slice AG G.length cG], .int .i64 0]) ∧ gs R = G.map ns ∧ (∀ r ∈ R, r.2.2.length ≤ r.2.1) ∧ RdK w.heap.size w' AG R ∧ Below w.heap.size w w'
  | none => ∃ er, e = .returned (.tuple #[.agg #[.slice none 0 0], .int .i64 er]) ∧ er ≠ 0 ∧ Below w.heap.size w w'
theorem info_up : (Tryz.prog.info? 176).map (·.size) = some 8 := by kernel_rfl
theorem run_build_up (N B ls k len : Int) (A : Option Addr) (n c : Nat) (w : World) : (Instr.build 176 #[(0, .agg #[.int .i64 N, .int .i64 B, .int .i64 ls, .int .i64 k, .int .i64 len, .slice A n c])]).run Tryz.prog w = .ok (.agg #[.int .i64 N, .int .i64 B, .int .i64 ls, .int .i64 k, .int .i64 len, .slice A n c, .int .i64 0, .slice none 0 0]) w := by kernel_rfl
theorem up_new (w2 : World) (vs : List Value) (hl : vs.length = 8) : ∃ X, (w2.alloc (.cells #[.int .i64 0, .int .i64 0, .int .i64 0, .int .i64 0, .int .i64 0, .slice none 0 0, .int .i64 0, .slice none 0 0] 176)).setCells w2.heap.size 0 vs = X ∧ (w2.alloc (.cells #[.int .i64 0, .int .i64 0, .int .i64 0, .int .i64 0, .int .i64 0, .slice none 0 0, .int .i64 0, .slice none 0 0] 176)).there w2.heap.size 0 8 ∧ X.heap[w2.heap.size]? = some (.cells vs.toArray 176 (0, 0)) ∧ Below w2.heap.size w2 X ∧ w2.heap.size < X.heap.size := by
  have hz := World.alloc_heap_new w2 (.cells #[.int .i64 0, .int .i64 0, .int .i64 0, .int .i64 0, .int .i64 0, .slice none 0 0, .int .i64 0, .slice none 0 0] 176)
  obtain ⟨h8, -, hs, hb⟩ := stored_all vs hz (by rw [hl]; rfl)
  exact ⟨_, rfl, there_all hz rfl, h8, (one_below w2 _).trans (hb _ (Nat.le_refl _)), by rw [hs, World.size_alloc]; omega⟩
set_option maxHeartbeats 8000000 in
theorem unpack_ok (N B ls k : Nat) (hN : N ≤ 100) (hB : B ≤ 7) (hls : ls = 0 ∨ 2 ≤ ls ∧ ls ≤ 300) (hk : 1 ≤ k) (hk2 : k ≤ 16) (L : List Bool) (hL : L.length ≤ 8192) (A : Option Addr) (c : Nat) (w : World) (h : Rd w w.heap.size A (pack L)) (r : Option (List (List Nat) × Nat)) (hr : rdA L B ls k N = r) :
    Calls Tryz.prog 71 #[.agg #[.int .i64 (N : Int), .int .i64 (B : Int), .int .i64 (ls : Int), .int .i64 (k : Int), .int .i64 (L.length : Int), .slice A (pack L).length c]] w (UnG w r) := by
  obtain ⟨w0, ew0⟩ : ∃ w0, (w.alloc (.cells #[.int .i64 (N : Int), .int .i64 (B : Int), .int .i64 (ls : Int), .int .i64 (k : Int), .int .i64 (L.length : Int), .slice A (pack L).length c] 44)).alloc (.cells #[.slice none 0 0] 42) = w0 := ⟨_, rfl⟩
  have s0 : w0.heap.size = w.heap.size + 2 := by rw [← ew0]; simp [World.size_alloc]
  have hb0 : Below w.heap.size w w0 := by rw [← ew0]; exact (one_below w _).trans ((one_below _ _).mono (by rw [World.size_alloc]; omega))
  have g0 : w0.heap[w.heap.size]? = some (.cells #[.int .i64 (N : Int), .int .i64 (B : Int), .int .i64 (ls : Int), .int .i64 (k : Int), .int .i64 (L.length : Int), .slice A (pack L).length c] 44 (0, 0)) := by
    rw [← ew0, (one_below _ _).block _ (by rw [World.size_alloc]; omega)]; exact World.alloc_heap_new w _
  have g1 : w0.heap[w.heap.size + 1]? = some (.cells #[.slice none 0 0] 42 (0, 0)) := by
    rw [← ew0]
    have := World.alloc_heap_new (w.alloc (.cells #[.int .i64 (N : Int), .int .i64 (B : Int), .int .i64 (ls : Int), .int .i64 (k : Int), .int .i64 (L.length : Int), .slice A (pack L).length c] 44)) (.cells #[.slice none 0 0] 42)
    rwa [World.size_alloc] at this
  obtain ⟨W1, hW1, hth, hu1, hbu, hzu⟩ := up_new w0 [.int .i64 (N : Int), .int .i64 (B : Int), .int .i64 (ls : Int), .int .i64 (k : Int), .int .i64 (L.length : Int), .slice A (pack L).length c, .int .i64 0, .slice none 0 0] rfl
  have hU0 : UpS w0 W1 w0.heap.size (N : Int) (B : Int) (ls : Int) (k : Int) L A c 0 [] 0 (.slice none 0 0) [] := ⟨hbu, Nat.le_refl _, hu1, rfl, rfl, ⟨rfl, .inl ⟨rfl, rfl⟩⟩, fun r hr => by simp at hr⟩
  have HU0 := Lib.hid hU0
  have HR0 := Lib.hid (h.on hb0)
  have HB0 := Lib.hid hb0
  have HG1 : Hid (∀ V, Below w0.heap.size w0 V → V.heap[w.heap.size + 1]? = some (.cells #[.slice none 0 0] 42 (0, 0))) := fun V hV => (hV.block _ (by omega)).trans g1
  have HS0 := Lib.hid s0
  have hrg := range_all (cs := [.int .i64 (N : Int), .int .i64 (B : Int), .int .i64 (ls : Int), .int .i64 (k : Int), .int .i64 (L.length : Int), .slice A (pack L).length c]) g0
  have x0 : W1.cell? ⟨w.heap.size, 0, none⟩ = some (.int .i64 (N : Int)) := (cell_at ((hbu.block _ (by omega)).trans g0) 0).trans rfl
  have HTk : Hid (∀ (i s : Nat) (G : List (List Nat)) (v : Value) (R : List Rw) (V : World), i < N → rdA L B ls k i = some (G, s) → UpS w0 V w0.heap.size (N : Int) (B : Int) (ls : Int) (k : Int) L A c s G i v R → Calls Tryz.prog 117 #[.pointer (some ⟨w0.heap.size, 0, none⟩)] V (TkG w0 V w0.heap.size (N : Int) (B : Int) (ls : Int) (k : Int) L A c G i R (rdN L B ls k G i s))) := fun i s G v R V hi hA hU => by
    obtain ⟨q1, q2⟩ := rdA_inv hk i G s (by omega) hA
    exact take_ok hU (by omega) hB hls hk hk2 hL q2 q1 HR0.out _ rfl
  have HInv : Hid (∀ i G s, i ≤ N → rdA L B ls k i = some (G, s) → RowsR G ∧ G.length = i) := fun i G s hi hA => ⟨(rdA_inv hk i G s (by omega) hA).1, rdA_len L B ls k i G s hA⟩
  have HRr := Lib.hid hr
  have HNone : Hid (∀ i G s, i < N → rdA L B ls k i = some (G, s) → rdN L B ls k G i s = none → r = none) := fun i G s hi hA hn => by
    rw [← hr]
    have : ∀ d, rdA L B ls k (i + 1 + d) = none := fun d => by
      induction d with
      | zero => show rdA L B ls k (i + 1) = none; unfold rdA; rw [hA]; simp only; rw [hn]
      | succ d ih => show rdA L B ls k (i + 1 + d + 1) = none; unfold rdA; rw [ih]
    have := this (N - (i + 1))
    rwa [show i + 1 + (N - (i + 1)) = N by omega] at this
  clear h hb0 g0 g1 hu1 hbu hzu hU0 s0 hr hB hls hk hk2 hL
  go_enter Tryz.func71, Tryz.ntmps71
  go_wp2_with (first | (refine wpList_load_mid rfl 44 _ rfl w.heap.size 0 rfl [.int .i64 (N : Int), .int .i64 (B : Int), .int .i64 (ls : Int), .int .i64 (k : Int), .int .i64 (L.length : Int), .slice A (pack L).length c] _ (by first | exact hrg | (rw [ew0]; exact hrg)) Tryz.underlying44 rfl info_pd ?_) | (refine wpList_build rfl _ _ rfl #[(0, .agg #[.int .i64 (N : Int), .int .i64 (B : Int), .int .i64 (ls : Int), .int .i64 (k : Int), .int .i64 (L.length : Int), .slice A (pack L).length c])] (by kernel_rfl) _ (run_build_up ..) ?_) | (refine wpList_store_mid rfl 176 _ _ rfl w0.heap.size 0 #[.int .i64 (N : Int), .int .i64 (B : Int), .int .i64 (ls : Int), .int .i64 (k : Int), .int .i64 (L.length : Int), .slice A (pack L).length c, .int .i64 0, .slice none 0 0] rfl rfl hth info_up (by simp [Value.oneCell']) ?_; rw [hW1]; clear hW1 hth))
  clear x0 hrg
  go_loopw [10] (fun p wr => ∃ (i s : Nat) (G : List (List Nat)) (v : Value) (R : List Rw), i ≤ N ∧ p = .int .i64 (i : Int) ∧ rdA L B ls k i = some (G, s) ∧ UpS w0 wr w0.heap.size (N : Int) (B : Int) (ls : Int) (k : Int) L A c s G i v R) (fun p _ => N - (intOf p).toNat)
  case atStart => exact ⟨0, 0, [], _, [], Nat.zero_le _, rfl, rfl, HU0.out⟩
  case round =>
   as_aux_lemma =>
    clear HU0
    obtain ⟨i, s, G, v, R, hi, rfl, hA, hU⟩ := hrel
    have HU := Lib.hid hU
    by_cases hlt : i < N
    · have t2 : decide ((i : Int) < (N : Int)) = true := by simp; omega
      have t3 : decide (i < N) = true := by simpa using hlt
      have HC := Lib.hid (HTk.out i s G v R wr hlt hA hU)
      have HAi := Lib.hid hA
      clear hU hA
      cases hn : rdN L B ls k G i s with
      | none =>
        have HNo := Lib.hid (HNone.out i G s hlt HAi.out hn)
        rw [hn] at HC
        clear hn
        go_wp2_with fail
        refine HC.out.mono ?_
        rintro e wq ⟨er, rfl, her, bq⟩
        have HE0 := Lib.hid her
        have t9 : (er != 0) = true := by simpa using her
        have hbq := HU.out.low.trans (bq.mono HU.out.low.size)
        have hg1 := HG1.out wq hbq
        have m0 := box_cell hg1
        have f0 := frz_at hg1 0
        have HB9 := Lib.hid hbq
        clear her bq hbq hg1
        go_wp2
        refine bodyPost_ret (v := .tuple #[.agg #[.slice none 0 0], .int .i64 er]) (by simp [results, Tryz.results71, go_sem, m0]) rfl ?_
        rw [HNo.out]
        exact ⟨er, rfl, HE0.out, (HB0.out.trans (HB9.out.mono HB0.out.size)).setCell (p := ⟨w.heap.size + 1, 0, none⟩) (by simp only; omega) _⟩
      | some q =>
        obtain ⟨l, s'⟩ := q
        have HAn : Hid (rdA L B ls k (i + 1) = some (G ++ [l], s')) := by
          show _ = _
          unfold rdA; rw [HAi.out]; simp only; rw [hn]
        rw [hn] at HC
        clear hn
        go_wp2_with fail
        refine HC.out.mono ?_
        rintro e wq ⟨rfl, v', A1, c1, hU'⟩
        have HU' := Lib.hid hU'
        clear hU'
        go_wp2
        go_roundw
        case rel => exact ⟨i + 1, s', _, _, _, hlt, by go_num, HAn.out, HU'.out⟩
        case measure => simp [intOf]; omega
    · obtain rfl : i = N := by omega
      have t2 : decide (i < i) = false := by simp
      obtain ⟨gA, gc, rfl⟩ := own_sliceK hU.own
      obtain ⟨hG, hGl⟩ := HInv.out i G s (Nat.le_refl _) hA
      have HK := Lib.hid (hU.rdk hG)
      have hg1 := HG1.out wr hU.low
      have m0 := box_cell hg1
      have f0 := frz_at hg1 0
      have x7 : wr.cell? ⟨w0.heap.size, 7, none⟩ = some (.slice gA i gc) := (cell_at hU.row 7).trans rfl
      have HRs : Hid (r = some (G, s)) := by rw [← HRr.out]; exact hA
      have HGl := Lib.hid hGl
      have hlt9 : w.heap.size + 1 < wr.heap.size := by have := hU.low.size; have := HS0.out; omega
      clear hU hA hg1 hG hGl hlt
      go_wp2
      refine bodyPost_ret (v := .tuple #[.agg #[.slice gA i gc], .int .i64 0]) (by simp [results, Tryz.results71, go_sem, m0]) rfl ?_
      rw [HRs.out]
      refine ⟨gA, gc, R, by rw [HGl.out], HU.out.eq, fun r hr => (HU.out.rows r hr).2.1, ?_, (HB0.out.trans (HU.out.low.mono HB0.out.size)).setCell (p := ⟨w.heap.size + 1, 0, none⟩) (by simp only; omega) _⟩
      refine (HK.out.same (fun k k1 _ => Below.heap_setCell wr ⟨w.heap.size + 1, 0, none⟩ _ k (by have := HS0.out; show k ≠ w.heap.size + 1; omega)) (by simp [World.setCell])).mono (by have := HS0.out; omega)
end
section
set_option maxRecDepth 100000
set_option linter.unusedVariables false
open Go.RowKit Go.Shelf
theorem bits2 (w : World) (l1 l2 : Int) (A1 A2 : Option Addr) (n1 c1 n2 c2 : Nat) : ∃ w2, (w.alloc (.cells #[.int .i64 l1, .slice A1 n1 c1] 27)).alloc (.cells #[.int .i64 l2, .slice A2 n2 c2] 27) = w2 ∧ Below w.heap.size w w2 ∧
    (w2.cell? ⟨w.heap.size, 0, none⟩ = some (.int .i64 l1) ∧ w2.cell? ⟨w.heap.size, 1, none⟩ = some (.slice A1 n1 c1)) ∧ (w2.cell? ⟨w.heap.size + 1, 0, none⟩ = some (.int .i64 l2) ∧ w2.cell? ⟨w.heap.size + 1, 1, none⟩ = some (.slice A2 n2 c2)) := by
  have h1 := World.alloc_heap_new w (.cells #[.int .i64 l1, .slice A1 n1 c1] 27)
  have h2 := World.alloc_heap_new (w.alloc (.cells #[.int .i64 l1, .slice A1 n1 c1] 27)) (.cells #[.int .i64 l2, .slice A2 n2 c2] 27)
  have b1 := one_below w (.cells #[.int .i64 l1, .slice A1 n1 c1] 27)
  have b2 := one_below (w.alloc (.cells #[.int .i64 l1, .slice A1 n1 c1] 27)) (.cells #[.int .i64 l2, .slice A2 n2 c2] 27)
  rw [World.size_alloc] at h2 b2
  have h1' := (b2.block _ (by omega)).trans h1
  exact ⟨_, rfl, b1.trans (b2.mono (by omega)), ⟨(cell_at h1' 0).trans rfl, (cell_at h1' 1).trans rfl⟩, ⟨(cell_at h2 0).trans rfl, (cell_at h2 1).trans rfl⟩⟩
set_option maxHeartbeats 4000000 in
theorem csame_any (l1 l2 : Int) (b1 b2 : List Nat) (n1 n2 : Nat) (h1 : b1.length = n1) (h2 : b2.length = n2) (hb1 : ∀ x ∈ b1, x < 256) (hb2 : ∀ x ∈ b2, x < 256) (A1 A2 : Option Addr) (c1 c2 : Nat) (w : World) (r1 : Rd w w.heap.size A1 b1) (r2 : Rd w w.heap.size A2 b2) :
    Calls Tryz.prog 118 #[.agg #[.int .i64 l1, .slice A1 n1 c1], .agg #[.int .i64 l2, .slice A2 n2 c2]] w fun e w' => e = .returned (.bool (decide (l1 = l2) && decide (b1 = b2))) ∧ Below w.heap.size w w' := by
  obtain ⟨w2, ew, hb, ⟨p1, p2⟩, p3, p4⟩ := bits2 w l1 l2 A1 A2 n1 c1 n2 c2
  have HB := Lib.hid hb
  have HE := Lib.hid (beq_any b1 b2 n1 n2 h1 h2 hb1 hb2 A1 A2 c1 c2 w2 w2.heap.size w2.heap.size (r1.on hb) (r2.on hb))
  clear hb h1 h2 hb1 hb2 r1 r2
  by_cases hl : l1 = l2
  · have t1 : (l1 == l2) = true := by simpa using hl
    rw [decide_eq_true hl, Bool.true_and]
    clear hl
    generalize decide (b1 = b2) = q at *
    go_enter Tryz.func118, Tryz.ntmps118
    go_wp2_with fail
    try rw [ew]
    refine HE.out.mono ?_
    rintro e w3 ⟨rfl, hw⟩
    subst hw
    clear ew
    go_wp2
    go_ret
    exact ⟨rfl, HB.out⟩
  · have t1 : (l1 == l2) = false := by simpa using hl
    rw [decide_eq_false hl, Bool.false_and]
    clear hl HE
    go_enter Tryz.func118, Tryz.ntmps118
    go_wp2
    try rw [ew]
    go_ret
    exact ⟨rfl, by first | exact HB.out | (rw [ew]; exact HB.out)⟩
def pkdE (N B ls k len : Int) (bs : List Nat) : Int := if rgE 0 [decide (0 ≤ N), decide (N ≤ 100)] ≠ 0 then rgE 0 [decide (0 ≤ N), decide (N ≤ 100)] else if hck B ls k ≠ 0 then hck B ls k else chk len bs
set_option maxHeartbeats 4000000 in
theorem ckp_any (N B ls k len : Int) (bs : List Nat) (n : Nat) (hn : bs.length = n) (hbs : ∀ x ∈ bs, x < 256) (A : Option Addr) (c : Nat) (w : World) (h : Rd w w.heap.size A bs) :
    Calls Tryz.prog 70 #[.agg #[.int .i64 N, .int .i64 B, .int .i64 ls, .int .i64 k, .int .i64 len, .slice A n c]] w fun e w' => e = .returned (.int .i64 (pkdE N B ls k len bs)) ∧ Below w.heap.size w w' := by
  obtain ⟨w1, ew1, hb1, hs1, hk1⟩ := pbox w (.int .i64 N) (.int .i64 B) (.int .i64 ls) (.int .i64 k) (.int .i64 len) (.slice A n c)
  have HB1 := Lib.hid hb1
  have HK : Hid (∀ V, Below w1.heap.size w1 V → V.cell? ⟨w.heap.size, 0, none⟩ = some (.int .i64 N) ∧ (V.cell? ⟨w.heap.size, 1, none⟩ = some (.int .i64 B) ∧ V.cell? ⟨w.heap.size, 2, none⟩ = some (.int .i64 ls) ∧ V.cell? ⟨w.heap.size, 3, none⟩ = some (.int .i64 k)) ∧ V.cell? ⟨w.heap.size, 4, none⟩ = some (.int .i64 len) ∧ V.cell? ⟨w.heap.size, 5, none⟩ = some (.slice A n c)) := fun V hV => ⟨(cell_at (hk1 V hV) 0).trans rfl, six_at (hk1 V hV)⟩
  have HRg := Lib.hid (range2 0 (decide (0 ≤ N)) (decide (N ≤ 100)) _ rfl)
  have HSc := Lib.hid (scheck_any B ls k)
  have HCk : Hid (∀ V, Below w.heap.size w V → Calls Tryz.prog 53 #[.agg #[.int .i64 len, .slice A n c]] V fun e w' => e = .returned (.int .i64 (chk len bs)) ∧ Below V.heap.size V w') := fun V hV => by rw [← hn]; exact check_any len A c bs V hbs (h.on hV)
  obtain ⟨c0, ⟨c1, c2, c3⟩, c4, c5⟩ := HK.out w1 (Below.refl _ _)
  unfold pkdE
  generalize rgE 0 [decide (0 ≤ N), decide (N ≤ 100)] = e1 at *
  generalize hck B ls k = e2 at *
  generalize chk len bs = e3 at *
  obtain ⟨r, hr⟩ : ∃ r, (if e1 ≠ 0 then e1 else if e2 ≠ 0 then e2 else e3) = r := ⟨_, rfl⟩
  rw [hr]
  have HR := Lib.hid hr
  obtain ⟨q1, hq1⟩ : ∃ q1, decide (0 ≤ N) = q1 := ⟨_, rfl⟩
  obtain ⟨q2, hq2⟩ : ∃ q2, decide (N ≤ 100) = q2 := ⟨_, rfl⟩
  rw [hq1, hq2] at HRg
  clear hr hb1 hs1 hk1 h hn hbs
  go_enter Tryz.func70, Tryz.ntmps70
  go_wp2_with fail
  try rw [ew1]
  refine (HRg.out w1 _ rfl).mono ?_
  rintro e w2 ⟨rfl, q2'⟩
  have HB2 := Lib.hid q2'
  clear q2' ew1 c0 c1 c2 c3 c4 c5 hq1 hq2
  by_cases h1 : e1 = 0
  · subst h1
    obtain ⟨c0, ⟨c1, c2, c3⟩, c4, c5⟩ := HK.out w2 HB2.out
    go_wp2_with fail
    refine (HSc.out w2).mono ?_
    rintro e w3 ⟨rfl, q3⟩
    have HB3 : Hid (Below w1.heap.size w1 w3) := HB2.out.trans (q3.mono HB2.out.size)
    clear q3 c0 c1 c2 c3 c4 c5
    by_cases h2 : e2 = 0
    · subst h2
      obtain ⟨c0, ⟨c1, c2, c3⟩, c4, c5⟩ := HK.out w3 HB3.out
      go_wp2_with fail
      refine (HCk.out w3 (HB1.out.trans (HB3.out.mono HB1.out.size))).mono ?_
      rintro e w4 ⟨rfl, q4⟩
      have HB4 := Lib.hid (HB3.out.trans (q4.mono HB3.out.size))
      have he : e3 = r := by rw [← HR.out]; simp
      have HE := Lib.hid he
      clear q4 he c0 c1 c2 c3 c4 c5 HR
      go_wp2
      go_ret
      exact ⟨ret_i64 HE.out, HB1.out.trans (HB4.out.mono HB1.out.size)⟩
    · have t : (e2 != 0) = true := by simpa using h2
      have he : e2 = r := by rw [← HR.out]; simp [h2]
      have HE := Lib.hid he
      clear he h2 HR
      go_wp2
      go_ret
      exact ⟨ret_i64 HE.out, HB1.out.trans (HB3.out.mono HB1.out.size)⟩
  · have t : (e1 != 0) = true := by simpa using h1
    have he : e1 = r := by rw [← HR.out]; simp [h1]
    have HE := Lib.hid he
    clear he h1 HR
    go_wp2
    go_ret
    exact ⟨ret_i64 HE.out, HB1.out.trans (HB2.out.mono HB1.out.size)⟩
theorem pd_new (w2 : World) (vs : List Value) (hl : vs.length = 6) : ∃ X, (w2.alloc (.cells #[.int .i64 0, .int .i64 0, .int .i64 0, .int .i64 0, .int .i64 0, .slice none 0 0] 44)).setCells w2.heap.size 0 vs = X ∧ (w2.alloc (.cells #[.int .i64 0, .int .i64 0, .int .i64 0, .int .i64 0, .int .i64 0, .slice none 0 0] 44)).there w2.heap.size 0 6 ∧ X.heap[w2.heap.size]? = some (.cells vs.toArray 44 (0, 0)) ∧ Below w2.heap.size w2 X ∧ w2.heap.size < X.heap.size := by
  have hz := World.alloc_heap_new w2 (.cells #[.int .i64 0, .int .i64 0, .int .i64 0, .int .i64 0, .int .i64 0, .slice none 0 0] 44)
  obtain ⟨h8, -, hs, hb⟩ := stored_all vs hz (by rw [hl]; rfl)
  exact ⟨_, rfl, there_all hz rfl, h8, (one_below w2 _).trans (hb _ (Nat.le_refl _)), by rw [hs, World.size_alloc]; omega⟩
theorem isf_at (w : World) (a b c d e f : Value) (g : Value) : ∃ w2, (w.alloc (.cells #[a, b, c, d, e, f] 44)).alloc (.cells #[g] 42) = w2 ∧ Below w.heap.size w w2 ∧ w2.heap.size = w.heap.size + 2 ∧ (∀ V, Below w2.heap.size w2 V → V.heap[w.heap.size]? = some (.cells #[a, b, c, d, e, f] 44 (0, 0))) ∧ w2.heap[w.heap.size + 1]? = some (.cells #[g] 42 (0, 0)) := by
  have h1 := World.alloc_heap_new w (.cells #[a, b, c, d, e, f] 44)
  have h2 := World.alloc_heap_new (w.alloc (.cells #[a, b, c, d, e, f] 44)) (.cells #[g] 42)
  have b1 := one_below w (.cells #[a, b, c, d, e, f] 44)
  have b2 := one_below (w.alloc (.cells #[a, b, c, d, e, f] 44)) (.cells #[g] 42)
  rw [World.size_alloc] at h2 b2
  exact ⟨_, rfl, b1.trans (b2.mono (by omega)), by simp [World.size_alloc], fun V hV => (hV.block _ (by simp [World.size_alloc]; omega)).trans ((b2.block _ (by omega)).trans h1), h2⟩
set_option maxHeartbeats 8000000 in
theorem isfor_l (N B ls k len : Int) (n c : Nat) (A : Option Addr) (NG cG : Nat) (AG : Option Addr) (N' B' ls' k' len' : Int) (n' : Nat) (bs' : List Nat) (er : Int) (q q' : Bool) (hq' : (decide (er = 0) && q) = q') (w : World)
    (HW : Hid (∀ V, Below w.heap.size w V → Calls Tryz.prog 24 #[.agg #[.slice AG NG cG], .agg #[.int .i64 B, .int .i64 ls, .int .i64 k]] V (PwP V N' B' ls' k' len' n' bs' er)))
    (HS : Hid (∀ A' c' V, Below w.heap.size w V → Rd V V.heap.size A' bs' → Calls Tryz.prog 118 #[.agg #[.int .i64 len', .slice A' n' c'], .agg #[.int .i64 len, .slice A n c]] V fun e w' => e = .returned (.bool q) ∧ Below V.heap.size V w')) :
    Calls Tryz.prog 72 #[.agg #[.int .i64 N, .int .i64 B, .int .i64 ls, .int .i64 k, .int .i64 len, .slice A n c], .agg #[.slice AG NG cG]] w fun e w' => e = .returned (.bool q') ∧ Below w.heap.size w w' := by
  have HQ := Lib.hid hq'
  clear hq'
  obtain ⟨w1, ew1, hb1, hs1, hk1, hg1⟩ := isf_at w (.int .i64 N) (.int .i64 B) (.int .i64 ls) (.int .i64 k) (.int .i64 len) (.slice A n c) (.slice AG NG cG)
  have k0 := box_cell hg1
  obtain ⟨⟨c1, c2, c3⟩, c4, c5⟩ := six_at (hk1 w1 (Below.refl _ _))
  have HB1 := Lib.hid hb1
  have HK := Lib.hid hk1
  clear hb1 hs1 hk1 hg1
  go_enter Tryz.func72, Tryz.ntmps72
  go_wp2_with fail
  try rw [ew1]
  refine (HW.out w1 HB1.out).mono ?_
  rintro e w2 ⟨A', c', rfl, r2, q2⟩
  obtain ⟨X, hX, hth, hx, hbX, hzX⟩ := pd_new w2 [.int .i64 N', .int .i64 B', .int .i64 ls', .int .i64 k', .int .i64 len', .slice A' n' c'] rfl
  have HB2 : Hid (Below w1.heap.size w1 X) := q2.trans (hbX.mono q2.size)
  have HLw : Hid (Below w.heap.size w X) := HB1.out.trans (HB2.out.mono HB1.out.size)
  have HRx := Lib.hid (r2.on hbX)
  have y4 : X.cell? ⟨w2.heap.size, 4, none⟩ = some (.int .i64 len') := (cell_at hx 4).trans rfl
  have y5 : X.cell? ⟨w2.heap.size, 5, none⟩ = some (.slice A' n' c') := (cell_at hx 5).trans rfl
  clear q2 r2 ew1 k0 c1 c2 c3 c4 c5 hx hbX hzX
  obtain ⟨-, c4, c5⟩ := six_at (HK.out X HB2.out)
  by_cases he : er = 0
  · subst he
    go_wp2_with (refine wpList_store_mid rfl 44 _ _ rfl w2.heap.size 0 #[.int .i64 N', .int .i64 B', .int .i64 ls', .int .i64 k', .int .i64 len', .slice A' n' c'] rfl rfl hth info_pd (by simp [Value.oneCell']) ?_; rw [hX]; clear hX hth)
    refine (HS.out A' c' X HLw.out HRx.out).mono ?_
    rintro e w3 ⟨rfl, q3⟩
    have HB3 := Lib.hid q3
    have HE : Hid (q = q') := by have h := HQ.out; simp at h; exact Lib.hid h
    clear q3 y4 y5 c4 c5
    go_wp2
    go_ret
    exact ⟨ret_bool HE.out, HLw.out.trans (HB3.out.mono HLw.out.size)⟩
  · have t : (er == 0) = false := by simpa using he
    have HE : Hid (false = q') := by have h := HQ.out; rw [decide_eq_false he, Bool.false_and] at h; exact Lib.hid h
    clear he HS
    go_wp2_with (refine wpList_store_mid rfl 44 _ _ rfl w2.heap.size 0 #[.int .i64 N', .int .i64 B', .int .i64 ls', .int .i64 k', .int .i64 len', .slice A' n' c'] rfl rfl hth info_pd (by simp [Value.oneCell']) ?_; rw [hX]; clear hX hth)
    go_ret
    exact ⟨ret_bool HE.out, HLw.out⟩
end
section
set_option maxRecDepth 100000
set_option linter.unusedVariables false
open Go.RowKit Go.Shelf
def PrG (w : World) (G : List (List Nat)) (n : Nat) (e : Ending) (w' : World) : Prop :=
  ∃ AG cG R, e = .returned (.tuple #[.agg #[.slice AG n cG], .int .i64 0]) ∧ gs R = G.map ns ∧ (∀ r ∈ R, r.2.2.length ≤ r.2.1) ∧ RdK w.heap.size w' AG R ∧ Below w.heap.size w w'
def PrE (w : World) (er : Int) (e : Ending) (w' : World) : Prop := e = .returned (.tuple #[.agg #[.slice none 0 0], .int .i64 er]) ∧ Below w.heap.size w w'
set_option maxHeartbeats 8000000 in
theorem pread_e (N B ls k len : Int) (n c : Nat) (A : Option Addr) (ec : Int) (t0 : (ec != 0) = true) (w : World)
    (HC : Hid (∀ V, Below w.heap.size w V → Calls Tryz.prog 70 #[.agg #[.int .i64 N, .int .i64 B, .int .i64 ls, .int .i64 k, .int .i64 len, .slice A n c]] V fun e w' => e = .returned (.int .i64 ec) ∧ Below V.heap.size V w')) :
    Calls Tryz.prog 25 #[.agg #[.int .i64 N, .int .i64 B, .int .i64 ls, .int .i64 k, .int .i64 len, .slice A n c]] w (PrE w ec) := by
  obtain ⟨w1, ew1, hb1, hs1, hk1, hg1⟩ := isf_at w (.int .i64 N) (.int .i64 B) (.int .i64 ls) (.int .i64 k) (.int .i64 len) (.slice A n c) (.slice none 0 0)
  have hrg := range_all (cs := [.int .i64 N, .int .i64 B, .int .i64 ls, .int .i64 k, .int .i64 len, .slice A n c]) (hk1 w1 (Below.refl _ _))
  have HB1 := Lib.hid hb1
  have HG : Hid (∀ V, Below w1.heap.size w1 V → V.heap[w.heap.size + 1]? = some (.cells #[.slice none 0 0] 42 (0, 0))) := fun V hV => (hV.block _ (by omega)).trans hg1
  clear hb1 hs1 hk1 hg1
  go_enter Tryz.func25, Tryz.ntmps25
  go_wp2_with (refine wpList_load_mid rfl 44 _ rfl w.heap.size 0 rfl [.int .i64 N, .int .i64 B, .int .i64 ls, .int .i64 k, .int .i64 len, .slice A n c] _ (by first | exact hrg | (rw [ew1]; exact hrg)) Tryz.underlying44 rfl info_pd ?_)
  try rw [ew1]
  refine (HC.out w1 HB1.out).mono ?_
  rintro e w2 ⟨rfl, q2⟩
  have hg2 := HG.out w2 q2
  have m0 := box_cell hg2
  have f0 := frz_at hg2 0
  have HB2 := Lib.hid q2
  clear q2 ew1 hrg hg2
  go_wp2
  exact bodyPost_ret (v := .tuple #[.agg #[.slice none 0 0], .int .i64 ec]) (by simp [results, Tryz.results25, go_sem, m0]) rfl ⟨rfl, (HB1.out.trans (HB2.out.mono HB1.out.size)).setCell (p := ⟨w.heap.size + 1, 0, none⟩) (by simp only; omega) _⟩
set_option maxHeartbeats 8000000 in
theorem pread_n2 (N B ls k len : Int) (n c : Nat) (A : Option Addr) (w : World)
    (HC : Hid (∀ V, Below w.heap.size w V → Calls Tryz.prog 70 #[.agg #[.int .i64 N, .int .i64 B, .int .i64 ls, .int .i64 k, .int .i64 len, .slice A n c]] V fun e w' => e = .returned (.int .i64 0) ∧ Below V.heap.size V w'))
    (HU : Hid (∀ V, Below w.heap.size w V → Calls Tryz.prog 71 #[.agg #[.int .i64 N, .int .i64 B, .int .i64 ls, .int .i64 k, .int .i64 len, .slice A n c]] V fun e w' => ∃ er, e = .returned (.tuple #[.agg #[.slice none 0 0], .int .i64 er]) ∧ er ≠ 0 ∧ Below V.heap.size V w')) :
    Calls Tryz.prog 25 #[.agg #[.int .i64 N, .int .i64 B, .int .i64 ls, .int .i64 k, .int .i64 len, .slice A n c]] w (PrE w 1) := by
  obtain ⟨w1, ew1, hb1, hs1, hk1, hg1⟩ := isf_at w (.int .i64 N) (.int .i64 B) (.int .i64 ls) (.int .i64 k) (.int .i64 len) (.slice A n c) (.slice none 0 0)
  have hrg := range_all (cs := [.int .i64 N, .int .i64 B, .int .i64 ls, .int .i64 k, .int .i64 len, .slice A n c]) (hk1 w1 (Below.refl _ _))
  have HB1 := Lib.hid hb1
  have HK := Lib.hid hk1
  have HG : Hid (∀ V, Below w1.heap.size w1 V → V.heap[w.heap.size + 1]? = some (.cells #[.slice none 0 0] 42 (0, 0))) := fun V hV => (hV.block _ (by omega)).trans hg1
  clear hb1 hs1 hk1 hg1
  go_enter Tryz.func25, Tryz.ntmps25
  go_wp2_with (refine wpList_load_mid rfl 44 _ rfl w.heap.size 0 rfl [.int .i64 N, .int .i64 B, .int .i64 ls, .int .i64 k, .int .i64 len, .slice A n c] _ (by first | exact hrg | (rw [ew1]; exact hrg)) Tryz.underlying44 rfl info_pd ?_)
  try rw [ew1]
  refine (HC.out w1 HB1.out).mono ?_
  rintro e w2 ⟨rfl, q2⟩
  have HB2 := Lib.hid q2
  clear q2 ew1 hrg
  have hrg := range_all (cs := [.int .i64 N, .int .i64 B, .int .i64 ls, .int .i64 k, .int .i64 len, .slice A n c]) (HK.out w2 HB2.out)
  go_wp2_with (refine wpList_load_mid rfl 44 _ rfl w.heap.size 0 rfl [.int .i64 N, .int .i64 B, .int .i64 ls, .int .i64 k, .int .i64 len, .slice A n c] _ hrg Tryz.underlying44 rfl info_pd ?_)
  refine (HU.out w2 (HB1.out.trans (HB2.out.mono HB1.out.size))).mono ?_
  rintro e w3 ⟨er, rfl, her, q3⟩
  have t0 : (er != 0) = true := by simpa using her
  have HB3 : Hid (Below w1.heap.size w1 w3) := HB2.out.trans (q3.mono HB2.out.size)
  have hb4 := one_below w3 (.cells #[.slice none 0 0] 42)
  have HB4 : Hid (Below w1.heap.size w1 (w3.alloc (.cells #[.slice none 0 0] 42))) := HB3.out.trans (hb4.mono HB3.out.size)
  have hg2 := HG.out _ HB4.out
  have m0 := box_cell hg2
  have f0 := frz_at hg2 0
  clear q3 hrg hg2 hb4 her
  go_wp2
  exact bodyPost_ret (v := .tuple #[.agg #[.slice none 0 0], .int .i64 1]) (by simp [results, Tryz.results25, go_sem, m0]) rfl ⟨rfl, (HB1.out.trans (HB4.out.mono HB1.out.size)).setCell (p := ⟨w.heap.size + 1, 0, none⟩) (by simp only; omega) _⟩
set_option maxHeartbeats 8000000 in
theorem pread_g (N B ls k len : Int) (n c : Nat) (A : Option Addr) (G : List (List Nat)) (nG : Nat) (q : Bool) (P : Ending → World → Prop) (w : World)
    (HP1 : q = true → ∀ e w', PrG w G nG e w' → P e w') (HP2 : q = false → ∀ e w', PrE w 1 e w' → P e w')
    (HC : Hid (∀ V, Below w.heap.size w V → Calls Tryz.prog 70 #[.agg #[.int .i64 N, .int .i64 B, .int .i64 ls, .int .i64 k, .int .i64 len, .slice A n c]] V fun e w' => e = .returned (.int .i64 0) ∧ Below V.heap.size V w'))
    (HU : Hid (∀ V, Below w.heap.size w V → Calls Tryz.prog 71 #[.agg #[.int .i64 N, .int .i64 B, .int .i64 ls, .int .i64 k, .int .i64 len, .slice A n c]] V (PrG V G nG)))
    (HF : Hid (∀ AG cG R V, Below w.heap.size w V → RdG V V.heap.size AG R → gs R = G.map ns → (∀ r ∈ R, r.2.2.length ≤ r.2.1) → Calls Tryz.prog 72 #[.agg #[.int .i64 N, .int .i64 B, .int .i64 ls, .int .i64 k, .int .i64 len, .slice A n c], .agg #[.slice AG nG cG]] V fun e w' => e = .returned (.bool q) ∧ Below V.heap.size V w')) :
    Calls Tryz.prog 25 #[.agg #[.int .i64 N, .int .i64 B, .int .i64 ls, .int .i64 k, .int .i64 len, .slice A n c]] w P := by
  obtain ⟨w1, ew1, hb1, hs1, hk1, hg1⟩ := isf_at w (.int .i64 N) (.int .i64 B) (.int .i64 ls) (.int .i64 k) (.int .i64 len) (.slice A n c) (.slice none 0 0)
  have hrg := range_all (cs := [.int .i64 N, .int .i64 B, .int .i64 ls, .int .i64 k, .int .i64 len, .slice A n c]) (hk1 w1 (Below.refl _ _))
  have HB1 := Lib.hid hb1
  have HK := Lib.hid hk1
  have HS1 := Lib.hid hs1
  have HG : Hid (∀ V, Below w1.heap.size w1 V → V.heap[w.heap.size + 1]? = some (.cells #[.slice none 0 0] 42 (0, 0))) := fun V hV => (hV.block _ (by omega)).trans hg1
  have HP1 := Lib.hid HP1
  have HP2 := Lib.hid HP2
  clear hb1 hs1 hk1 hg1
  go_enter Tryz.func25, Tryz.ntmps25
  go_wp2_with (refine wpList_load_mid rfl 44 _ rfl w.heap.size 0 rfl [.int .i64 N, .int .i64 B, .int .i64 ls, .int .i64 k, .int .i64 len, .slice A n c] _ (by first | exact hrg | (rw [ew1]; exact hrg)) Tryz.underlying44 rfl info_pd ?_)
  try rw [ew1]
  refine (HC.out w1 HB1.out).mono ?_
  rintro e w2 ⟨rfl, q2⟩
  have HB2 := Lib.hid q2
  clear q2 ew1 hrg
  have hrg := range_all (cs := [.int .i64 N, .int .i64 B, .int .i64 ls, .int .i64 k, .int .i64 len, .slice A n c]) (HK.out w2 HB2.out)
  have HL2 : Hid (Below w.heap.size w w2) := HB1.out.trans (HB2.out.mono HB1.out.size)
  go_wp2_with (refine wpList_load_mid rfl 44 _ rfl w.heap.size 0 rfl [.int .i64 N, .int .i64 B, .int .i64 ls, .int .i64 k, .int .i64 len, .slice A n c] _ hrg Tryz.underlying44 rfl info_pd ?_)
  refine (HU.out w2 HL2.out).mono ?_
  rintro e w3 ⟨AG, cG, R, rfl, h1, h2, h3, q3⟩
  obtain ⟨X4, hX4⟩ : ∃ X4, w3.alloc (.cells #[.slice AG nG cG] 42) = X4 := ⟨_, rfl⟩
  have hb4 := one_below w3 (.cells #[.slice AG nG cG] 42)
  have hn4 := World.alloc_heap_new w3 (.cells #[.slice AG nG cG] 42)
  rw [hX4] at hb4 hn4
  have HB4 : Hid (Below w1.heap.size w1 X4) := HB2.out.trans ((q3.trans (hb4.mono q3.size)).mono HB2.out.size)
  have HL4 : Hid (Below w.heap.size w X4) := HB1.out.trans (HB4.out.mono HB1.out.size)
  have HR4 := Lib.hid (h3.on hb4)
  have HF4 := Lib.hid (HF.out AG cG R X4 HL4.out HR4.out.here h1 h2)
  have HE := Lib.hid (And.intro h1 h2)
  have HN4 := Lib.hid hn4
  have x0 := box_cell hn4
  have HSz : Hid (w.heap.size + 2 ≤ w2.heap.size ∧ w3.heap.size < X4.heap.size) := ⟨by have := HB2.out.size; have := HS1.out; omega, (Array.getElem?_eq_some_iff.1 hn4).1⟩
  clear hrg
  have hrg := range_all (cs := [.int .i64 N, .int .i64 B, .int .i64 ls, .int .i64 k, .int .i64 len, .slice A n c]) (HK.out X4 HB4.out)
  clear q3 h1 h2 h3 hb4 hn4 HF
  go_wp2_with (first | (refine wpList_load_mid rfl 44 _ rfl w.heap.size 0 rfl [.int .i64 N, .int .i64 B, .int .i64 ls, .int .i64 k, .int .i64 len, .slice A n c] _ (by first | exact hrg | (rw [hX4]; exact hrg)) Tryz.underlying44 rfl info_pd ?_) | (refine wpList_step (fun K hK => ?_); rw [if_pos (by rfl)]; refine wp_load_mid 44 _ rfl w.heap.size 0 rfl [.int .i64 N, .int .i64 B, .int .i64 ls, .int .i64 k, .int .i64 len, .slice A n c] _ (by first | exact hrg | (rw [hX4]; exact hrg)) Tryz.underlying44 rfl info_pd ?_; refine hK _ _ ?_; clear hK K))
  refine HF4.out.mono ?_
  rintro e w5 ⟨rfl, q5⟩
  have HB5 : Hid (Below w1.heap.size w1 w5) := HB4.out.trans (q5.mono HB4.out.size)
  have hg2 := HG.out w5 HB5.out
  have m0 := box_cell hg2
  have f0 := frz_at hg2 0
  have hn5 := (q5.block _ HSz.out.2).trans HN4.out
  have x5 := box_cell hn5
  have HR5 := Lib.hid (HR4.out.on q5)
  have HL5 : Hid (Below w.heap.size w w5) := HL4.out.trans (q5.mono HL4.out.size)
  clear q5 hrg x0 hg2 hn5 hX4 HF4
  cases q with
  | false =>
    have HP := Lib.hid (HP2.out rfl)
    go_wp2
    exact bodyPost_ret (v := .tuple #[.agg #[.slice none 0 0], .int .i64 1]) (by simp [results, Tryz.results25, go_sem, m0]) rfl (HP.out _ _ ⟨rfl, HL5.out.setCell (p := ⟨w.heap.size + 1, 0, none⟩) (by simp only; omega) _⟩)
  | true =>
    have HP := Lib.hid (HP1.out rfl)
    go_wp2
    refine bodyPost_ret (v := .tuple #[.agg #[.slice AG nG cG], .int .i64 0]) (by simp [results, Tryz.results25, go_sem, m0]) rfl (HP.out _ _ ⟨AG, cG, R, rfl, HE.out.1, HE.out.2, ?_, HL5.out.setCell (p := ⟨w.heap.size + 1, 0, none⟩) (by simp only; omega) _⟩)
    exact (HR5.out.same (fun k k1 _ => Below.heap_setCell w5 ⟨w.heap.size + 1, 0, none⟩ _ k (by have := HSz.out; show k ≠ w.heap.size + 1; omega)) (by simp [World.setCell])).mono (by have := HSz.out; omega)
end
section
set_option maxRecDepth 100000
set_option linter.unusedVariables false
open Go.RowKit Go.Shelf
theorem hck_nat {b s k : Int} (h : hck b s k = 0) : ∃ B ls kk : Nat, b = (B : Int) ∧ s = (ls : Int) ∧ k = (kk : Int) ∧ B ≤ 7 ∧ (ls = 0 ∨ 2 ≤ ls ∧ ls ≤ 300) ∧ 1 ≤ kk ∧ kk ≤ 16 := by
  obtain ⟨⟨h1, h2⟩, h3, h4, h5⟩ := hck_zero b s k h
  exact ⟨b.toNat, s.toNat, k.toNat, by omega, by omega, by omega, by omega, by omega, by omega, by omega⟩
theorem mapns_inj : ∀ a b : List (List Nat), a.map ns = b.map ns → a = b
  | [], [], _ => rfl
  | [], _ :: _, h => by simp at h
  | _ :: _, [], h => by simp at h
  | x :: a, y :: b, h => by
    simp only [List.map_cons, List.cons.injEq] at h
    rw [ns_inj h.1, mapns_inj a b h.2]
theorem pack_ways (R : List Rw) (N : Nat) (hN : R.length = N) (hn : N ≤ 140737488355328) (hcap : ∀ r ∈ R, r.2.2.length ≤ r.2.1) (B ls k : Int) (AG : Option Addr) (cG : Nat) (w : World) (hG : RdG w w.heap.size AG R) :
    (∃ er : Int, er ≠ 0 ∧ ((∀ g, GrR g R → hck B ls k ≠ 0 ∨ (∃ B' ls' k' : Nat, B = (B' : Int) ∧ ls = (ls' : Int) ∧ k = (k' : Int) ∧ 8192 < (pkB B' ls' k' g N).length ∧ er = 8)) ∧ Hid (∀ V, Below w.heap.size w V → Calls Tryz.prog 69 #[.agg #[.slice AG N cG], .agg #[.int .i64 B, .int .i64 ls, .int .i64 k]] V (PaP V 0 0 0 0 0 0 [] 0 [] 0 [] er)))) ∨
    (∃ (g : List (List Nat)) (B' ls' k' : Nat), B = (B' : Int) ∧ ls = (ls' : Int) ∧ k = (k' : Int) ∧ B' ≤ 7 ∧ (ls' = 0 ∨ 2 ≤ ls' ∧ ls' ≤ 300) ∧ 1 ≤ k' ∧ k' ≤ 16 ∧ GrR g R ∧ g.length = N ∧ (pkB B' ls' k' g N).length ≤ 8192 ∧
      Hid (∀ V, Below w.heap.size w V → Calls Tryz.prog 69 #[.agg #[.slice AG N cG], .agg #[.int .i64 B, .int .i64 ls, .int .i64 k]] V (PaP V (N : Int) B ls k ((pkB B' ls' k' g N).length : Int) (pack (pkB B' ls' k' g N)).length (pack (pkB B' ls' k' g N)) N (ns (pkA B' ls' k' g N)) N (ns (pkS B' ls' k' g N)) 0))) := by
  by_cases h0 : (if grE (gs R) = 0 then hck B ls k else grE (gs R)) = 0
  · have h1 : grE (gs R) = 0 := by
      by_cases q : grE (gs R) = 0
      · exact q
      · rw [if_neg q] at h0; exact h0
    rw [if_pos h1] at h0
    obtain ⟨g, hg, hok⟩ := grE_zero _ h1
    have hGr : GrR g R := ⟨hok, hg, hcap⟩
    obtain ⟨B', ls', k', rfl, rfl, rfl, hB, hls, hk, hk2⟩ := hck_nat h0
    have hgl : g.length = N := by rw [← hGr.len]; exact hN
    by_cases hf : (pkB B' ls' k' g N).length ≤ 8192
    · refine .inr ⟨g, B', ls', k', rfl, rfl, rfl, hB, hls, hk, hk2, hGr, hgl, hf, fun V hV => ?_⟩
      refine (pack_ok hGr N hN B' ls' k' hB hls hk hk2 AG cG V (hG.on hV)).mono fun e w' h => ?_
      unfold PakP at h
      rw [if_pos hf] at h
      exact h
    · refine .inl ⟨8, by omega, fun g' hg' => .inr ⟨B', ls', k', rfl, rfl, rfl, ?_, rfl⟩, fun V hV => ?_⟩
      · have e : g' = g := by
          have q := hg'.eq.symm.trans hg
          exact mapns_inj _ _ q
        rw [e]; omega
      · refine (pack_ok hGr N hN B' ls' k' hB hls hk hk2 AG cG V (hG.on hV)).mono fun e w' h => ?_
        unfold PakP at h
        rw [if_neg hf] at h
        exact ⟨none, 0, none, 0, none, 0, h.1, .inl rfl, .inl rfl, .inl rfl, h.2⟩
  · refine .inl ⟨_, h0, fun g hg => .inl fun q => h0 ?_, fun V hV => pack_e R N hN hn B ls k _ rfl h0 AG cG V (hG.on hV)⟩
    rw [hg.eq, grE_ok g hg.ok, if_pos rfl, q]
theorem read_ways (N B ls k len : Int) (bs : List Nat) (n : Nat) (hn : bs.length = n) (hbs : ∀ x ∈ bs, x < 256) (A : Option Addr) (c : Nat) (w : World) (h : Rd w w.heap.size A bs) :
    (∃ er : Int, er ≠ 0 ∧ (pkdE N B ls k len bs = 0 → er = 1) ∧ (pkdE N B ls k len bs ≠ 0 → er = pkdE N B ls k len bs) ∧
      (∀ (g : List (List Nat)) (B' ls' k' : Nat), B = (B' : Int) → ls = (ls' : Int) → k = (k' : Int) → B' ≤ 7 → (ls' = 0 ∨ 2 ≤ ls' ∧ ls' ≤ 300) → 1 ≤ k' → k' ≤ 16 → GOk g → N = (g.length : Int) → len = ((pkB B' ls' k' g g.length).length : Int) → (pkB B' ls' k' g g.length).length ≤ 8192 → bs ≠ pack (pkB B' ls' k' g g.length)) ∧
      Hid (∀ V, Below w.heap.size w V → Calls Tryz.prog 25 #[.agg #[.int .i64 N, .int .i64 B, .int .i64 ls, .int .i64 k, .int .i64 len, .slice A n c]] V (PrE V er))) ∨
    (∃ (g : List (List Nat)) (B' ls' k' : Nat), B = (B' : Int) ∧ ls = (ls' : Int) ∧ k = (k' : Int) ∧ B' ≤ 7 ∧ (ls' = 0 ∨ 2 ≤ ls' ∧ ls' ≤ 300) ∧ 1 ≤ k' ∧ k' ≤ 16 ∧ GOk g ∧ N = (g.length : Int) ∧ len = ((pkB B' ls' k' g g.length).length : Int) ∧ (pkB B' ls' k' g g.length).length ≤ 8192 ∧ bs = pack (pkB B' ls' k' g g.length) ∧
      Hid (∀ V, Below w.heap.size w V → Calls Tryz.prog 25 #[.agg #[.int .i64 N, .int .i64 B, .int .i64 ls, .int .i64 k, .int .i64 len, .slice A n c]] V (PrG V g g.length))) := by
  have HCk := fun V (hV : Below w.heap.size w V) => ckp_any N B ls k len bs n hn hbs A c V (h.on hV)
  by_cases h0 : pkdE N B ls k len bs = 0
  · rw [h0] at HCk
    have h00 := h0
    unfold pkdE at h00
    have e1 : rgE 0 [decide (0 ≤ N), decide (N ≤ 100)] = 0 := by
      by_cases q : rgE 0 [decide (0 ≤ N), decide (N ≤ 100)] = 0
      · exact q
      · rw [if_pos q] at h00; exact absurd h00 q
    rw [if_neg (by simpa using e1)] at h00
    have e2 : hck B ls k = 0 := by
      by_cases q : hck B ls k = 0
      · exact q
      · rw [if_pos q] at h00; exact absurd h00 q
    rw [if_neg (by simpa using e2)] at h00
    obtain ⟨L, rfl, hL, rfl⟩ := chk_zero len bs hbs h00
    obtain ⟨B', ls', k', rfl, rfl, rfl, hB, hls, hk, hk2⟩ := hck_nat e2
    have e3 : 0 ≤ N ∧ N ≤ 100 := by
      unfold rgE at e1
      split at e1
      · omega
      · rename_i q
        simp at q
        exact q
    obtain ⟨M, rfl⟩ := Int.eq_ofNat_of_zero_le e3.1
    have hM : M ≤ 100 := by omega
    have HUn := fun V (hV : Below w.heap.size w V) => unpack_ok M B' ls' k' hM hB hls hk hk2 L hL A c V (h.on hV) _ rfl
    subst hn
    have hne : ∀ g : List (List Nat), GOk g → g.length = M → (pkB B' ls' k' g g.length).length ≤ 8192 → pack L = pack (pkB B' ls' k' g g.length) → L.length = (pkB B' ls' k' g g.length).length → rdA L B' ls' k' M = some (g, L.length) := fun g hok hgl hf hp hl => by
      have e : L = pkB B' ls' k' g g.length := by rw [← unpack_pack L, hp, hl, unpack_pack]
      have := rdA_all B' ls' k' hk hB g (gok_rows hok) (by omega)
      rw [← e, hgl] at this
      exact this
    cases hA : rdA L B' ls' k' M with
    | none =>
      rw [hA] at HUn
      refine .inl ⟨1, by omega, fun _ => rfl, fun q => absurd h0 q, fun g B2 l2 k2 a1 a2 a3 _ _ _ _ hok a4 a5 hf hp => ?_, fun V hV => ?_⟩
      · obtain rfl : B2 = B' := by omega
        obtain rfl : l2 = ls' := by omega
        obtain rfl : k2 = k' := by omega
        have := hne g hok (by omega) hf hp (by omega)
        rw [hA] at this; cases this
      · -- which error unpack gives is of no matter
        have hx : Hid (∀ V2, Below V.heap.size V V2 → Calls Tryz.prog 71 #[.agg #[.int .i64 (M : Int), .int .i64 (B' : Int), .int .i64 (ls' : Int), .int .i64 (k' : Int), .int .i64 (L.length : Int), .slice A (pack L).length c]] V2 fun e w' => ∃ er, e = .returned (.tuple #[.agg #[.slice none 0 0], .int .i64 er]) ∧ er ≠ 0 ∧ Below V2.heap.size V2 w') := fun V2 h2 => HUn V2 (hV.trans (h2.mono hV.size))
        exact pread_n2 _ _ _ _ _ _ c A V (fun V2 h2 => HCk V2 (hV.trans (h2.mono hV.size))) hx
    | some q =>
      obtain ⟨G, s⟩ := q
      rw [hA] at HUn
      have hGl := rdA_len L B' ls' k' M G s hA
      have hGr := (rdA_inv hk M G s (by omega) hA).1
      by_cases hok : GOk G ∧ pkB B' ls' k' G M = L
      · right
        obtain ⟨hok, hp⟩ := hok
        refine ⟨G, B', ls', k', rfl, rfl, rfl, hB, hls, hk, hk2, hok, by rw [hGl], by rw [hGl, hp], by rw [hGl, hp]; exact hL, by rw [hGl, hp], fun V hV => ?_⟩
        refine pread_g _ _ _ _ _ _ c A G G.length true _ V (fun _ e w' q => q) (fun q => by cases q) (Lib.hid fun V2 h2 => HCk V2 (hV.trans (h2.mono hV.size))) (Lib.hid fun V2 h2 => HUn V2 (hV.trans (h2.mono hV.size))) (Lib.hid fun AG cG R V2 h2 h3 h4 h5 => ?_)
        have hR : GrR G R := ⟨hok, h4, h5⟩
        have hRl : R.length = G.length := hR.len
        have HPk : ∀ V4, Below V2.heap.size V2 V4 → Calls Tryz.prog 69 #[.agg #[.slice AG G.length cG], .agg #[.int .i64 (B' : Int), .int .i64 (ls' : Int), .int .i64 (k' : Int)]] V4 (PaP V4 (G.length : Int) (B' : Int) (ls' : Int) (k' : Int) (L.length : Int) (pack L).length (pack L) G.length (ns (pkA B' ls' k' G G.length)) G.length (ns (pkS B' ls' k' G G.length)) 0) := fun V4 h7 => (pack_ok hR G.length hRl B' ls' k' hB hls hk hk2 AG cG V4 (h3.on h7)).mono fun e w' h8 => by
          unfold PakP at h8
          rw [hGl, hp, if_pos hL] at h8
          rw [hGl]
          exact h8
        have HSm : ∀ A' c' V3, Below V2.heap.size V2 V3 → Rd V3 V3.heap.size A' (pack L) → Calls Tryz.prog 118 #[.agg #[.int .i64 (L.length : Int), .slice A' (pack L).length c'], .agg #[.int .i64 (L.length : Int), .slice A (pack L).length c]] V3 fun e w' => e = .returned (.bool true) ∧ Below V3.heap.size V3 w' := fun A' c' V3 h6 h7 => by
          have := csame_any (L.length : Int) (L.length : Int) (pack L) (pack L) _ _ rfl rfl (pack_lt L) (pack_lt L) A' A c' c V3 h7 (h.on (hV.trans ((h2.trans (h6.mono h2.size)).mono hV.size)))
          rw [decide_eq_true rfl, decide_eq_true rfl, Bool.and_true] at this
          exact this
        exact isfor_l _ _ _ _ _ _ c A G.length cG AG (G.length : Int) (B' : Int) (ls' : Int) (k' : Int) (L.length : Int) (pack L).length (pack L) 0 true true rfl V2 (Lib.hid fun V3 h6 => write_l G.length _ _ _ AG cG _ _ _ _ _ _ _ _ _ _ _ 0 V3 (Lib.hid fun V4 h7 => HPk V4 (h6.trans (h7.mono h6.size)))) (Lib.hid HSm)
      · left
        refine ⟨1, by omega, fun _ => rfl, fun q => absurd h0 q, fun g B2 l2 k2 a1 a2 a3 _ _ _ _ hok2 a4 a5 hf hp => ?_, fun V hV => ?_⟩
        · obtain rfl : B2 = B' := by omega
          obtain rfl : l2 = ls' := by omega
          obtain rfl : k2 = k' := by omega
          have := hne g hok2 (by omega) hf hp (by omega)
          rw [hA] at this
          simp only [Option.some.injEq, Prod.mk.injEq] at this
          obtain ⟨rfl, -⟩ := this
          refine hok ⟨hok2, ?_⟩
          rw [← hGl, ← unpack_pack (pkB _ _ _ _ _), ← hp, ← show L.length = (pkB B2 l2 k2 G G.length).length by omega, unpack_pack]
        · refine pread_g _ _ _ _ _ _ c A G G.length false _ V (fun q => by cases q) (fun _ e w' q => q) (Lib.hid fun V2 h2 => HCk V2 (hV.trans (h2.mono hV.size))) (Lib.hid fun V2 h2 => HUn V2 (hV.trans (h2.mono hV.size))) (Lib.hid fun AG cG R V2 h2 h3 h4 h5 => ?_)
          have hRl : R.length = G.length := by have := congrArg List.length h4; rwa [gs_length, List.length_map] at this
          rcases pack_ways R G.length hRl (by omega) h5 (B' : Int) (ls' : Int) (k' : Int) AG cG V2 h3 with ⟨er, her, -, hP⟩ | ⟨g, B2, l2, k2, a1, a2, a3, -, -, -, -, hgr, hgl, hf, hP⟩
          · refine isfor_l _ _ _ _ _ _ c A G.length cG AG _ _ _ _ _ _ _ er (decide ((0 : Int) = (L.length : Int)) && decide (([] : List Nat) = pack L)) false (by rw [decide_eq_false her]; rfl) V2 (Lib.hid fun V3 h6 => write_l G.length _ _ _ AG cG _ _ _ _ _ _ _ _ _ _ _ er V3 (Lib.hid fun V4 h7 => hP.out V4 (h6.trans (h7.mono h6.size)))) (Lib.hid fun A' c' V3 h6 h7 => ?_)
            exact csame_any 0 (L.length : Int) [] (pack L) _ _ rfl rfl (by simp) (pack_lt L) A' A c' c V3 h7 (h.on (hV.trans ((h2.trans (h6.mono h2.size)).mono hV.size)))
          · obtain rfl : B2 = B' := by omega
            obtain rfl : l2 = ls' := by omega
            obtain rfl : k2 = k' := by omega
            have e : g = G := mapns_inj _ _ (hgr.eq.symm.trans h4)
            subst e
            have hpn : pkB B2 l2 k2 g g.length ≠ L := fun q => hok ⟨hgr.ok, by rw [← hGl]; exact q⟩
            refine isfor_l _ _ _ _ _ _ c A g.length cG AG _ _ _ _ _ _ _ 0 (decide (((pkB B2 l2 k2 g g.length).length : Int) = (L.length : Int)) && decide (pack (pkB B2 l2 k2 g g.length) = pack L)) false ?_ V2 (Lib.hid fun V3 h6 => write_l g.length _ _ _ AG cG _ _ _ _ _ _ _ _ _ _ _ 0 V3 (Lib.hid fun V4 h7 => hP.out V4 (h6.trans (h7.mono h6.size)))) (Lib.hid fun A' c' V3 h6 h7 => ?_)
            · rw [decide_eq_true rfl, Bool.true_and, Bool.and_eq_false_iff]
              by_cases q : (pkB B2 l2 k2 g g.length).length = L.length
              · right
                refine decide_eq_false fun q2 => hpn ?_
                rw [← unpack_pack (pkB _ _ _ _ _), q2, q, unpack_pack]
              · left; exact decide_eq_false (by omega)
            · exact csame_any _ (L.length : Int) _ (pack L) _ _ rfl rfl (pack_lt _) (pack_lt L) A' A c' c V3 h7 (h.on (hV.trans ((h2.trans (h6.mono h2.size)).mono hV.size)))
  · refine .inl ⟨_, h0, fun q => absurd q h0, fun _ => rfl, fun g B' ls' k' a1 a2 a3 hB hls hk hk2 hok a4 a5 hf hp => h0 ?_, fun V hV => ?_⟩
    · subst a1; subst a2; subst a3; subst a4; subst a5; subst hp
      have := hok.nodes
      unfold pkdE
      rw [hck_ok B' ls' k' hB hls hk hk2, chk_pack _ hf, decide_eq_true (show (0 : Int) ≤ (g.length : Int) by omega), decide_eq_true (show (g.length : Int) ≤ 100 by omega)]
      decide
    · exact pread_e N B ls k len n c A _ (by simpa using h0) V (Lib.hid fun V2 h2 => HCk V2 (hV.trans (h2.mono hV.size)))
end
section
set_option maxRecDepth 100000
set_option linter.unusedVariables false
open Go.RowKit Go.Shelf
def FaI (w W : World) (AG : Option Addr) (NG cG : Nat) (B ls k : Int) : Prop :=
  Below w.heap.size w W ∧ W.heap[w.heap.size]? = some (.cells #[.slice AG NG cG] 42 (0, 0)) ∧ W.heap[w.heap.size + 1]? = some (.cells #[.int .i64 B, .int .i64 ls, .int .i64 k] 24 (0, 0))
theorem FaI.on {w W X : World} {AG : Option Addr} {NG cG : Nat} {B ls k : Int} (h : FaI w W AG NG cG B ls k) (hb : Below W.heap.size W X) : FaI w X AG NG cG B ls k :=
  ⟨h.1.trans (hb.mono h.1.size), (hb.block _ (Array.getElem?_eq_some_iff.1 h.2.1).1).trans h.2.1, (hb.block _ (Array.getElem?_eq_some_iff.1 h.2.2).1).trans h.2.2⟩
theorem fai_at (w : World) (AG : Option Addr) (NG cG : Nat) (B ls k : Int) : ∃ w1, (w.alloc (.cells #[.slice AG NG cG] 42)).alloc (.cells #[.int .i64 B, .int .i64 ls, .int .i64 k] 24) = w1 ∧ FaI w w1 AG NG cG B ls k := by
  obtain ⟨w1, ew1, s1, hb1, g2, g3⟩ := two_at w NG B ls k AG cG
  exact ⟨w1, ew1, hb1, g2, g3⟩
theorem FaI.back {w W : World} {AG : Option Addr} {NG cG : Nat} {B ls k : Int} (h : FaI w W AG NG cG B ls k) : FaI w (W.setCell ⟨w.heap.size + 1, 0, none⟩ (.int .i64 0)) AG NG cG 0 ls k := by
  refine ⟨h.1.setCell (p := ⟨w.heap.size + 1, 0, none⟩) (Nat.le_succ _) _, ?_, ?_⟩
  · rw [Below.heap_setCell W ⟨w.heap.size + 1, 0, none⟩ _ w.heap.size (by show _ ≠ w.heap.size + 1; omega)]; exact h.2.1
  · rw [heap_set_same _ _ _ _ 24 _ h.2.2]; simp
end
end Go.Proofs.YtbddcokjkdoaaaaGreat
