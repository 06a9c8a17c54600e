/- What Read of fano answers, for whatever it is handed; no condition but those that each fact names. -/
import Derived.Test.YtkbelhclcpepaaaJYYDec
namespace Go.Proofs.Ytkbelhclcpepaaa
set_option maxRecDepth 100000
set_option linter.unusedVariables false
open Go.RowKit Go.Shelf

/-- Has it the shape? -/
def hsB (n t : Nat) (kw ll : Int) (bs1 : List Nat) (lh : Int) (bs2 : List Nat) : Prop :=
  kw = (fw n t : Int) ∧ ll = ((n * fw n t : Nat) : Int) ∧ lh = ((n + t / 2 ^ fw n t + 1 : Nat) : Int) ∧ chk lh bs2 = 0 ∧ cnt (unpack lh.toNat bs2) = n ∧ chk ll bs1 = 0
instance (n t : Nat) (kw ll : Int) (bs1 : List Nat) (lh : Int) (bs2 : List Nat) : Decidable (hsB n t kw ll bs1 lh bs2) := by unfold hsB; infer_instance
theorem has_any (n t : Nat) (hn : n ≤ 300) (ht : t ≤ 1048576) (kw ll : Int) (A1 : Option Addr) (c1 : Nat) (bs1 : List Nat) (hb1 : ∀ b ∈ bs1, b < 256) (lh : Int) (A2 : Option Addr) (c2 : Nat) (bs2 : List Nat) (hb2 : ∀ b ∈ bs2, b < 256) (w : World) (h1 : Rd w w.heap.size A1 bs1) (h2 : Rd w w.heap.size A2 bs2) :
    Calls Try.prog 81 #[.agg #[.int .i64 (n : Int), .int .i64 (t : Int), .int .i64 kw, .int .i64 ll, .slice A1 bs1.length c1, .int .i64 lh, .slice A2 bs2.length c2]] w fun e w' => e = .returned (.bool (decide (hsB n t kw ll bs1 lh bs2))) ∧ Below w.heap.size w w' := by
  have hk := fw_bound n t ht
  have HS := fun V => shape_ok n t _ rfl hn ht V
  have HL := fun V => lowLen_ok n t (fw n t) _ rfl hn hk V
  have HH := fun V => highLen_ok n t (fw n t) _ rfl hn ht hk V
  have HR := fun V (hV : Below w.heap.size w V) => rank_any lh A2 c2 bs2 hb2 lh V (h2.on hV)
  have HC := fun V (hV : Below w.heap.size w V) => check_any ll A1 c1 bs1 V hb1 (h1.on hV)
  by_cases e1 : kw = (fw n t : Int)
  · by_cases e2 : ll = ((n * fw n t : Nat) : Int)
    · by_cases e3 : lh = ((n + t / 2 ^ fw n t + 1 : Nat) : Int)
      · have hlh : (0 : Int) ≤ lh := by rw [e3]; exact Int.natCast_nonneg _
        have hrk : rkE lh bs2 lh = chk lh bs2 := by
          unfold rkE rgE
          rw [show decide (0 ≤ lh) = true by simpa using hlh, show decide (lh ≤ lh) = true by simp]
          simp
        by_cases e4 : chk lh bs2 = 0
        · have hrn : rkN lh bs2 lh = cnt (unpack lh.toNat bs2) := by
            unfold rkN
            rw [if_pos (by rw [hrk, e4]), List.take_of_length_le (by rw [unpack_length]; omega)]
          rw [hrk, hrn, e4] at HR
          by_cases e5 : cnt (unpack lh.toNat bs2) = n
          · have hd : (chk ll bs1 == 0) = decide (hsB n t kw ll bs1 lh bs2) := by
              by_cases e6 : chk ll bs1 = 0
              · rw [decide_eq_true (show hsB n t kw ll bs1 lh bs2 from ⟨e1, e2, e3, e4, e5, e6⟩), e6]; rfl
              · rw [decide_eq_false (fun h => e6 h.2.2.2.2.2)]; simpa using e6
            exact has_F n t _ _ _ _ kw ll lh 0 (chk ll bs1) _ A1 A2 _ c1 _ c2 w HS HL HH HR HC e1 e2 e3 rfl (by rw [e5]) hd
          · rw [decide_eq_false (fun h => e5 h.2.2.2.2.1)]
            exact has_E n t _ _ _ _ kw ll lh 0 (chk ll bs1) true A1 A2 _ c1 _ c2 w HS HL HH HR HC e1 e2 e3 rfl (by simp; omega)
        · rw [decide_eq_false (fun h => e4 h.2.2.2.1)]
          rw [hrk] at HR
          exact has_D n t _ _ _ _ kw ll lh (chk lh bs2) (chk ll bs1) true A1 A2 _ c1 _ c2 w HS HL HH HR HC e1 e2 e3 (by simpa using e4)
      · rw [decide_eq_false (fun h => e3 h.2.2.1)]
        exact has_C n t _ _ _ _ kw ll lh _ (chk ll bs1) true A1 A2 _ c1 _ c2 w HS HL HH HR HC e1 e2 (by simpa using e3)
    · rw [decide_eq_false (fun h => e2 h.2.1)]
      exact has_B n t _ _ _ _ kw ll lh _ (chk ll bs1) true A1 A2 _ c1 _ c2 w HS HL HH HR HC e1 (by simpa using e2)
  · rw [decide_eq_false (fun h => e1 h.1)]
    exact has_A n t _ _ _ _ kw ll lh _ (chk ll bs1) true A1 A2 _ c1 _ c2 w HS HL HH HR HC (by simpa using e1)
/-- Numbers and an error come back. -/
def RdP (w : World) (m : Nat) (xs : List Int) (err : Int) (e : Ending) (w' : World) : Prop :=
  ∃ A c, e = .returned (.tuple #[.slice A m c, .int .i64 err]) ∧ RdV w' w'.heap.size A (zc xs) ∧ Below w.heap.size w w'
set_option maxHeartbeats 4000000 in
theorem fread_a (N T kw ll lh : Int) (A1 A2 : Option Addr) (n1 c1 n2 c2 : Nat) (w : World) (e0 : Int) (he : rgE 0 [decide (0 ≤ N), decide (N ≤ 300), okN T] = e0) (h0 : e0 ≠ 0) :
    Calls Try.prog 50 #[.agg #[.int .i64 N, .int .i64 T, .int .i64 kw, .int .i64 ll, .slice A1 n1 c1, .int .i64 lh, .slice A2 n2 c2]] w (RdP w 0 [] e0) := by
  have HNd := Lib.hid (node_any T)
  have t0 : (e0 != 0) = true := by simpa using h0
  generalize okN T = ok at *
  have HR := Lib.hid (range3 0 (decide (0 ≤ N)) (decide (N ≤ 300)) ok e0 he)
  clear he h0
  go_enter Try.func50, Try.ntmps50
  go_wp2_with fail
  obtain ⟨V0, hV0⟩ : ∃ V0, V0 = w.alloc (.cells #[.int .i64 N, .int .i64 T, .int .i64 kw, .int .i64 ll, .slice A1 n1 c1, .int .i64 lh, .slice A2 n2 c2] 70) := ⟨_, rfl⟩
  have H0 : Hid (Below w.heap.size w V0 ∧ V0.heap[w.heap.size]? = some (.cells #[.int .i64 N, .int .i64 T, .int .i64 kw, .int .i64 ll, .slice A1 n1 c1, .int .i64 lh, .slice A2 n2 c2] 70 (0, 0)) ∧ w.heap.size < V0.heap.size) := by rw [hV0]; exact ⟨one_below _ _, World.alloc_heap_new _ _, by rw [World.size_alloc]; omega⟩
  rw [← hV0]
  clear hV0
  have HK : Hid (∀ w' : World, Below V0.heap.size V0 w' → w'.cell? ⟨w.heap.size, 0, none⟩ = some (.int .i64 N) ∧ w'.cell? ⟨w.heap.size, 1, none⟩ = some (.int .i64 T)) := fun w' h => by
    obtain ⟨⟨g0, g1, -⟩, -⟩ := cells7 ((h.block _ H0.out.2.2).trans H0.out.2.1)
    exact ⟨g0, g1⟩
  go_region_held3 (fun w' => w'.cell? ⟨w.heap.size, 0, none⟩ = some (.int .i64 N) ∧ w'.cell? ⟨w.heap.size, 1, none⟩ = some (.int .i64 T))
    ((refine HK.out _ ?_; first | exact hk2.out | exact hk1.out | exact (one_below _ _).drew | exact (Below.refl _ _).drew))
    (first
      | (go_at_call 69; have hx := hk1.out; refine (HR.out V0.drew _ rfl).mono ?_; rintro e w2 ⟨rfl, B2⟩; have hk2 : Hid (Below V0.heap.size V0 w2) := hx.trans (B2.mono hx.size); clear B2 hx)
      | (go_at_call 80; refine (HNd.out V0.drew).mono ?_; rintro e wq ⟨rfl, rfl⟩; have hk1 : Hid (Below V0.heap.size V0 V0.drew) := (Below.refl _ V0).drew))
  all_goals (
    have HB2 : Hid (Below w.heap.size w w2) := H0.out.1.trans (hk2.out.mono H0.out.1.size)
    clear HK hk2 hk1
    go_wp2
    go_ret2
    exact ⟨none, 0, rfl, .inl rfl, HB2.out⟩)
set_option maxHeartbeats 4000000 in
theorem fread_b (N T kw ll lh : Int) (A1 A2 : Option Addr) (n1 c1 n2 c2 : Nat) (w : World) (HNd : Hid (∀ V, Calls Try.prog 80 #[.int .i64 T] V fun e w' => e = .returned (.bool true) ∧ V = w'))
    (t1 : decide (0 ≤ N) = true) (t2 : decide (N ≤ 300) = true)
    (HHs : Hid (∀ V, Below w.heap.size w V → Calls Try.prog 81 #[.agg #[.int .i64 N, .int .i64 T, .int .i64 kw, .int .i64 ll, .slice A1 n1 c1, .int .i64 lh, .slice A2 n2 c2]] V fun e w' => e = .returned (.bool false) ∧ Below V.heap.size V w')) :
    Calls Try.prog 50 #[.agg #[.int .i64 N, .int .i64 T, .int .i64 kw, .int .i64 ll, .slice A1 n1 c1, .int .i64 lh, .slice A2 n2 c2]] w (RdP w 0 [] 1) := by
  have HR := Lib.hid (range3 0 true true true 0 (by decide))
  go_enter Try.func50, Try.ntmps50
  go_wp2_with fail
  obtain ⟨V0, hV0⟩ : ∃ V0, V0 = w.alloc (.cells #[.int .i64 N, .int .i64 T, .int .i64 kw, .int .i64 ll, .slice A1 n1 c1, .int .i64 lh, .slice A2 n2 c2] 70) := ⟨_, rfl⟩
  have H0 : Hid (Below w.heap.size w V0 ∧ V0.heap[w.heap.size]? = some (.cells #[.int .i64 N, .int .i64 T, .int .i64 kw, .int .i64 ll, .slice A1 n1 c1, .int .i64 lh, .slice A2 n2 c2] 70 (0, 0)) ∧ w.heap.size < V0.heap.size) := by rw [hV0]; exact ⟨one_below _ _, World.alloc_heap_new _ _, by rw [World.size_alloc]; omega⟩
  rw [← hV0]
  clear hV0
  have HK : Hid (∀ w' : World, Below V0.heap.size V0 w' → w'.cell? ⟨w.heap.size, 0, none⟩ = some (.int .i64 N) ∧ w'.cell? ⟨w.heap.size, 1, none⟩ = some (.int .i64 T)) := fun w' h => by
    obtain ⟨⟨g0, g1, -⟩, -⟩ := cells7 ((h.block _ H0.out.2.2).trans H0.out.2.1)
    exact ⟨g0, g1⟩
  go_region_held3 (fun w' => w'.cell? ⟨w.heap.size, 0, none⟩ = some (.int .i64 N) ∧ w'.cell? ⟨w.heap.size, 1, none⟩ = some (.int .i64 T))
    ((refine HK.out _ ?_; first | exact hk2.out | exact hk1.out | exact (one_below _ _).drew | exact (Below.refl _ _).drew))
    (first
      | (go_at_call 69; have hx := hk1.out; refine (HR.out V0.drew _ rfl).mono ?_; rintro e w2 ⟨rfl, B2⟩; have hk2 : Hid (Below V0.heap.size V0 w2) := hx.trans (B2.mono hx.size); clear B2 hx)
      | (go_at_call 80; refine (HNd.out V0.drew).mono ?_; rintro e wq ⟨rfl, rfl⟩; have hk1 : Hid (Below V0.heap.size V0 V0.drew) := (Below.refl _ V0).drew))
  all_goals (
    have HB2 : Hid (Below w.heap.size w w2) := H0.out.1.trans (hk2.out.mono H0.out.1.size)
    obtain ⟨⟨g0, g1, g2, g3, g4, g5, g6⟩, -⟩ := cells7 ((hk2.out.block _ H0.out.2.2).trans H0.out.2.1)
    clear HK hk2 hk1
    go_wp2_with fail
    refine (HHs.out w2 HB2.out).mono ?_
    rintro e w3 ⟨rfl, B3⟩
    have HB3 : Hid (Below w.heap.size w w3) := HB2.out.trans (B3.mono HB2.out.size)
    clear B3 g0 g1 g2 g3 g4 g5 g6
    go_wp2
    go_ret2
    exact ⟨none, 0, rfl, .inl rfl, HB3.out⟩)
set_option maxHeartbeats 4000000 in
theorem fread_c (N T kw ll lh : Int) (A1 A2 : Option Addr) (n1 c1 n2 c2 : Nat) (w : World) (HNd : Hid (∀ V, Calls Try.prog 80 #[.int .i64 T] V fun e w' => e = .returned (.bool true) ∧ V = w'))
    (t1 : decide (0 ≤ N) = true) (t2 : decide (N ≤ 300) = true) (m : Nat) (xs : List Int) (bad : Bool) (ec : Int) (hbd : (ec != 0) = bad) (rm : Nat) (rxs : List Int) (re : Int) (hres : (bad = true ∧ rm = 0 ∧ rxs = [] ∧ re = 1) ∨ (bad = false ∧ rm = m ∧ rxs = xs ∧ re = 0))
    (HHs : Hid (∀ V, Below w.heap.size w V → Calls Try.prog 81 #[.agg #[.int .i64 N, .int .i64 T, .int .i64 kw, .int .i64 ll, .slice A1 n1 c1, .int .i64 lh, .slice A2 n2 c2]] V fun e w' => e = .returned (.bool true) ∧ Below V.heap.size V w'))
    (HDc : Hid (∀ V, Below w.heap.size w V → Calls Try.prog 82 #[.agg #[.int .i64 N, .int .i64 T, .int .i64 kw, .int .i64 ll, .slice A1 n1 c1, .int .i64 lh, .slice A2 n2 c2]] V fun e w' => ∃ A c, e = .returned (.slice A m c) ∧ RdV w' w'.heap.size A (zc xs) ∧ Below V.heap.size V w'))
    (HCk : Hid (∀ A c V, RdV V V.heap.size A (zc xs) → Calls Try.prog 74 #[.slice A m c, .int .i64 T] V fun e w' => e = .returned (.int .i64 ec) ∧ Below V.heap.size V w')) :
    Calls Try.prog 50 #[.agg #[.int .i64 N, .int .i64 T, .int .i64 kw, .int .i64 ll, .slice A1 n1 c1, .int .i64 lh, .slice A2 n2 c2]] w (RdP w rm rxs re) := by
  have HRES := Lib.hid hres; clear hres
  have HR := Lib.hid (range3 0 true true true 0 (by decide))
  go_enter Try.func50, Try.ntmps50
  go_wp2_with fail
  obtain ⟨V0, hV0⟩ : ∃ V0, V0 = w.alloc (.cells #[.int .i64 N, .int .i64 T, .int .i64 kw, .int .i64 ll, .slice A1 n1 c1, .int .i64 lh, .slice A2 n2 c2] 70) := ⟨_, rfl⟩
  have H0 : Hid (Below w.heap.size w V0 ∧ V0.heap[w.heap.size]? = some (.cells #[.int .i64 N, .int .i64 T, .int .i64 kw, .int .i64 ll, .slice A1 n1 c1, .int .i64 lh, .slice A2 n2 c2] 70 (0, 0)) ∧ w.heap.size < V0.heap.size) := by rw [hV0]; exact ⟨one_below _ _, World.alloc_heap_new _ _, by rw [World.size_alloc]; omega⟩
  rw [← hV0]
  clear hV0
  have HK : Hid (∀ w' : World, Below V0.heap.size V0 w' → w'.cell? ⟨w.heap.size, 0, none⟩ = some (.int .i64 N) ∧ w'.cell? ⟨w.heap.size, 1, none⟩ = some (.int .i64 T)) := fun w' h => by
    obtain ⟨⟨g0, g1, -⟩, -⟩ := cells7 ((h.block _ H0.out.2.2).trans H0.out.2.1)
    exact ⟨g0, g1⟩
  go_region_held3 (fun w' => w'.cell? ⟨w.heap.size, 0, none⟩ = some (.int .i64 N) ∧ w'.cell? ⟨w.heap.size, 1, none⟩ = some (.int .i64 T))
    ((refine HK.out _ ?_; first | exact hk2.out | exact hk1.out | exact (one_below _ _).drew | exact (Below.refl _ _).drew))
    (first
      | (go_at_call 69; have hx := hk1.out; refine (HR.out V0.drew _ rfl).mono ?_; rintro e w2 ⟨rfl, B2⟩; have hk2 : Hid (Below V0.heap.size V0 w2) := hx.trans (B2.mono hx.size); clear B2 hx)
      | (go_at_call 80; refine (HNd.out V0.drew).mono ?_; rintro e wq ⟨rfl, rfl⟩; have hk1 : Hid (Below V0.heap.size V0 V0.drew) := (Below.refl _ V0).drew))
  all_goals (
    have HB2 : Hid (Below w.heap.size w w2) := H0.out.1.trans (hk2.out.mono H0.out.1.size)
    obtain ⟨⟨g0, g1, g2, g3, g4, g5, g6⟩, -⟩ := cells7 ((hk2.out.block _ H0.out.2.2).trans H0.out.2.1)
    go_wp2_with fail
    refine (HHs.out w2 HB2.out).mono ?_
    rintro e w3 ⟨rfl, B3⟩
    have HB3 : Hid (Below w.heap.size w w3) := HB2.out.trans (B3.mono HB2.out.size)
    have HK3 : Hid (Below V0.heap.size V0 w3) := hk2.out.trans (B3.mono hk2.out.size)
    clear B3 g0 g1 g2 g3 g4 g5 g6
    obtain ⟨⟨g0, g1, g2, g3, g4, g5, g6⟩, -⟩ := cells7 ((HK3.out.block _ H0.out.2.2).trans H0.out.2.1)
    clear HK hk2 hk1
    go_wp2_with fail
    refine (HDc.out w3 HB3.out).mono ?_
    rintro e w4 ⟨A, c, rfl, R4, B4⟩
    have HB4 : Hid (Below w.heap.size w w4) := HB3.out.trans (B4.mono HB3.out.size)
    have HK4 : Hid (Below V0.heap.size V0 w4) := HK3.out.trans (B4.mono HK3.out.size)
    have HR4 := Lib.hid R4
    clear B4 R4 g0 g1 g2 g3 g4 g5 g6
    obtain ⟨⟨g0, g1, -⟩, -⟩ := cells7 ((HK4.out.block _ H0.out.2.2).trans H0.out.2.1)
    go_wp2_with fail
    refine (HCk.out A c w4 HR4.out).mono ?_
    rintro e w5 ⟨rfl, B5⟩
    have HB5 : Hid (Below w.heap.size w w5) := HB4.out.trans (B5.mono HB4.out.size)
    have HR5 := Lib.hid (HR4.out.on B5)
    clear B5 g0 g1
    have hres := HRES.out
    clear HRES
    rcases hres with ⟨rfl, rfl, rfl, rfl⟩ | ⟨rfl, rfl, rfl, rfl⟩
    · skip
      go_wp2
      go_ret2
      exact ⟨none, 0, rfl, .inl rfl, HB5.out⟩
    · skip
      go_wp2
      go_ret2
      exact ⟨A, c, rfl, HR5.out, HB5.out⟩)
/-- What is read. -/
def frE (N T kw ll : Int) (bs1 : List Nat) (lh : Int) (bs2 : List Nat) : Int :=
  if 0 ≤ N ∧ N ≤ 300 ∧ 0 ≤ T ∧ T ≤ 1048576 then (if hsB N.toNat T.toNat kw ll bs1 lh bs2 then (if fE (ns (fdec (fw N.toNat T.toNat) (unpack ll.toNat bs1) (unpack lh.toNat bs2))) T = 0 then 0 else 1) else 1) else 3
def frL (N T kw ll : Int) (bs1 : List Nat) (lh : Int) (bs2 : List Nat) : List Nat :=
  if frE N T kw ll bs1 lh bs2 = 0 then fdec (fw N.toNat T.toNat) (unpack ll.toNat bs1) (unpack lh.toNat bs2) else []
theorem i64_or_nat (a b : Nat) (ha : a < 4611686018427387904) (hb : b < 4611686018427387904) : bits .or .i64 (a : Int) (b : Int) = ((a ||| b : Nat) : Int) := by
  have hx : a ||| b < 2 ^ 62 := Nat.or_lt_two_pow ha hb
  show IntKind.i64.wrap ((BitVec.ofInt 64 (a : Int) ||| BitVec.ofInt 64 (b : Int)).toNat : Int) = _
  rw [BitVec.toNat_or, ofInt_u64 a (by omega), ofInt_u64 b (by omega), IntKind.wrap_i64]
  omega
/-- What the program puts together is what is said. -/
theorem elL_dec (k n : Nat) (hk : k ≤ 20) (L H : List Bool) (hL : L.length = n * k) (hL2 : L.length ≤ 8192) (hH : cnt H = n) (hH2 : H.length ≤ 8192) : elL (L.length : Int) (pack L) k (vis true H 0 H.length) = ns (fdec k L H) := by
  have hv : vis true H 0 H.length = pos 0 H := by rw [vis_all H 0 _ rfl, List.drop_zero]
  rw [hv]
  apply List.ext_getElem?
  intro i
  unfold elL
  rw [List.getElem?_mapIdx]
  unfold ns
  rw [List.getElem?_map, fdec_pos]
  cases e : (pos 0 H)[i]? with
  | none => rfl
  | some q =>
    obtain ⟨p, rfl, hp, hc⟩ := pos_inv H 0 i q e
    rw [Nat.zero_add] at *
    have hpl : p < H.length := by
      rcases Nat.lt_or_ge p H.length with h | h
      · exact h
      · rw [List.getElem?_eq_none h] at hp; cases hp
    have hip : i ≤ p := by have := cnt_take_le H p; omega
    have hin : i < n := by
      have := (List.getElem?_eq_some_iff.1 e).1
      rw [pos_len] at this; omega
    have hik : i * k + k ≤ L.length := by
      rw [hL, ← Nat.succ_mul]; exact Nat.mul_le_mul_right _ hin
    simp only [Option.map_some, Option.some.injEq]
    unfold elI
    have hge : getN (L.length : Int) (pack L) ((i : Int) * (k : Int)) (k : Int) = lo k L i := by
      have e1 : ((i : Int) * (k : Int)) = ((i * k : Nat) : Int) := by simp
      have e2 : getE (L.length : Int) (pack L) ((i : Int) * (k : Int)) (k : Int) = 0 := by
        unfold getE
        rw [chk_pack L hL2, e1, if_neg (by decide), if_neg (by omega), if_neg (by omega)]
      unfold getN lo
      rw [if_pos e2, e1, Int.toNat_natCast, Int.toNat_natCast, Int.toNat_natCast, unpack_pack]
    have hlo := lo_lt k L i
    have hp20 : 2 ^ k ≤ 2 ^ 20 := Nat.pow_le_pow_right (by omega) hk
    rw [clamp_of 0 p (Nat.zero_le _) (by omega), hge]
    have e3 : (((p : Int) - (i : Int)) * 2 ^ k) = (((p - i) * 2 ^ k : Nat) : Int) := by
      rw [Int.natCast_mul, Int.natCast_sub hip]; simp
    have hmul : (p - i) * 2 ^ k ≤ 8192 * 2 ^ 20 := Nat.mul_le_mul (by omega) hp20
    have e4 : wrap64 (((p : Int) - (i : Int)) * 2 ^ k) = (((p - i) * 2 ^ k : Nat) : Int) := by rw [e3]; unfold wrap64; omega
    have e5 : IntKind.i64.wrap ((lo k L i : Nat) : Int) = ((lo k L i : Nat) : Int) := by rw [IntKind.wrap_i64]; omega
    rw [e4, e5, i64_or_nat _ _ (by omega) (by omega), Nat.mul_comm (p - i), ← Nat.two_pow_add_eq_or_of_lt hlo]
theorem fread_any (N T kw ll : Int) (A1 : Option Addr) (c1 : Nat) (bs1 : List Nat) (hb1 : ∀ b ∈ bs1, b < 256) (lh : Int) (A2 : Option Addr) (c2 : Nat) (bs2 : List Nat) (hb2 : ∀ b ∈ bs2, b < 256) (w : World) (h1 : Rd w w.heap.size A1 bs1) (h2 : Rd w w.heap.size A2 bs2) :
    Calls Try.prog 50 #[.agg #[.int .i64 N, .int .i64 T, .int .i64 kw, .int .i64 ll, .slice A1 bs1.length c1, .int .i64 lh, .slice A2 bs2.length c2]] w (RdP w (frL N T kw ll bs1 lh bs2).length (ns (frL N T kw ll bs1 lh bs2)) (frE N T kw ll bs1 lh bs2)) := by
  unfold frL
  by_cases h0 : 0 ≤ N ∧ N ≤ 300 ∧ 0 ≤ T ∧ T ≤ 1048576
  · obtain ⟨n, rfl⟩ := Int.eq_ofNat_of_zero_le h0.1
    obtain ⟨t, rfl⟩ := Int.eq_ofNat_of_zero_le h0.2.2.1
    have hn : n ≤ 300 := by omega
    have ht : t ≤ 1048576 := by omega
    have hk := fw_bound n t ht
    have HNd : Hid (∀ V, Calls Try.prog 80 #[.int .i64 (t : Int)] V fun e w' => e = .returned (.bool true) ∧ V = w') := fun V => by
      have := node_any (t : Int) V
      rwa [okN_nat t ht] at this
    have HHs := fun V (hV : Below w.heap.size w V) => has_any n t hn ht kw ll A1 c1 bs1 hb1 lh A2 c2 bs2 hb2 V (h1.on hV) (h2.on hV)
    have t1 : decide ((0 : Int) ≤ (n : Int)) = true := by simp
    have t2 : decide ((n : Int) ≤ 300) = true := by simp; omega
    by_cases h3 : hsB n t kw ll bs1 lh bs2
    · rw [decide_eq_true h3] at HHs
      obtain ⟨rfl, rfl, e3, e4, e5, e6⟩ := h3
      obtain ⟨H, e7, hH2, rfl⟩ := chk_zero lh bs2 hb2 e4
      obtain ⟨L, e8, hL2, rfl⟩ := chk_zero _ bs1 hb1 e6
      have hL : L.length = n * fw n t := by omega
      subst e7
      rw [e8] at HHs ⊢
      have hcn : cnt H = n := by rw [Int.toNat_natCast, unpack_pack] at e5; exact e5
      have hdec := elL_dec (fw n t) n hk L H hL hL2 hcn hH2
      have HDc := fun V (hV : Below w.heap.size w V) => decode_any (n : Int) (t : Int) (fw n t) hk (L.length : Int) A1 c1 (pack L) hb1 H hH2 A2 c2 V (h1.on hV) (h2.on hV) _ hdec _ rfl
      have HCk := fun A c V (hV : RdV V V.heap.size A (zc (ns (fdec (fw n t) L H)))) => fcheck_any (ns (fdec (fw n t) L H)) _ rfl (by rw [ns_length, fdec_len]; omega) (t : Int) A c V hV
      have hs : hsB n t ((fw n t : Nat) : Int) (L.length : Int) (pack L) (H.length : Int) (pack H) := ⟨rfl, by rw [hL], e3, e4, by rw [Int.toNat_natCast, unpack_pack]; exact hcn, by rw [e8] at e6; exact e6⟩
      by_cases h4 : fE (ns (fdec (fw n t) L H)) (t : Int) = 0
      · have hE : frE (n : Int) (t : Int) ((fw n t : Nat) : Int) (L.length : Int) (pack L) (H.length : Int) (pack H) = 0 := by
          unfold frE
          rw [if_pos h0]
          simp only [Int.toNat_natCast, unpack_pack]
          rw [if_pos hs, if_pos h4]
        rw [hE, if_pos rfl]
        simp only [Int.toNat_natCast, unpack_pack]
        exact fread_c (n : Int) (t : Int) _ _ _ A1 A2 _ c1 _ c2 w HNd t1 t2 _ _ false _ (by rw [h4]; rfl) _ _ _ (.inr ⟨rfl, by rw [ns_length], rfl, rfl⟩) HHs HDc HCk
      · have hE : frE (n : Int) (t : Int) ((fw n t : Nat) : Int) (L.length : Int) (pack L) (H.length : Int) (pack H) = 1 := by
          unfold frE
          rw [if_pos h0]
          simp only [Int.toNat_natCast, unpack_pack]
          rw [if_pos hs, if_neg h4]
        rw [hE, if_neg (by decide)]
        exact fread_c (n : Int) (t : Int) _ _ _ A1 A2 _ c1 _ c2 w HNd t1 t2 _ _ true _ (by simpa using h4) _ _ _ (.inl ⟨rfl, rfl, rfl, rfl⟩) HHs HDc HCk
    · rw [decide_eq_false h3] at HHs
      have hE : frE (n : Int) (t : Int) kw ll bs1 lh bs2 = 1 := by
        unfold frE
        rw [if_pos h0]
        simp only [Int.toNat_natCast]
        rw [if_neg h3]
      rw [hE, if_neg (by decide)]
      exact fread_b (n : Int) (t : Int) _ _ _ A1 A2 _ c1 _ c2 w HNd t1 t2 HHs
  · have hE : frE N T kw ll bs1 lh bs2 = 3 := by unfold frE; rw [if_neg h0]
    rw [hE, if_neg (by decide)]
    refine fread_a N T kw ll lh A1 A2 _ c1 _ c2 w 3 ?_ (by decide)
    have hc : [decide (0 ≤ N), decide (N ≤ 300), okN T].contains false = true := by
      unfold okN
      by_cases q1 : 0 ≤ N
      · by_cases q2 : N ≤ 300
        · have q3 : ¬ (0 ≤ T ∧ T ≤ 1048576) := fun q => h0 ⟨q1, q2, q.1, q.2⟩
          rw [decide_eq_false q3]; simp
        · rw [decide_eq_false q2]; simp
      · rw [decide_eq_false q1]; simp
    unfold rgE
    rw [if_pos ⟨rfl, hc⟩]
end Go.Proofs.Ytkbelhclcpepaaa
