/- Texts of this proof, one behind the other; each fact names its conditions. -/
import Derived.Test.YtbddcokjkdoaaaaGreatNA19
import Derived.Test.YtbddcokjkdoaaaaGreatNA7
import Derived.Test.YtbddcokjkdoaaaaGreatNA2
import Derived.Test.YtbddcokjkdoaaaaGreatNA6
import Derived.Deep.RegionHeld3
namespace Go.Proofs.YtbddcokjkdoaaaaGreat
section
set_option linter.unusedVariables false
open Go.ChangeShapes Go.WideShapes Go.ChangeAt Go.RowKit Go.Joins Go.Shelf
theorem al1 {w V : World} {c0 : Array Value} {t0 : TypeId} (h : Below (w.alloc (.cells c0 t0)).heap.size (w.alloc (.cells c0 t0)) V) :
    Below w.heap.size w V ∧ w.heap.size < V.heap.size ∧ V.heap[w.heap.size]? = some (.cells c0 t0 (0, 0)) := by
  have h1 : (w.alloc (.cells c0 t0)).heap.size = w.heap.size + 1 := World.size_alloc _ _
  have hb : Below w.heap.size w (w.alloc (.cells c0 t0)) := one_below w _
  refine ⟨hb.trans (h.mono (by omega)), by have := h.size; omega, ?_⟩
  rw [h.block _ (by omega)]; exact World.alloc_heap_new w _
theorem low2 (w : World) (o p : Obj) : Below w.heap.size w ((w.alloc o).alloc p) := ((Below.refl _ w).alloc (Nat.le_refl _) _).alloc (by simp) _
theorem al2 {w V : World} {c0 c1 : Array Value} {t0 t1 : TypeId} (h : Below ((w.alloc (.cells c0 t0)).alloc (.cells c1 t1)).heap.size ((w.alloc (.cells c0 t0)).alloc (.cells c1 t1)) V) :
    Below w.heap.size w V ∧ w.heap.size + 1 < V.heap.size ∧ V.heap[w.heap.size]? = some (.cells c0 t0 (0, 0)) ∧ V.heap[w.heap.size + 1]? = some (.cells c1 t1 (0, 0)) := by
  have h1 : (w.alloc (.cells c0 t0)).heap.size = w.heap.size + 1 := World.size_alloc _ _
  have h2 : ((w.alloc (.cells c0 t0)).alloc (.cells c1 t1)).heap.size = w.heap.size + 2 := by rw [World.size_alloc, h1]
  obtain ⟨g1, g2, g3⟩ := al1 h
  refine ⟨(one_below w _).trans (g1.mono (by omega)), by omega, ?_, by rw [h1] at g3; exact g3⟩
  rw [g1.block _ (by omega)]; exact World.alloc_heap_new w _
theorem al3 {w V : World} {c0 c1 c2 : Array Value} {t0 t1 t2 : TypeId} (h : Below (((w.alloc (.cells c0 t0)).alloc (.cells c1 t1)).alloc (.cells c2 t2)).heap.size (((w.alloc (.cells c0 t0)).alloc (.cells c1 t1)).alloc (.cells c2 t2)) V) :
    Below w.heap.size w V ∧ w.heap.size + 1 + 1 < V.heap.size ∧ V.heap[w.heap.size]? = some (.cells c0 t0 (0, 0)) ∧ V.heap[w.heap.size + 1]? = some (.cells c1 t1 (0, 0)) ∧ V.heap[w.heap.size + 1 + 1]? = some (.cells c2 t2 (0, 0)) := by
  have h1 : (w.alloc (.cells c0 t0)).heap.size = w.heap.size + 1 := World.size_alloc _ _
  have h2 : ((w.alloc (.cells c0 t0)).alloc (.cells c1 t1)).heap.size = w.heap.size + 1 + 1 := by rw [World.size_alloc, h1]
  obtain ⟨g1, g2, g3⟩ := al1 h
  obtain ⟨k1, k2, k3, k4⟩ := al2 g1
  rw [h2] at g2 g3
  exact ⟨k1, g2, k3, k4, g3⟩
theorem cellsHow : Tryz.prog.cellsOf 24 = 3 := by kernel_rfl
set_option maxRecDepth 100000 in
/-- A way to tell lists that was handed in. -/
theorem open_how {H : Type} {enc : TypeId × Value → H} {W : World} {base : Nat} {v : Value} {d : DataW H} {p : List MemPlace}
    (hv : Value.okWide Tryz.prog W .any base 24 v) (h : DataW.Trod enc Tryz.prog W 0 (fun _ => true) true 24 v d p) :
    ∃ (b s k : Int), v = .agg #[.int .i64 b, .int .i64 s, .int .i64 k] ∧ (-9223372036854775808 ≤ b ∧ b ≤ 9223372036854775807) ∧ (-9223372036854775808 ≤ s ∧ s ≤ 9223372036854775807) ∧ (-9223372036854775808 ≤ k ∧ k ≤ 9223372036854775807) := by
  obtain ⟨c0, c1, c2, y0, y1, y2, m, rfl, rfl, rfl, hy0, hy1, hy2⟩ := open_agg3 Tryz.underlying24 (by kernel_rfl) cellsHow hv h
  obtain ⟨a, e0, _, wa⟩ := DataW.trod_int Tryz.underlying3 hy0
  obtain ⟨b, e1, _, wb⟩ := DataW.trod_int Tryz.underlying3 hy1
  obtain ⟨c, e2, _, wc⟩ := DataW.trod_int Tryz.underlying3 hy2
  simp at e0 e1 e2
  subst e0; subst e1; subst e2
  exact ⟨a, b, c, rfl, bounds_i64 wa, bounds_i64 wb, bounds_i64 wc⟩
end
section
set_option maxRecDepth 100000
set_option linter.unusedVariables false
open Go.RowKit Go.Shelf
theorem sameI_x (xs : List Int) (n : Nat) (hn : xs.length = n) (h2 : n ≤ 9223372036854775807) (A B : Option Addr) (c d : Nat) (w : World) (hA : RdV w w.heap.size A (zc xs)) (hB : RdV w w.heap.size B (zc xs)) :
    Calls Tryz.prog 21 #[.slice A n c, .slice B n d] w fun e w' => e = .returned (.bool true) ∧ Below w.heap.size w w' := by
  have h := sameI_any w A B c d xs xs (by omega) hA hB
  rw [hn] at h
  simpa using h
theorem rz_row {V : World} {b : Nat} (l : List Nat) {cs : Array Value} (h : V.heap[b]? = some (.cells cs 3 (0, 0))) (hc : (zc (ns l)).toArray = cs) : RdV V V.heap.size (some ⟨b, 0, none⟩) (zc (ns l)) := by
  subst hc
  refine .inr ⟨b, 0, rfl, (Array.getElem?_eq_some_iff.1 h).1, fun i v hi => ?_⟩
  rw [cell_of_row _ _ _ _ _ _ h]
  simpa using hi
theorem rb_row {V : World} {b : Nat} (x : Nat) (h : V.heap[b]? = some (.cells #[.int .u8 (x : Int)] 5 (0, 0))) : Rd V V.heap.size (some ⟨b, 0, none⟩) [x] := by
  refine .inr ⟨b, 0, rfl, (Array.getElem?_eq_some_iff.1 h).1, fun i hi => ?_⟩
  have h0 : i = 0 := by simp at hi; omega
  subst h0
  rw [cell_of_row _ _ _ _ _ _ h]
  rfl
end
section
set_option maxRecDepth 100000
set_option linter.unusedVariables false
open Go.RowKit Go.Shelf
theorem rs6 : Rising [2, 3, 4, 5, 9, 20] := ⟨by decide, by decide, by decide, by decide, by decide, by decide, by decide, by decide, by decide, by decide, by decide, by decide, by decide, trivial⟩
theorem rs3 : Rising [3, 9, 11] := ⟨by decide, by decide, by decide, by decide, by decide, by decide, by decide, trivial⟩
def LB : List Bool := sbits 7 1 3 2 [2, 3, 4, 5, 9, 20] [3, 9, 11]
theorem LB_len : LB.length ≤ 8192 := by decide +kernel
theorem lb_w : swF 7 (ns [2, 3, 4, 5, 9, 20]) (ns [3, 9, 11]) 1 3 2 = 0 ∧ swL 7 (ns [2, 3, 4, 5, 9, 20]) (ns [3, 9, 11]) 1 3 2 = LB := by
  have h := swF_in 7 (by decide) [2, 3, 4, 5, 9, 20] rs6 1 3 2 (by decide) (.inr (by decide)) (by decide) (by decide) (ns [3, 9, 11]) (fun _ => rchk_ok _ rs3) (by rw [tn_ns]; exact LB_len)
  rw [tn_ns] at h
  exact h
theorem lb_r : srX (LB.length : Int) (pack LB) 0 7 (ns [3, 9, 11]) 1 3 2 = ([2, 3, 4, 5, 9, 20], LB.length, 0) := by
  have h := srE_in LB LB_len 0 (Nat.zero_le _) 7 (by decide) 1 3 2 (by decide) (.inr (by decide)) (by decide) (by decide) (ns [3, 9, 11]) (fun _ => rchk_ok _ rs3)
  have h2 := srX_ok LB 0 7 1 3 2 (ns [3, 9, 11]) h
  have h3 := sread_bits 7 1 3 2 (by decide) (by decide) [2, 3, 4, 5, 9, 20] [3, 9, 11] rs6 (fun _ => rs3) [] []
  rw [List.nil_append, List.append_nil] at h3
  rw [tn_ns] at h2
  refine h2.trans (h3.trans ?_)
  rw [List.length_nil, Nat.zero_add]; rfl
theorem z1_w : swF 7 [] [] 0 0 1 = 0 ∧ swL 7 [] [] 0 0 1 = [true] := by decide +kernel
theorem z1_r : srX 0 [] 0 7 [] 0 0 1 = ([], 0, 1) := by decide +kernel
theorem p1 : pack [true] = [128] := by decide +kernel
theorem sb1 (lW : Int) (nW : Nat) (bW : List Nat) (h1 : (LB.length : Int) = lW) (h2 : (pack LB).length = nW) (h3 : pack LB = bW) (A B : Option Addr) (w : World) (hA : RdV w w.heap.size A (zc (ns [2, 3, 4, 5, 9, 20]))) (hB : RdV w w.heap.size B (zc (ns [3, 9, 11]))) : Calls Tryz.prog 13 #[.int .i64 7, .slice A 6 6, .slice B 3 3, .agg #[.int .i64 1, .int .i64 3, .int .i64 2]] w (Gv w lW nW bW 0) := by
  subst h1; subst h2; subst h3
  have h := swrite_any 7 (ns [2, 3, 4, 5, 9, 20]) 6 rfl (by decide) (ns [3, 9, 11]) 3 rfl (by decide) 1 3 2 A B 6 3 (Nat.le_refl _) w hA hB
  rw [lb_w.1, lb_w.2] at h
  exact h
theorem sb2 (lW : Int) (to : Nat) (nW : Nat) (bW : List Nat) (h0 : LB.length = to) (h1 : (LB.length : Int) = lW) (h2 : (pack LB).length = nW) (h3 : pack LB = bW) (A B : Option Addr) (c : Nat) (hn : B = none → (3 : Nat) = 0) (w : World) (hA : Rd w w.heap.size A bW) (hB : RdV w w.heap.size B (zc (ns [3, 9, 11]))) : Calls Tryz.prog 14 #[.agg #[.int .i64 lW, .slice A nW c], .int .i64 0, .int .i64 7, .slice B 3 3, .agg #[.int .i64 1, .int .i64 3, .int .i64 2]] w (RdM w 6 [2, 3, 4, 5, 9, 20] to 0) := by
  subst h0; subst h1; subst h2; subst h3
  have h := sread_all (LB.length : Int) A c (pack LB) (pack_lt _) 0 7 (ns [3, 9, 11]) 3 rfl (by decide) B 3 hn (Nat.le_refl _) 1 3 2 w hA hB
  rw [lb_r] at h
  exact h.mono fun _ _ q => rdM q rfl
theorem sb3 (w : World) : Calls Tryz.prog 13 #[.int .i64 7, .slice none 0 0, .slice none 0 0, .agg #[.int .i64 0, .int .i64 0, .int .i64 1]] w (Gv w 1 1 [128] 0) := by
  have h := swrite_any 7 [] 0 rfl (by decide) [] 0 rfl (by decide) 0 0 1 none none 0 0 (Nat.le_refl _) w (.inl rfl) (.inl rfl)
  rw [z1_w.1, z1_w.2] at h
  unfold Gave at h
  rw [p1] at h
  exact h
theorem sb4 (w : World) : Calls Tryz.prog 14 #[.agg #[.int .i64 0, .slice none 0 0], .int .i64 0, .int .i64 7, .slice none 0 0, .agg #[.int .i64 0, .int .i64 0, .int .i64 1]] w (RdM w 0 [] 0 1) := by
  have h := sread_all 0 none 0 [] (by simp) 0 7 [] 0 rfl (by decide) none 0 (fun _ => rfl) (Nat.le_refl _) 0 0 1 w (Rd.nil w _ none) (.inl rfl)
  rw [z1_r] at h
  exact h.mono fun _ _ q => rdM q rfl
theorem sb5 (A : Option Addr) (c : Nat) (B : Option Addr) (w : World) (hA : Rd w w.heap.size A [128]) (hB : Rd w w.heap.size B [128]) : Calls Tryz.prog 20 #[.agg #[.int .i64 1, .slice A 1 c], .agg #[.int .i64 1, .slice B 1 1]] w fun e w' => e = .returned (.bool true) ∧ Below w.heap.size w w' := by
  have h := sameBits_any w 1 1 A B c 1 [128] [128] (by decide) hA hB
  simpa using h
theorem sb6 (w : World) : Calls Tryz.prog 18 #[.agg #[.int .i64 0, .int .i64 1, .int .i64 1]] w fun e w' => e = .returned (.int .i64 3) ∧ Below w.heap.size w w' := by
  have h := scheck_any 0 1 1 w
  rw [show hck 0 1 1 = 3 from by decide +kernel] at h
  exact h
theorem rows3 (w : World) : RdV (((w.alloc (.cells #[.int .i64 1, .int .i64 3, .int .i64 2] 24)).alloc (.cells #[.int .i64 2, .int .i64 3, .int .i64 4, .int .i64 5, .int .i64 9, .int .i64 20] 3)).alloc (.cells #[.int .i64 3, .int .i64 9, .int .i64 11] 3)) (((w.alloc (.cells #[.int .i64 1, .int .i64 3, .int .i64 2] 24)).alloc (.cells #[.int .i64 2, .int .i64 3, .int .i64 4, .int .i64 5, .int .i64 9, .int .i64 20] 3)).alloc (.cells #[.int .i64 3, .int .i64 9, .int .i64 11] 3)).heap.size (some ⟨w.heap.size + 1, 0, none⟩) (zc (ns [2, 3, 4, 5, 9, 20])) ∧ RdV (((w.alloc (.cells #[.int .i64 1, .int .i64 3, .int .i64 2] 24)).alloc (.cells #[.int .i64 2, .int .i64 3, .int .i64 4, .int .i64 5, .int .i64 9, .int .i64 20] 3)).alloc (.cells #[.int .i64 3, .int .i64 9, .int .i64 11] 3)) (((w.alloc (.cells #[.int .i64 1, .int .i64 3, .int .i64 2] 24)).alloc (.cells #[.int .i64 2, .int .i64 3, .int .i64 4, .int .i64 5, .int .i64 9, .int .i64 20] 3)).alloc (.cells #[.int .i64 3, .int .i64 9, .int .i64 11] 3)).heap.size (some ⟨w.heap.size + 1 + 1, 0, none⟩) (zc (ns [3, 9, 11])) := by
  obtain ⟨_, _, _, h1, h2⟩ := al3 (w := w) (Below.refl _ (((w.alloc (.cells #[.int .i64 1, .int .i64 3, .int .i64 2] 24)).alloc (.cells #[.int .i64 2, .int .i64 3, .int .i64 4, .int .i64 5, .int .i64 9, .int .i64 20] 3)).alloc (.cells #[.int .i64 3, .int .i64 9, .int .i64 11] 3)))
  exact ⟨rz_row [2, 3, 4, 5, 9, 20] h1 rfl, rz_row [3, 9, 11] h2 rfl⟩
theorem rows2 (w : World) (lW : Int) (A : Option Addr) (nW c : Nat) : RdV ((w.alloc (.cells #[.int .i64 lW, .slice A nW c] 27)).alloc (.cells #[.int .i64 3, .int .i64 9, .int .i64 11] 3)) ((w.alloc (.cells #[.int .i64 lW, .slice A nW c] 27)).alloc (.cells #[.int .i64 3, .int .i64 9, .int .i64 11] 3)).heap.size (some ⟨w.heap.size + 1, 0, none⟩) (zc (ns [3, 9, 11])) := by
  obtain ⟨_, _, _, h1⟩ := al2 (w := w) (Below.refl _ ((w.alloc (.cells #[.int .i64 lW, .slice A nW c] 27)).alloc (.cells #[.int .i64 3, .int .i64 9, .int .i64 11] 3)))
  exact rz_row [3, 9, 11] h1 rfl
theorem row128 (w : World) : Rd (w.alloc (.cells #[.int .u8 128] 5)) (w.alloc (.cells #[.int .u8 128] 5)).heap.size (some ⟨w.heap.size, 0, none⟩) [128] := rb_row 128 (al1 (w := w) (Below.refl _ _)).2.2
set_option maxHeartbeats 4000000 in
theorem succbegun_true (w : World) : Calls Tryz.prog 17 #[] w fun e w' => e = .returned (.bool true) ∧ Below w.heap.size w w' := by
  obtain ⟨lW, h1⟩ : ∃ lW, (LB.length : Int) = lW := ⟨_, rfl⟩
  obtain ⟨nW, h2⟩ : ∃ nW, (pack LB).length = nW := ⟨_, rfl⟩
  obtain ⟨bW, h3⟩ : ∃ bW, pack LB = bW := ⟨_, rfl⟩
  obtain ⟨to, h0⟩ : ∃ to, LB.length = to := ⟨_, rfl⟩
  have H1 : Hid (∀ w : World, Calls Tryz.prog 13 #[.int .i64 7, .slice (some ⟨w.heap.size + 1, 0, none⟩) 6 6, .slice (some ⟨w.heap.size + 1 + 1, 0, none⟩) 3 3, .agg #[.int .i64 1, .int .i64 3, .int .i64 2]] (((w.alloc (.cells #[.int .i64 1, .int .i64 3, .int .i64 2] 24)).alloc (.cells #[.int .i64 2, .int .i64 3, .int .i64 4, .int .i64 5, .int .i64 9, .int .i64 20] 3)).alloc (.cells #[.int .i64 3, .int .i64 9, .int .i64 11] 3)) (Gv (((w.alloc (.cells #[.int .i64 1, .int .i64 3, .int .i64 2] 24)).alloc (.cells #[.int .i64 2, .int .i64 3, .int .i64 4, .int .i64 5, .int .i64 9, .int .i64 20] 3)).alloc (.cells #[.int .i64 3, .int .i64 9, .int .i64 11] 3)) lW nW bW 0)) := fun w => sb1 lW nW bW h1 h2 h3 _ _ _ (rows3 w).1 (rows3 w).2
  have H2 : Hid (∀ (A : Option Addr) (c : Nat) (w : World), Rd w w.heap.size A bW → Calls Tryz.prog 14 #[.agg #[.int .i64 lW, .slice A nW c], .int .i64 0, .int .i64 7, .slice (some ⟨w.heap.size + 1, 0, none⟩) 3 3, .agg #[.int .i64 1, .int .i64 3, .int .i64 2]] ((w.alloc (.cells #[.int .i64 lW, .slice A nW c] 27)).alloc (.cells #[.int .i64 3, .int .i64 9, .int .i64 11] 3)) (RdM ((w.alloc (.cells #[.int .i64 lW, .slice A nW c] 27)).alloc (.cells #[.int .i64 3, .int .i64 9, .int .i64 11] 3)) 6 [2, 3, 4, 5, 9, 20] to 0)) := fun A c w h => sb2 lW to nW bW h0 h1 h2 h3 A _ c (fun h => by cases h) _ (h.on (low2 w _ _)) (rows2 w lW A nW c)
  have t0 : ((to : Int) == lW) = true := by rw [← h0, h1]; simp
  clear h0 h1 h2 h3
  go_enter Tryz.func17, Tryz.ntmps17
  go_wp2_with fail
  refine (H1.out w).mono ?_
  rintro e w1_ ⟨A1, c1, rfl, Rq, Bq⟩
  obtain ⟨Sq, Zq, X1_0, X1_1, X1_2⟩ := al3 Bq
  have Hh : Hid (w1_.heap[w.heap.size]? = some (.cells #[.int .i64 1, .int .i64 3, .int .i64 2] 24 (0, 0))) := X1_0
  have zh : w.heap.size < w1_.heap.size := by omega
  have ph0 : w1_.cell? ⟨w.heap.size, 0, none⟩ = some (.int .i64 1) := (cell_at Hh.out _).trans rfl
  have ph1 : w1_.cell? ⟨w.heap.size, 1, none⟩ = some (.int .i64 3) := (cell_at Hh.out _).trans rfl
  have ph2 : w1_.cell? ⟨w.heap.size, 2, none⟩ = some (.int .i64 2) := (cell_at Hh.out _).trans rfl
  have Hl : Hid (w1_.heap[(w.heap.size + 1)]? = some (.cells #[.int .i64 2, .int .i64 3, .int .i64 4, .int .i64 5, .int .i64 9, .int .i64 20] 3 (0, 0))) := X1_1
  have zl : (w.heap.size + 1) < w1_.heap.size := by omega
  have pl0 : w1_.cell? ⟨(w.heap.size + 1), 0, none⟩ = some (.int .i64 2) := (cell_at Hl.out _).trans rfl
  have pl1 : w1_.cell? ⟨(w.heap.size + 1), 1, none⟩ = some (.int .i64 3) := (cell_at Hl.out _).trans rfl
  have pl2 : w1_.cell? ⟨(w.heap.size + 1), 2, none⟩ = some (.int .i64 4) := (cell_at Hl.out _).trans rfl
  have pl3 : w1_.cell? ⟨(w.heap.size + 1), 3, none⟩ = some (.int .i64 5) := (cell_at Hl.out _).trans rfl
  have pl4 : w1_.cell? ⟨(w.heap.size + 1), 4, none⟩ = some (.int .i64 9) := (cell_at Hl.out _).trans rfl
  have pl5 : w1_.cell? ⟨(w.heap.size + 1), 5, none⟩ = some (.int .i64 20) := (cell_at Hl.out _).trans rfl
  clear Zq X1_0 X1_1 X1_2
  have HB : Hid (Below w.heap.size w w1_) := Sq
  clear Bq Sq
  have HR1 := Lib.hid Rq; clear Rq
  have HRl : Hid (RdV w1_ w1_.heap.size (some ⟨w.heap.size + 1, 0, none⟩) (zc (ns [2, 3, 4, 5, 9, 20]))) := rz_row [2, 3, 4, 5, 9, 20] Hl.out rfl
  clear Hl zl pl0 pl1 pl2 pl3 pl4 pl5
  go_wp2_with fail
  refine (H2.out A1 c1 w1_ HR1.out).mono ?_
  rintro e w2_ ⟨A2, c2, rfl, hcp, Rq, Bq⟩
  obtain ⟨Sq, Zq, X2_0, X2_1⟩ := al2 Bq
  have Hx : Hid (w2_.heap[w1_.heap.size]? = some (.cells #[.int .i64 lW, .slice A1 nW c1] 27 (0, 0))) := X2_0
  have zx : w1_.heap.size < w2_.heap.size := by omega
  have px0 : w2_.cell? ⟨w1_.heap.size, 0, none⟩ = some (.int .i64 lW) := (cell_at Hx.out _).trans rfl
  have px1 : w2_.cell? ⟨w1_.heap.size, 1, none⟩ = some (.slice A1 nW c1) := (cell_at Hx.out _).trans rfl
  clear Zq X2_0 X2_1
  replace Hh : Hid (w2_.heap[w.heap.size]? = some (.cells #[.int .i64 1, .int .i64 3, .int .i64 2] 24 (0, 0))) := (Sq.block _ zh).trans Hh.out
  replace ph0 : w2_.cell? ⟨w.heap.size, 0, none⟩ = some (.int .i64 1) := (cell_at Hh.out _).trans rfl
  replace ph1 : w2_.cell? ⟨w.heap.size, 1, none⟩ = some (.int .i64 3) := (cell_at Hh.out _).trans rfl
  replace ph2 : w2_.cell? ⟨w.heap.size, 2, none⟩ = some (.int .i64 2) := (cell_at Hh.out _).trans rfl
  replace zh : w.heap.size < w2_.heap.size := Nat.lt_of_lt_of_le zh Sq.size
  replace HR1 : Hid (Rd w2_ w2_.heap.size A1 bW) := HR1.out.on Sq
  replace HRl : Hid (RdV w2_ w2_.heap.size (some ⟨w.heap.size + 1, 0, none⟩) (zc (ns [2, 3, 4, 5, 9, 20]))) := HRl.out.on Sq
  replace HB : Hid (Below w.heap.size w w2_) := HB.out.trans (Sq.mono HB.out.size)
  clear Bq Sq
  have HR2 := Lib.hid Rq; clear Rq
  go_wp2_with fail
  refine (sb3 _).mono ?_
  rintro e w3_ ⟨A3, c3, rfl, Rq, Bq⟩
  have Sq : Below w2_.heap.size w2_ w3_ := Bq
  replace Hh : Hid (w3_.heap[w.heap.size]? = some (.cells #[.int .i64 1, .int .i64 3, .int .i64 2] 24 (0, 0))) := (Sq.block _ zh).trans Hh.out
  replace ph0 : w3_.cell? ⟨w.heap.size, 0, none⟩ = some (.int .i64 1) := (cell_at Hh.out _).trans rfl
  replace ph1 : w3_.cell? ⟨w.heap.size, 1, none⟩ = some (.int .i64 3) := (cell_at Hh.out _).trans rfl
  replace ph2 : w3_.cell? ⟨w.heap.size, 2, none⟩ = some (.int .i64 2) := (cell_at Hh.out _).trans rfl
  replace zh : w.heap.size < w3_.heap.size := Nat.lt_of_lt_of_le zh Sq.size
  replace Hx : Hid (w3_.heap[w1_.heap.size]? = some (.cells #[.int .i64 lW, .slice A1 nW c1] 27 (0, 0))) := (Sq.block _ zx).trans Hx.out
  replace px0 : w3_.cell? ⟨w1_.heap.size, 0, none⟩ = some (.int .i64 lW) := (cell_at Hx.out _).trans rfl
  replace px1 : w3_.cell? ⟨w1_.heap.size, 1, none⟩ = some (.slice A1 nW c1) := (cell_at Hx.out _).trans rfl
  replace zx : w1_.heap.size < w3_.heap.size := Nat.lt_of_lt_of_le zx Sq.size
  replace HR1 : Hid (Rd w3_ w3_.heap.size A1 bW) := HR1.out.on Sq
  replace HRl : Hid (RdV w3_ w3_.heap.size (some ⟨w.heap.size + 1, 0, none⟩) (zc (ns [2, 3, 4, 5, 9, 20]))) := HRl.out.on Sq
  replace HR2 : Hid (RdV w3_ w3_.heap.size A2 (zc (ns [2, 3, 4, 5, 9, 20]))) := HR2.out.on Sq
  replace HB : Hid (Below w.heap.size w w3_) := HB.out.trans (Sq.mono HB.out.size)
  clear Bq Sq
  have HR3 := Lib.hid Rq; clear Rq
  go_wp2_with fail
  refine (sb4 _).mono ?_
  rintro e w4_ ⟨A4, c4, rfl, -, -, Bq⟩
  obtain ⟨Sq, Zq, X4_0⟩ := al1 Bq
  have Hz : Hid (w4_.heap[w3_.heap.size]? = some (.cells #[.int .i64 1, .slice A3 1 c3] 27 (0, 0))) := X4_0
  have zz : w3_.heap.size < w4_.heap.size := by omega
  have pz0 : w4_.cell? ⟨w3_.heap.size, 0, none⟩ = some (.int .i64 1) := (cell_at Hz.out _).trans rfl
  have pz1 : w4_.cell? ⟨w3_.heap.size, 1, none⟩ = some (.slice A3 1 c3) := (cell_at Hz.out _).trans rfl
  clear Zq X4_0
  replace Hh : Hid (w4_.heap[w.heap.size]? = some (.cells #[.int .i64 1, .int .i64 3, .int .i64 2] 24 (0, 0))) := (Sq.block _ zh).trans Hh.out
  replace ph0 : w4_.cell? ⟨w.heap.size, 0, none⟩ = some (.int .i64 1) := (cell_at Hh.out _).trans rfl
  replace ph1 : w4_.cell? ⟨w.heap.size, 1, none⟩ = some (.int .i64 3) := (cell_at Hh.out _).trans rfl
  replace ph2 : w4_.cell? ⟨w.heap.size, 2, none⟩ = some (.int .i64 2) := (cell_at Hh.out _).trans rfl
  replace zh : w.heap.size < w4_.heap.size := Nat.lt_of_lt_of_le zh Sq.size
  replace Hx : Hid (w4_.heap[w1_.heap.size]? = some (.cells #[.int .i64 lW, .slice A1 nW c1] 27 (0, 0))) := (Sq.block _ zx).trans Hx.out
  replace px0 : w4_.cell? ⟨w1_.heap.size, 0, none⟩ = some (.int .i64 lW) := (cell_at Hx.out _).trans rfl
  replace px1 : w4_.cell? ⟨w1_.heap.size, 1, none⟩ = some (.slice A1 nW c1) := (cell_at Hx.out _).trans rfl
  replace zx : w1_.heap.size < w4_.heap.size := Nat.lt_of_lt_of_le zx Sq.size
  replace HR1 : Hid (Rd w4_ w4_.heap.size A1 bW) := HR1.out.on Sq
  replace HRl : Hid (RdV w4_ w4_.heap.size (some ⟨w.heap.size + 1, 0, none⟩) (zc (ns [2, 3, 4, 5, 9, 20]))) := HRl.out.on Sq
  replace HR2 : Hid (RdV w4_ w4_.heap.size A2 (zc (ns [2, 3, 4, 5, 9, 20]))) := HR2.out.on Sq
  replace HR3 : Hid (Rd w4_ w4_.heap.size A3 [128]) := HR3.out.on Sq
  replace HB : Hid (Below w.heap.size w w4_) := HB.out.trans (Sq.mono HB.out.size)
  clear Bq Sq
  go_wp2_with fail
  refine (sameI_x (ns [2, 3, 4, 5, 9, 20]) 6 rfl (by decide) A2 (some ⟨w.heap.size + 1, 0, none⟩) c2 6 _ HR2.out HRl.out).mono ?_
  rintro e w5_ ⟨rfl, Bq⟩
  have Sq : Below w4_.heap.size w4_ w5_ := Bq
  replace Hh : Hid (w5_.heap[w.heap.size]? = some (.cells #[.int .i64 1, .int .i64 3, .int .i64 2] 24 (0, 0))) := (Sq.block _ zh).trans Hh.out
  replace ph0 : w5_.cell? ⟨w.heap.size, 0, none⟩ = some (.int .i64 1) := (cell_at Hh.out _).trans rfl
  replace ph1 : w5_.cell? ⟨w.heap.size, 1, none⟩ = some (.int .i64 3) := (cell_at Hh.out _).trans rfl
  replace ph2 : w5_.cell? ⟨w.heap.size, 2, none⟩ = some (.int .i64 2) := (cell_at Hh.out _).trans rfl
  replace zh : w.heap.size < w5_.heap.size := Nat.lt_of_lt_of_le zh Sq.size
  replace Hx : Hid (w5_.heap[w1_.heap.size]? = some (.cells #[.int .i64 lW, .slice A1 nW c1] 27 (0, 0))) := (Sq.block _ zx).trans Hx.out
  replace px0 : w5_.cell? ⟨w1_.heap.size, 0, none⟩ = some (.int .i64 lW) := (cell_at Hx.out _).trans rfl
  replace px1 : w5_.cell? ⟨w1_.heap.size, 1, none⟩ = some (.slice A1 nW c1) := (cell_at Hx.out _).trans rfl
  replace zx : w1_.heap.size < w5_.heap.size := Nat.lt_of_lt_of_le zx Sq.size
  replace Hz : Hid (w5_.heap[w3_.heap.size]? = some (.cells #[.int .i64 1, .slice A3 1 c3] 27 (0, 0))) := (Sq.block _ zz).trans Hz.out
  replace pz0 : w5_.cell? ⟨w3_.heap.size, 0, none⟩ = some (.int .i64 1) := (cell_at Hz.out _).trans rfl
  replace pz1 : w5_.cell? ⟨w3_.heap.size, 1, none⟩ = some (.slice A3 1 c3) := (cell_at Hz.out _).trans rfl
  replace zz : w3_.heap.size < w5_.heap.size := Nat.lt_of_lt_of_le zz Sq.size
  replace HR1 : Hid (Rd w5_ w5_.heap.size A1 bW) := HR1.out.on Sq
  replace HRl : Hid (RdV w5_ w5_.heap.size (some ⟨w.heap.size + 1, 0, none⟩) (zc (ns [2, 3, 4, 5, 9, 20]))) := HRl.out.on Sq
  replace HR2 : Hid (RdV w5_ w5_.heap.size A2 (zc (ns [2, 3, 4, 5, 9, 20]))) := HR2.out.on Sq
  replace HR3 : Hid (Rd w5_ w5_.heap.size A3 [128]) := HR3.out.on Sq
  replace HB : Hid (Below w.heap.size w w5_) := HB.out.trans (Sq.mono HB.out.size)
  clear Bq Sq
  go_wp2_with fail
  refine (sb5 A3 c3 (some ⟨w5_.heap.size, 0, none⟩) _ (HR3.out.on (one_below w5_ _)) (row128 w5_)).mono ?_
  rintro e w6_ ⟨rfl, Bq⟩
  obtain ⟨Sq, Zq, X6_0⟩ := al1 Bq
  clear Zq X6_0
  replace Hh : Hid (w6_.heap[w.heap.size]? = some (.cells #[.int .i64 1, .int .i64 3, .int .i64 2] 24 (0, 0))) := (Sq.block _ zh).trans Hh.out
  replace ph0 : w6_.cell? ⟨w.heap.size, 0, none⟩ = some (.int .i64 1) := (cell_at Hh.out _).trans rfl
  replace ph1 : w6_.cell? ⟨w.heap.size, 1, none⟩ = some (.int .i64 3) := (cell_at Hh.out _).trans rfl
  replace ph2 : w6_.cell? ⟨w.heap.size, 2, none⟩ = some (.int .i64 2) := (cell_at Hh.out _).trans rfl
  replace zh : w.heap.size < w6_.heap.size := Nat.lt_of_lt_of_le zh Sq.size
  replace Hx : Hid (w6_.heap[w1_.heap.size]? = some (.cells #[.int .i64 lW, .slice A1 nW c1] 27 (0, 0))) := (Sq.block _ zx).trans Hx.out
  replace px0 : w6_.cell? ⟨w1_.heap.size, 0, none⟩ = some (.int .i64 lW) := (cell_at Hx.out _).trans rfl
  replace px1 : w6_.cell? ⟨w1_.heap.size, 1, none⟩ = some (.slice A1 nW c1) := (cell_at Hx.out _).trans rfl
  replace zx : w1_.heap.size < w6_.heap.size := Nat.lt_of_lt_of_le zx Sq.size
  replace Hz : Hid (w6_.heap[w3_.heap.size]? = some (.cells #[.int .i64 1, .slice A3 1 c3] 27 (0, 0))) := (Sq.block _ zz).trans Hz.out
  replace pz0 : w6_.cell? ⟨w3_.heap.size, 0, none⟩ = some (.int .i64 1) := (cell_at Hz.out _).trans rfl
  replace pz1 : w6_.cell? ⟨w3_.heap.size, 1, none⟩ = some (.slice A3 1 c3) := (cell_at Hz.out _).trans rfl
  replace zz : w3_.heap.size < w6_.heap.size := Nat.lt_of_lt_of_le zz Sq.size
  replace HR1 : Hid (Rd w6_ w6_.heap.size A1 bW) := HR1.out.on Sq
  replace HRl : Hid (RdV w6_ w6_.heap.size (some ⟨w.heap.size + 1, 0, none⟩) (zc (ns [2, 3, 4, 5, 9, 20]))) := HRl.out.on Sq
  replace HR2 : Hid (RdV w6_ w6_.heap.size A2 (zc (ns [2, 3, 4, 5, 9, 20]))) := HR2.out.on Sq
  replace HR3 : Hid (Rd w6_ w6_.heap.size A3 [128]) := HR3.out.on Sq
  replace HB : Hid (Below w.heap.size w w6_) := HB.out.trans (Sq.mono HB.out.size)
  clear Bq Sq
  go_wp2_with fail
  refine (sb6 _).mono ?_
  rintro e w7_ ⟨rfl, Bq⟩
  have Sq : Below w6_.heap.size w6_ w7_ := Bq
  replace Hh : Hid (w7_.heap[w.heap.size]? = some (.cells #[.int .i64 1, .int .i64 3, .int .i64 2] 24 (0, 0))) := (Sq.block _ zh).trans Hh.out
  replace ph0 : w7_.cell? ⟨w.heap.size, 0, none⟩ = some (.int .i64 1) := (cell_at Hh.out _).trans rfl
  replace ph1 : w7_.cell? ⟨w.heap.size, 1, none⟩ = some (.int .i64 3) := (cell_at Hh.out _).trans rfl
  replace ph2 : w7_.cell? ⟨w.heap.size, 2, none⟩ = some (.int .i64 2) := (cell_at Hh.out _).trans rfl
  replace zh : w.heap.size < w7_.heap.size := Nat.lt_of_lt_of_le zh Sq.size
  replace Hx : Hid (w7_.heap[w1_.heap.size]? = some (.cells #[.int .i64 lW, .slice A1 nW c1] 27 (0, 0))) := (Sq.block _ zx).trans Hx.out
  replace px0 : w7_.cell? ⟨w1_.heap.size, 0, none⟩ = some (.int .i64 lW) := (cell_at Hx.out _).trans rfl
  replace px1 : w7_.cell? ⟨w1_.heap.size, 1, none⟩ = some (.slice A1 nW c1) := (cell_at Hx.out _).trans rfl
  replace zx : w1_.heap.size < w7_.heap.size := Nat.lt_of_lt_of_le zx Sq.size
  replace Hz : Hid (w7_.heap[w3_.heap.size]? = some (.cells #[.int .i64 1, .slice A3 1 c3] 27 (0, 0))) := (Sq.block _ zz).trans Hz.out
  replace pz0 : w7_.cell? ⟨w3_.heap.size, 0, none⟩ = some (.int .i64 1) := (cell_at Hz.out _).trans rfl
  replace pz1 : w7_.cell? ⟨w3_.heap.size, 1, none⟩ = some (.slice A3 1 c3) := (cell_at Hz.out _).trans rfl
  replace zz : w3_.heap.size < w7_.heap.size := Nat.lt_of_lt_of_le zz Sq.size
  replace HR1 : Hid (Rd w7_ w7_.heap.size A1 bW) := HR1.out.on Sq
  replace HRl : Hid (RdV w7_ w7_.heap.size (some ⟨w.heap.size + 1, 0, none⟩) (zc (ns [2, 3, 4, 5, 9, 20]))) := HRl.out.on Sq
  replace HR2 : Hid (RdV w7_ w7_.heap.size A2 (zc (ns [2, 3, 4, 5, 9, 20]))) := HR2.out.on Sq
  replace HR3 : Hid (Rd w7_ w7_.heap.size A3 [128]) := HR3.out.on Sq
  replace HB : Hid (Below w.heap.size w w7_) := HB.out.trans (Sq.mono HB.out.size)
  clear Bq Sq
  go_wp2
  go_ret
  exact ⟨rfl, HB.out⟩
end
section
section
set_option maxRecDepth 100000
set_option linter.unusedVariables false
open Go.RowKit
theorem own_lit1 (w : World) (base : Nat) (hb : base ≤ w.heap.size) (u : Value) : (w.alloc (.cells #[u] 3)).ownsRow base 3 1 (.slice (some ⟨w.heap.size, 0, none⟩) 1 1) 1 [u] :=
  ⟨rfl, .inr ⟨w.heap.size, 1, #[u], rfl, hb, World.alloc_heap_new w _, Nat.le_refl _, by decide, rfl, rfl⟩⟩
def BiRel (w : World) (n : Nat) (v p : Value) (wr : World) : Prop :=
  ∃ j : Nat, v = .int .u64 ((n / 2 ^ j : Nat) : Int) ∧ wr.ownsRow w.heap.size 3 1 p j (ic (nb n j)) ∧ Below w.heap.size w wr ∧ (j = 0 ∨ 2 ^ j ≤ 2 * n)
theorem bi_bit (n j : Nat) : ic (nb n (j + 1)) = [.int .i64 (((n / 2 ^ j : Nat) : Int) % 2)] ++ ic (nb n j) := by
  rw [nb_succ]
  generalize n / 2 ^ j = y
  have e : (((y % 2 == 1).toNat : Nat) : Int) = (y : Int) % 2 := by
    rcases (show y % 2 = 0 ∨ y % 2 = 1 by omega) with h | h
    · rw [h]; have : (y : Int) % 2 = 0 := by omega
      rw [this]; rfl
    · rw [h]; have : (y : Int) % 2 = 1 := by omega
      rw [this]; rfl
  simp [ic, e]
set_option maxHeartbeats 1000000 in
theorem binary_any (n K : Nat) (hn : n < 18446744073709551616) (h0 : 1 ≤ n) (h1 : n < 2 ^ K) (h2 : 2 ^ K ≤ 2 * n) (L : List Bool) (hL : L = nb n K) (w : World) :
    Calls Tryz.prog 79 #[.int .u64 (n : Int)] w (Listed w L) := by
  have HL := Lib.hid hL; clear hL
  have H1 := Lib.hid h1; clear h1
  have H2 := Lib.hid h2; clear h2
  go_enter Tryz.func79, Tryz.ntmps79
  go_wp2
  go_loopw [0, 3] (fun v p wr => BiRel w n v p wr) (fun v _ _ => (intOf v).toNat)
  case atStart => exact ⟨0, by rw [Nat.pow_zero, Nat.div_one], ⟨rfl, .inl ⟨rfl, rfl⟩⟩, Below.refl _ _, .inl rfl⟩
  case round =>
    obtain ⟨j, rfl, hrow, hbel, hj⟩ := hrel
    obtain ⟨Av, cv, rfl⟩ := own_slice3 hrow
    have hyn : n / 2 ^ j ≤ n := Nat.div_le_self _ _
    have HBel := Lib.hid hbel; clear hbel
    have HJ := Lib.hid hj; clear hj
    by_cases hlt : 0 < n / 2 ^ j
    · have HP : Hid (2 ^ j ≤ n) := by
        show _ ≤ _
        rcases Nat.lt_or_ge n (2 ^ j) with h | h
        · rw [Nat.div_eq_of_lt h] at hlt; omega
        · exact h
      have HJs : Hid ((j + 1) * 8 ≤ 140737488355328) := by
        have h64 : 2 ^ j < 2 ^ 64 := Nat.lt_of_le_of_lt HP.out hn
        have := pow_inj_le h64
        show _ ≤ _
        omega
      have HH : Hid (n / 2 ^ (j + 1) = n / 2 ^ j / 2) := by
        show _ = _
        rw [Nat.pow_succ, Nat.div_div_eq_div_mul]
      have HBit := Lib.hid (bi_bit n j)
      have HRow := Lib.hid hrow; clear hrow
      generalize n / 2 ^ j = y at *
      go_wp2_with (at_builtin; refine app3 rfl _ _ rfl w.heap.size _ 1 _ rfl (own_lit1 wr w.heap.size HBel.out.size _) Av j cv (ic (nb n j)) rfl (own_rdv (HRow.out.alloc _)) (by rw [ic_length, nb_length]) (ic_one _) (own_none HRow.out) (by have := HJs.out; omega) (by have := HBel.out.size; simp; omega) ?_; intro v' w3 hown' hgrow; obtain ⟨A3, c3, rfl⟩ := own_slice3 hown'; rw [Nat.add_comm 1 j] at hown' ⊢)
      have HGr := Lib.hid hgrow; clear hgrow
      have HOw := Lib.hid hown'; clear hown'
      refine ⟨⟨j + 1, by rw [HH.out]; go_num, ?_, (HBel.out.alloc HBel.out.size _).grown HGr.out (by have := HBel.out.size; simp; omega) (fun k hk => ((own_lit1 wr w.heap.size HBel.out.size (.int .i64 0)).lt k hk).1), .inr (by have := HP.out; rw [Nat.pow_succ]; omega)⟩, by simp [intOf]; omega⟩
      rw [HBit.out]
      exact HOw.out
    · have e0 : n / 2 ^ j = 0 := Nat.eq_zero_of_not_pos hlt
      have hjK : j = K := by
        have hnj : n < 2 ^ j := by
          rcases Nat.div_eq_zero_iff.1 e0 with h | h
          · have := Nat.two_pow_pos j; omega
          · exact h
        rcases HJ.out with rfl | h
        · rw [Nat.pow_zero] at hnj; omega
        · have a := pow_inj_le (a := j) (b := K + 1) (by have := H1.out; rw [Nat.pow_succ]; omega)
          have b := pow_inj_le (a := K) (b := j + 1) (by have := H2.out; rw [Nat.pow_succ]; omega)
          omega
      have HF : Hid (Listed w L (.returned (.slice Av j cv)) wr) := by
        have hl : L.length = j := by rw [HL.out, nb_length, hjK]
        refine ⟨Av, cv, by rw [hl], ?_, HBel.out⟩
        rw [hl, HL.out, ← hjK]
        exact hrow
      clear hrow HJ H1 H2
      rw [e0]
      go_wp2
      go_ret
      exact HF.out
def GLRel (w1 : World) (k : Nat) (v p : Value) (wr : World) : Prop :=
  ∃ i : Nat, i ≤ k ∧ p = .int .i64 ((i : Int) + 1) ∧ wr.ownsRow w1.heap.size 3 1 v i (ic (List.replicate i false)) ∧ Below w1.heap.size w1 wr
set_option maxHeartbeats 1000000 in
theorem gammaList_any (n : Nat) (hn : n ≤ 1099511627776) (L : List Bool) (hL : L = gam n) (w : World) :
    Calls Tryz.prog 34 #[.int .u64 (n : Int)] w (Listed w L) := by
  obtain ⟨i0, hi, hz0, hz1, hz2⟩ := info_parts info3
  have a := lg_le n
  have b := lg_lt n
  have hk := lg_lt_of n 41 (by omega)
  have HBi := Lib.hid (binary_any (n + 1) (lg n + 1) (by omega) (by omega) b (by rw [Nat.pow_succ]; omega) _ rfl)
  have HL : Hid (L = List.replicate (lg n) false ++ nb (n + 1) (lg n + 1)) := by
    show _ = _
    rw [hL, nb_top _ _ a b]; simp [gam, uc]
  clear hL a b
  have HLen : Hid ((nb (n + 1) (lg n + 1)).length = lg n + 1) := nb_length _ _
  generalize nb (n + 1) (lg n + 1) = B at *
  generalize lg n = k at *
  go_enter Tryz.func34, Tryz.ntmps34
  go_wp2_with fail
  refine (HBi.out _).mono ?_
  rintro e w1 ⟨A1, c1, rfl, ho1, hb1⟩
  rw [HLen.out] at ho1 ⊢
  have HO1 := Lib.hid ho1; clear ho1
  have HB1 := Lib.hid hb1; clear hb1
  go_wp2
  go_loopw [4, 5] (fun v p wr => GLRel w1 k v p wr) (fun _ p _ => k + 1 - (intOf p).toNat)
  case atStart => exact ⟨0, Nat.zero_le _, rfl, ⟨rfl, .inl ⟨rfl, rfl⟩⟩, Below.refl _ _⟩
  case round =>
    obtain ⟨i, him, rfl, hrow, hbel⟩ := hrel
    obtain ⟨Av, cv, rfl⟩ := own_slice3 hrow
    have HBel := Lib.hid hbel; clear hbel
    by_cases hlt : i < k
    · go_wp2_with (at_builtin; refine wpList_append_own _ rfl _ _ 22 rfl w1.heap.size 3 i0 (.int .i64 0) 1 8 Tryz.underlying22 hi hz0 hz1 hz2 rfl (by decide) _ _ _ rfl (hrow.alloc _) ⟨wr.heap.size, 0, none⟩ 1 1 [.int .i64 0] rfl rfl (cell_one_new _ _ _) (by simp [Value.oneCell']) (by unfold maxLen; omega) (by omega) (by have := HBel.out.size; simp; omega) ?_; intro v' w3 hown' hgrow _; obtain ⟨g', cap', rfl⟩ := ownsRow_succ hown')
      have HGr := Lib.hid hgrow; clear hgrow
      have HOw := Lib.hid hown'; clear hown'
      go_roundw
      case rel =>
        refine ⟨i + 1, by omega, by go_num, ?_, (HBel.out.alloc HBel.out.size _).grown HGr.out (by have := HBel.out.size; simp; omega) (fun k hk => (hrow.lt k hk).1)⟩
        rw [List.replicate_succ', ic_append]
        exact HOw.out
      case measure => simp [intOf]; omega
    · have e : i = k := by omega
      subst e
      have HRow := Lib.hid hrow; clear hrow
      have HR1 : Hid (RdV wr wr.heap.size A1 (ic B)) := (own_rdv HO1.out).on HBel.out
      have HN1 := Lib.hid (own_none HO1.out)
      have HLb : Hid ((ic B).length = i + 1) := by show _ = _; rw [ic_length, HLen.out]
      go_wp2_with (at_builtin; refine app3 rfl _ _ rfl w1.heap.size _ i (ic (List.replicate i false)) rfl HRow.out A1 (i + 1) c1 (ic B) rfl HR1.out HLb.out (ic_one _) HN1.out (by omega) HBel.out.size ?_; intro v' w3 hown' hgrow; obtain ⟨A3, c3, rfl⟩ := own_slice3 hown')
      have HF : Hid (Listed w L (.returned (.slice A3 (i + (i + 1)) c3)) w3) := by
        have hl : L.length = i + (i + 1) := by rw [HL.out, List.length_append, List.length_replicate, HLen.out]
        refine ⟨A3, c3, by rw [hl], ?_, ?_⟩
        · rw [hl, HL.out, ic_append]
          exact own_base hown' HB1.out.size
        · exact HB1.out.trans ((HBel.out.grown hgrow HBel.out.size (fun k hk => (HRow.out.lt k hk).1)).mono HB1.out.size)
      clear hown' hgrow
      go_ret
      exact HF.out
end
section
set_option linter.unusedVariables false
end
section
set_option maxRecDepth 100000
set_option linter.unusedVariables false
open Go.RowKit Go.Shelf
end
end
end Go.Proofs.YtbddcokjkdoaaaaGreat
