/- Is an arc in a list. -/
import Derived.Test.YtffgmjfanpgbbaaWEnd
import Derived.Test.YtffgmjfanpgbbaaDJB
namespace Go.Proofs.Ytffgmjfanpgbbaa

section
section
set_option maxRecDepth 100000
set_option linter.unusedVariables false
open Go.RowKit Go.Shelf

theorem eqlA_run (a b c d : Int) (w : World) : (binOp .eql 65 (.agg #[.int .i64 a, .int .i64 b]) (.agg #[.int .i64 c, .int .i64 d])).run Try.prog w = .ok (.bool (a == c && b == d)) w := by
  have h60 := Try.underlying65
  have h3 := Try.underlying3
  by_cases h1 : a = c <;> by_cases h2 : b = d <;> simp [go_sem, h60, h3, h1, h2]
def HaRel (xs : List Ri) (z : Ri) (w : World) (p : Value) (wr : World) : Prop := ∃ i : Nat, i ≤ xs.length ∧ p = .int .i64 (i : Int) ∧ (∀ j, j < i → xs[j]?.getD (0, 0) ≠ z) ∧ Below w.heap.size w wr
set_option maxHeartbeats 1000000 in
theorem hasArc_any (xs : List Ri) (n : Nat) (hn : xs.length = n) (hn2 : n ≤ 1000000000) (z1 z2 : Int) (r : Bool) (hr : (r = true ∧ (z1, z2) ∈ xs) ∨ (r = false ∧ (z1, z2) ∉ xs)) (A : Option Addr) (c : Nat) (w : World) (h : RdV w w.heap.size A (rcs xs)) :
    Calls Try.prog 59 #[.slice A n c, .agg #[.int .i64 z1, .int .i64 z2]] w fun e w' => e = .returned (.bool r) ∧ Below w.heap.size w w' := by
  have HX := Lib.hid h; have HN := Lib.hid hn; have HR := Lib.hid hr
  have hb0 := one_below w (.cells #[.int .i64 z1, .int .i64 z2] 65)
  have n0 := World.alloc_heap_new w (.cells #[.int .i64 z1, .int .i64 z2] 65)
  have hs0 : w.heap.size < (w.alloc (.cells #[.int .i64 z1, .int .i64 z2] 65)).heap.size := by simp
  have HB0 := Lib.hid (⟨hb0, n0, hs0⟩ : _ ∧ _ ∧ _)
  clear h hn hr hb0 n0 hs0
  go_enter Try.func59, Try.ntmps59
  go_wp2
  go_loopw [5] (fun p wr => HaRel xs (z1, z2) w p wr ∧ Below (w.heap.size + 1) (w.alloc (.cells #[.int .i64 z1, .int .i64 z2] 65)) wr) (fun p _ => n - (intOf p).toNat)
  case atStart => exact ⟨⟨0, Nat.zero_le _, rfl, fun j hj => absurd hj (Nat.not_lt_zero _), HB0.out.1⟩, Below.refl _ _⟩
  case round =>
    obtain ⟨⟨i, hi, rfl, hno, hbel⟩, hbel2⟩ := hrel
    rw [HN.out] at hi
    have hz := (hbel2.block w.heap.size (by omega)).trans HB0.out.2.1
    have z0 : wr.cell? ⟨w.heap.size, 0, none⟩ = some (.int .i64 z1) := (cell_at hz 0).trans rfl
    have z3 : wr.cell? ⟨w.heap.size, 1, none⟩ = some (.int .i64 z2) := (cell_at hz 1).trans rfl
    by_cases hlt : i < n
    · have hin : i < xs.length := by rw [HN.out]; exact hlt
      obtain ⟨q0, q1⟩ := rcs_at xs i hin
      obtain ⟨b, off, rfl, hb, k0⟩ := (HX.out.on hbel).at_ q0
      obtain ⟨b2, off2, hA2, hb2, k1⟩ := (HX.out.on hbel).at_ q1
      simp only [Option.some.injEq, Addr.mk.injEq, and_true] at hA2
      obtain ⟨rfl, rfl⟩ := hA2
      rw [← Nat.add_assoc] at k1
      have hmem : xs[i]?.getD (0, 0) ∈ xs := by rw [List.getElem?_eq_getElem hin]; exact List.getElem_mem hin
      have HNo := Lib.hid hno
      have hstep : xs[i]?.getD (0, 0) ≠ (z1, z2) → ∀ j, j < i + 1 → xs[j]?.getD (0, 0) ≠ (z1, z2) := fun hne j hj => by
        rcases Nat.lt_or_ge j i with h | h
        · exact HNo.out j h
        · obtain rfl : j = i := by omega
          exact hne
      clear hno HNo q0 q1
      generalize xs[i]?.getD (0, 0) = x at *
      obtain ⟨x1, x2⟩ := x
      simp only at k0 k1
      have HBl := Lib.hid (⟨hbel, hbel2⟩ : _ ∧ _)
      clear hbel hbel2 hz
      by_cases hx : (x1, x2) = (z1, z2)
      · have hr : r = true := by
          rcases HR.out with ⟨h, _⟩ | ⟨_, h⟩
          · exact h
          · exact absurd (hx ▸ hmem) h
        simp only [Prod.mk.injEq] at hx
        obtain ⟨rfl, rfl⟩ := hx
        have hq : ∀ V : World, (binOp .eql 65 (.agg #[.int .i64 x1, .int .i64 x2]) (.agg #[.int .i64 x1, .int .i64 x2])).run Try.prog V = .ok (.bool true) V := fun V => by rw [eqlA_run]; simp
        have HRr := Lib.hid hr
        clear hr hstep hmem HR
        go_wp2
        go_quiet (fail)
        go_wp2
        go_ret
        exact ⟨by rw [HRr.out]; rfl, below_drewN HBl.out.1 _⟩
      · have HSt := Lib.hid (hstep hx)
        have t1 : (x1 == z1 && x2 == z2) = false := by
          rw [Bool.and_eq_false_iff]
          by_cases h : x1 = z1
          · right; simp; intro h2; exact hx (by rw [h, h2])
          · left; simpa using h
        have hq : ∀ V : World, (binOp .eql 65 (.agg #[.int .i64 x1, .int .i64 x2]) (.agg #[.int .i64 z1, .int .i64 z2])).run Try.prog V = .ok (.bool false) V := fun V => by rw [eqlA_run, t1]
        clear hstep hmem hx t1
        go_wp2
        go_quiet (fail)
        go_wp2
        go_roundw
        case rel => exact ⟨⟨i + 1, by rw [HN.out]; omega, by go_num, HSt.out, below_drewN HBl.out.1 _⟩, below_drewN HBl.out.2 _⟩
        case measure => simp [intOf]; omega
    · have hr : r = false := by
        rcases HR.out with ⟨_, h⟩ | ⟨h, _⟩
        · obtain ⟨j, hj, he⟩ := List.getElem_of_mem h
          exact absurd (by rw [List.getElem?_eq_getElem hj]; exact he) (hno j (by rw [HN.out] at hj; omega))
        · exact h
      have HRr := Lib.hid hr
      have HBl := Lib.hid hbel
      clear hr hno HR hbel hbel2 hz
      go_wp2
      go_ret
      exact ⟨by rw [HRr.out]; rfl, HBl.out⟩
end

section
set_option maxRecDepth 100000
set_option linter.unusedVariables false
open Go.RowKit Go.Shelf

/-- A graph and an error come back, and what reads as the graph lies behind what there was. -/
def GrPH (w : World) (g : List (List Nat)) (err : Int) (e : Ending) (w' : World) : Prop :=
  ∃ A R c, e = .returned (.tuple #[.agg #[.slice A g.length c], .int .i64 err]) ∧ gs R = g.map ns ∧ RdH w.heap.size w' A R ∧ Below w.heap.size w w'
set_option maxHeartbeats 1000000 in
theorem gof_okH (n : Nat) (hn : n ≤ 100) (L : List Ar) (hnd : L.Nodup) (hbd : ∀ a ∈ L, a.1 < n ∧ a.2 < n) (m : Nat) (hl : L.length = m) (hm : m ≤ 600) (A : Option Addr) (c : Nat) (w : World) (h : RdV w w.heap.size A (acs L)) :
    Calls Try.prog 16 #[.int .i64 (n : Int), .slice A m c] w (GrPH w (wa n L) 0) := by
  have HR := Lib.hid (rg_yes n hn w)
  have t1 : decide ((0 : Int) ≤ (n : Int)) = true := by simp
  have t2 : decide ((n : Int) ≤ 100) = true := by simp; omega
  have t3 : decide ((600 : Int) < (m : Int)) = false := by simp; omega
  have HC : Hid (∀ V, Below w.heap.size w V → Calls Try.prog 51 #[.slice A m c, .func (.func 79) #[] #[.pointer (some ⟨V.heap.size, 0, none⟩)]] (V.alloc (.cells #[.int .i64 (n : Int)] 3)) fun e w' => e = .returned (.int .i64 0) ∧ Below V.heap.size V w') := fun V hV => by
    have := ckarcs_any (n : Int) (by omega) V.heap.size (rz L) m (by rw [rz_length]; exact hl) hm A c (V.alloc (.cells #[.int .i64 (n : Int)] 3)) ((h.on hV).on (one_below V _)) (World.alloc_heap_new V _)
    rw [caE_ok (n : Int) L [] (by simpa using hnd) (fun a ha => by have := hbd a ha; omega)] at this
    exact this.mono fun e w' q => ⟨q.1, (one_below V _).trans (q.2.mono (by simp))⟩
  have HW : Hid (∀ V, Below w.heap.size w V → Calls Try.prog 53 #[.int .i64 (n : Int), .func (.func 81) #[] #[.pointer (some ⟨V.heap.size, 0, none⟩)]] (V.alloc (.cells #[.slice A m c] 25)) fun e w' => ∃ A2 R c2, e = .returned (.agg #[.slice A2 n c2]) ∧ gs R = (wa n L).map ns ∧ RdH (V.heap.size + 1) w' A2 R ∧ Below V.heap.size V w') := fun V hV => by
    refine (witharcs_in 81 #[.pointer (some ⟨V.heap.size, 0, none⟩)] L (by omega) (fun ys => ys = L) (fun M hM => by rw [hM]) n hn (fun a ha => (hbd a ha).1) hnd (V.alloc (.cells #[.slice A m c] 25)) entersVals1 (fun pre => pre <+: L) (fun X hX => ?_)).mono ?_
    · refine SeqStrong.of_K (Kp := Below (V.alloc (.cells #[.slice A m c] 25)).heap.size) (fun _ _ q => q.1) (vals_stops 4 (by omega) V.heap.size (V.alloc (.cells #[.slice A m c] 25)).heap.size m c A L hl (by omega) X hX.size ((hX.block _ (by simp)).trans (World.alloc_heap_new V _)) (((h.on hV).on (one_below V _)).below hX (Nat.le_refl _)))
    · rintro e w' ⟨A2, R, c2, rfl, q1, q2, q3⟩
      rw [wa_length]
      rw [World.size_alloc] at q2
      exact ⟨A2, R, c2, rfl, q1, q2, (one_below V _).trans (q3.mono (by simp))⟩
  have HL := Lib.hid (wa_length n L)
  clear hl h hnd hbd
  go_enter Try.func16, Try.ntmps16
  go_wp2_with fail
  refine HR.out.mono ?_
  rintro e w1 ⟨rfl, b1⟩
  have hz1 := b1.size
  rw [World.size_alloc] at hz1
  have HB := Lib.hid b1
  clear b1
  go_wp2_with fail
  refine (isnodeof_any (n : Int) w1).mono ?_
  rintro e w2 ⟨rfl, rfl⟩
  go_wp2_with fail
  refine (HC.out w1 ((one_below w _).trans (HB.out.mono (by omega)))).mono ?_
  rintro e w3 ⟨rfl, b3⟩
  have HB3 : Hid (Below (w.heap.size + 1) (w.alloc (.cells #[.slice none 0 0] 24)) w3 ∧ w.heap.size + 1 ≤ w3.heap.size) := ⟨HB.out.trans (b3.mono hz1), by have := b3.size; omega⟩
  clear b3
  go_wp2_with fail
  refine (vals_in A m c w3).mono ?_
  rintro e w4 ⟨rfl, rfl⟩
  go_wp2_with fail
  refine (HW.out w3 ((one_below w _).trans (HB3.out.1.mono (by omega)))).mono ?_
  rintro e w5 ⟨A2, R, c2, rfl, q1, q2, b5⟩
  have b5' := HB3.out.1.trans (b5.mono HB3.out.2)
  obtain ⟨kr, kf, kz⟩ := res_box b5'
  have HS := Lib.hid (res_set b5' (.slice A2 n c2))
  have HQ : Hid (gs R = (wa n L).map ns ∧ RdH w.heap.size (w5.setCell ⟨w.heap.size, 0, none⟩ (.slice A2 n c2)) A2 R) := by
    have hsz : (w5.setCell ⟨w.heap.size, 0, none⟩ (.slice A2 n c2)).heap.size = w5.heap.size := by simp [World.setCell]
    exact ⟨q1, fun W hk hW => q2 W (fun k h1 h2 => (hk k (by have := HB3.out.2; omega) (by rw [hsz]; exact h2)).trans (Below.heap_setCell _ _ _ _ (by have := HB3.out.2; show k ≠ w.heap.size; omega))) (by rw [hsz] at hW; exact hW)⟩
  have kr2 := HS.out.1
  clear b5 b5' q1 q2
  go_wp2
  refine bodyPost_ret (v := .tuple #[.agg #[.slice A2 n c2], .int .i64 0]) (by simp [results, Try.results16, go_sem, kr2]) rfl ?_
  exact ⟨A2, R, c2, by rw [HL.out], HQ.out.1, HQ.out.2, HS.out.2⟩
theorem grp_nil {w : World} {err : Int} {e : Ending} {w' : World} (h : GrP w [] err e w') : GrPH w [] err e w' := by
  obtain ⟨A, R, c, h1, h2, h3, h4⟩ := h
  have hR : R = [] := by have := congrArg List.length h2; rw [gs_length] at this; exact List.eq_nil_of_length_eq_zero this
  subst hR
  exact ⟨A, [], c, h1, h2, fun W _ _ => ⟨.inl rfl, fun r hr => by simp at hr⟩, h4⟩
theorem caE_snoc (N : Int) (p : Ri) : ∀ (L S : List Ar), (S ++ L).Nodup → (∀ a ∈ L, (a.1 : Int) < N ∧ (a.2 : Int) < N) → caE N S (rz L ++ [p]) = caO N (S ++ L) p
  | [], S, _, _ => by
    show caE N S [p] = _
    rw [caE_cons, List.append_nil]
    show (if caO N S p = 0 then 0 else caO N S p) = _
    split
    · rename_i h; exact h.symm
    · rfl
  | a :: t, S, hn, hb => by
    have ha := hb a (by simp)
    have hna : a ∉ S := fun hm => (List.nodup_append.1 hn).2.2 a hm a (by simp) rfl
    have h0 := caO_of (S := S) ha.1 ha.2 hna
    show caE N S (((a.1 : Int), (a.2 : Int)) :: (rz t ++ [p])) = _
    rw [caE_cons, if_pos h0]
    have e : toA ((a.1 : Int), (a.2 : Int)) = a := by unfold toA; simp
    rw [e, caE_snoc N p t (S ++ [a]) (by simpa using hn) (fun b hb' => hb b (by simp [hb']))]
    simp
/-- What graph.Of says of the arcs of a graph and one more. -/
theorem of_more (g : List (List Nat)) (hok : GOk g) (L : List Ar) (hL : arcs 0 g = L) (xa xb : Int) : ∃ (g1 : List (List Nat)) (e1 : Int),
    (∀ A c V, RdV V V.heap.size A (rcs (rz L ++ [(xa, xb)])) → Calls Try.prog 16 #[.int .i64 (g.length : Int), .slice A (L.length + 1) c] V (GrPH V g1 e1)) ∧
    (((e1 = 3 ∨ e1 = 2) ∧ g1 = []) ∨ (e1 = 6 ∧ g1 = [] ∧ (xa, xb) ∈ rz L) ∨ (e1 = 0 ∧ ∃ i j : Nat, xa = i ∧ xb = j ∧ i < g.length ∧ j < g.length ∧ L.length + 1 ≤ 600 ∧ g1 = wa g.length (L ++ [(i, j)]) ∧ (L ++ [(i, j)]).Nodup)) := by
  have hnd : L.Nodup := hL ▸ arcs_nodup g 0 hok.ris
  have hbd : ∀ a ∈ L, a.1 < g.length ∧ a.2 < g.length := fun a ha => arcs_bd hok a (by rw [hL]; exact ha)
  have h100 := hok.nodes
  have h600 := hok.many
  rw [hL] at h600
  have hzl : (rz L ++ [(xa, xb)]).length = L.length + 1 := by rw [List.length_append, rz_length]; rfl
  by_cases h6 : 600 < L.length + 1
  · exact ⟨[], 2, fun A c V h => (gof_many g.length h100 A (L.length + 1) c h6 V).mono fun e w' q => grp_nil q, .inl ⟨.inr rfl, rfl⟩⟩
  have hce := caE_snoc (g.length : Int) (xa, xb) L [] (by simpa using hnd) (fun a ha => by have := hbd a ha; omega)
  rw [List.nil_append] at hce
  by_cases hin : okG (g.length : Int) xa = true ∧ okG (g.length : Int) xb = true
  · obtain ⟨h1, h2⟩ := hin
    have h1' := h1
    have h2' := h2
    unfold okG at h1 h2
    simp only [decide_eq_true_eq] at h1 h2
    obtain ⟨i, rfl⟩ := Int.eq_ofNat_of_zero_le h1.1
    obtain ⟨j, rfl⟩ := Int.eq_ofNat_of_zero_le h2.1
    have et : toA ((i : Int), (j : Int)) = (i, j) := by unfold toA; simp
    by_cases hm : (i, j) ∈ L
    · have e6 : caO (g.length : Int) L ((i : Int), (j : Int)) = 6 := by unfold caO; rw [if_pos ⟨h1', h2'⟩, et, if_pos hm]
      rw [e6] at hce
      exact ⟨[], 6, fun A c V h => (gof_arcs g.length h100 _ (L.length + 1) hzl (by omega) 6 hce (by decide) A c V h).mono fun e w' q => grp_nil q, .inr (.inl ⟨rfl, rfl, List.mem_map.2 ⟨(i, j), hm, rfl⟩⟩)⟩
    · have hn2 : (L ++ [(i, j)]).Nodup := List.nodup_append.2 ⟨hnd, by simp, by rintro x hx y hy rfl; simp at hy; subst hy; exact hm hx⟩
      refine ⟨wa g.length (L ++ [(i, j)]), 0, fun A c V h => ?_, .inr (.inr ⟨rfl, i, j, rfl, rfl, by omega, by omega, by omega, rfl, hn2⟩)⟩
      have ez : rz L ++ [((i : Int), (j : Int))] = rz (L ++ [(i, j)]) := by unfold rz; rw [List.map_append]; rfl
      rw [ez] at h
      exact gof_okH g.length h100 (L ++ [(i, j)]) hn2 (fun a ha => by
        rcases List.mem_append.1 ha with q | q
        · exact hbd a q
        · simp at q; subst q; exact ⟨by omega, by omega⟩) (L.length + 1) (by simp) (by omega) A c V h
  · have e3 : caO (g.length : Int) L (xa, xb) = 3 := by unfold caO; rw [if_neg hin]
    rw [e3] at hce
    exact ⟨[], 3, fun A c V h => (gof_arcs g.length h100 _ (L.length + 1) hzl (by omega) 3 hce (by decide) A c V h).mono fun e w' q => grp_nil q, .inl ⟨.inl rfl, rfl⟩⟩
end
end

section
set_option linter.unusedVariables false

/-- Each of both is come to from the other one. -/
def Mu (g : List (List Nat)) (x y : Nat) : Prop := Re g x y ∧ Re g y x
theorem Mu.refl (g : List (List Nat)) (x : Nat) : Mu g x x := ⟨Re.refl g x, Re.refl g x⟩
theorem Mu.symm {g : List (List Nat)} {x y : Nat} (h : Mu g x y) : Mu g y x := ⟨h.2, h.1⟩
theorem Mu.trans {g : List (List Nat)} {x y z : Nat} (h : Mu g x y) (k : Mu g y z) : Mu g x z := ⟨re_trans h.1 k.1, re_trans k.2 h.2⟩
/-- Each node's least node of those that lead there and back. -/
structure Sp (g : List (List Nat)) (p : List Nat) : Prop where
  len : p.length = g.length
  val : ∀ x, x < g.length → Mu g (qa p x) x ∧ ∀ y, y < g.length → Mu g y x → qa p x ≤ y
theorem Sp.le {g : List (List Nat)} {p : List Nat} (h : Sp g p) (x : Nat) (hx : x < g.length) : qa p x ≤ x := (h.val x hx).2 x hx (Mu.refl _ x)
theorem Sp.lt {g : List (List Nat)} {p : List Nat} (h : Sp g p) (x : Nat) (hx : x < g.length) : qa p x < g.length := Nat.lt_of_le_of_lt (h.le x hx) hx
theorem Sp.uniq {g : List (List Nat)} {p q : List Nat} (h : Sp g p) (k : Sp g q) : p = q := by
  apply List.ext_getElem (h.len.trans k.len.symm)
  intro x a b
  have hx : x < g.length := h.len ▸ a
  rw [qa_get a, qa_get b]
  have h1 := (h.val x hx).2 (qa q x) (k.lt x hx) (k.val x hx).1
  have h2 := (k.val x hx).2 (qa p x) (h.lt x hx) (h.val x hx).1
  omega
theorem Sp.same {g : List (List Nat)} {p : List Nat} (h : Sp g p) {x y : Nat} (hx : x < g.length) (hy : y < g.length) : qa p x = qa p y ↔ Mu g x y := by
  obtain ⟨a1, a2⟩ := h.val x hx
  obtain ⟨b1, b2⟩ := h.val y hy
  constructor
  · intro e
    rw [← e] at b1
    exact a1.symm.trans b1
  · intro r
    have l1 := a2 (qa p y) (h.lt y hy) (b1.trans r.symm)
    have l2 := b2 (qa p x) (h.lt x hx) (a1.trans r)
    omega
theorem Sp.idem {g : List (List Nat)} {p : List Nat} (h : Sp g p) {x : Nat} (hx : x < g.length) : qa p (qa p x) = qa p x := (h.same (h.lt x hx) hx).2 (h.val x hx).1
/-- So far as the nodes from k on say. -/
structure SpK (g : List (List Nat)) (k : Nat) (p : List Nat) : Prop where
  len : p.length = g.length
  val : ∀ x, x < g.length → (∃ y, k ≤ y ∧ y < g.length ∧ Mu g y x) → k ≤ qa p x ∧ Mu g (qa p x) x ∧ ∀ y, k ≤ y → y < g.length → Mu g y x → qa p x ≤ y
theorem SpK.fin {g : List (List Nat)} {p : List Nat} (h : SpK g 0 p) : Sp g p :=
  ⟨h.len, fun x hx => by
    obtain ⟨_, h1, h2⟩ := h.val x hx ⟨x, Nat.zero_le _, hx, Mu.refl _ x⟩
    exact ⟨h1, fun y hy hr => h2 y (Nat.zero_le _) hy hr⟩⟩
theorem re_turn {g : List (List Nat)} (hok : GOk g) (x y : Nat) : Re (gturn g) x y ↔ Re g y x :=
  ⟨fun ⟨d, hd⟩ => ⟨d, rc_rev (fun i z q => (gturn_memD hok i z).1 q) d x y hd⟩, fun ⟨d, hd⟩ => ⟨d, rc_rev (fun i z q => (gturn_memD hok z i).2 q) d y x hd⟩⟩
theorem mu_turn {g : List (List Nat)} (hok : GOk g) (x y : Nat) : Mu (gturn g) x y ↔ Mu g x y := by
  unfold Mu; rw [re_turn hok, re_turn hok]; exact And.comm
theorem Sp.turn {g : List (List Nat)} (hok : GOk g) {p : List Nat} (h : Sp (gturn g) p) : Sp g p :=
  ⟨by rw [h.len, gturn_length], fun x hx => by
    obtain ⟨h1, h2⟩ := h.val x (by rw [gturn_length]; exact hx)
    exact ⟨(mu_turn hok _ _).1 h1, fun y hy hr => h2 y (by rw [gturn_length]; exact hy) ((mu_turn hok _ _).2 hr)⟩⟩
theorem fa_re {g : List (List Nat)} {s : Nat} {f : List Int} (h : Fa g s f) (x : Nat) (hx : x < g.length) : fv f x ≠ -1 ↔ Re g s x := by
  have h1 := h.reach x hx
  have h2 := h.ge x
  unfold Re
  rw [← h1]
  constructor <;> intro q <;> omega
theorem SpK.next {g : List (List Nat)} (hok : GOk g) {k : Nat} {p q : List Nat} {F B : List Int} (h : SpK g (k + 1) p) (hk : k < g.length) (hF : Fa g k F) (hB : Fa (gturn g) k B) (hl : q.length = g.length) (hq : ∀ x, x < g.length → qa q x = if fv F x ≠ -1 ∧ fv B x ≠ -1 then k else qa p x) : SpK g k q := by
  refine ⟨hl, fun x hx hex => ?_⟩
  rw [hq x hx]
  have hre : (fv F x ≠ -1 ∧ fv B x ≠ -1) ↔ Mu g k x := by
    rw [fa_re hF x hx, fa_re hB x (by rw [gturn_length]; exact hx), re_turn hok]; rfl
  by_cases q : fv F x ≠ -1 ∧ fv B x ≠ -1
  · rw [if_pos q]
    exact ⟨Nat.le_refl _, hre.1 q, fun y hy _ _ => hy⟩
  · rw [if_neg q]
    have hnk : ¬ Mu g k x := fun r => q (hre.2 r)
    obtain ⟨y, h1, h2, h3⟩ := hex
    have hyk : k + 1 ≤ y := by
      rcases Nat.lt_or_ge k y with r | r
      · exact r
      · obtain rfl : y = k := by omega
        exact absurd h3 hnk
    obtain ⟨r1, r2, r3⟩ := h.val x hx ⟨y, hyk, h2, h3⟩
    refine ⟨by omega, r2, fun z hz hzl hzr => ?_⟩
    by_cases e : z = k
    · subst e; exact absurd hzr hnk
    · exact r3 z (by omega) hzl hzr

/-- No way leads back. -/
def Acy (g : List (List Nat)) : Prop := ∀ d x, ¬ Rc g x (d + 1) x
theorem acy_turn {g : List (List Nat)} (hok : GOk g) : Acy (gturn g) ↔ Acy g :=
  ⟨fun h d x hr => h d x (rc_rev (fun i z q => (gturn_memD hok z i).2 q) (d + 1) x x hr), fun h d x hr => h d x (rc_rev (fun i z q => (gturn_memD hok i z).1 q) (d + 1) x x hr)⟩
/-- Where no way leads back no way is as long as there are nodes. -/
theorem acy_lt {g : List (List Nat)} (hb : Bdd g) (ha : Acy g) {y d x : Nat} (h : Rc g y d x) (hx : x < g.length) : d < g.length := by
  have hex : ∀ d y, Rc g y d x → ∃ l : List Nat, l.length = d + 1 ∧ l.Nodup ∧ ∀ z ∈ l, z < g.length ∧ ∃ e, Rc g y e z := by
    intro d
    induction d with
    | zero => intro y h; cases h; exact ⟨[x], rfl, by simp, fun z hz => by simp at hz; subst hz; exact ⟨hx, 0, rfl⟩⟩
    | succ d ih =>
      intro y h
      obtain ⟨y1, h1, h2⟩ := rc_uncons d y x h
      obtain ⟨l, l1, l2, l3⟩ := ih y1 h2
      refine ⟨y :: l, by simp [l1], List.nodup_cons.2 ⟨fun hm => ?_, l2⟩, fun z hz => ?_⟩
      · obtain ⟨_, e, he⟩ := l3 y hm
        exact ha e y (rc_head h1 he)
      · rcases List.mem_cons.1 hz with rfl | hz
        · exact ⟨row_lt h1, 0, rfl⟩
        · obtain ⟨r1, e, r2⟩ := l3 z hz
          exact ⟨r1, e + 1, rc_head h1 r2⟩
  obtain ⟨l, h1, h2, h3⟩ := hex d y h
  have := nodup_le g.length l h2 (fun z hz => (h3 z hz).1)
  omega
theorem range_le : ∀ (n : Nat) (o : List Nat), (∀ x, x < n → x ∈ o) → n ≤ o.length
  | 0, o, _ => Nat.zero_le _
  | n + 1, o, h => by
    have h1 := range_le n (o.erase n) (fun x hx => (List.mem_erase_of_ne (by omega)).2 (h x (by omega)))
    have h2 := List.length_erase_of_mem (h n (by omega))
    have h3 := List.length_pos_of_mem (h n (by omega))
    omega
theorem nodup_all {n : Nat} {o : List Nat} (hn : o.Nodup) (hb : ∀ x ∈ o, x < n) (hl : o.length = n) (x : Nat) (hx : x < n) : x ∈ o := by
  by_cases h : x ∈ o
  · exact h
  · have := nodup_le n (x :: o) (List.nodup_cons.2 ⟨h, hn⟩) (fun y hy => by rcases List.mem_cons.1 hy with rfl | hy; exact hx; exact hb y hy)
    simp at this; omega
/-- Who may stand next: all from which an arc leads there stand already. -/
def Fre (g : List (List Nat)) (o : List Nat) (x : Nat) : Prop := x < g.length ∧ x ∉ o ∧ ∀ y, x ∈ row g y → y ∈ o
def Nxt (g : List (List Nat)) (o : List Nat) (x : Nat) : Prop := Fre g o x ∧ ∀ z, Fre g o z → x ≤ z
/-- At each place the least one that may stand there. -/
def Run (g : List (List Nat)) (o : List Nat) : Prop := ∀ k, k < o.length → Nxt g (o.take k) (qa o k)
theorem run_nil (g : List (List Nat)) : Run g [] := fun k hk => absurd hk (Nat.not_lt_zero _)
theorem Run.snoc {g : List (List Nat)} {o : List Nat} {x : Nat} (h : Run g o) (hx : Nxt g o x) : Run g (o ++ [x]) := by
  intro k hk
  rw [List.length_append, List.length_singleton] at hk
  by_cases e : k < o.length
  · rw [List.take_append_of_le_length (by omega), qa_snoc _ e]; exact h k e
  · obtain rfl : k = o.length := by omega
    have e2 : qa (o ++ [x]) o.length = x := by unfold qa; simp
    rw [List.take_left, e2]; exact hx
theorem Nxt.uniq {g : List (List Nat)} {o : List Nat} {x y : Nat} (h : Nxt g o x) (k : Nxt g o y) : x = y := by
  have := h.2 y k.1; have := k.2 x h.1; omega
theorem take_succ_qa {o : List Nat} {k : Nat} (h : k < o.length) : o.take (k + 1) = o.take k ++ [qa o k] := by
  rw [List.take_succ_eq_append_getElem h, qa_get h]
theorem Run.pre {g : List (List Nat)} {o t : List Nat} (h : Run g o) (k : Run g t) : ∀ n, n ≤ o.length → n ≤ t.length → o.take n = t.take n
  | 0, _, _ => by simp
  | n + 1, h1, h2 => by
    have ih := Run.pre h k n (by omega) (by omega)
    have a := h n (by omega)
    have b := k n (by omega)
    rw [ih] at a
    rw [take_succ_qa (by omega), take_succ_qa (by omega), ih, a.uniq b]
theorem Run.uniq {g : List (List Nat)} {o t : List Nat} (h : Run g o) (k : Run g t) (hl : o.length = t.length) : o = t := by
  have := h.pre k o.length (Nat.le_refl _) (by omega)
  rwa [List.take_length, hl, List.take_length] at this
theorem mem_take_qa {o : List Nat} {k x : Nat} (h : x ∈ o.take k) : ∃ j, j < k ∧ j < o.length ∧ qa o j = x := by
  obtain ⟨j, hj, e⟩ := List.getElem_of_mem h
  rw [List.length_take] at hj
  refine ⟨j, by omega, by omega, ?_⟩
  rw [List.getElem_take] at e
  rw [← qa_get (by omega)]; exact e
theorem qa_mem_take {o : List Nat} {j k : Nat} (h1 : j < k) (h2 : j < o.length) : qa o j ∈ o.take k := by
  refine List.mem_iff_getElem.2 ⟨j, by rw [List.length_take]; omega, ?_⟩
  rw [List.getElem_take, qa_get h2]
theorem Run.inj {g : List (List Nat)} {o : List Nat} (h : Run g o) {j k : Nat} (hj : j < o.length) (hk : k < o.length) (e : qa o j = qa o k) : j = k := by
  rcases Nat.lt_trichotomy j k with q | q | q
  · exact absurd (e ▸ qa_mem_take q hj) (h k hk).1.2.1
  · exact q
  · exact absurd (e ▸ qa_mem_take q hk) (h j hj).1.2.1
theorem Run.nodup {g : List (List Nat)} {o : List Nat} (h : Run g o) : o.Nodup := by
  refine List.pairwise_iff_getElem.2 fun i j hi hj hij e => ?_
  rw [qa_get hi, qa_get hj] at e
  have := h.inj hi hj e
  omega
theorem Run.bd {g : List (List Nat)} {o : List Nat} (h : Run g o) : ∀ x ∈ o, x < g.length := fun x hx => by
  obtain ⟨k, hk, rfl⟩ := List.getElem_of_mem hx
  rw [qa_get hk]; exact (h k hk).1.1
theorem Run.le {g : List (List Nat)} {o : List Nat} (h : Run g o) : o.length ≤ g.length := nodup_le _ o h.nodup h.bd
/-- Whatever leads to a node of it stands ahead. -/
theorem Run.ahead {g : List (List Nat)} {o : List Nat} (h : Run g o) : ∀ d y k, k < o.length → Rc g y (d + 1) (qa o k) → y ∈ o.take k := by
  intro d
  induction d with
  | zero =>
    rintro y k hk ⟨z, rfl, hz⟩
    exact (h k hk).1.2.2 z hz
  | succ d ih =>
    intro y k hk hr
    obtain ⟨y1, h1, h2⟩ := rc_uncons (d + 1) y _ hr
    obtain ⟨j, j1, j2, rfl⟩ := mem_take_qa (ih y1 k hk h2)
    have := (h j j2).1.2.2 y h1
    obtain ⟨i, i1, i2, rfl⟩ := mem_take_qa this
    exact qa_mem_take (by omega) i2
theorem Run.acy {g : List (List Nat)} {o : List Nat} (h : Run g o) (hb : Bdd g) (hl : o.length = g.length) : Acy g := by
  intro d x hr
  have hx : x < g.length := by obtain ⟨y, _, h2⟩ := hr; exact hb y x h2
  obtain ⟨k, hk, e⟩ := List.getElem_of_mem (nodup_all h.nodup h.bd hl x hx)
  rw [qa_get hk] at e
  subst e
  obtain ⟨j, j1, j2, e⟩ := mem_take_qa (h.ahead d _ k hk hr)
  have := h.inj j2 hk e
  omega
/-- Where nobody may stand next, though not all stand, some way leads back. -/
theorem Run.stuck {g : List (List Nat)} {o : List Nat} (hb : Bdd g) (hl : o.length < g.length) (hs : ∀ x, ¬ Fre g o x) : ¬ Acy g := by
  intro ha
  have hex : ∃ x, x < g.length ∧ x ∉ o := by
    refine Classical.byContradiction fun hn => ?_
    have := range_le g.length o (fun x hx => Classical.byContradiction fun q => hn ⟨x, hx, q⟩)
    omega
  obtain ⟨x, hx, hxo⟩ := hex
  have hw : ∀ m, ∃ y, y < g.length ∧ y ∉ o ∧ Rc g y m x := by
    intro m
    induction m with
    | zero => exact ⟨x, hx, hxo, rfl⟩
    | succ m ih =>
      obtain ⟨y, h1, h2, h3⟩ := ih
      refine Classical.byContradiction fun hn => hs y ⟨h1, h2, fun z hz => Classical.byContradiction fun q => hn ⟨z, row_lt hz, q, rc_head hz h3⟩⟩
  obtain ⟨y, _, _, h3⟩ := hw g.length
  have := acy_lt hb ha h3 hx
  omega
/-- What Order says: an order, or that there is none. -/
def OrP (g : List (List Nat)) (o : List Nat) (e : Int) : Prop := (e = 0 ∧ Run g o ∧ o.length = g.length) ∨ (e = 4 ∧ o = [] ∧ ¬ Acy g)
theorem OrP.acy {g : List (List Nat)} {o : List Nat} {e : Int} (h : OrP g o e) (hb : Bdd g) : e = 0 ↔ Acy g := by
  rcases h with ⟨h1, h2, h3⟩ | ⟨h1, _, h3⟩
  · exact ⟨fun _ => h2.acy hb h3, fun _ => h1⟩
  · exact ⟨fun q => by omega, fun q => absurd q h3⟩
theorem OrP.uniq {g : List (List Nat)} {o t : List Nat} {e f : Int} (hb : Bdd g) (h : OrP g o e) (k : OrP g t f) : o = t ∧ e = f := by
  rcases h with ⟨h1, h2, h3⟩ | ⟨h1, h2, h3⟩
  · rcases k with ⟨k1, k2, k3⟩ | ⟨k1, k2, k3⟩
    · exact ⟨h2.uniq k2 (by omega), by omega⟩
    · exact absurd (h2.acy hb h3) k3
  · rcases k with ⟨k1, k2, k3⟩ | ⟨k1, k2, k3⟩
    · exact absurd (k2.acy hb k3) h3
    · exact ⟨by rw [h2, k2], by omega⟩
/-- No way leads back just if each node is its own part, with no arc to itself. -/
theorem Sp.acy {g : List (List Nat)} {p : List Nat} (h : Sp g p) (hb : Bdd g) : Acy g ↔ ∀ i, i < g.length → qa p i = i ∧ i ∉ row g i := by
  constructor
  · intro ha i hi
    refine ⟨?_, fun hm => ha 0 i (rc_one hm)⟩
    obtain ⟨⟨⟨a, h1⟩, ⟨b, h2⟩⟩, _⟩ := h.val i hi
    cases a with
    | zero => exact Eq.symm h1
    | succ a => exact absurd (rc_trans (a + 1) b _ h1 h2) (by rw [show a + 1 + b = a + b + 1 by omega]; exact ha (a + b) _)
  · intro hq d x hr
    have hx : x < g.length := by obtain ⟨y, _, h2⟩ := hr; exact hb y x h2
    obtain ⟨y, h1, h2⟩ := rc_uncons d x x hr
    have hy := hb x y h1
    have := (h.same hx hy).2 ⟨⟨1, rc_one h1⟩, d, h2⟩
    rw [(hq x hx).1, (hq y hy).1] at this
    subst this
    exact (hq x hx).2 h1

/-- How many nodes below x are the least of their part. -/
def nrp (p : List Nat) (x : Nat) : Nat := ((List.range x).filter (fun y => qa p y == y)).length
theorem nrp_zero (p : List Nat) : nrp p 0 = 0 := rfl
theorem nrp_succ (p : List Nat) (x : Nat) : nrp p (x + 1) = nrp p x + (if qa p x = x then 1 else 0) := by
  unfold nrp
  rw [List.range_succ, List.filter_append, List.length_append]
  by_cases h : qa p x = x
  · simp [h]
  · simp [h]
theorem nrp_mono (p : List Nat) {x y : Nat} (h : x ≤ y) : nrp p x ≤ nrp p y := by
  induction y with
  | zero => obtain rfl : x = 0 := by omega
            exact Nat.le_refl _
  | succ y ih =>
    by_cases e : x = y + 1
    · subst e; exact Nat.le_refl _
    · have := ih (by omega); rw [nrp_succ]; omega
theorem nrp_lt (p : List Nat) {x y : Nat} (h : x < y) (hx : qa p x = x) : nrp p x < nrp p y := by
  have := nrp_mono p (x := x + 1) (y := y) h
  rw [nrp_succ, if_pos hx] at this; omega
theorem nrp_le (p : List Nat) (x : Nat) : nrp p x ≤ x := by
  unfold nrp
  have := List.length_filter_le (fun y => qa p y == y) (List.range x)
  rwa [List.length_range] at this
theorem nrp_inj (p : List Nat) {x y : Nat} (hx : qa p x = x) (hy : qa p y = y) (h : nrp p x = nrp p y) : x = y := by
  rcases Nat.lt_trichotomy x y with q | q | q
  · have := nrp_lt p q hx; omega
  · exact q
  · have := nrp_lt p q hy; omega
theorem nrp_ex (p : List Nat) : ∀ (n a : Nat), a < nrp p n → ∃ x, x < n ∧ qa p x = x ∧ nrp p x = a
  | 0, a, h => by rw [nrp_zero] at h; omega
  | n + 1, a, h => by
    by_cases e : a < nrp p n
    · obtain ⟨x, h1, h2⟩ := nrp_ex p n a e
      exact ⟨x, by omega, h2⟩
    · rw [nrp_succ] at h
      by_cases q : qa p n = n
      · rw [if_pos q] at h; exact ⟨n, by omega, q, by omega⟩
      · rw [if_neg q] at h; omega
/-- The number of a node's part. -/
def ofP (p : List Nat) (x : Nat) : Nat := nrp p (qa p x)
theorem Sp.of_lt {g : List (List Nat)} {p : List Nat} (h : Sp g p) {x : Nat} (hx : x < g.length) : ofP p x < nrp p g.length := nrp_lt p (h.lt x hx) (h.idem hx)
theorem Sp.of_same {g : List (List Nat)} {p : List Nat} (h : Sp g p) {x y : Nat} (hx : x < g.length) (hy : y < g.length) : ofP p x = ofP p y ↔ Mu g x y := by
  rw [← h.same hx hy]
  exact ⟨fun e => nrp_inj p (h.idem hx) (h.idem hy) e, fun e => by unfold ofP; rw [e]⟩
/-- The arcs between parts, each once. -/
def btw (f : Nat → Nat) (L : List Ar) : List Ar := L.foldl (fun S a => if f a.1 = f a.2 then S else ains S (f a.1, f a.2)) []
theorem btw_snoc (f : Nat → Nat) (L : List Ar) (a : Ar) : btw f (L ++ [a]) = if f a.1 = f a.2 then btw f L else ains (btw f L) (f a.1, f a.2) := by unfold btw; rw [List.foldl_append]; rfl
theorem snoc_ind {α : Type _} {P : List α → Prop} (h0 : P []) (h1 : ∀ L a, P L → P (L ++ [a])) (L : List α) : P L := by
  have : ∀ n (L : List α), L.length = n → P L := by
    intro n
    induction n with
    | zero => intro L h; rw [List.length_eq_zero_iff.1 h]; exact h0
    | succ n ih =>
      intro L h
      have hne : L ≠ [] := by intro e; subst e; simp at h
      rw [← List.dropLast_concat_getLast hne]
      exact h1 _ _ (ih _ (by rw [List.length_dropLast]; omega))
  exact this _ L rfl
theorem btw_mem (f : Nat → Nat) (b : Ar) (L : List Ar) : b ∈ btw f L ↔ b.1 ≠ b.2 ∧ ∃ a ∈ L, f a.1 = b.1 ∧ f a.2 = b.2 := by
  induction L using snoc_ind with
  | h0 => simp [btw]
  | h1 L a ih =>
    rw [btw_snoc]
    by_cases e : f a.1 = f a.2
    · rw [if_pos e, ih]
      constructor
      · rintro ⟨h1, x, h2, h3⟩; exact ⟨h1, x, by simp [h2], h3⟩
      · rintro ⟨h1, x, h2, h3, h4⟩
        refine ⟨h1, x, ?_, h3, h4⟩
        rcases List.mem_append.1 h2 with q | q
        · exact q
        · simp at q; subst q; exact absurd (by rw [← h3, ← h4, e]) h1
    · rw [if_neg e, ains_mem, ih]
      constructor
      · rintro (⟨h1, x, h2, h3⟩ | rfl)
        · exact ⟨h1, x, by simp [h2], h3⟩
        · exact ⟨e, a, by simp, rfl, rfl⟩
      · rintro ⟨h1, x, h2, h3, h4⟩
        rcases List.mem_append.1 h2 with q | q
        · exact .inl ⟨h1, x, q, h3, h4⟩
        · simp at q; subst q; exact .inr (Prod.ext h3.symm h4.symm)
theorem btw_nodup (f : Nat → Nat) (L : List Ar) : (btw f L).Nodup := by
  induction L using snoc_ind with
  | h0 => simp [btw]
  | h1 L a ih => rw [btw_snoc]; split; exact ih; exact ains_nodup ih _
theorem btw_length (f : Nat → Nat) (L : List Ar) : (btw f L).length ≤ L.length := by
  induction L using snoc_ind with
  | h0 => simp [btw]
  | h1 L a ih =>
    rw [btw_snoc, List.length_append, List.length_singleton]
    split
    · omega
    · have := ains_length (btw f L) (f a.1, f a.2); omega
/-- The graph that is shrunk. -/
def gsh (g : List (List Nat)) (p : List Nat) : List (List Nat) := wa (nrp p g.length) (btw (ofP p) (arcs 0 g))
theorem gsh_length (g : List (List Nat)) (p : List Nat) : (gsh g p).length = nrp p g.length := wa_length _ _
theorem Sp.btw_bd {g : List (List Nat)} {p : List Nat} (hok : GOk g) (h : Sp g p) : ∀ a ∈ btw (ofP p) (arcs 0 g), a.1 < nrp p g.length ∧ a.2 < nrp p g.length := fun b hb => by
  obtain ⟨_, a, h1, h2, h3⟩ := (btw_mem _ b _).1 hb
  obtain ⟨q1, q2⟩ := arcs_bd hok a h1
  exact ⟨by rw [← h2]; exact h.of_lt q1, by rw [← h3]; exact h.of_lt q2⟩
theorem Sp.nrp100 {g : List (List Nat)} {p : List Nat} (hok : GOk g) : nrp p g.length ≤ 100 := Nat.le_trans (nrp_le p _) hok.nodes
theorem btw600 {g : List (List Nat)} {p : List Nat} (hok : GOk g) : (btw (ofP p) (arcs 0 g)).length ≤ 600 := Nat.le_trans (btw_length _ _) hok.many
theorem Sp.gsh_ok {g : List (List Nat)} {p : List Nat} (hok : GOk g) (h : Sp g p) : GOk (gsh g p) := wa_ok (Sp.nrp100 hok) (btw_nodup _ _) (h.btw_bd hok) (btw600 hok)
theorem Sp.gsh_mem {g : List (List Nat)} {p : List Nat} (hok : GOk g) (h : Sp g p) (a b : Nat) : b ∈ row (gsh g p) a ↔ a ≠ b ∧ ∃ i x, x ∈ row g i ∧ ofP p i = a ∧ ofP p x = b := by
  have key : (a, b) ∈ btw (ofP p) (arcs 0 g) ↔ a ≠ b ∧ ∃ i x, x ∈ row g i ∧ ofP p i = a ∧ ofP p x = b := by
    rw [btw_mem]
    constructor
    · rintro ⟨h1, ⟨i, x⟩, h2, h3⟩; exact ⟨h1, i, x, (arcs_mem0 g _).1 h2, h3⟩
    · rintro ⟨h1, i, x, h2, h3⟩; exact ⟨h1, (i, x), (arcs_mem0 g (i, x)).2 h2, h3⟩
  by_cases ha : a < nrp p g.length
  · unfold gsh; rw [wa_mem _ _ _ _ ha, key]
  · rw [row_out (by rw [gsh_length]; omega), ← key]
    exact ⟨fun q => by simp at q, fun q => absurd (h.btw_bd hok _ q).1 ha⟩
theorem re_step {g : List (List Nat)} {i x : Nat} (h : x ∈ row g i) : Re g i x := ⟨1, rc_one h⟩
/-- A way in what is shrunk is one in the graph. -/
theorem Sp.gsh_re {g : List (List Nat)} {p : List Nat} (hok : GOk g) (h : Sp g p) : ∀ d a b, Rc (gsh g p) a d b → ∀ i k, i < g.length → k < g.length → ofP p i = a → ofP p k = b → Re g i k := by
  intro d
  induction d with
  | zero =>
    intro a b hr i k hi hk e1 e2
    have e : b = a := hr
    exact ((h.of_same hi hk).1 (by rw [e1, e2, e])).1
  | succ d ih =>
    rintro a b ⟨c, h1, h2⟩ i k hi hk e1 e2
    obtain ⟨_, j, x, q1, q2, q3⟩ := (h.gsh_mem hok c b).1 h2
    have r1 := ih a c h1 i j hi (row_lt q1) e1 q2
    have r2 := ((h.of_same (hok.bdd j x q1) hk).1 (by rw [q3, e2])).1
    exact re_trans (re_trans r1 (re_step q1)) r2
/-- A way in the graph is one in what is shrunk, of no more steps. -/
theorem Sp.gsh_way {g : List (List Nat)} {p : List Nat} (hok : GOk g) (h : Sp g p) : ∀ d i k, Rc g i d k → ∃ e, e ≤ d ∧ Rc (gsh g p) (ofP p i) e (ofP p k) := by
  intro d
  induction d with
  | zero => intro i k hr; cases hr; exact ⟨0, Nat.le_refl _, rfl⟩
  | succ d ih =>
    rintro i k ⟨j, h1, h2⟩
    obtain ⟨e, e1, e2⟩ := ih i j h1
    by_cases q : ofP p j = ofP p k
    · exact ⟨e, by omega, q ▸ e2⟩
    · exact ⟨e + 1, by omega, ofP p j, e2, (h.gsh_mem hok _ _).2 ⟨q, j, k, h2, rfl, rfl⟩⟩
theorem Sp.gsh_ex {g : List (List Nat)} {p : List Nat} (h : Sp g p) {a : Nat} (ha : a < nrp p g.length) : ∃ x, x < g.length ∧ ofP p x = a := by
  obtain ⟨x, h1, h2, h3⟩ := nrp_ex p g.length a ha
  exact ⟨x, h1, by unfold ofP; rw [h2, h3]⟩
theorem Sp.gsh_acy {g : List (List Nat)} {p : List Nat} (hok : GOk g) (h : Sp g p) : Acy (gsh g p) := by
  intro d a hr
  obtain ⟨b, h1, h2⟩ := rc_uncons d a a hr
  obtain ⟨hne, i, x, q1, q2, q3⟩ := (h.gsh_mem hok a b).1 h1
  have hi := row_lt q1
  have hx := hok.bdd i x q1
  have r := h.gsh_re hok d b a h2 x i hx hi q3 q2
  exact hne (by rw [← q2, ← q3]; exact (h.of_same hi hx).2 ⟨re_step q1, r⟩)
/-- Where no way leads back each node is a part, and what is shrunk is the graph. -/
theorem Sp.acy_id {g : List (List Nat)} {p : List Nat} (h : Sp g p) (hb : Bdd g) (ha : Acy g) : (∀ x, x ≤ g.length → nrp p x = x) ∧ ∀ x, x < g.length → ofP p x = x := by
  have h1 := (h.acy hb).1 ha
  have h2 : ∀ x, x ≤ g.length → nrp p x = x := by
    intro x
    induction x with
    | zero => intro _; rfl
    | succ x ih => intro hx; rw [nrp_succ, ih (by omega), if_pos (h1 x (by omega)).1]
  exact ⟨h2, fun x hx => by unfold ofP; rw [(h1 x hx).1, h2 x (by omega)]⟩
theorem Sp.acy_gsh {g : List (List Nat)} {p : List Nat} (hok : GOk g) (h : Sp g p) (ha : Acy g) : gsh g p = g := by
  obtain ⟨h1, h2⟩ := h.acy_id hok.bdd ha
  have hl : (gsh g p).length = g.length := by rw [gsh_length, h1 _ (Nat.le_refl _)]
  refine graph_ext hl (row_ris (h.gsh_ok hok)) (row_ris hok) (fun a b _ => ?_)
  rw [h.gsh_mem hok]
  constructor
  · rintro ⟨_, i, x, q1, q2, q3⟩
    rw [h2 i (row_lt q1)] at q2
    rw [h2 x (hok.bdd i x q1)] at q3
    rw [← q2, ← q3]; exact q1
  · intro hm
    exact ⟨fun e => ((h.acy hok.bdd).1 ha a (row_lt hm)).2 (by rw [← e] at hm; exact hm), a, b, hm, h2 a (row_lt hm), h2 b (hok.bdd a b hm)⟩
end

section
set_option linter.unusedVariables false

/-- How many lead to x from nodes that do not stand yet. -/
def awt (g : List (List Nat)) (o : List Nat) (x : Nat) : Nat := ((row (gturn g) x).filter (fun y => decide (y ∉ o))).length
theorem awt_zero {g : List (List Nat)} {o : List Nat} {x : Nat} (hx : x < g.length) : awt g o x = 0 ↔ ∀ y, x ∈ row g y → y ∈ o := by
  unfold awt
  rw [List.length_eq_zero_iff, List.filter_eq_nil_iff]
  constructor
  · intro h y hy
    have := h y ((gturn_mem hx).2 hy)
    simpa using this
  · intro h y hy
    have := h y ((gturn_mem hx).1 hy)
    simpa using this
theorem awt_le {g : List (List Nat)} (hok : GOk g) (o : List Nat) (x : Nat) : awt g o x ≤ 600 := Nat.le_trans (List.length_filter_le _ _) (row_len (gturn_ok hok) x)
theorem awt_nil {g : List (List Nat)} {x : Nat} (hx : x < g.length) : (dTo g.length (arcs 0 g))[x]? = some (awt g [] x) := by
  unfold dTo
  rw [dFrom_get _ _ _ hx]
  unfold awt
  rw [List.filter_eq_self.2 (by simp), gturn, wa_row _ _ _ hx, (nso_perm _).length_eq]
theorem filter_snoc (o : List Nat) (z : Nat) (hz : z ∉ o) : ∀ l : List Nat, l.Nodup → (l.filter (fun y => decide (y ∉ o))).length = (l.filter (fun y => decide (y ∉ o ++ [z]))).length + (if z ∈ l then 1 else 0)
  | [], _ => rfl
  | a :: t, hn => by
    obtain ⟨h1, h2⟩ := List.nodup_cons.1 hn
    have ih := filter_snoc o z hz t h2
    by_cases e : a = z
    · subst e
      rw [if_neg h1] at ih
      rw [List.filter_cons_of_pos (by simpa using hz), List.filter_cons_of_neg (by simp), if_pos (by simp), List.length_cons]
      omega
    · have hm : (z ∈ a :: t) = (z ∈ t) := by simp [Ne.symm e]
      simp only [hm]
      by_cases q : a ∈ o
      · rw [List.filter_cons_of_neg (by simpa using q), List.filter_cons_of_neg (by simp [q])]; exact ih
      · rw [List.filter_cons_of_pos (by simpa using q), List.filter_cons_of_pos (by simp [q, e]), List.length_cons, List.length_cons]; omega
theorem awt_snoc {g : List (List Nat)} (hok : GOk g) {o : List Nat} {z x : Nat} (hz : z ∉ o) (hx : x < g.length) : awt g o x = awt g (o ++ [z]) x + (if x ∈ row g z then 1 else 0) := by
  have h := filter_snoc o z hz (row (gturn g) x) ((row_ris (gturn_ok hok) x).imp (fun h => by omega))
  have e : (z ∈ row (gturn g) x) = (x ∈ row g z) := propext (gturn_mem hx)
  simp only [e] at h
  exact h
/-- What each node awaits; -1 where it stands. -/
def AwK (g : List (List Nat)) (o : List Nat) (f : List Int) : Prop := f.length = g.length ∧ ∀ x, x < g.length → fv f x = if x ∈ o then -1 else (awt g o x : Int)
theorem awk_start (g : List (List Nat)) : AwK g [] (ns (dTo g.length (arcs 0 g))) := by
  refine ⟨by rw [ns_length, dTo_length], fun x hx => ?_⟩
  rw [if_neg (by simp)]
  unfold fv ns
  rw [List.getElem?_map, awt_nil hx]; rfl
theorem AwK.fre {g : List (List Nat)} {o : List Nat} {f : List Int} (h : AwK g o f) {x : Nat} : Fre g o x ↔ x < g.length ∧ fv f x = 0 := by
  constructor
  · rintro ⟨h1, h2, h3⟩
    refine ⟨h1, ?_⟩
    rw [h.2 x h1, if_neg h2, (awt_zero h1).2 h3]; rfl
  · rintro ⟨h1, h2⟩
    rw [h.2 x h1] at h2
    by_cases q : x ∈ o
    · rw [if_pos q] at h2; omega
    · rw [if_neg q] at h2; exact ⟨h1, q, (awt_zero h1).1 (by omega)⟩
/-- The first place with a 0 is the node that stands next. -/
theorem AwK.idx {g : List (List Nat)} {o : List Nat} {f : List Int} (h : AwK g o f) {r : Int} (hr : IdxF (fun y => (0 : Int) == y) f r) : (r = -1 ∧ ∀ x, ¬ Fre g o x) ∨ ∃ x : Nat, r = (x : Int) ∧ x < g.length ∧ Nxt g o x := by
  have hg : ∀ x, x < f.length → f[x]?.getD 0 = fv f x := fun x hx => by unfold fv; rw [List.getElem?_eq_getElem hx]; rfl
  rcases hr with ⟨h1, h2⟩ | ⟨i, h1, h2, h3, h4⟩
  · refine .inl ⟨h1, fun x hx => ?_⟩
    obtain ⟨q1, q2⟩ := h.fre.1 hx
    have hm : fv f x ∈ f := by
      unfold fv; rw [List.getElem?_eq_getElem (by rw [h.1]; exact q1)]; exact List.getElem_mem _
    have := h2 _ hm
    rw [q2] at this; simp at this
  · rw [hg i h1] at h3
    have h0 : fv f i = 0 := by have h3' : ((0 : Int) == fv f i) = true := h3
                               have := eq_of_beq h3'; exact this.symm
    refine .inr ⟨i, h2, h.1 ▸ h1, h.fre.2 ⟨h.1 ▸ h1, h0⟩, fun z hz => ?_⟩
    obtain ⟨q1, q2⟩ := h.fre.1 hz
    rcases Nat.lt_or_ge z i with q | q
    · have := h4 z q
      rw [hg z (by rw [h.1]; exact q1), q2] at this; simp at this
    · exact q
/-- While the list of the node that stands now is gone through. -/
def AwJ (g : List (List Nat)) (o : List Nat) (z j : Nat) (f : List Int) : Prop := f.length = g.length ∧ ∀ x, x < g.length → fv f x = (if x ∈ o ∨ x = z then -1 else (awt g o x : Int)) - (if x ∈ (row g z).take j then 1 else 0)
theorem AwK.go {g : List (List Nat)} {o : List Nat} {f : List Int} (h : AwK g o f) {z : Nat} (hz : z < g.length) : AwJ g o z 0 (f.set z (-1)) := by
  refine ⟨by rw [List.length_set]; exact h.1, fun x hx => ?_⟩
  rw [fv_set _ _ _ _ (by rw [h.1]; exact hz), if_neg (by simp : ¬ x ∈ (row g z).take 0)]
  by_cases e : x = z
  · rw [if_pos e, if_pos (.inr e)]; rfl
  · rw [if_neg e, h.2 x hx]
    by_cases q : x ∈ o
    · rw [if_pos q, if_pos (.inl q)]; rfl
    · rw [if_neg q, if_neg (by rintro (r | r); exact q r; exact e r)]; omega
theorem AwJ.bound {g : List (List Nat)} (hok : GOk g) {o : List Nat} {f : List Int} {z j : Nat} (h : AwJ g o z j f) (x : Nat) (hx : x < g.length) : -2 ≤ fv f x ∧ fv f x ≤ 600 := by
  have := awt_le hok o x
  rw [h.2 x hx]
  split <;> split <;> omega
theorem AwJ.next {g : List (List Nat)} (hok : GOk g) {o : List Nat} {f : List Int} {z j y : Nat} (h : AwJ g o z j f) (hj : j < (row g z).length) (hy : qa (row g z) j = y) : AwJ g o z (j + 1) (f.set y (fv f y - 1)) := by
  have hm : y ∈ row g z := hy ▸ qa_mem hj
  have hyl : y < g.length := hok.bdd z y hm
  have hn : y ∉ (row g z).take j := by
    intro q
    obtain ⟨i, h1, h2, h3⟩ := mem_take_qa q
    have hp := List.pairwise_iff_getElem.1 (row_ris hok z) i j h2 hj h1
    rw [qa_get h2, qa_get hj, h3, hy] at hp; omega
  refine ⟨by rw [List.length_set]; exact h.1, fun x hx => ?_⟩
  rw [fv_set _ _ _ _ (by rw [h.1]; exact hyl), take_succ_qa hj, hy]
  by_cases e : x = y
  · subst e
    rw [if_pos rfl, h.2 x hx, if_neg hn, if_pos (by simp : x ∈ (row g z).take j ++ [x])]; omega
  · rw [if_neg e, h.2 x hx]
    by_cases q : x ∈ (row g z).take j
    · rw [if_pos q, if_pos (by simp [q] : x ∈ (row g z).take j ++ [y])]
    · rw [if_neg q, if_neg (by simp [q, e] : ¬ x ∈ (row g z).take j ++ [y])]
theorem AwJ.fin {g : List (List Nat)} (hok : GOk g) {o : List Nat} {f : List Int} {z : Nat} (hR : Run g o) (hz : Nxt g o z) (h : AwJ g o z (row g z).length f) : AwK g (o ++ [z]) f := by
  refine ⟨h.1, fun x hx => ?_⟩
  rw [h.2 x hx, List.take_length]
  have hzo : z ∉ o := hz.1.2.1
  by_cases e : x ∈ o ∨ x = z
  · rw [if_pos e, if_pos (by simpa using e : x ∈ o ++ [z])]
    have hn : x ∉ row g z := by
      intro q
      rcases e with e | e
      · obtain ⟨k, hk, e2⟩ := List.getElem_of_mem e
        rw [qa_get hk] at e2
        subst e2
        exact hzo (List.mem_of_mem_take ((hR k hk).1.2.2 z q))
      · subst e; exact hzo (hz.1.2.2 x q)
    rw [if_neg hn]; omega
  · rw [if_neg e, if_neg (by simpa using e : ¬ x ∈ o ++ [z]), awt_snoc hok hzo hx]
    split <;> omega
end

section
set_option maxRecDepth 100000
set_option linter.unusedVariables false
open Go.RowKit Go.Shelf

set_option maxHeartbeats 1000000 in
theorem sparts_e (R : List Rw) (N : Nat) (hN : R.length = N) (hN2 : N ≤ 140737488355328) (e0 : Int) (he : grE (gs R) = e0) (h0 : e0 ≠ 0) (A : Option Addr) (c : Nat) (w : World) (h : RdG w w.heap.size A R) :
    Calls Try.prog 40 #[.agg #[.slice A N c]] w fun e w' => e = .returned (.tuple #[.slice none 0 0, .int .i64 e0]) ∧ Below w.heap.size w w' := by
  have HC : Hid (∀ V, Below w.heap.size w V → Calls Try.prog 17 #[.agg #[.slice A N c]] V fun e w' => ∃ A c, e = .returned (.tuple #[.agg #[.slice A 0 c], .int .i64 e0]) ∧ Below V.heap.size V w') := fun V hV =>
    (gturn_e R N hN hN2 e0 he h0 A c V (h.on hV)).mono fun e w' ⟨A, R, c, q1, _, _, q4⟩ => ⟨A, c, q1, q4⟩
  have t0 : (e0 == 0) = false := by simpa using h0
  clear he h hN h0
  go_enter Try.func40, Try.ntmps40
  go_wp2_with fail
  have HB0 : Hid (Below w.heap.size w (w.alloc (.cells #[.slice A N c] 24))) := one_below w _
  refine (HC.out _ HB0.out).mono ?_
  rintro e w1 ⟨A1, c1, rfl, b1⟩
  have HB1 : Hid (Below w.heap.size w (w1.alloc (.cells #[.slice A1 0 c1] 24))) := (HB0.out.trans (b1.mono (by simp))).trans ((one_below _ _).mono (by have := b1.size; rw [World.size_alloc] at this; omega))
  clear b1
  go_wp2
  go_ret2
  exact ⟨rfl, HB1.out⟩
theorem qa_set (l : List Nat) (j x v : Nat) (hj : j < l.length) : qa (l.set j v) x = if x = j then v else qa l x := by
  unfold qa
  rw [List.getElem?_set]
  by_cases e : j = x
  · subst e; rw [if_pos rfl, if_pos hj, if_pos rfl]; rfl
  · rw [if_neg e, if_neg (fun r => e r.symm)]
theorem set_cond {Q : Nat → Prop} [∀ x, Decidable (Q x)] {N node j : Nat} {p p' : List Nat} (hl : p'.length = N) (hj : j < N) (hq : ∀ x, x < N → qa p' x = if x < j ∧ Q x then node else qa p x) (q : Q j) (x : Nat) (hx : x < N) : qa (p'.set j node) x = if x < j + 1 ∧ Q x then node else qa p x := by
  rw [qa_set _ _ _ _ (by omega)]
  by_cases e : x = j
  · subst e; rw [if_pos rfl, if_pos ⟨by omega, q⟩]
  · rw [if_neg e, hq x hx]
    by_cases e2 : x < j ∧ Q x
    · rw [if_pos e2, if_pos ⟨by omega, e2.2⟩]
    · rw [if_neg e2, if_neg (fun r => e2 ⟨by omega, r.2⟩)]
theorem keep_cond {Q : Nat → Prop} [∀ x, Decidable (Q x)] {N node j : Nat} {p p' : List Nat} (hq : ∀ x, x < N → qa p' x = if x < j ∧ Q x then node else qa p x) (q : ¬ Q j) (x : Nat) (hx : x < N) : qa p' x = if x < j + 1 ∧ Q x then node else qa p x := by
  rw [hq x hx]
  by_cases e : x = j
  · subst e; rw [if_neg (fun r => q r.2), if_neg (fun r => q r.2)]
  · by_cases e2 : x < j ∧ Q x
    · rw [if_pos e2, if_pos ⟨by omega, e2.2⟩]
    · rw [if_neg e2, if_neg (fun r => e2 ⟨by omega, r.2⟩)]
set_option maxHeartbeats 4000000 in
theorem sparts_ok (R : List Rw) (g : List (List Nat)) (hg : gs R = g.map ns) (hok : GOk g) (N : Nat) (hN : R.length = N) (A : Option Addr) (c : Nat) (w : World) (h : RdG w w.heap.size A R) :
    Calls Try.prog 40 #[.agg #[.slice A N c]] w fun e w' => ∃ b p, e = .returned (.tuple #[.slice (some ⟨b, 0, none⟩) N N, .int .i64 0]) ∧ Sp g p ∧ Ow w w' b (ns p) := by
  obtain ⟨i0, hi, hz0, hz1, hz2⟩ := info_parts info_intD
  have hgl : g.length = N := by have := congrArg List.length hg; rw [gs_length, List.length_map] at this; omega
  have hN1 : N ≤ 100 := by have := hok.nodes; omega
  have HC : Hid (∀ V, Below w.heap.size w V → Calls Try.prog 17 #[.agg #[.slice A N c]] V fun e w' => ∃ A R c, e = .returned (.tuple #[.agg #[.slice A N c], .int .i64 0]) ∧ gs R = (gturn g).map ns ∧ RdG w' w'.heap.size A R ∧ Below V.heap.size V w') := fun V hV => by
    have := gturn_okW R g hg hok N hN A c V (h.on hV)
    unfold GrP at this
    rw [gturn_length, hgl] at this
    exact this
  have HD1 : Hid (∀ s F, s < N → Fa g s F → ∀ V, Below w.heap.size w V → Calls Try.prog 65 #[.slice A N c, .int .i64 (s : Int)] V fun e w' => ∃ b, e = .returned (.slice (some ⟨b, 0, none⟩) N N) ∧ Ow V w' b F) := fun s F hs hF V hV =>
    (dist_any R g hg hok.bdd N hN (by omega) s hs A c V (h.on hV)).mono fun e w' ⟨b, F', q1, q2, q3⟩ => ⟨b, q1, by rw [hF.uniq q2]; exact q3⟩
  have HL : Hid (g.length = N) := hgl
  have HOk := Lib.hid hok
  clear h hN hg hok hgl
  go_enter Try.func40, Try.ntmps40
  go_wp2_with fail
  have HB0 : Hid (Below w.heap.size w (w.alloc (.cells #[.slice A N c] 24)) ∧ (w.alloc (.cells #[.slice A N c] 24)).heap[w.heap.size]? = some (.cells #[.slice A N c] 24 (0, 0))) := ⟨one_below w _, World.alloc_heap_new w _⟩
  refine (HC.out _ HB0.out.1).mono ?_
  rintro e w1 ⟨A2, R2, c2, rfl, g2, r2, b1⟩
  have HB1 : Hid (Below w.heap.size w w1 ∧ w1.heap[w.heap.size]? = some (.cells #[.slice A N c] 24 (0, 0)) ∧ w.heap.size < w1.heap.size) := ⟨HB0.out.1.trans (b1.mono (by simp)), (b1.block _ (by simp)).trans HB0.out.2, by have := b1.size; rw [World.size_alloc] at this; exact this⟩
  have hR2 : R2.length = N := by have := congrArg List.length g2; rw [gs_length, List.length_map, gturn_length, HL.out] at this; exact this
  have HD2 : Hid (∀ s F, s < N → Fa (gturn g) s F → ∀ V, Below w1.heap.size w1 V → Calls Try.prog 65 #[.slice A2 N c2, .int .i64 (s : Int)] V fun e w' => ∃ b, e = .returned (.slice (some ⟨b, 0, none⟩) N N) ∧ Ow V w' b F) := fun s F hs hF V hV =>
    (dist_any R2 (gturn g) g2 (gturn_ok HOk.out).bdd N hR2 (by omega) s hs A2 c2 V (r2.on hV)).mono fun e w' ⟨b, F', q1, q2, q3⟩ => ⟨b, q1, by rw [hF.uniq q2]; exact q3⟩
  clear b1 HB0 g2 r2 hR2
  obtain ⟨w2, hw2⟩ : ∃ w2, w1.alloc (.cells #[.slice A2 N c2] 24) = w2 := ⟨_, rfl⟩
  have H2 : Hid (Below w.heap.size w w2 ∧ Below w1.heap.size w1 w2 ∧ w2.heap[w.heap.size]? = some (.cells #[.slice A N c] 24 (0, 0)) ∧ w2.heap[w1.heap.size]? = some (.cells #[.slice A2 N c2] 24 (0, 0)) ∧ w1.heap.size < w2.heap.size ∧ w.heap.size < w2.heap.size) := by
    have hb := one_below w1 (.cells #[.slice A2 N c2] 24)
    have hn := World.alloc_heap_new w1 (.cells #[.slice A2 N c2] 24)
    rw [hw2] at hb hn
    have hz : w2.heap.size = w1.heap.size + 1 := by rw [← hw2]; exact World.size_alloc _ _
    have := HB1.out.2.2
    exact ⟨HB1.out.1.trans (hb.mono HB1.out.1.size), hb, (hb.block _ HB1.out.2.2).trans HB1.out.2.1, hn, by omega, by omega⟩
  have kg0 : (w1.alloc (.cells #[.slice A2 N c2] 24)).cell? ⟨w.heap.size, 0, none⟩ = some (.slice A N c) := by rw [hw2]; exact (cell_at H2.out.2.2.1 0).trans rfl
  have HW := Lib.hid hw2
  clear hw2
  have hmz : zc (ns (List.replicate N 0)) = (madeCells (Value.int .i64 0).cells (N * 1)).toList := by
    rw [show (Value.int .i64 0).cells = #[Value.int .i64 0] from rfl, toList_madeCells_one, Nat.mul_one]; simp [zc, ns]
  have HMZ := Lib.hid hmz; clear hmz
  have a1 : IntKind.i64.wrap ((N : Int) - 1) = (N : Int) - 1 := by rw [IntKind.wrap_i64]; omega
  go_wp2_with (at_make; rw [HW.out]; refine wpList_make_full _ rfl _ _ 32 rfl w2.heap.size 3 i0 (.int .i64 0) 1 Try.underlying32 hi hz0 hz1 _ _ _ _ N rfl rfl rfl rfl (by rw [hz2]; omega) (by unfold maxLen; omega) (Nat.le_refl _) ?_; intro w3 hown1 hgrow1; rw [← HMZ.out] at hown1; have hlow : Below w2.heap.size w2 w3 := (Below.refl _ w2).grown hgrow1 (Nat.le_refl _) (fun j hj => nomatch hj); have HO : Hid (Ow w2 w3 w2.heap.size (ns (List.replicate N 0))) := Ow.of_own hlow hown1; clear hown1 hgrow1 hlow)
  have HS : Hid (∀ V, Below w2.heap.size w2 V → Below w.heap.size w V ∧ Below w1.heap.size w1 V ∧ V.cell? ⟨w.heap.size, 0, none⟩ = some (.slice A N c) ∧ V.cell? ⟨w1.heap.size, 0, none⟩ = some (.slice A2 N c2)) := fun V hV => by
    obtain ⟨q1, q2, q3, q4, q5, q6⟩ := H2.out
    exact ⟨q1.trans (hV.mono q1.size), q2.trans (hV.mono q2.size), (cell_at ((hV.block _ q6).trans q3) 0).trans rfl, (cell_at ((hV.block _ q5).trans q4) 0).trans rfl⟩
  obtain ⟨B1, hB1⟩ : ∃ B1, w2.heap.size = B1 := ⟨_, rfl⟩
  have HB1s := Lib.hid hB1
  rw [hB1]
  rw [hB1] at HO
  obtain ⟨B3, hB3⟩ : ∃ B3, w1.heap.size = B3 := ⟨_, rfl⟩
  rw [hB3] at HS HD2 ⊢
  have HB3 := Lib.hid hB3
  clear hB1 hB3 kg0
  go_loopw [7] (fun v wr => ∃ (z : Int) (k : Nat) (p : List Nat), k ≤ N ∧ z + 1 = (k : Int) ∧ v = .int .i64 z ∧ Ow w2 wr B1 (ns p) ∧ SpK g k p) (fun v _ => (intOf v + 1).toNat)
  case atStart => exact ⟨(N : Int) - 1, N, _, Nat.le_refl _, by omega, rfl, HO.out, by simp [HL.out], fun x hx ⟨y, h1, h2, _⟩ => by have := HL.out; omega⟩
  case round =>
   as_aux_lemma =>
    obtain ⟨z, k, p, hk, hz, rfl, hO, hP⟩ := hrel
    by_cases h0 : k = 0
    · obtain rfl : z = -1 := by omega
      subst h0
      have HF : Hid (Sp g p ∧ Ow w wr B1 (ns p)) := ⟨hP.fin, H2.out.1.trans (hO.low.mono H2.out.1.size), by have := H2.out.2.2.2.2.2; rw [HB1s.out] at this; omega, hO.row⟩
      clear hO hP
      go_wp2
      go_ret2
      exact ⟨B1, p, rfl, HF.out.1, HF.out.2⟩
    · obtain ⟨node, rfl⟩ : ∃ node : Nat, k = node + 1 := ⟨k - 1, by omega⟩
      obtain rfl : z = (node : Int) := by omega
      obtain ⟨F, hF⟩ := fa_ex g node
      obtain ⟨G, hG⟩ := fa_ex (gturn g) node
      have HDi1 := Lib.hid (fun V hV => HD1.out node F (by omega) hF V hV)
      have HDi2 := Lib.hid (fun V hV => HD2.out node G (by omega) hG V hV)
      have HSt := Lib.hid (⟨hO, hP, hF, hG⟩ : _ ∧ _ ∧ _ ∧ _)
      have HFl : Hid (F.length = N ∧ G.length = N) := by show _ ∧ _; exact ⟨by rw [hF.len]; exact HL.out, by rw [hG.len, gturn_length]; exact HL.out⟩
      have t1 : decide ((0 : Int) ≤ (node : Int)) = true := by simp
      have HBr : Hid (Below w2.heap.size w2 wr) := hO.low
      clear hO hP hF hG h0 hz
      have tok1 : True := trivial
      have tok2 : True := trivial
      go_wp2_with fail
      go_region_held3 (fun w' => w'.cell? ⟨w.heap.size, 0, none⟩ = some (.slice A N c) ∧ w'.cell? ⟨B3, 0, none⟩ = some (.slice A2 N c2))
        ((first | exact (HS.out _ HX2.out).2.2 | exact (HS.out _ HX1.out).2.2 | exact (HS.out _ HBr.out.drew).2.2))
        (first
          | (have _t := tok1; go_at_call 65; refine (HDi1.out wr.drew (HS.out _ HBr.out.drew).1).mono ?_; rintro e w4 ⟨b, rfl, hOb⟩; have HO1 := Lib.hid hOb; have HX1 : Hid (Below w2.heap.size w2 w4) := HBr.out.drew.trans (hOb.low.mono HBr.out.drew.size); clear hOb HDi1 tok1 _t)
          | (go_at_call 65; refine (HDi2.out w4 (HS.out _ HX1.out).2.1).mono ?_; rintro e w5 ⟨b', rfl, hOb⟩; have HO2 := Lib.hid hOb; have HX2 : Hid (Below w2.heap.size w2 w5) := HX1.out.trans (hOb.low.mono HX1.out.size); clear hOb HDi2))
      all_goals (
        have hlt1 : b < w4.heap.size := HO1.out.lt
        have HO4 : Hid (Ow w2 w5 B1 (ns p)) := (HSt.out.1.drew.on HO1.out.low).on HO2.out.low
        have HF4 : Hid (w5.heap[b]? = some (.cells (zc F).toArray 3 (0, 0)) ∧ w5.heap[b']? = some (.cells (zc G).toArray 3 (0, 0))) := ⟨(HO2.out.low.block b hlt1).trans HO1.out.row, HO2.out.row⟩
        have hbB : Hid (b ≠ B1 ∧ b' ≠ B1) := by
          show b ≠ B1 ∧ b' ≠ B1
          have h1 := HSt.out.1.lt
          have h2 := HO1.out.ge
          have h3 := HO2.out.ge
          have h4 : wr.drew.heap.size = wr.heap.size := rfl
          exact ⟨by omega, by omega⟩
        clear hlt1
        go_wp2
        go_loopw [40] (fun v wq => ∃ (j : Nat) (p' : List Nat), j ≤ N ∧ v = .int .i64 (j : Int) ∧ Ow w2 wq B1 (ns p') ∧ (wq.heap[b]? = some (.cells (zc F).toArray 3 (0, 0)) ∧ wq.heap[b']? = some (.cells (zc G).toArray 3 (0, 0))) ∧ p'.length = N ∧ ∀ x, x < N → qa p' x = if x < j ∧ (fv F x ≠ -1 ∧ fv G x ≠ -1) then node else qa p x) (fun v _ => N - (intOf v).toNat)
        case atStart => exact ⟨0, p, Nat.zero_le _, rfl, HO4.out, HF4.out, HSt.out.2.1.len.trans HL.out, fun x _ => by rw [if_neg (fun q => Nat.not_lt_zero _ q.1)]⟩
        case round =>
          obtain ⟨j, p', hj, rfl, hO, hb, hl, hq⟩ := hrel
          by_cases hlt : j < N
          · have kf : wr.cell? ⟨b, j, none⟩ = some (.int .i64 (fv F j)) := (cell_at hb.1 j).trans (by rw [List.getElem?_toArray]; exact fv_get F j (by rw [HFl.out.1]; exact hlt))
            have kg : wr.cell? ⟨b', j, none⟩ = some (.int .i64 (fv G j)) := (cell_at hb.2 j).trans (by rw [List.getElem?_toArray]; exact fv_get G j (by rw [HFl.out.2]; exact hlt))
            obtain ⟨kp, kz⟩ := hO.cell j (by rw [ns_length, hl]; exact hlt)
            have t2 : (0 : Int) ≤ (j : Int) := by omega
            have t3 : (j : Int) < (N : Int) := by omega
            by_cases q : fv F j = -1
            · have HN : Hid (Ow w2 wr B1 (ns p') ∧ (wr.heap[b]? = some (.cells (zc F).toArray 3 (0, 0)) ∧ wr.heap[b']? = some (.cells (zc G).toArray 3 (0, 0))) ∧ p'.length = N ∧ ∀ x, x < N → qa p' x = if x < j + 1 ∧ (fv F x ≠ -1 ∧ fv G x ≠ -1) then node else qa p x) := ⟨hO, hb, hl, keep_cond (Q := fun x => fv F x ≠ -1 ∧ fv G x ≠ -1) hq (fun r => r.1 q)⟩
              rw [q] at kf
              clear hO hb hl hq q kp kz
              go_wp2
              go_roundw
              case rel => exact ⟨j + 1, p', by omega, by go_num, HN.out.1, HN.out.2.1, HN.out.2.2.1, HN.out.2.2.2⟩
              case measure => simp [intOf]; omega
            · have t4 : (fv F j == -1) = false := by simpa using q
              have t4n : (fv F j != -1) = true := by simpa using q
              by_cases r : fv G j = -1
              · have HN : Hid (Ow w2 wr B1 (ns p') ∧ (wr.heap[b]? = some (.cells (zc F).toArray 3 (0, 0)) ∧ wr.heap[b']? = some (.cells (zc G).toArray 3 (0, 0))) ∧ p'.length = N ∧ ∀ x, x < N → qa p' x = if x < j + 1 ∧ (fv F x ≠ -1 ∧ fv G x ≠ -1) then node else qa p x) := ⟨hO, hb, hl, keep_cond (Q := fun x => fv F x ≠ -1 ∧ fv G x ≠ -1) hq (fun s => s.2 r)⟩
                rw [r] at kg
                generalize fv F j = u at *
                clear hO hb hl hq q r kp kz
                go_wp2
                go_roundw
                case rel => exact ⟨j + 1, p', by omega, by go_num, HN.out.1, HN.out.2.1, HN.out.2.2.1, HN.out.2.2.2⟩
                case measure => simp [intOf]; omega
              · have t5 : (fv G j == -1) = false := by simpa using r
                have t5n : (fv G j != -1) = true := by simpa using r
                have HN : Hid (Ow w2 (wr.setCell ⟨B1, j, none⟩ (.int .i64 (node : Int))) B1 (ns (p'.set j node)) ∧ ((wr.setCell ⟨B1, j, none⟩ (.int .i64 (node : Int))).heap[b]? = some (.cells (zc F).toArray 3 (0, 0)) ∧ (wr.setCell ⟨B1, j, none⟩ (.int .i64 (node : Int))).heap[b']? = some (.cells (zc G).toArray 3 (0, 0))) ∧ (p'.set j node).length = N ∧ ∀ x, x < N → qa (p'.set j node) x = if x < j + 1 ∧ (fv F x ≠ -1 ∧ fv G x ≠ -1) then node else qa p x) :=
                  ⟨ns_set p' j node ▸ hO.set j (node : Int), ⟨(Below.heap_setCell _ _ _ _ hbB.out.1).trans hb.1, (Below.heap_setCell _ _ _ _ hbB.out.2).trans hb.2⟩, by rw [List.length_set]; exact hl, set_cond (Q := fun x => fv F x ≠ -1 ∧ fv G x ≠ -1) hl hlt hq ⟨q, r⟩⟩
                generalize fv F j = u at *
                generalize fv G j = u2 at *
                clear hO hb hl hq q r
                go_wp2
                go_roundw
                case rel => exact ⟨j + 1, _, by omega, by go_num, HN.out.1, HN.out.2.1, HN.out.2.2.1, HN.out.2.2.2⟩
                case measure => simp [intOf]; omega
          · obtain rfl : j = N := by omega
            have HN : Hid (SpK g node p' ∧ Ow w2 wr B1 (ns p')) := ⟨HSt.out.2.1.next HOk.out (by have := HL.out; omega) HSt.out.2.2.1 HSt.out.2.2.2 (hl.trans HL.out.symm) (fun x hx => by
              have hx' : x < j := by rw [← HL.out]; exact hx
              rw [hq x hx']
              by_cases e : fv F x ≠ -1 ∧ fv G x ≠ -1
              · rw [if_pos ⟨hx', e⟩, if_pos e]
              · rw [if_neg (fun r => e r.2), if_neg e]), hO⟩
            have a2 : IntKind.i64.wrap ((node : Int) - 1) = (node : Int) - 1 := by rw [IntKind.wrap_i64]; omega
            clear hO hb hl hq
            go_wp2
            go_roundw
            case rel => exact ⟨(node : Int) - 1, node, p', by omega, by omega, by simp, HN.out.2, HN.out.1⟩
            case measure => simp [intOf])
end

section
set_option maxRecDepth 100000
set_option linter.unusedVariables false
open Go.RowKit Go.Shelf

set_option maxHeartbeats 1000000 in
theorem index_any (v : Int) (xs : List Int) (n : Nat) (hn : xs.length = n) (hn2 : n ≤ 140737488355328) (A : Option Addr) (c : Nat) (w : World) (h : RdV w w.heap.size A (zc xs)) :
    Calls Try.prog 71 #[.slice A n c, .int .i64 v] w fun e w' => ∃ r, e = .returned (.int .i64 r) ∧ IdxF (fun y => v == y) xs r ∧ w' = w := by
  have HX := Lib.hid h; have HN := Lib.hid hn
  clear h hn
  go_enter Try.func71, Try.ntmps71
  go_wp2
  go_loopw [8] (fun u wr => ∃ i : Nat, i ≤ n ∧ u = .int .i64 (i : Int) ∧ (∀ j, j < i → (v == (xs[j]?.getD 0)) = false) ∧ wr = w) (fun u _ => n - (intOf u).toNat)
  case atStart => exact ⟨0, Nat.zero_le _, rfl, fun j hj => absurd hj (Nat.not_lt_zero _), rfl⟩
  case round =>
    obtain ⟨i, hi, rfl, hno, hw⟩ := hrel
    subst hw
    by_cases hlt : i < n
    · have hin : i < xs.length := by rw [HN.out]; exact hlt
      obtain ⟨b, off, rfl, hb, k0⟩ := HX.out.at_ (zc_get xs i hin)
      have hfin : ∀ q, (v == (xs[i]?.getD 0)) = q → (q = true → IdxF (fun y => v == y) xs (i : Int)) ∧ (q = false → ∀ j, j < i + 1 → (v == (xs[j]?.getD 0)) = false) := fun q hq => ⟨fun e => .inr ⟨i, hin, rfl, hq.trans e, hno⟩, fun e j hj => by
        rcases Nat.lt_or_ge j i with h | h
        · exact hno j h
        · obtain rfl : j = i := by omega
          exact hq.trans e⟩
      have t1 : (0 : Int) ≤ (i : Int) := by omega
      have t2 : (i : Int) < (n : Int) := by omega
      obtain ⟨q, hq⟩ : ∃ q, (v == (xs[i]?.getD 0)) = q := ⟨_, rfl⟩
      have HF := Lib.hid (hfin q hq)
      clear hno hfin
      generalize xs[i]?.getD 0 = x at *
      cases q with
      | true =>
        go_wp2
        go_ret
        exact ⟨_, rfl, HF.out.1 (by simp), rfl⟩
      | false =>
        go_wp2
        go_roundw
        case rel => exact ⟨i + 1, by omega, by go_num, HF.out.2 (by simp), by simp⟩
        case measure => simp [intOf]; omega
    · obtain rfl : i = n := by omega
      have HF : Hid (IdxF (fun y => v == y) xs (-1)) := .inl ⟨rfl, fun x hx => by
        obtain ⟨j, hj, e⟩ := List.getElem_of_mem hx
        have := hno j (by rw [← HN.out]; exact hj)
        rwa [List.getElem?_eq_getElem hj, e] at this⟩
      clear hno
      go_wp2
      go_ret
      exact ⟨_, rfl, HF.out, rfl⟩
end

section
set_option maxRecDepth 100000
set_option linter.unusedVariables false
open Go.RowKit Go.Shelf

/-- A list of numbers and an error come back. -/
def IntP (w : World) (o : List Nat) (err : Int) (e : Ending) (w' : World) : Prop :=
  ∃ A c, e = .returned (.tuple #[.slice A o.length c, .int .i64 err]) ∧ o.length ≤ c ∧ RdV w' w'.heap.size A (zc (ns o)) ∧ Below w.heap.size w w'
theorem rdv_nil (w : World) : RdV w w.heap.size none (zc (ns [])) := .inl rfl
set_option maxHeartbeats 1000000 in
theorem sord_e (R : List Rw) (N : Nat) (hN : R.length = N) (hN2 : N ≤ 140737488355328) (e0 : Int) (he : grE (gs R) = e0) (h0 : e0 ≠ 0) (A : Option Addr) (c : Nat) (w : World) (h : RdG w w.heap.size A R) :
    Calls Try.prog 41 #[.agg #[.slice A N c]] w (IntP w [] e0) := by
  have HC : Hid (∀ V, Below w.heap.size w V → Calls Try.prog 19 #[.agg #[.slice A N c]] V fun e w' => ∃ A c A2 c2, e = .returned (.tuple #[.slice A 0 c, .slice A2 0 c2, .int .i64 e0]) ∧ Below V.heap.size V w') := fun V hV =>
    (gdeg_e R N hN hN2 e0 he h0 A c V (h.on hV)).mono fun e w' ⟨A, c, A2, c2, q1, _, _, q4⟩ => ⟨A, c, A2, c2, q1, q4⟩
  have t0 : (e0 == 0) = false := by simpa using h0
  clear he h hN h0
  go_enter Try.func41, Try.ntmps41
  go_wp2_with fail
  have HB0 : Hid (Below w.heap.size w (w.alloc (.cells #[.slice A N c] 24))) := one_below w _
  refine (HC.out _ HB0.out).mono ?_
  rintro e w1 ⟨A1, c1, A2, c2, rfl, b1⟩
  have HB1 : Hid (Below w.heap.size w w1) := HB0.out.trans (b1.mono (by simp))
  clear b1
  go_wp2
  go_ret2
  exact ⟨none, 0, rfl, Nat.le_refl _, .inl rfl, HB1.out⟩
set_option maxHeartbeats 4000000 in
theorem sord_ok (R : List Rw) (g : List (List Nat)) (hg : gs R = g.map ns) (hok : GOk g) (N : Nat) (hN : R.length = N) (A : Option Addr) (c : Nat) (w : World) (h : RdG w w.heap.size A R) :
    Calls Try.prog 41 #[.agg #[.slice A N c]] w fun e w' => ∃ o err, OrP g o err ∧ IntP w o err e w' := by
  obtain ⟨i0, hi, hz0, hz1, hz2⟩ := info_parts info_intD
  have hgl : g.length = N := by have := congrArg List.length hg; rw [gs_length, List.length_map] at this; omega
  have hN1 : N ≤ 100 := by have := hok.nodes; omega
  have HC : Hid (∀ V, Below w.heap.size w V → Calls Try.prog 19 #[.agg #[.slice A N c]] V (DegW V N (dFrom N (arcs 0 g)) (dTo N (arcs 0 g)))) := fun V hV => gdeg_okW R g hg hok N hN A c V (h.on hV)
  have HH := Lib.hid (⟨hg, hN, hgl, h⟩ : gs R = g.map ns ∧ R.length = N ∧ g.length = N ∧ RdG w w.heap.size A R)
  have HOk := Lib.hid hok
  clear h hN hg hok hgl
  go_enter Try.func41, Try.ntmps41
  go_wp2_with fail
  have HB0 : Hid (Below w.heap.size w (w.alloc (.cells #[.slice A N c] 24)) ∧ (w.alloc (.cells #[.slice A N c] 24)).heap[w.heap.size]? = some (.cells #[.slice A N c] 24 (0, 0))) := ⟨one_below w _, World.alloc_heap_new w _⟩
  refine (HC.out _ HB0.out.1).mono ?_
  rintro e w1 ⟨b3, b7, rfl, q3, q7, ⟨l3, l7⟩, lf, lt, b1⟩
  have HB1 : Hid (Below w.heap.size w w1 ∧ w1.heap[w.heap.size]? = some (.cells #[.slice A N c] 24 (0, 0)) ∧ w.heap.size < w1.heap.size) := ⟨HB0.out.1.trans (b1.mono (by simp)), (b1.block _ (by simp)).trans HB0.out.2, by have := b1.size; rw [World.size_alloc] at this; exact this⟩
  have kg : w1.cell? ⟨w.heap.size, 0, none⟩ = some (.slice A N c) := (cell_at HB1.out.2.1 0).trans rfl
  have HK0 : Hid (AwK g [] (ns (dTo N (arcs 0 g)))) := by have := awk_start g; rw [HH.out.2.2.1] at this; exact this
  rw [World.size_alloc] at l7
  have HO0 : Hid (Ow (w.alloc (.cells #[.slice A N c] 24)) w1 b7 (ns (dTo N (arcs 0 g)))) := ⟨b1, by rw [World.size_alloc]; exact l7, q7⟩
  clear b1 q3 q7 l3 lf lt HC
  go_wp2
  clear kg
  obtain ⟨w0, hw0⟩ : ∃ w0, w.alloc (.cells #[.slice A N c] 24) = w0 := ⟨_, rfl⟩
  rw [hw0] at HO0 HB0
  clear hw0
  obtain ⟨B1, hB1⟩ : ∃ B1, w1.heap.size = B1 := ⟨_, rfl⟩
  have HB1s := Lib.hid hB1; clear hB1
  have HS : Hid (∀ V, Below w0.heap.size w0 V → Below w.heap.size w V ∧ V.cell? ⟨w.heap.size, 0, none⟩ = some (.slice A N c) ∧ RdG V V.heap.size A R) := fun V hV => by
    have hlt : w.heap.size < w0.heap.size := (Array.getElem?_eq_some_iff.1 HB0.out.2).1
    have q := HB0.out.1.trans (hV.mono HB0.out.1.size)
    exact ⟨q, (cell_at ((hV.block _ hlt).trans HB0.out.2) 0).trans rfl, HH.out.2.2.2.on q⟩
  go_loopw [7, 23] (fun v p wr => ∃ (o : List Nat) (f : List Int), p = .int .i64 (o.length : Int) ∧ Di w0 wr b7 B1 f v o ∧ Run g o ∧ AwK g o f) (fun v p _ => N - (intOf p).toNat)
  case atStart => exact ⟨[], _, rfl, ⟨HO0.out, by rw [← HB1s.out]; exact HO0.out.lt, by rw [HB1s.out]; exact Nat.le_refl _, rfl, .inl ⟨rfl, rfl⟩⟩, run_nil g, HK0.out⟩
  case round =>
   as_aux_lemma =>
    obtain ⟨o, f, rfl, hD, hR, hK⟩ := hrel
    obtain ⟨Av, cv, rfl⟩ := own_sliceT hD.own
    have hol := hR.le
    rw [HH.out.2.2.1] at hol
    have hfl : f.length = N := hK.1.trans HH.out.2.2.1
    by_cases hlt : o.length < N
    · obtain ⟨k1, k2, k3⟩ := HS.out wr hD.far.low
      have HI : Hid (Calls Try.prog 71 #[.slice (some ⟨b7, 0, none⟩) N N, .int .i64 0] wr fun e w' => ∃ r, e = .returned (.int .i64 r) ∧ ((r = -1 ∧ ∀ x, ¬ Fre g o x) ∨ ∃ x : Nat, r = (x : Int) ∧ x < g.length ∧ Nxt g o x) ∧ w' = wr) :=
        (index_any 0 f N hfl (by omega) (some ⟨b7, 0, none⟩) N wr hD.far.rd).mono fun e w' ⟨r, q1, q2, q3⟩ => ⟨r, q1, hK.idx q2, q3⟩
      have HDK := Lib.hid (⟨hD, hR, hK, hfl⟩ : _ ∧ _ ∧ _ ∧ _)
      have HBx := Lib.hid k1
      have HRx := Lib.hid k3
      clear k1 k3 hD hR hK hfl
      generalize hqe : o.length = ol at *
      have HQe := Lib.hid hqe; clear hqe
      have t1 : (ol : Int) < (N : Int) := by omega
      go_wp2_with fail
      refine HI.out.mono ?_
      rintro e w4 ⟨r, rfl, hr, rfl⟩
      clear HI
      rcases hr with ⟨rfl, hst⟩ | ⟨z, rfl, hzl, hz⟩
      · have HF : Hid (OrP g [] 4) := .inr ⟨rfl, rfl, Run.stuck HOk.out.bdd (by rw [HH.out.2.2.1, HQe.out]; exact hlt) hst⟩
        clear hst
        go_wp2
        go_ret2
        exact ⟨[], 4, HF.out, none, 0, rfl, Nat.le_refl _, .inl rfl, HBx.out⟩
      · rw [HH.out.2.2.1] at hzl
        have HZ := Lib.hid hz; clear hz
        have hzR : z < R.length := by rw [HH.out.2.1]; exact hzl
        obtain ⟨kc, kf⟩ := HDK.out.1.far.cell z (by rw [HDK.out.2.2.2]; exact hzl)
        have HD1 : Hid (Di w0 (w4.setCell ⟨b7, z, none⟩ (.int .i64 (-1))) b7 B1 (f.set z (-1)) (.slice Av ol cv) o) := HDK.out.1.set z (-1)
        have HJ1 : Hid (AwJ g o z 0 (f.set z (-1))) := HDK.out.2.2.1.go (by rw [HH.out.2.2.1]; exact hzl)
        obtain ⟨m1, m2, m3⟩ := HS.out _ HD1.out.far.low
        obtain ⟨b2, off2, rfl, hb2, k1'⟩ := m3.1.at_ (rcl_get R z hzR)
        have hrd := m3.2 _ (rw_mem R z hzR)
        have hro := row_ofD R g HH.out.1 z (by rw [HH.out.2.2.1]; exact hzl)
        have hrdv : ∀ V, Below w0.heap.size w0 V → RdV V V.heap.size (R[z]?.getD (none, 0, [])).1 (zc (R[z]?.getD (none, 0, [])).2.2) := fun V hV => ((HS.out V hV).2.2.2 _ (rw_mem R z hzR)).1
        generalize R[z]?.getD (none, 0, []) = x at *
        obtain ⟨A3, c3, xs⟩ := x
        unfold sl at k1'
        simp only at k1' hrd hro hrdv
        subst hro
        obtain ⟨m, hm⟩ : ∃ m, (row g z).length = m := ⟨_, rfl⟩
        rw [ns_length, hm] at k1' hrd
        have hm47 := hrd.2
        have HRow := Lib.hid (⟨hrdv, hm⟩ : _ ∧ _)
        have t3 : (0 : Int) ≤ (z : Int) := by omega
        have t4 : (z : Int) < (N : Int) := by omega
        have t5 : decide ((z : Int) < 0) = false := by simp
        clear hrd hrdv hm m1 m3 hb2
        go_wp2
        clear kc kf k1' m2
        go_loopw [38] (fun u wq => ∃ (j : Nat) (f' : List Int), j ≤ m ∧ u = .int .i64 (j : Int) ∧ Di w0 wq b7 B1 f' (.slice Av ol cv) o ∧ AwJ g o z j f') (fun u _ => m - (intOf u).toNat)
        case atStart => exact ⟨0, _, Nat.zero_le _, rfl, HD1.out, HJ1.out⟩
        case round =>
         as_aux_lemma =>
          obtain ⟨j, f', hj, rfl, hD, hJ⟩ := hrel
          by_cases hjm : j < m
          · have hjl : j < (row g z).length := by rw [HRow.out.2]; exact hjm
            obtain ⟨b4, off4, rfl, hb4, k3⟩ := (HRow.out.1 wr hD.far.low).at_ (zc_getN (row g z) j (qa (row g z) j) (qa_eq hjl))
            have hto : qa (row g z) j < N := by rw [← HH.out.2.2.1]; exact HOk.out.bdd z _ (qa_mem hjl)
            obtain ⟨y, hy⟩ : ∃ y, qa (row g z) j = y := ⟨_, rfl⟩
            have hbd := hJ.bound HOk.out y (by rw [HH.out.2.2.1, ← hy]; exact hto)
            obtain ⟨k4, k5⟩ := hD.far.cell y (by rw [hJ.1, HH.out.2.2.1, ← hy]; exact hto)
            have HN : Hid (Di w0 (wr.setCell ⟨b7, y, none⟩ (.int .i64 (fv f' y - 1))) b7 B1 (f'.set y (fv f' y - 1)) (.slice Av ol cv) o ∧ AwJ g o z (j + 1) (f'.set y (fv f' y - 1))) := ⟨hD.set y _, hJ.next HOk.out hjl hy⟩
            rw [hy] at k3 hto
            have a1 : IntKind.i64.wrap (fv f' y - 1) = fv f' y - 1 := by rw [IntKind.wrap_i64]; omega
            have t7 : (0 : Int) ≤ (j : Int) := by omega
            have t8 : (j : Int) < (m : Int) := by omega
            have t9 : (0 : Int) ≤ (y : Int) := by omega
            have t10 : (y : Int) < (N : Int) := by omega
            generalize fv f' y = u at *
            clear hD hJ hy hbd
            go_wp2
            go_roundw
            case rel => exact ⟨j + 1, _, by omega, by go_num, HN.out.1, HN.out.2⟩
            case measure => simp [intOf]; omega
          · obtain rfl : j = m := by omega
            have HKn : Hid (AwK g (o ++ [z]) f' ∧ Run g (o ++ [z])) := ⟨by have h1 := hJ; rw [← HRow.out.2] at h1; exact h1.fin HOk.out HDK.out.2.1 HZ.out, HDK.out.2.1.snoc HZ.out⟩
            have HDn := Lib.hid hD
            have HOw : Hid (wr.ownsRow B1 3 1 (.slice Av ol cv) ol (zc (ns o))) := by
              have := hD.own
              rw [HQe.out] at this; exact this
            have HNw : Hid (∀ (k : Nat) (u : Value), [Value.int .i64 (z : Int)][k]? = some u → (wr.alloc (.cells #[.int .i64 (z : Int)] 3)).cell? ((⟨wr.heap.size, 0, none⟩ : Addr).add k) = some u) := news_row wr [.int .i64 (z : Int)] 3
            clear hD hJ
            go_wp2_with (at_builtin; go_loud (refine wpList_append_own _ rfl _ _ 32 rfl B1 3 i0 (.int .i64 0) 1 8 Try.underlying32 hi hz0 hz1 hz2 rfl (by decide) _ _ _ rfl (HOw.out.alloc _) ⟨wr.heap.size, 0, none⟩ 1 1 [.int .i64 (z : Int)] rfl rfl HNw.out (by simp [Value.oneCell']) (by unfold maxLen; omega) (by omega) (by have := HDn.out.le; simp; omega) ?_); intro v' w3 hown' hgrow _)
            have HFn : Hid (Di w0 w3 b7 B1 f' v' (o ++ [z])) := (HDn.out.alloc _).app (by rw [HQe.out]; exact hown') hgrow
            clear hown' hgrow
            go_roundw
            case rel => exact ⟨o ++ [z], f', by rw [List.length_append, HQe.out]; go_num, HFn.out, HKn.out.2, HKn.out.1⟩
            case measure => simp [intOf]; omega
    · have hl : o.length = N := by omega
      have HF : Hid (OrP g o 0 ∧ RdV wr wr.heap.size Av (zc (ns o)) ∧ Below w.heap.size w wr ∧ o.length ≤ cv) := ⟨.inl ⟨rfl, hR, by rw [hl, HH.out.2.2.1]⟩, own_rdv hD.own, (HS.out wr hD.far.low).1, (own_capA hD.own).1⟩
      clear hD hR hK hfl
      go_wp2
      go_ret2
      exact ⟨o, 0, HF.out.1, Av, cv, rfl, HF.out.2.2.2, HF.out.2.1, HF.out.2.2.1⟩
end

section
set_option maxRecDepth 100000
set_option linter.unusedVariables false
open Go.RowKit Go.Shelf

/-- Each node's part's number, as a list. -/
def ofL (p : List Nat) (n : Nat) : List Nat := (List.range n).map (ofP p)
theorem ofL_length (p : List Nat) (n : Nat) : (ofL p n).length = n := by simp [ofL]
theorem ofL_qa (p : List Nat) (n x : Nat) (h : x < n) : qa (ofL p n) x = ofP p x := by
  unfold qa ofL; rw [List.getElem?_map, List.getElem?_range h]; rfl
theorem ofL_eq {p q : List Nat} {n : Nat} (hl : q.length = n) (h : ∀ x, x < n → qa q x = ofP p x) : q = ofL p n := by
  apply List.ext_getElem (by rw [hl, ofL_length])
  intro x a b
  rw [qa_get a, qa_get b, h x (by omega), ofL_qa p n x (by omega)]
set_option maxHeartbeats 2000000 in
theorem numbered_any (p : List Nat) (N : Nat) (hN : p.length = N) (hN1 : N ≤ 1000) (hle : ∀ x, x < N → qa p x ≤ x) (hid : ∀ x, x < N → qa p (qa p x) = qa p x) (A : Option Addr) (c : Nat) (w : World) (h : RdV w w.heap.size A (zc (ns p))) :
    Calls Try.prog 72 #[.slice A N c] w fun e w' => ∃ b, e = .returned (.tuple #[.slice (some ⟨b, 0, none⟩) N N, .int .i64 (nrp p N : Int)]) ∧ Ow w w' b (ns (ofL p N)) := by
  obtain ⟨i0, hi, hz0, hz1, hz2⟩ := info_parts info_intD
  have HH := Lib.hid (⟨hN, hle, hid, h⟩ : _ ∧ _ ∧ _ ∧ _)
  clear hN hle hid h
  have hmz : zc (ns (List.replicate N 0)) = (madeCells (Value.int .i64 0).cells (N * 1)).toList := by
    rw [show (Value.int .i64 0).cells = #[Value.int .i64 0] from rfl, toList_madeCells_one, Nat.mul_one]; simp [zc, ns]
  have HMZ := Lib.hid hmz; clear hmz
  go_enter Try.func72, Try.ntmps72
  go_wp2_with (at_make; refine wpList_make_full _ rfl _ _ 32 rfl w.heap.size 3 i0 (.int .i64 0) 1 Try.underlying32 hi hz0 hz1 _ _ _ _ N rfl rfl rfl rfl (by rw [hz2]; omega) (by unfold maxLen; omega) (Nat.le_refl _) ?_; intro w3 hown1 hgrow1; rw [← HMZ.out] at hown1; have hlow : Below w.heap.size w w3 := (Below.refl _ w).grown hgrow1 (Nat.le_refl _) (fun j hj => nomatch hj); have HO : Hid (Ow w w3 w.heap.size (ns (List.replicate N 0))) := Ow.of_own hlow hown1; clear hown1 hgrow1 hlow)
  obtain ⟨B1, hB1⟩ : ∃ B1, w.heap.size = B1 := ⟨_, rfl⟩
  rw [hB1]
  rw [hB1] at HO
  have HB1s := Lib.hid hB1
  clear hB1
  go_loopw [5, 13] (fun u v wr => ∃ (i : Nat) (q : List Nat), i ≤ N ∧ u = .int .i64 (nrp p i : Int) ∧ v = .int .i64 (i : Int) ∧ Ow w wr B1 (ns q) ∧ q.length = N ∧ ∀ x, x < i → qa q x = ofP p x) (fun _ v _ => N - (intOf v).toNat)
  case atStart => exact ⟨0, _, Nat.zero_le _, rfl, rfl, HO.out, by simp, fun x hx => absurd hx (Nat.not_lt_zero _)⟩
  case round =>
   as_aux_lemma =>
    obtain ⟨i, q, hi', rfl, rfl, hO, hl, hq⟩ := hrel
    by_cases hlt : i < N
    · obtain ⟨b, off, rfl, hb, k0⟩ := (HH.out.2.2.2.on hO.low).at_ (zc_getN p i (qa p i) (qa_eq (by rw [HH.out.1]; exact hlt)))
      have hpi := HH.out.2.1 i hlt
      have hii := HH.out.2.2.1 i hlt
      have hn1 := nrp_le p i
      have hsu := nrp_succ p i
      obtain ⟨y, hy⟩ : ∃ y, qa p i = y := ⟨_, rfl⟩
      rw [hy] at k0 hpi hii hsu
      have t1 : (0 : Int) ≤ (i : Int) := by omega
      have t2 : (i : Int) < (N : Int) := by omega
      have t3 : (0 : Int) ≤ (y : Int) := by omega
      have t4 : (y : Int) < (N : Int) := by omega
      by_cases e : y = i
      · have hs1 : nrp p (i + 1) = nrp p i + 1 := by rw [hsu, if_pos e]
        have hof : ofP p i = nrp p i := by unfold ofP; rw [hy, e]
        have HN : Hid (Ow w (wr.setCell ⟨B1, i, none⟩ (.int .i64 (nrp p i : Int))) B1 (ns (q.set i (nrp p i))) ∧ (q.set i (nrp p i)).length = N ∧ ∀ x, x < i + 1 → qa (q.set i (nrp p i)) x = ofP p x) :=
          ⟨ns_set q i (nrp p i) ▸ hO.set i _, by rw [List.length_set]; exact hl, fun x hx => by
            rw [qa_set _ _ _ _ (by omega)]
            by_cases r : x = i
            · subst r; rw [if_pos rfl, hof]
            · rw [if_neg r]; exact hq x (by omega)⟩
        have HS1 := Lib.hid hs1
        obtain ⟨kc, kf⟩ := hO.cell i (by rw [ns_length, hl]; exact hlt)
        subst e
        generalize nrp p y = m at *
        have a1 : IntKind.i64.wrap ((m : Int) + 1) = (m : Int) + 1 := by rw [IntKind.wrap_i64]; omega
        clear hO hl hq hy hii hsu hof hs1
        go_wp2
        go_roundw
        case rel => exact ⟨y + 1, _, by omega, by rw [HS1.out]; simp, by go_num, HN.out.1, HN.out.2.1, HN.out.2.2⟩
        case measure => simp [intOf]; omega
      · have hs1 : nrp p (i + 1) = nrp p i := by rw [hsu, if_neg e]; rfl
        have hyi : y < i := by omega
        have hof : ofP p i = ofP p y := by unfold ofP; rw [hy, hii]
        obtain ⟨kc, kf⟩ := hO.cell i (by rw [ns_length, hl]; exact hlt)
        obtain ⟨kc2, kf2⟩ := hO.cell y (by rw [ns_length, hl]; omega)
        have hv : fv (ns q) y = (ofP p y : Int) := by rw [fv_ns q y (by omega), hq y hyi]
        rw [hv] at kc2
        have HN : Hid (Ow w (wr.setCell ⟨B1, i, none⟩ (.int .i64 (ofP p y : Int))) B1 (ns (q.set i (ofP p y))) ∧ (q.set i (ofP p y)).length = N ∧ ∀ x, x < i + 1 → qa (q.set i (ofP p y)) x = ofP p x) :=
          ⟨ns_set q i (ofP p y) ▸ hO.set i _, by rw [List.length_set]; exact hl, fun x hx => by
            rw [qa_set _ _ _ _ (by omega)]
            by_cases r : x = i
            · subst r; rw [if_pos rfl, hof]
            · rw [if_neg r]; exact hq x (by omega)⟩
        have HS1 := Lib.hid hs1
        have t5 : ((y : Int) == (i : Int)) = false := by simp; omega
        clear hO hl hq hy hii hsu hof hs1 hv
        generalize ofP p y = u at *
        go_wp2
        go_roundw
        case rel => exact ⟨i + 1, _, by omega, by rw [HS1.out], by go_num, HN.out.1, HN.out.2.1, HN.out.2.2⟩
        case measure => simp [intOf]; omega
    · obtain rfl : i = N := by omega
      have HF : Hid (Ow w wr B1 (ns (ofL p i))) := by rw [← ofL_eq hl hq]; exact hO
      clear hO hl hq
      go_wp2
      go_ret2
      exact ⟨B1, rfl, HF.out⟩
end

section
set_option maxRecDepth 100000
set_option linter.unusedVariables false
open Go.RowKit Go.Shelf

theorem acs_atS (L : List Ar) (i : Nat) (h : i < L.length) : (acs L)[i * 2]? = some (.int .i64 ((L[i]?.getD (0, 0)).1 : Int)) ∧ (acs L)[i * 2 + 1]? = some (.int .i64 ((L[i]?.getD (0, 0)).2 : Int)) := by
  have h1 := rcs_at (rz L) i (by unfold rz; simpa using h)
  have e : (rz L)[i]?.getD (0, 0) = (((L[i]?.getD (0, 0)).1 : Int), ((L[i]?.getD (0, 0)).2 : Int)) := by
    unfold rz; rw [List.getElem?_map, List.getElem?_eq_getElem h]; rfl
  rw [e] at h1
  exact h1
theorem own_rdvS {w : World} {base size : Nat} {e : TypeId} {A : Option Addr} {n c : Nat} {vs : List Value} (h : w.ownsRow base e size (.slice A n c) n vs) : RdV w w.heap.size A vs := by
  rcases h.2 with ⟨h0, h1⟩ | ⟨g, cap, cur, e, h1, h2, h3, h4, h5, h6⟩
  · simp only [Value.slice.injEq] at h0
    have : vs = [] := List.length_eq_zero_iff.1 (by rw [h.1, h1, Nat.zero_mul])
    subst this
    exact .inl rfl
  · simp only [Value.slice.injEq] at e
    obtain ⟨rfl, -, rfl⟩ := e
    refine .inr ⟨g, 0, rfl, (Array.getElem?_eq_some_iff.1 h2).1, fun i v hi => ?_⟩
    rw [cell_at h2, Nat.zero_add, ← Array.getElem?_toList]
    rw [← h6] at hi
    have : i < n * size := by have := (List.getElem?_eq_some_iff.1 hi).1; rw [List.length_take] at this; omega
    rwa [List.getElem?_take_of_lt this] at hi
theorem own_grownS {X Y : World} {base k n : Nat} {T : TypeId} {v : Value} {xs : List Value} (h : X.ownsRow base T k v n xs) {row : Option Nat} (hg : X.grownBy Y row) (hr : ∀ r, row = some r → r < base) : Y.ownsRow base T k v n xs := by
  refine ⟨h.1, ?_⟩
  rcases h.2 with h0 | ⟨g, cap, cur, e, h1, h2, h3⟩
  · exact .inl h0
  · exact .inr ⟨g, cap, cur, e, h1, (hg.block g (Array.getElem?_eq_some_iff.1 h2).1 (fun q => by have := hr g q.symm; omega)).trans h2, h3⟩
/-- What the rounds keep: a set of arcs, and a list of them, of the call's own. -/
structure Bt (w1 W : World) (bm : Nat) (v : Value) (S : List Ar) (n : Nat) : Prop where
  low : Below w1.heap.size w1 W
  ge : w1.heap.size ≤ bm
  set : ASet W bm n S
  le : bm + 1 ≤ W.heap.size
  own : W.ownsRow (bm + 1) 65 2 v S.length (acs S)
theorem Bt.alloc {w1 W : World} {bm n : Nat} {v : Value} {S : List Ar} (h : Bt w1 W bm v S n) (o : Obj) : Bt w1 (W.alloc o) bm v S n :=
  ⟨h.low.trans ((one_below W o).mono h.low.size), h.ge, h.set.below (one_below W o) (by have := h.le; omega), by rw [World.size_alloc]; have := h.le; omega, h.own.alloc _⟩
theorem Bt.drew {w1 W : World} {bm n : Nat} {v : Value} {S : List Ar} (h : Bt w1 W bm v S n) : Bt w1 W.drew bm v S n :=
  ⟨h.low.drew, h.ge, h.set.below (B := W.heap.size) (Below.refl _ W).drew (by have := h.le; omega), h.le, h.own⟩
theorem Bt.mono {w1 W : World} {bm n : Nat} {v : Value} {S : List Ar} (h : Bt w1 W bm v S n) : Bt w1 W bm v S (n + 1) := ⟨h.low, h.ge, h.set.mono (Nat.le_succ _), h.le, h.own⟩
/-- An arc is put into the set, not yet behind the list. -/
structure Bt' (w1 W : World) (bm : Nat) (v : Value) (S T : List Ar) (n : Nat) : Prop where
  low : Below w1.heap.size w1 W
  ge : w1.heap.size ≤ bm
  set : ASet W bm n T
  le : bm + 1 ≤ W.heap.size
  own : W.ownsRow (bm + 1) 65 2 v S.length (acs S)
theorem Bt.put {w1 W X : World} {bm n : Nat} {v : Value} {S T : List Ar} (h : Bt w1 W bm v S n) (hg : W.grownBy X (some bm)) (hs : ASet X bm (n + 1) T) : Bt' w1 X bm v S T (n + 1) :=
  ⟨h.low.trans ((below_grown hg h.set.lt).mono h.ge), h.ge, hs, Nat.le_trans h.le hg.size, own_grownS h.own hg (fun r e => by cases e; omega)⟩
theorem Bt'.alloc {w1 W : World} {bm n : Nat} {v : Value} {S T : List Ar} (h : Bt' w1 W bm v S T n) (o : Obj) : Bt' w1 (W.alloc o) bm v S T n :=
  ⟨h.low.trans ((one_below W o).mono h.low.size), h.ge, h.set.below (one_below W o) (by have := h.le; omega), by rw [World.size_alloc]; have := h.le; omega, h.own.alloc _⟩
theorem Bt'.app {w1 W X : World} {bm n : Nat} {v v' : Value} {S T : List Ar} {a : Ar} (h : Bt' w1 W bm v S T n) (h1 : X.ownsRow (bm + 1) 65 2 v' (S.length + 1) (acs S ++ [.int .i64 (a.1 : Int), .int .i64 (a.2 : Int)])) (h2 : W.grownBy X v.ownBlock) (hT : T = S ++ [a]) : Bt w1 X bm v' T n := by
  have hb := grown_low h2 h.own h.le
  subst hT
  refine ⟨h.low.trans (hb.mono (by have := h.ge; omega)), h.ge, h.set.below hb (by omega), Nat.le_trans h.le h2.size, ?_⟩
  rw [List.length_append, List.length_singleton, acs_snoc]; exact h1
set_option maxHeartbeats 4000000 in
theorem btw_any (R : List Rw) (g : List (List Nat)) (hg : gs R = g.map ns) (hok : GOk g) (N : Nat) (hN : R.length = N) (A : Option Addr) (c : Nat) (q : List Nat) (hq : q.length = N) (hqs : ∀ x, x < N → qa q x < 1000) (An : Option Addr) (cn : Nat) (w : World) (h : RdG w w.heap.size A R) (hn : RdV w w.heap.size An (zc (ns q))) :
    Calls Try.prog 73 #[.agg #[.slice A N c], .slice An N cn] w fun e w' => ∃ A2 c2, e = .returned (.slice A2 (btw (qa q) (arcs 0 g)).length c2) ∧ RdV w' w'.heap.size A2 (acs (btw (qa q) (arcs 0 g))) ∧ Below w.heap.size w w' := by
  obtain ⟨i0, hi, hz0, hz1, hz2⟩ := info_parts info_arc
  have hgl : g.length = N := by have := congrArg List.length hg; rw [gs_length, List.length_map] at this; omega
  have hN1 : N ≤ 100 := by have := hok.nodes; omega
  have h600 := hok.many
  have HC : Hid (∀ V, Below w.heap.size w V → Calls Try.prog 15 #[.agg #[.slice A N c]] V (ArcsP V (arcs 0 g) 0)) := fun V hV => garcs_ok R g hg hok N hN (by rw [hg]; exact grE_ok g hok) A c V (h.on hV)
  have HBd : Hid (∀ a ∈ arcs 0 g, a.1 < N ∧ a.2 < N) := by have := arcs_bd hok; rw [hgl] at this; exact this
  have HN := Lib.hid (⟨hq, hqs, hn⟩ : q.length = N ∧ (∀ x, x < N → qa q x < 1000) ∧ RdV w w.heap.size An (zc (ns q)))
  clear h hN hg hok hgl hq hqs hn
  obtain ⟨L0, hL0⟩ : ∃ L0, arcs 0 g = L0 := ⟨_, rfl⟩
  rw [hL0] at HC HBd h600 ⊢
  clear hL0
  have hmm := @run_makeMap Try.prog
  go_enter Try.func73, Try.ntmps73
  go_wp2_with fail
  have HB0 : Hid (Below w.heap.size w (w.alloc (.cells #[.slice A N c] 24))) := one_below w _
  refine (HC.out _ HB0.out).mono ?_
  rintro e w1 ⟨A2, c2, rfl, -, r2, b1⟩
  have HB1 : Hid (Below w.heap.size w w1) := HB0.out.trans (b1.mono (by simp))
  have HR := Lib.hid r2
  clear b1 r2 HB0 HC
  obtain ⟨m, hm⟩ : ∃ m, L0.length = m := ⟨_, rfl⟩
  have HM := Lib.hid hm
  rw [hm] at h600
  rw [hm]
  clear hm
  go_wp2
  clear hmm
  obtain ⟨bm, hbm⟩ : ∃ bm, w1.heap.size = bm := ⟨_, rfl⟩
  have HT0 : Hid (Bt w1 (w1.alloc (.map #[] 0)) bm (.slice none 0 0) [] 0) := ⟨one_below w1 _, by rw [← hbm]; exact Nat.le_refl _, by rw [← hbm]; exact ASet.made w1, by rw [World.size_alloc, hbm]; exact Nat.le_refl _, rfl, .inl ⟨rfl, rfl⟩⟩
  rw [hbm]
  clear hbm
  go_loopw [8, 20] (fun v p wr => ∃ (i : Nat), i ≤ m ∧ p = .int .i64 (i : Int) ∧ Bt w1 wr bm v (btw (qa q) (L0.take i)) i) (fun _ p _ => m - (intOf p).toNat)
  case atStart => exact ⟨0, Nat.zero_le _, rfl, by simpa [btw] using HT0.out⟩
  case round =>
   as_aux_lemma =>
    obtain ⟨i, hi', rfl, hT⟩ := hrel
    obtain ⟨Av, cv, rfl⟩ := own_sliceT hT.own
    have HBl : Hid (∀ V, Below w1.heap.size w1 V → Below w.heap.size w V) := fun V hV => HB1.out.trans (hV.mono HB1.out.size)
    by_cases hlt : i < m
    · have hiL : i < L0.length := by rw [HM.out]; exact hlt
      obtain ⟨r0, r1⟩ := acs_atS L0 i hiL
      obtain ⟨b, off, rfl, hb, k0⟩ := (HR.out.on hT.low).at_ r0
      obtain ⟨b', off', hA2, hb', k1⟩ := (HR.out.on hT.low).at_ r1
      simp only [Option.some.injEq, Addr.mk.injEq, and_true] at hA2
      obtain ⟨rfl, rfl⟩ := hA2
      rw [← Nat.add_assoc] at k1
      have hmem : L0[i]?.getD (0, 0) ∈ L0 := by rw [List.getElem?_eq_getElem hiL]; exact List.getElem_mem hiL
      have htk : L0.take (i + 1) = L0.take i ++ [L0[i]?.getD (0, 0)] := by rw [List.take_succ_eq_append_getElem hiL, List.getElem?_eq_getElem hiL]; rfl
      obtain ⟨ha1, ha2⟩ := HBd.out _ hmem
      obtain ⟨a, ha⟩ : ∃ a, L0[i]?.getD (0, 0) = a := ⟨_, rfl⟩
      rw [ha] at k0 k1 htk ha1 ha2
      clear r0 r1 hmem ha hb hb'
      have hsn := btw_snoc (qa q) (L0.take i) a
      rw [← htk] at hsn
      obtain ⟨a1, a2⟩ := a
      simp only at k0 k1 ha1 ha2 hsn
      have hz1' := HN.out.2.1 a1 ha1
      have hz2' := HN.out.2.1 a2 ha2
      have hnr := HN.out.2.2.on (HBl.out wr hT.low)
      obtain ⟨bn, offn, rfl, hbn, kn1⟩ := hnr.at_ (zc_getN q a1 (qa q a1) (qa_eq (by rw [HN.out.1]; exact ha1)))
      obtain ⟨bn', offn', hAn, hbn', kn2⟩ := hnr.at_ (zc_getN q a2 (qa q a2) (qa_eq (by rw [HN.out.1]; exact ha2)))
      simp only [Option.some.injEq, Addr.mk.injEq, and_true] at hAn
      obtain ⟨rfl, rfl⟩ := hAn
      generalize qa q a1 = u1 at *
      generalize qa q a2 = u2 at *
      have HT := Lib.hid hT
      have HSn := Lib.hid hsn
      clear hT hsn htk hnr
      have t1 : (0 : Int) ≤ (i : Int) := by omega
      have t2 : (i : Int) < (m : Int) := by omega
      have t3 : (0 : Int) ≤ (a1 : Int) := by omega
      have t4 : (a1 : Int) < (N : Int) := by omega
      have t5 : (0 : Int) ≤ (a2 : Int) := by omega
      have t6 : (a2 : Int) < (N : Int) := by omega
      go_wp2_with fail
      obtain ⟨W1, hW1⟩ : ∃ W1, wr.alloc (.cells #[.int .i64 (a1 : Int), .int .i64 (a2 : Int)] 65) = W1 := ⟨_, rfl⟩
      have HT1 : Hid (Bt w1 W1 bm (.slice Av (btw (qa q) (L0.take i)).length cv) (btw (qa q) (L0.take i)) i) := by rw [← hW1]; exact HT.out.alloc _
      have HK : Hid (∀ V, Below W1.heap.size W1 V → V.cell? ⟨wr.heap.size, 0, none⟩ = some (.int .i64 (a1 : Int)) ∧ V.cell? ⟨wr.heap.size, 1, none⟩ = some (.int .i64 (a2 : Int)) ∧ V.cell? ⟨bn, offn + a1, none⟩ = some (.int .i64 (u1 : Int)) ∧ V.cell? ⟨bn, offn + a2, none⟩ = some (.int .i64 (u2 : Int))) := fun V hV => by
        have hb0 := one_below wr (.cells #[.int .i64 (a1 : Int), .int .i64 (a2 : Int)] 65)
        have hn0 := World.alloc_heap_new wr (.cells #[.int .i64 (a1 : Int), .int .i64 (a2 : Int)] 65)
        rw [hW1] at hb0 hn0
        have hbv := hb0.trans (hV.mono hb0.size)
        have hnv := (hV.block _ (Array.getElem?_eq_some_iff.1 hn0).1).trans hn0
        exact ⟨(cell_at hnv 0).trans rfl, (cell_at hnv 1).trans rfl, (hbv.cell (World.block_lt_of_cell? _ _ kn1)).trans kn1, (hbv.cell (World.block_lt_of_cell? _ _ kn2)).trans kn2⟩
      rw [hW1]
      obtain ⟨P10, hP10⟩ : ∃ P10, wr.heap.size = P10 := ⟨_, rfl⟩
      rw [hP10] at HK ⊢
      clear hP10 hW1 k0 k1 kn1 kn2 hbn hbn'
      rename_i hKK
      have HKK := Lib.hid hKK; clear hKK
      go_region_held3 (fun w' => w'.cell? ⟨P10, 0, none⟩ = some (.int .i64 (a1 : Int)) ∧ w'.cell? ⟨P10, 1, none⟩ = some (.int .i64 (a2 : Int)) ∧ w'.cell? ⟨bn, offn + a1, none⟩ = some (.int .i64 (u1 : Int)) ∧ w'.cell? ⟨bn, offn + a2, none⟩ = some (.int .i64 (u2 : Int)))
        ((first | exact HK.out _ (Below.refl _ _).drew | exact HK.out _ (one_below W1 _).drew))
        (fail)
      refine HKK.out _ _ ?_
      clear HKK
      obtain ⟨W2, hW2⟩ : ∃ W2, (W1.alloc (.cells #[.int .i64 (u1 : Int), .int .i64 (u2 : Int)] 65)).drew = W2 := ⟨_, rfl⟩
      have HT2 : Hid (Bt w1 W2 bm (.slice Av (btw (qa q) (L0.take i)).length cv) (btw (qa q) (L0.take i)) i) := by rw [← hW2]; exact (HT1.out.alloc _).drew
      have hn2 : W2.heap[W1.heap.size]? = some (.cells #[.int .i64 (u1 : Int), .int .i64 (u2 : Int)] 65 (0, 0)) := by rw [← hW2]; exact World.alloc_heap_new W1 _
      rw [hW2]
      obtain ⟨P11, hP11⟩ : ∃ P11, W1.heap.size = P11 := ⟨_, rfl⟩
      rw [hP11] at hn2 ⊢
      have hP : bm < P11 := by have := HT1.out.le; omega
      have k0 : W2.cell? ⟨P11, 0, none⟩ = some (.int .i64 (u1 : Int)) := (cell_at hn2 0).trans rfl
      have k1 : W2.cell? ⟨P11, 1, none⟩ = some (.int .i64 (u2 : Int)) := (cell_at hn2 1).trans rfl
      have HN2 := Lib.hid hn2
      clear hn2 hW2 hP11 HT1 HK HT
      by_cases e : u1 = u2
      · have HS : Hid (btw (qa q) (L0.take (i + 1)) = btw (qa q) (L0.take i)) := by have := HSn.out; rw [if_pos e] at this; exact this
        have t7 : ((u1 : Int) == (u2 : Int)) = true := by simp; omega
        have t8 : ((u1 : Int) != (u2 : Int)) = false := by simp; omega
        go_wp2
        go_roundw
        case rel => exact ⟨i + 1, by omega, by go_num, by rw [HS.out]; exact HT2.out.mono⟩
        case measure => simp [intOf]; omega
      · have t7 : ((u1 : Int) == (u2 : Int)) = false := by simp; omega
        have t8 : ((u1 : Int) != (u2 : Int)) = true := by simp; omega
        have hsm : SmA (u1, u2) := ⟨hz1', hz2'⟩
        have hlk := HT2.out.set.look (u1, u2) hsm
        obtain ⟨w3, hst, hS3, hg3⟩ := HT2.out.set.put (by omega) (u1, u2) hsm
        simp only at hlk hst
        by_cases hm : (u1, u2) ∈ btw (qa q) (L0.take i)
        · have HS : Hid (btw (qa q) (L0.take (i + 1)) = btw (qa q) (L0.take i)) := by have := HSn.out; rw [if_neg e] at this; unfold ains at this; rw [if_pos hm] at this; exact this
          rw [decide_eq_true hm] at hlk
          clear hst hS3 hg3 hm e
          go_wp2
          go_roundw
          case rel => exact ⟨i + 1, by omega, by go_num, by rw [HS.out]; exact HT2.out.mono⟩
          case measure => simp [intOf]; omega
        · have HS : Hid (btw (qa q) (L0.take (i + 1)) = btw (qa q) (L0.take i) ++ [(u1, u2)] ∧ ains (btw (qa q) (L0.take i)) (u1, u2) = btw (qa q) (L0.take i) ++ [(u1, u2)]) := by
            have := HSn.out
            rw [if_neg e] at this
            have e2 : ains (btw (qa q) (L0.take i)) (u1, u2) = btw (qa q) (L0.take i) ++ [(u1, u2)] := by unfold ains; rw [if_neg hm]
            rw [e2] at this
            exact ⟨this, e2⟩
          rw [decide_eq_false hm] at hlk
          have HT3 : Hid (Bt' w1 w3 bm (.slice Av (btw (qa q) (L0.take i)).length cv) (btw (qa q) (L0.take i)) ((btw (qa q) (L0.take i)) ++ [(u1, u2)]) (i + 1)) := HT2.out.put hg3 (by rw [← HS.out.2]; exact hS3)
          have hlen : (btw (qa q) (L0.take i)).length ≤ 600 := by
            have h1 := btw_length (qa q) (L0.take i)
            have h2 : (L0.take i).length ≤ L0.length := by rw [List.length_take]; omega
            have h3 := HM.out
            omega
          have hn3 : w3.heap[P11]? = some (.cells #[.int .i64 (u1 : Int), .int .i64 (u2 : Int)] 65 (0, 0)) := (hg3.block P11 (Array.getElem?_eq_some_iff.1 HN2.out).1 (fun q => by cases q; omega)).trans HN2.out
          have hk0 : w3.cell? ⟨P11, 0, none⟩ = some (.int .i64 (u1 : Int)) := (cell_at hn3 0).trans rfl
          have hk1 : w3.cell? ⟨P11, 1, none⟩ = some (.int .i64 (u2 : Int)) := (cell_at hn3 1).trans rfl
          clear hm e hS3 hg3 hn3
          generalize btw (qa q) (L0.take i) = S at *
          have HOw : Hid (w3.ownsRow (bm + 1) 65 2 (.slice Av S.length cv) S.length (acs S)) := HT3.out.own
          have HNw : Hid (∀ (k : Nat) (u : Value), [Value.int .i64 (u1 : Int), Value.int .i64 (u2 : Int)][k]? = some u → (w3.alloc (.cells #[.int .i64 (u1 : Int), .int .i64 (u2 : Int)] 65)).cell? ((⟨w3.heap.size, 0, none⟩ : Addr).add k) = some u) := news_row w3 [.int .i64 (u1 : Int), .int .i64 (u2 : Int)] 65
          have HLe : Hid (bm + 1 ≤ w3.heap.size) := HT3.out.le
          obtain ⟨ls, hls⟩ : ∃ ls, S.length = ls := ⟨_, rfl⟩
          have HLs := Lib.hid hls
          rw [hls] at HOw HT3 hlen ⊢
          clear hls
          go_wp2_with (at_builtin; go_loud (refine wpList_append_own _ rfl _ _ 25 rfl (bm + 1) 65 i0 (.agg #[.int .i64 0, .int .i64 0]) 2 16 Try.underlying25 hi hz0 hz1 hz2 rfl (by decide) _ _ _ rfl (HOw.out.alloc _) ⟨w3.heap.size, 0, none⟩ 1 1 [.int .i64 (u1 : Int), .int .i64 (u2 : Int)] rfl rfl HNw.out (by simp [Value.oneCell']) (by unfold maxLen; omega) (by omega) (by have := HLe.out; simp; omega) ?_); intro v' w4 hown' hgrow _)
          have HFn : Hid (Bt w1 w4 bm v' (S ++ [(u1, u2)]) (i + 1)) := (HT3.out.alloc _).app (a := (u1, u2)) (by rw [HLs.out]; exact hown') hgrow rfl
          clear hown' hgrow
          go_roundw
          case rel => exact ⟨i + 1, by omega, by go_num, by rw [HS.out.1]; exact HFn.out⟩
          case measure => simp [intOf]; omega
    · obtain rfl : i = m := by omega
      have hF0 : L0.take i = L0 := List.take_of_length_le (by rw [HM.out]; exact Nat.le_refl _)
      rw [hF0] at hT ⊢
      have HF : Hid (RdV wr wr.heap.size Av (acs (btw (qa q) L0)) ∧ Below w.heap.size w wr) := ⟨own_rdvS hT.own, HBl wr hT.low⟩
      clear hT hF0
      go_wp2
      go_ret
      exact ⟨Av, cv, rfl, HF.out.1, HF.out.2⟩
end

section
set_option maxRecDepth 100000
set_option linter.unusedVariables false
open Go.RowKit Go.Shelf

theorem btw_congr (f k : Nat → Nat) (L : List Ar) (h : ∀ a ∈ L, f a.1 = k a.1 ∧ f a.2 = k a.2) : btw f L = btw k L := by
  induction L using snoc_ind with
  | h0 => rfl
  | h1 L a ih =>
    have ha := h a (by simp)
    rw [btw_snoc, btw_snoc, ih (fun b hb => h b (by simp [hb])), ha.1, ha.2]
/-- A graph, a list of numbers, and an error come back. -/
def ShP (w : World) (h : List (List Nat)) (q : List Nat) (err : Int) (e : Ending) (w' : World) : Prop :=
  ∃ A R c A2 c2, e = .returned (.tuple #[.agg #[.slice A h.length c], .slice A2 q.length c2, .int .i64 err]) ∧ gs R = h.map ns ∧ RdG w' w'.heap.size A R ∧ RdV w' w'.heap.size A2 (zc (ns q)) ∧ Below w.heap.size w w'
set_option maxHeartbeats 1000000 in
theorem shrink_e (R : List Rw) (N : Nat) (hN : R.length = N) (hN2 : N ≤ 140737488355328) (e0 : Int) (he : grE (gs R) = e0) (h0 : e0 ≠ 0) (A : Option Addr) (c : Nat) (w : World) (h : RdG w w.heap.size A R) :
    Calls Try.prog 42 #[.agg #[.slice A N c]] w (ShP w [] [] e0) := by
  have HC : Hid (∀ V, Below w.heap.size w V → Calls Try.prog 40 #[.agg #[.slice A N c]] V fun e w' => e = .returned (.tuple #[.slice none 0 0, .int .i64 e0]) ∧ Below V.heap.size V w') := fun V hV => sparts_e R N hN hN2 e0 he h0 A c V (h.on hV)
  have t0 : (e0 == 0) = false := by simpa using h0
  have HG := Lib.hid (G2At.start w A N c)
  clear he h hN h0
  go_enter Try.func42, Try.ntmps42
  go_wp2_with fail
  refine (HC.out (G2 w A N c) HG.out.low).mono ?_
  rintro e w1 ⟨rfl, b1⟩
  have HG1 := Lib.hid (HG.out.on b1)
  obtain ⟨k1, k2, k3⟩ := HG1.out.cells
  have HS := Lib.hid (HG1.out.set (.slice none 0 0))
  have kr2 := HS.out.1
  clear b1
  go_wp2
  refine bodyPost_ret (v := .tuple #[.agg #[.slice none 0 0], .slice none 0 0, .int .i64 e0]) (by simp [results, Try.results42, go_sem, kr2]) rfl ?_
  exact ⟨none, [], 0, none, 0, rfl, rfl, rdg_nil _, .inl rfl, HS.out.2.2⟩
set_option maxHeartbeats 4000000 in
theorem shrink_ok (R : List Rw) (g : List (List Nat)) (hg : gs R = g.map ns) (hok : GOk g) (N : Nat) (hN : R.length = N) (A : Option Addr) (c : Nat) (w : World) (h : RdG w w.heap.size A R) :
    Calls Try.prog 42 #[.agg #[.slice A N c]] w fun e w' => ∃ p, Sp g p ∧ ShP w (gsh g p) (ofL p N) 0 e w' := by
  have hgl : g.length = N := by have := congrArg List.length hg; rw [gs_length, List.length_map] at this; omega
  have hN1 : N ≤ 100 := by have := hok.nodes; omega
  have HC : Hid (∀ V, Below w.heap.size w V → Calls Try.prog 40 #[.agg #[.slice A N c]] V fun e w' => ∃ b p, e = .returned (.tuple #[.slice (some ⟨b, 0, none⟩) N N, .int .i64 0]) ∧ Sp g p ∧ Ow V w' b (ns p)) := fun V hV => sparts_ok R g hg hok N hN A c V (h.on hV)
  have HH := Lib.hid (⟨hg, hN, hgl, h⟩ : gs R = g.map ns ∧ R.length = N ∧ g.length = N ∧ RdG w w.heap.size A R)
  have HOk := Lib.hid hok
  have HG := Lib.hid (G2At.start w A N c)
  clear h hN hg hok hgl
  go_enter Try.func42, Try.ntmps42
  go_wp2_with fail
  refine (HC.out (G2 w A N c) HG.out.low).mono ?_
  rintro e w1 ⟨b, p, rfl, hp, hO⟩
  have HG1 := Lib.hid (HG.out.on hO.low)
  have HP := Lib.hid hp
  have HNu := Lib.hid (numbered_any p N (hp.len.trans HH.out.2.2.1) (by omega) (fun x hx => hp.le x (by rw [HH.out.2.2.1]; exact hx)) (fun x hx => hp.idem (by rw [HH.out.2.2.1]; exact hx)) (some ⟨b, 0, none⟩) N w1 hO.rd)
  clear hp hO HC
  go_wp2_with fail
  refine HNu.out.mono ?_
  rintro e w2 ⟨b2, rfl, hO2⟩
  have HG2 := Lib.hid (HG1.out.on hO2.low)
  have HO2 := Lib.hid hO2
  obtain ⟨k1, k2, k3⟩ := HG2.out.cells
  clear k2 k3 HNu
  have HL : Hid (btw (qa (ofL p N)) (arcs 0 g) = btw (ofP p) (arcs 0 g)) := btw_congr _ _ _ (fun a ha => by
    have := arcs_bd HOk.out a ha
    rw [HH.out.2.2.1] at this
    exact ⟨ofL_qa p N a.1 this.1, ofL_qa p N a.2 this.2⟩)
  have HBt := Lib.hid (btw_any R g HH.out.1 HOk.out N HH.out.2.1 A c (ofL p N) (ofL_length p N) (fun x hx => by
    rw [ofL_qa p N x hx]
    have h1 := HP.out.of_lt (x := x) (by rw [HH.out.2.2.1]; exact hx)
    have h2 := nrp_le p g.length
    have h3 := HH.out.2.2.1
    omega) (some ⟨b2, 0, none⟩) N w2 (HH.out.2.2.2.on HG2.out.low) hO2.rd)
  rw [HL.out] at HBt
  have HBb := Lib.hid (HP.out.btw_bd HOk.out)
  have H6 := Lib.hid (btw600 (p := p) HOk.out)
  have HNd := Lib.hid (btw_nodup (ofP p) (arcs 0 g))
  have HSh : Hid (wa (nrp p N) (btw (ofP p) (arcs 0 g)) = gsh g p ∧ (gsh g p).length = nrp p N ∧ nrp p N ≤ 100) := by
    show _ ∧ _ ∧ _
    rw [← HH.out.2.2.1]
    exact ⟨rfl, gsh_length g p, Sp.nrp100 HOk.out⟩
  rw [HH.out.2.2.1] at HBb
  clear hO2
  obtain ⟨L, hL⟩ : ∃ L, btw (ofP p) (arcs 0 g) = L := ⟨_, rfl⟩
  rw [hL] at HBt HBb H6 HNd HSh
  clear hL
  obtain ⟨M, hM⟩ : ∃ M, nrp p N = M := ⟨_, rfl⟩
  rw [hM] at HBb HSh ⊢
  clear hM
  obtain ⟨m, hm⟩ : ∃ m, L.length = m := ⟨_, rfl⟩
  have HM := Lib.hid hm
  rw [hm] at HBt
  clear hm
  go_wp2_with fail
  refine HBt.out.mono ?_
  rintro e w3 ⟨A3, c3, rfl, r3, b3⟩
  have HG3 := Lib.hid (HG2.out.on b3)
  have HOf : Hid (Calls Try.prog 16 #[.int .i64 (M : Int), .slice A3 m c3] w3 fun e w' => ∃ A R c, e = .returned (.tuple #[.agg #[.slice A M c], .int .i64 0]) ∧ gs R = (gsh g p).map ns ∧ RdH w3.heap.size w' A R ∧ Below w3.heap.size w3 w') := by
    have := gof_okH M HSh.out.2.2 L HNd.out HBb.out m HM.out (by have := H6.out; rw [HM.out] at this; exact this) A3 c3 w3 r3
    unfold GrPH at this
    rw [HSh.out.1, HSh.out.2.1] at this
    exact this
  have HB3 := Lib.hid b3
  clear b3 r3 k1
  go_wp2_with fail
  refine HOf.out.mono ?_
  rintro e w4 ⟨A4, R4, c4, rfl, g4, r4, b4⟩
  have HGr := Lib.hid (⟨g4, r4⟩ : _ ∧ _)
  have HG4 : Hid (G2At w (w4.alloc (.cells #[.slice A4 M c4] 24)) A N c) := (HG3.out.on b4).on (one_below _ _)
  obtain ⟨k1, k2, k3⟩ := HG4.out.cells
  have HS := Lib.hid (HG4.out.set (.slice A4 M c4))
  have kr2 := HS.out.1
  have HF : Hid (RdG ((w4.alloc (.cells #[.slice A4 M c4] 24)).setCell ⟨w.heap.size + 1, 0, none⟩ (.slice A4 M c4)) ((w4.alloc (.cells #[.slice A4 M c4] 24)).setCell ⟨w.heap.size + 1, 0, none⟩ (.slice A4 M c4)).heap.size A4 R4 ∧ RdV ((w4.alloc (.cells #[.slice A4 M c4] 24)).setCell ⟨w.heap.size + 1, 0, none⟩ (.slice A4 M c4)) ((w4.alloc (.cells #[.slice A4 M c4] 24)).setCell ⟨w.heap.size + 1, 0, none⟩ (.slice A4 M c4)).heap.size (some ⟨b2, 0, none⟩) (zc (ns (ofL p N)))) := by
    have hs3 := HG3.out.sz
    have hs1 := HG1.out.sz
    have hge := HO2.out.ge
    have hk : ∀ k, k < w4.heap.size → k ≠ w.heap.size + 1 → ((w4.alloc (.cells #[.slice A4 M c4] 24)).setCell ⟨w.heap.size + 1, 0, none⟩ (.slice A4 M c4)).heap[k]? = w4.heap[k]? := fun k h1 h2 => (Below.heap_setCell _ _ _ _ (by show k ≠ w.heap.size + 1; exact h2)).trans ((one_below w4 _).block k h1)
    have hz : ((w4.alloc (.cells #[.slice A4 M c4] 24)).setCell ⟨w.heap.size + 1, 0, none⟩ (.slice A4 M c4)).heap.size = w4.heap.size + 1 := by simp [World.setCell]
    have h2 : w4.heap[b2]? = some (.cells (zc (ns (ofL p N))).toArray 3 (0, 0)) := (b4.block b2 (by have := HO2.out.lt; have := HB3.out.size; omega)).trans ((HB3.out.block b2 HO2.out.lt).trans HO2.out.row)
    have hl2 := (Array.getElem?_eq_some_iff.1 h2).1
    refine ⟨r4 _ (fun k h1 h2 => hk k h2 (by omega)) (by rw [hz]; omega), .inr ⟨b2, 0, rfl, by rw [hz]; omega, fun i v hi => ?_⟩⟩
    rw [cell_at ((hk b2 hl2 (by omega)).trans h2), Nat.zero_add, List.getElem?_toArray]; exact hi
  clear b4 g4 r4 HOf HBt
  go_wp2
  refine bodyPost_ret (v := .tuple #[.agg #[.slice A4 M c4], .slice (some ⟨b2, 0, none⟩) N N, .int .i64 0]) (by simp [results, Try.results42, go_sem, kr2]) rfl ?_
  exact ⟨p, HP.out, A4, R4, c4, some ⟨b2, 0, none⟩, N, by rw [HSh.out.2.1, ofL_length], HGr.out.1, HF.out.1, HF.out.2, HS.out.2.2⟩
end

section
set_option maxRecDepth 100000
set_option linter.unusedVariables false
open Go.RowKit Go.Shelf

theorem sG_re {x y : Nat} (hx : x < 6) (hy : y < 6) : Re sG x y ↔ 0 ≤ fv (sF x) y := ((sF_ok x hx).reach y (by decide +revert)).symm
theorem sG_sp : Sp sG [0, 0, 0, 3, 4, 0] := by
  have key : ∀ x, x < 6 → qa [0, 0, 0, 3, 4, 0] x < 6 ∧ (0 ≤ fv (sF (qa [0, 0, 0, 3, 4, 0] x)) x ∧ 0 ≤ fv (sF x) (qa [0, 0, 0, 3, 4, 0] x)) ∧ ∀ y, y < 6 → 0 ≤ fv (sF y) x → 0 ≤ fv (sF x) y → qa [0, 0, 0, 3, 4, 0] x ≤ y := by decide
  refine ⟨rfl, fun x hx => ?_⟩
  obtain ⟨h0, ⟨h1, h2⟩, h3⟩ := key x hx
  exact ⟨⟨(sG_re h0 hx).2 h1, (sG_re hx h0).2 h2⟩, fun y hy hm => h3 y hy ((sG_re hy hx).1 hm.1) ((sG_re hx hy).1 hm.2)⟩
theorem sG_gsh : gsh sG [0, 0, 0, 3, 4, 0] = [[1], [], []] := by decide +kernel
theorem sG_of : ofL [0, 0, 0, 3, 4, 0] 6 = [0, 0, 0, 1, 2, 0] := by decide +kernel
theorem sG_or : OrP sG [] 4 := .inr ⟨rfl, rfl, fun h => h 0 1 ⟨1, rfl, by decide⟩⟩
/-- May x stand next, reckoned. -/
def freB (g : List (List Nat)) (o : List Nat) (x : Nat) : Bool := !o.contains x && (List.range g.length).all fun y => !(row g y).contains x || o.contains y
theorem freB_iff {g : List (List Nat)} {o : List Nat} {x : Nat} (hx : x < g.length) : freB g o x = true ↔ Fre g o x := by
  unfold freB Fre
  simp only [Bool.and_eq_true, Bool.not_eq_true', List.contains_eq_mem, decide_eq_false_iff_not, List.all_eq_true, List.mem_range, Bool.or_eq_true, decide_eq_true_eq]
  constructor
  · rintro ⟨h1, h2⟩
    exact ⟨hx, h1, fun y hy => (h2 y (row_lt hy)).elim (fun q => absurd hy q) id⟩
  · rintro ⟨_, h1, h2⟩
    exact ⟨h1, fun y _ => (Classical.em (x ∈ row g y)).elim (fun q => .inr (h2 y q)) .inl⟩
theorem Run.chk {g : List (List Nat)} {o : List Nat} (h : ∀ k, k < o.length → qa o k < g.length ∧ freB g (o.take k) (qa o k) = true ∧ ∀ z, z < qa o k → freB g (o.take k) z = false) : Run g o := fun k hk => by
  obtain ⟨h1, h2, h3⟩ := h k hk
  refine ⟨(freB_iff h1).1 h2, fun z hz => ?_⟩
  rcases Nat.lt_or_ge z (qa o k) with q | q
  · have := (freB_iff (by omega)).2 hz
    rw [h3 z q] at this; cases this
  · exact q
/-- Three nodes in a row, the last one first. -/
def tG : List (List Nat) := [[], [0], [0, 1]]
theorem tG_ok : GOk tG := ⟨by decide, by decide, by decide, by decide⟩
theorem tG_or : OrP tG [2, 1, 0] 0 := .inl ⟨rfl, Run.chk (by decide), rfl⟩
theorem sb1 (R : List Rw) (hg : gs R = sG.map ns) (A : Option Addr) (c : Nat) (w : World) (h : RdG w w.heap.size A R) : Calls Try.prog 40 #[.agg #[.slice A 6 c]] w
    fun e w' => ∃ b, e = .returned (.tuple #[.slice (some ⟨b, 0, none⟩) 6 6, .int .i64 0]) ∧ RdV w' w'.heap.size (some ⟨b, 0, none⟩) (zc (ns [0, 0, 0, 3, 4, 0])) ∧ Below w.heap.size w w' :=
  (sparts_ok R sG hg sG_ok 6 (sG_len R hg) A c w h).mono fun e w' ⟨b, p, q1, q2, q3⟩ => ⟨b, q1, by rw [q2.uniq sG_sp] at q3; exact q3.rd, q3.low⟩
theorem sb2 (V : World) :
    Calls Try.prog 41 #[.agg #[.slice (some ⟨V.heap.size + 1 + 1, 0, none⟩) 3 3]] (((V.alloc (.cells #[.int .i64 0] 3)).alloc (.cells #[.int .i64 0, .int .i64 1] 3)).alloc (.cells #[.slice none 0 0, .slice (some ⟨V.heap.size, 0, none⟩) 1 1, .slice (some ⟨V.heap.size + 1, 0, none⟩) 2 2] 32)) fun e w' => ∃ A c, e = .returned (.tuple #[.slice A 3 c, .int .i64 0]) ∧ RdV w' w'.heap.size A (zc (ns [2, 1, 0])) ∧ Below V.heap.size V w' := by
  obtain ⟨V1, hV1⟩ : ∃ X, V.alloc (.cells #[.int .i64 0] 3) = X := ⟨_, rfl⟩
  have s1 : V1.heap.size = V.heap.size + 1 := by rw [← hV1]; exact World.size_alloc _ _
  have b1 : Below V.heap.size V V1 := hV1 ▸ one_below _ _
  have r1 : RdV V1 V1.heap.size (some ⟨V.heap.size, 0, none⟩) (zc (ns [0])) := hV1 ▸ rdz_new V [0]
  obtain ⟨V2, hV2⟩ : ∃ X, V1.alloc (.cells #[.int .i64 0, .int .i64 1] 3) = X := ⟨_, rfl⟩
  have s2 : V2.heap.size = V1.heap.size + 1 := by rw [← hV2]; exact World.size_alloc _ _
  have b2 : Below V1.heap.size V1 V2 := hV2 ▸ one_below _ _
  have r2 : RdV V2 V2.heap.size (some ⟨V1.heap.size, 0, none⟩) (zc (ns [0, 1])) := hV2 ▸ rdz_new V1 [0, 1]
  have r1 := r1.on b2
  rw [hV1, hV2]
  have hl := rdg_lit V2 [(none, 0, []), (some ⟨V.heap.size, 0, none⟩, 1, ns [0]), (some ⟨V1.heap.size, 0, none⟩, 2, ns [0, 1])] (fun r hr => by
    simp only [List.mem_cons, List.not_mem_nil, or_false] at hr
    rcases hr with rfl | rfl | rfl
    · exact ⟨.inl rfl, by simp⟩
    · exact ⟨r1, by simp [ns]⟩
    · exact ⟨r2, by simp [ns]⟩)
  have hb : Below V.heap.size V V2 := (b1).trans (b2.mono (by omega))
  have := sord_ok [(none, 0, []), (some ⟨V.heap.size, 0, none⟩, 1, ns [0]), (some ⟨V1.heap.size, 0, none⟩, 2, ns [0, 1])] tG rfl tG_ok 3 rfl (some ⟨V2.heap.size, 0, none⟩) 3 _ hl
  have hb2 := hb.trans ((one_below V2 (.cells #[.slice none 0 0, .slice (some ⟨V.heap.size, 0, none⟩) 1 1, .slice (some ⟨V1.heap.size, 0, none⟩) 2 2] 32)).mono hb.size)
  have hsz := hb2.size
  have z : V2.heap.size = V.heap.size + 1 + 1 := by omega
  have z1 : V1.heap.size = V.heap.size + 1 := by omega
  rw [z, z1] at this
  rw [z1] at hb2 hsz
  refine this.mono ?_
  rintro e w' ⟨o, err, ho, A, c, q1, -, q2, q3⟩
  obtain ⟨rfl, rfl⟩ := ho.uniq tG_ok.bdd tG_or
  exact ⟨A, c, q1, q2, hb2.trans (q3.mono hsz)⟩
theorem sb3 (R : List Rw) (hg : gs R = sG.map ns) (A : Option Addr) (c : Nat) (w : World) (h : RdG w w.heap.size A R) : Calls Try.prog 42 #[.agg #[.slice A 6 c]] w
    fun e w' => ∃ A R c A2 c2, e = .returned (.tuple #[.agg #[.slice A 3 c], .slice A2 6 c2, .int .i64 0]) ∧ gs R = ([[1], [], []] : List (List Nat)).map ns ∧ RdG w' w'.heap.size A R ∧ RdV w' w'.heap.size A2 (zc (ns [0, 0, 0, 1, 2, 0])) ∧ Below w.heap.size w w' :=
  (shrink_ok R sG hg sG_ok 6 (sG_len R hg) A c w h).mono fun e w' ⟨p, q1, A, R, c, A2, c2, q2, q3, q4, q5, q6⟩ => by
    obtain rfl := q1.uniq sG_sp
    rw [sG_gsh] at q2 q3
    rw [sG_of] at q2 q5
    exact ⟨A, R, c, A2, c2, q2, q3, q4, q5, q6⟩
theorem sb4 (R : List Rw) (hg : gs R = sG.map ns) (A : Option Addr) (c : Nat) (w : World) (h : RdG w w.heap.size A R) : Calls Try.prog 41 #[.agg #[.slice A 6 c]] w
    fun e w' => ∃ A c, e = .returned (.tuple #[.slice A 0 c, .int .i64 4]) ∧ Below w.heap.size w w' :=
  (sord_ok R sG hg sG_ok 6 (sG_len R hg) A c w h).mono fun e w' ⟨o, err, ho, A, c, q1, _, q2, q3⟩ => by
    obtain ⟨rfl, rfl⟩ := ho.uniq sG_ok.bdd sG_or
    exact ⟨A, c, q1, q3⟩
theorem sb5 (R : List Rw) (hg : gs R = ([[1], [], []] : List (List Nat)).map ns) (A : Option Addr) (c : Nat) (V : World) (h : RdG V V.heap.size A R) :
    Calls Try.prog 60 #[.slice A 3 c, .slice (some ⟨V.heap.size + 1, 0, none⟩) 3 3] ((V.alloc (.cells #[.int .i64 1] 3)).alloc (.cells #[.slice (some ⟨V.heap.size, 0, none⟩) 1 1, .slice none 0 0, .slice none 0 0] 32)) fun e w' => e = .returned (.bool true) ∧ Below V.heap.size V w' := by
  obtain ⟨V1, hV1⟩ : ∃ X, V.alloc (.cells #[.int .i64 1] 3) = X := ⟨_, rfl⟩
  have s1 : V1.heap.size = V.heap.size + 1 := by rw [← hV1]; exact World.size_alloc _ _
  have b1 : Below V.heap.size V V1 := hV1 ▸ one_below _ _
  have r1 : RdV V1 V1.heap.size (some ⟨V.heap.size, 0, none⟩) (zc (ns [1])) := hV1 ▸ rdz_new V [1]
  rw [hV1]
  have hl := rdg_lit V1 [(some ⟨V.heap.size, 0, none⟩, 1, ns [1]), (none, 0, []), (none, 0, [])] (fun r hr => by
    simp only [List.mem_cons, List.not_mem_nil, or_false] at hr
    rcases hr with rfl | rfl | rfl
    · exact ⟨r1, by simp [ns]⟩
    · exact ⟨.inl rfl, by simp⟩
    · exact ⟨.inl rfl, by simp⟩)
  have := sl_true R [(some ⟨V.heap.size, 0, none⟩, 1, ns [1]), (none, 0, []), (none, 0, [])] _ 3 hg rfl rfl (by decide) A (some ⟨V1.heap.size, 0, none⟩) c 3 V _ h (b1.trans ((one_below V1 _).mono b1.size)) hl
  rw [s1] at this
  exact this
set_option maxHeartbeats 2000000 in
theorem strongbegun_true (w : World) : Calls Try.prog 46 #[] w fun e w' => e = .returned (.bool true) ∧ Below w.heap.size w w' := by
    have HB : Hid (Below w.heap.size w w) := Below.refl _ w
    go_enter Try.func46, Try.ntmps46
    have HC := Lib.hid (someg_any w)
    go_wp2_with fail
    refine HC.out.mono ?_
    rintro e w1a ⟨A1, R1, c1, rfl, g1, h1, bq⟩
    clear HC
    have HBc := Lib.hid bq; clear bq
    have HBq : Hid (Below w.heap.size w w1a) := HBc.out
    replace HB : Hid (Below w.heap.size w w1a) := HB.out.trans (HBq.out.mono HB.out.size)
    clear HBq
    clear HBc
    have G1 := Lib.hid g1; clear g1
    have H1 : Hid (RdG w1a (w1a).heap.size A1 R1) := h1
    clear h1
    have HC := Lib.hid (sb1 R1 G1.out A1 c1 _ H1.out)
    go_wp2_with fail
    refine HC.out.mono ?_
    rintro e w1 ⟨b1, rfl, q1, bq⟩
    clear HC
    have HBc := Lib.hid bq; clear bq
    have HBq : Hid (Below w1a.heap.size w1a w1) := HBc.out
    replace HB : Hid (Below w.heap.size w w1) := HB.out.trans (HBq.out.mono HB.out.size)
    replace H1 : Hid (RdG w1 (w1).heap.size A1 R1) := H1.out.on HBq.out
    clear HBq
    clear HBc
    clear H1 G1
    have Q1 : Hid (RdV w1 (w1).heap.size (some ⟨b1, 0, none⟩) (zc (ns [0, 0, 0, 3, 4, 0]))) := q1
    clear q1
    have HC := Lib.hid (sb2 w1)
    go_wp2_with fail
    refine HC.out.mono ?_
    rintro e w2 ⟨B2, d2, rfl, q2, bq⟩
    clear HC
    have HBc := Lib.hid bq; clear bq
    have HBq : Hid (Below w1.heap.size w1 w2) := HBc.out
    replace HB : Hid (Below w.heap.size w w2) := HB.out.trans (HBq.out.mono HB.out.size)
    replace Q1 : Hid (RdV w2 (w2).heap.size (some ⟨b1, 0, none⟩) (zc (ns [0, 0, 0, 3, 4, 0]))) := Q1.out.on HBq.out
    clear HBq
    clear HBc
    have Q2 : Hid (RdV w2 (w2).heap.size B2 (zc (ns [2, 1, 0]))) := q2
    clear q2
    have HC := Lib.hid (someg_any w2)
    go_wp2_with fail
    refine HC.out.mono ?_
    rintro e w3a ⟨A3, R3, c3, rfl, g3, h3, bq⟩
    clear HC
    have HBc := Lib.hid bq; clear bq
    have HBq : Hid (Below w2.heap.size w2 w3a) := HBc.out
    replace HB : Hid (Below w.heap.size w w3a) := HB.out.trans (HBq.out.mono HB.out.size)
    replace Q1 : Hid (RdV w3a (w3a).heap.size (some ⟨b1, 0, none⟩) (zc (ns [0, 0, 0, 3, 4, 0]))) := Q1.out.on HBq.out
    replace Q2 : Hid (RdV w3a (w3a).heap.size B2 (zc (ns [2, 1, 0]))) := Q2.out.on HBq.out
    clear HBq
    clear HBc
    have G3 := Lib.hid g3; clear g3
    have H3 : Hid (RdG w3a (w3a).heap.size A3 R3) := h3
    clear h3
    have HC := Lib.hid (sb3 R3 G3.out A3 c3 _ H3.out)
    go_wp2_with fail
    refine HC.out.mono ?_
    rintro e w3 ⟨A5, R5, c5, B6, c6, rfl, g5, h5, q6, bq⟩
    clear HC
    have HBc := Lib.hid bq; clear bq
    have HBq : Hid (Below w3a.heap.size w3a w3) := HBc.out
    replace HB : Hid (Below w.heap.size w w3) := HB.out.trans (HBq.out.mono HB.out.size)
    replace Q1 : Hid (RdV w3 (w3).heap.size (some ⟨b1, 0, none⟩) (zc (ns [0, 0, 0, 3, 4, 0]))) := Q1.out.on HBq.out
    replace Q2 : Hid (RdV w3 (w3).heap.size B2 (zc (ns [2, 1, 0]))) := Q2.out.on HBq.out
    replace H3 : Hid (RdG w3 (w3).heap.size A3 R3) := H3.out.on HBq.out
    clear HBq
    clear HBc
    clear H3 G3
    have G5 := Lib.hid g5; clear g5
    have H5 : Hid (RdG w3 (w3).heap.size A5 R5) := h5
    clear h5
    have Q6 : Hid (RdV w3 (w3).heap.size B6 (zc (ns [0, 0, 0, 1, 2, 0]))) := q6
    clear q6
    have HBq : Hid (Below w3.heap.size w3 (w3.alloc (.cells #[.slice A5 3 c5] 24))) := one_below _ _
    replace HB : Hid (Below w.heap.size w (w3.alloc (.cells #[.slice A5 3 c5] 24))) := HB.out.trans (HBq.out.mono HB.out.size)
    replace Q1 : Hid (RdV (w3.alloc (.cells #[.slice A5 3 c5] 24)) ((w3.alloc (.cells #[.slice A5 3 c5] 24))).heap.size (some ⟨b1, 0, none⟩) (zc (ns [0, 0, 0, 3, 4, 0]))) := Q1.out.on HBq.out
    replace Q2 : Hid (RdV (w3.alloc (.cells #[.slice A5 3 c5] 24)) ((w3.alloc (.cells #[.slice A5 3 c5] 24))).heap.size B2 (zc (ns [2, 1, 0]))) := Q2.out.on HBq.out
    replace H5 : Hid (RdG (w3.alloc (.cells #[.slice A5 3 c5] 24)) ((w3.alloc (.cells #[.slice A5 3 c5] 24))).heap.size A5 R5) := H5.out.on HBq.out
    replace Q6 : Hid (RdV (w3.alloc (.cells #[.slice A5 3 c5] 24)) ((w3.alloc (.cells #[.slice A5 3 c5] 24))).heap.size B6 (zc (ns [0, 0, 0, 1, 2, 0]))) := Q6.out.on HBq.out
    clear HBq
    have K5 : Hid (((w3.alloc (.cells #[.slice A5 3 c5] 24))).cell? ⟨w3.heap.size, 0, none⟩ = some (.slice A5 3 c5)) := (cell_at (World.alloc_heap_new w3 _) 0).trans rfl
    have HC := Lib.hid (someg_any (w3.alloc (.cells #[.slice A5 3 c5] 24)))
    go_wp2_with fail
    refine HC.out.mono ?_
    rintro e w4a ⟨A4, R4, c4, rfl, g4, h4, bq⟩
    clear HC
    have HBc := Lib.hid bq; clear bq
    have HBq : Hid (Below (w3.alloc (.cells #[.slice A5 3 c5] 24)).heap.size (w3.alloc (.cells #[.slice A5 3 c5] 24)) w4a) := HBc.out
    replace HB : Hid (Below w.heap.size w w4a) := HB.out.trans (HBq.out.mono HB.out.size)
    replace Q1 : Hid (RdV w4a (w4a).heap.size (some ⟨b1, 0, none⟩) (zc (ns [0, 0, 0, 3, 4, 0]))) := Q1.out.on HBq.out
    replace Q2 : Hid (RdV w4a (w4a).heap.size B2 (zc (ns [2, 1, 0]))) := Q2.out.on HBq.out
    replace H5 : Hid (RdG w4a (w4a).heap.size A5 R5) := H5.out.on HBq.out
    replace Q6 : Hid (RdV w4a (w4a).heap.size B6 (zc (ns [0, 0, 0, 1, 2, 0]))) := Q6.out.on HBq.out
    replace K5 : Hid ((w4a).cell? ⟨w3.heap.size, 0, none⟩ = some (.slice A5 3 c5)) := (HBq.out.cell (World.block_lt_of_cell? _ _ K5.out)).trans K5.out
    clear HBq
    clear HBc
    have G4 := Lib.hid g4; clear g4
    have H4 : Hid (RdG w4a (w4a).heap.size A4 R4) := h4
    clear h4
    have HC := Lib.hid (sb4 R4 G4.out A4 c4 _ H4.out)
    go_wp2_with fail
    refine HC.out.mono ?_
    rintro e w4 ⟨A7, c7, rfl, bq⟩
    clear HC
    have HBc := Lib.hid bq; clear bq
    have HBq : Hid (Below w4a.heap.size w4a w4) := HBc.out
    replace HB : Hid (Below w.heap.size w w4) := HB.out.trans (HBq.out.mono HB.out.size)
    replace Q1 : Hid (RdV w4 (w4).heap.size (some ⟨b1, 0, none⟩) (zc (ns [0, 0, 0, 3, 4, 0]))) := Q1.out.on HBq.out
    replace Q2 : Hid (RdV w4 (w4).heap.size B2 (zc (ns [2, 1, 0]))) := Q2.out.on HBq.out
    replace H5 : Hid (RdG w4 (w4).heap.size A5 R5) := H5.out.on HBq.out
    replace Q6 : Hid (RdV w4 (w4).heap.size B6 (zc (ns [0, 0, 0, 1, 2, 0]))) := Q6.out.on HBq.out
    replace K5 : Hid ((w4).cell? ⟨w3.heap.size, 0, none⟩ = some (.slice A5 3 c5)) := (HBq.out.cell (World.block_lt_of_cell? _ _ K5.out)).trans K5.out
    replace H4 : Hid (RdG w4 (w4).heap.size A4 R4) := H4.out.on HBq.out
    clear HBq
    clear HBc
    clear H4 G4
    have HC := Lib.hid (siD (ns [0, 0, 0, 3, 4, 0]) 6 rfl (by decide) _ 6 _ Q1.out)
    go_wp2_with fail
    refine HC.out.mono ?_
    rintro e w5 ⟨rfl, bq⟩
    clear HC
    have HBc := Lib.hid bq; clear bq
    have HBq : Hid (Below w4.heap.size w4 w5) := HBc.out
    replace HB : Hid (Below w.heap.size w w5) := HB.out.trans (HBq.out.mono HB.out.size)
    replace Q1 : Hid (RdV w5 (w5).heap.size (some ⟨b1, 0, none⟩) (zc (ns [0, 0, 0, 3, 4, 0]))) := Q1.out.on HBq.out
    replace Q2 : Hid (RdV w5 (w5).heap.size B2 (zc (ns [2, 1, 0]))) := Q2.out.on HBq.out
    replace H5 : Hid (RdG w5 (w5).heap.size A5 R5) := H5.out.on HBq.out
    replace Q6 : Hid (RdV w5 (w5).heap.size B6 (zc (ns [0, 0, 0, 1, 2, 0]))) := Q6.out.on HBq.out
    replace K5 : Hid ((w5).cell? ⟨w3.heap.size, 0, none⟩ = some (.slice A5 3 c5)) := (HBq.out.cell (World.block_lt_of_cell? _ _ K5.out)).trans K5.out
    clear HBq
    clear HBc
    have HC := Lib.hid (siD (ns [2, 1, 0]) 3 rfl (by decide) _ d2 _ Q2.out)
    go_wp2_with fail
    refine HC.out.mono ?_
    rintro e w6 ⟨rfl, bq⟩
    clear HC
    have HBc := Lib.hid bq; clear bq
    have HBq : Hid (Below w5.heap.size w5 w6) := HBc.out
    replace HB : Hid (Below w.heap.size w w6) := HB.out.trans (HBq.out.mono HB.out.size)
    replace Q1 : Hid (RdV w6 (w6).heap.size (some ⟨b1, 0, none⟩) (zc (ns [0, 0, 0, 3, 4, 0]))) := Q1.out.on HBq.out
    replace Q2 : Hid (RdV w6 (w6).heap.size B2 (zc (ns [2, 1, 0]))) := Q2.out.on HBq.out
    replace H5 : Hid (RdG w6 (w6).heap.size A5 R5) := H5.out.on HBq.out
    replace Q6 : Hid (RdV w6 (w6).heap.size B6 (zc (ns [0, 0, 0, 1, 2, 0]))) := Q6.out.on HBq.out
    replace K5 : Hid ((w6).cell? ⟨w3.heap.size, 0, none⟩ = some (.slice A5 3 c5)) := (HBq.out.cell (World.block_lt_of_cell? _ _ K5.out)).trans K5.out
    clear HBq
    clear HBc
    have HC := Lib.hid (sb5 R5 G5.out A5 c5 _ H5.out)
    have k_K5 := K5.out
    go_wp2_with fail
    clear k_K5
    refine HC.out.mono ?_
    rintro e w7 ⟨rfl, bq⟩
    clear HC
    have HBc := Lib.hid bq; clear bq
    have HBq : Hid (Below w6.heap.size w6 w7) := HBc.out
    replace HB : Hid (Below w.heap.size w w7) := HB.out.trans (HBq.out.mono HB.out.size)
    replace Q1 : Hid (RdV w7 (w7).heap.size (some ⟨b1, 0, none⟩) (zc (ns [0, 0, 0, 3, 4, 0]))) := Q1.out.on HBq.out
    replace Q2 : Hid (RdV w7 (w7).heap.size B2 (zc (ns [2, 1, 0]))) := Q2.out.on HBq.out
    replace H5 : Hid (RdG w7 (w7).heap.size A5 R5) := H5.out.on HBq.out
    replace Q6 : Hid (RdV w7 (w7).heap.size B6 (zc (ns [0, 0, 0, 1, 2, 0]))) := Q6.out.on HBq.out
    replace K5 : Hid ((w7).cell? ⟨w3.heap.size, 0, none⟩ = some (.slice A5 3 c5)) := (HBq.out.cell (World.block_lt_of_cell? _ _ K5.out)).trans K5.out
    clear HBq
    clear HBc
    have HC := Lib.hid (siD (ns [0, 0, 0, 1, 2, 0]) 6 rfl (by decide) _ c6 _ Q6.out)
    go_wp2_with fail
    refine HC.out.mono ?_
    rintro e w8 ⟨rfl, bq⟩
    clear HC
    have HBc := Lib.hid bq; clear bq
    have HBq : Hid (Below w7.heap.size w7 w8) := HBc.out
    replace HB : Hid (Below w.heap.size w w8) := HB.out.trans (HBq.out.mono HB.out.size)
    replace Q1 : Hid (RdV w8 (w8).heap.size (some ⟨b1, 0, none⟩) (zc (ns [0, 0, 0, 3, 4, 0]))) := Q1.out.on HBq.out
    replace Q2 : Hid (RdV w8 (w8).heap.size B2 (zc (ns [2, 1, 0]))) := Q2.out.on HBq.out
    replace H5 : Hid (RdG w8 (w8).heap.size A5 R5) := H5.out.on HBq.out
    replace Q6 : Hid (RdV w8 (w8).heap.size B6 (zc (ns [0, 0, 0, 1, 2, 0]))) := Q6.out.on HBq.out
    replace K5 : Hid ((w8).cell? ⟨w3.heap.size, 0, none⟩ = some (.slice A5 3 c5)) := (HBq.out.cell (World.block_lt_of_cell? _ _ K5.out)).trans K5.out
    clear HBq
    clear HBc
    go_wp2
    go_ret
    exact ⟨rfl, HB.out⟩
end

section
set_option maxRecDepth 100000
set_option linter.unusedVariables false
open Go.RowKit Go.Shelf

theorem lw_len {R : List Rw} {g : List (List Nat)} (hg : gs R = g.map ns) : R.length = g.length := by have := congrArg List.length hg; rwa [gs_length, List.length_map] at this
theorem lw_parts (R : List Rw) (g : List (List Nat)) (hg : gs R = g.map ns) (hok : GOk g) (N : Nat) (hN : g.length = N) (A : Option Addr) (c : Nat) (V : World) (h : RdG V V.heap.size A R) :
    Calls Try.prog 40 #[.agg #[.slice A N c]] V fun e w' => ∃ b p, e = .returned (.tuple #[.slice (some ⟨b, 0, none⟩) N N, .int .i64 0]) ∧ Sp g p ∧ RdV w' w'.heap.size (some ⟨b, 0, none⟩) (zc (ns p)) ∧ Below V.heap.size V w' :=
  (sparts_ok R g hg hok N ((lw_len hg).trans hN) A c V h).mono fun e w' ⟨b, p, q1, q2, q3⟩ => ⟨b, p, q1, q2, q3.rd, q3.low⟩
theorem lw_order (R : List Rw) (g : List (List Nat)) (hg : gs R = g.map ns) (hok : GOk g) (N : Nat) (hN : g.length = N) (A : Option Addr) (c : Nat) (V : World) (h : RdG V V.heap.size A R) :
    Calls Try.prog 41 #[.agg #[.slice A N c]] V fun e w' => ∃ A n c o err, e = .returned (.tuple #[.slice A n c, .int .i64 err]) ∧ o.length = n ∧ OrP g o err ∧ RdV w' w'.heap.size A (zc (ns o)) ∧ Below V.heap.size V w' :=
  (sord_ok R g hg hok N ((lw_len hg).trans hN) A c V h).mono fun e w' ⟨o, err, q1, A, c, q2, _, q3, q4⟩ => ⟨A, o.length, c, o, err, q2, rfl, q1, q3, q4⟩
theorem lw_order2 (R : List Rw) (g : List (List Nat)) (hg : gs R = g.map ns) (hok : GOk g) (N : Nat) (hN : g.length = N) (A : Option Addr) (c : Nat) (V : World) (h : RdG V V.heap.size A R) :
    Calls Try.prog 41 #[.agg #[.slice A N c]] V fun e w' => ∃ A n c o err, e = .returned (.tuple #[.slice A n c, .int .i64 err]) ∧ o.length = n ∧ n ≤ c ∧ OrP g o err ∧ RdV w' w'.heap.size A (zc (ns o)) ∧ Below V.heap.size V w' :=
  (sord_ok R g hg hok N ((lw_len hg).trans hN) A c V h).mono fun e w' ⟨o, err, q1, A, c, q2, qc, q3, q4⟩ => ⟨A, o.length, c, o, err, q2, rfl, qc, q1, q3, q4⟩
theorem lw_shrink (R : List Rw) (g : List (List Nat)) (hg : gs R = g.map ns) (hok : GOk g) (N : Nat) (hN : g.length = N) (A : Option Addr) (c : Nat) (V : World) (h : RdG V V.heap.size A R) :
    Calls Try.prog 42 #[.agg #[.slice A N c]] V fun e w' => ∃ p M A R c A2 c2, e = .returned (.tuple #[.agg #[.slice A M c], .slice A2 N c2, .int .i64 0]) ∧ (gsh g p).length = M ∧ Sp g p ∧ gs R = (gsh g p).map ns ∧ RdG w' w'.heap.size A R ∧ RdV w' w'.heap.size A2 (zc (ns (ofL p N))) ∧ Below V.heap.size V w' :=
  (shrink_ok R g hg hok N ((lw_len hg).trans hN) A c V h).mono fun e w' ⟨p, q1, A, R, c, A2, c2, q2, q3, q4, q5, q6⟩ => ⟨p, (gsh g p).length, A, R, c, A2, c2, by rw [ofL_length] at q2; exact q2, rfl, q1, q3, q4, q5, q6⟩
theorem lw_turn (R : List Rw) (g : List (List Nat)) (hg : gs R = g.map ns) (hok : GOk g) (N : Nat) (hN : g.length = N) (A : Option Addr) (c : Nat) (V : World) (h : RdG V V.heap.size A R) :
    Calls Try.prog 17 #[.agg #[.slice A N c]] V fun e w' => ∃ A R c, e = .returned (.tuple #[.agg #[.slice A N c], .int .i64 0]) ∧ gs R = (gturn g).map ns ∧ RdG w' w'.heap.size A R ∧ Below V.heap.size V w' := by
  have := gturn_okW R g hg hok N ((lw_len hg).trans hN) A c V h
  unfold GrP at this
  rw [gturn_length, hN] at this
  exact this
theorem lw_far (R : List Rw) (g : List (List Nat)) (hg : gs R = g.map ns) (hok : GOk g) (N : Nat) (hN : g.length = N) (k : Nat) (F : List Int) (hk : k < N) (hF : Fa g k F) (A : Option Addr) (c : Nat) (V : World) (h : RdG V V.heap.size A R) :
    Calls Try.prog 30 #[.agg #[.slice A N c], .int .i64 (k : Int)] V fun e w' => ∃ b, e = .returned (.tuple #[.slice (some ⟨b, 0, none⟩) N N, .int .i64 0]) ∧ RdV w' w'.heap.size (some ⟨b, 0, none⟩) (zc F) ∧ Below V.heap.size V w' :=
  (far_ok R g hg hok N ((lw_len hg).trans hN) k hk F hF A c V h).mono fun e w' ⟨b, q1, q2⟩ => ⟨b, q1, q2.rd, q2.low⟩
/-- Where the node is none, an error comes, and no numbers. -/
theorem lw_far_out (R : List Rw) (g : List (List Nat)) (hg : gs R = g.map ns) (hok : GOk g) (N : Nat) (hN : g.length = N) (s : Int) (hs : ¬ (0 ≤ s ∧ s < (N : Int))) (A : Option Addr) (c : Nat) (V : World) (h : RdG V V.heap.size A R) :
    Calls Try.prog 30 #[.agg #[.slice A N c], .int .i64 s] V fun e w' => e = .returned (.tuple #[.slice none 0 0, .int .i64 3]) ∧ Below V.heap.size V w' := by
  have hl := (lw_len hg).trans hN
  have h100 := hok.nodes
  have he : cnE (gs R) [s] = 3 := cnE_out (by rw [hg]; exact grE_ok g hok) ⟨s, by simp, by rw [gs_length, hl]; exact hs⟩
  exact far_e R N hl (by omega) s 3 he (by decide) A c V h
theorem lw_parts_e (R : List Rw) (N : Nat) (hN : R.length = N) (hn : N ≤ 140737488355328) (e0 : Int) (he : grE (gs R) = e0) (h0 : e0 ≠ 0) (A : Option Addr) (c : Nat) (V : World) (h : RdG V V.heap.size A R) :
    Calls Try.prog 40 #[.agg #[.slice A N c]] V fun e w' => e = .returned (.tuple #[.slice none 0 0, .int .i64 e0]) ∧ Below V.heap.size V w' := sparts_e R N hN hn e0 he h0 A c V h
theorem lw_order_e (R : List Rw) (N : Nat) (hN : R.length = N) (hn : N ≤ 140737488355328) (e0 : Int) (he : grE (gs R) = e0) (h0 : e0 ≠ 0) (A : Option Addr) (c : Nat) (V : World) (h : RdG V V.heap.size A R) :
    Calls Try.prog 41 #[.agg #[.slice A N c]] V fun e w' => ∃ A c, e = .returned (.tuple #[.slice A 0 c, .int .i64 e0]) ∧ RdV w' w'.heap.size A (zc (ns [])) ∧ Below V.heap.size V w' := (sord_e R N hN hn e0 he h0 A c V h).mono fun e w' ⟨A, c, q1, _, q2, q3⟩ => ⟨A, c, q1, q2, q3⟩
theorem lw_shrink_e (R : List Rw) (N : Nat) (hN : R.length = N) (hn : N ≤ 140737488355328) (e0 : Int) (he : grE (gs R) = e0) (h0 : e0 ≠ 0) (A : Option Addr) (c : Nat) (V : World) (h : RdG V V.heap.size A R) :
    Calls Try.prog 42 #[.agg #[.slice A N c]] V fun e w' => ∃ A R c A2 c2, e = .returned (.tuple #[.agg #[.slice A 0 c], .slice A2 0 c2, .int .i64 e0]) ∧ gs R = [] ∧ RdG w' w'.heap.size A R ∧ RdV w' w'.heap.size A2 (zc (ns [])) ∧ Below V.heap.size V w' := shrink_e R N hN hn e0 he h0 A c V h
theorem lw_turn_e (R : List Rw) (N : Nat) (hN : R.length = N) (hn : N ≤ 140737488355328) (e0 : Int) (he : grE (gs R) = e0) (h0 : e0 ≠ 0) (A : Option Addr) (c : Nat) (V : World) (h : RdG V V.heap.size A R) :
    Calls Try.prog 17 #[.agg #[.slice A N c]] V fun e w' => ∃ A c, e = .returned (.tuple #[.agg #[.slice A 0 c], .int .i64 e0]) ∧ Below V.heap.size V w' :=
  (gturn_e R N hN hn e0 he h0 A c V h).mono fun e w' ⟨A, R, c, q1, _, _, q4⟩ => ⟨A, c, q1, q4⟩
theorem lw_far_e (R : List Rw) (N : Nat) (hN : R.length = N) (hn : N ≤ 140737488355328) (e0 : Int) (he : grE (gs R) = e0) (h0 : e0 ≠ 0) (s : Int) (A : Option Addr) (c : Nat) (V : World) (h : RdG V V.heap.size A R) :
    Calls Try.prog 30 #[.agg #[.slice A N c], .int .i64 s] V fun e w' => e = .returned (.tuple #[.slice none 0 0, .int .i64 e0]) ∧ Below V.heap.size V w' :=
  far_e R N hN hn s e0 ((cnE_bad (by rw [he]; exact h0)).trans he) h0 A c V h
end
end Go.Proofs.Ytffgmjfanpgbbaa
