/- A number's code: what Code answers, for whatever number; each fact names its conditions. -/
import Derived.Test.YtjogccpnhcnedaaDoorFSplit
import Derived.Laws.Bits64b
namespace Go.Proofs.YtjogccpnhcnedaaDoor
set_option maxRecDepth 100000
set_option linter.unusedVariables false
open Go.RowKit Go.Shelf

/-- gv_store, in letters. -/
theorem f_gv_store2 {w w1 : World} {len : Int} {n : Nat} {bs : List Nat} {A : Option Addr} {c r : Nat} (R1 : Rd w1 w1.heap.size A bs) (hr : w.heap.size ≤ r) (hrb : w1.heap[r]? = some (.cells #[.int .i64 0, .slice none 0 0] 26 (0, 0))) (hlow : Below w.heap.size w w1) (err : Int) :
    (w1.cell? ⟨r, 0, none⟩ = some (.int .i64 0) ∧ w1.cell? ⟨r, 1, none⟩ = some (.slice none 0 0) ∧ w1.frozen? ⟨r, 0, none⟩ = false ∧ w1.frozen? ⟨r, 1, none⟩ = false) ∧
    Hid (Gv w len n bs err (.returned (.tuple #[.agg #[.int .i64 len, .slice A n c], .int .i64 err])) ((w1.setCell ⟨r, 0, none⟩ (.int .i64 len)).setCell ⟨r, 1, none⟩ (.slice A n c))) := by
  refine ⟨blk_cells hrb, A, c, rfl, ?_, (hlow.setCell (p := ⟨r, 0, none⟩) hr _).setCell (p := ⟨r, 1, none⟩) hr _⟩
  have r1 := R1.setK (i := 0) (.int .i64 len) hrb
  have hr2 : (w1.setCell ⟨r, 0, none⟩ (.int .i64 len)).heap[r]? = some (.cells #[.int .i64 len, .slice none 0 0] 26 (0, 0)) := by
    rw [heap_set_same _ _ _ _ 26 _ hrb]; simp
  have r2 := r1.setK (i := 1) (.slice A n c) hr2
  have e : ((w1.setCell ⟨r, 0, none⟩ (.int .i64 len)).setCell ⟨r, 1, none⟩ (.slice A n c)).heap.size = w1.heap.size := by simp [World.setCell]
  rw [e]
  exact r2
/-- The result's place, behind a call. -/
theorem f_res_at {w w1 : World} (B1 : Below (w.alloc (.cells #[.int .i64 0, .slice none 0 0] 26)).heap.size (w.alloc (.cells #[.int .i64 0, .slice none 0 0] 26)) w1) :
    w1.heap[w.heap.size]? = some (.cells #[.int .i64 0, .slice none 0 0] 26 (0, 0)) ∧ Below w.heap.size w w1 ∧ w.heap.size < w1.heap.size := by
  have h := B1.size
  rw [World.size_alloc] at h
  refine ⟨(B1.block _ (by rw [World.size_alloc]; omega)).trans (World.alloc_heap_new w _), (one_below w _).trans (B1.mono (by rw [World.size_alloc]; omega)), by omega⟩

theorem dz_tail : ∀ (p d : List Nat) (i k : Nat), Dz k (p ++ i :: d) → i < k ∧ Dz (i - 1) d := by
  intro p
  induction p with
  | nil => intro d i k h; exact h
  | cons y p ih =>
    intro d i k h
    have h1 := ih d i (y - 1) h.2
    have h2 := h.1
    exact ⟨by have := h1.1; omega, h1.2⟩
/-- The parts up to a place, and the next one. -/
theorem pts_at (N : Nat) (hN : N < fb 64) (x : Nat) (xs : List Nat) (hx : ptd N = x :: xs) (k : Nat) (hk : k < (pts N).length) :
    (pts N)[k]?.getD 0 ≤ x ∧ Dz ((pts N)[k]?.getD 0 - 1) ((pts N).take k).reverse ∧ ((pts N).take (k + 1)).reverse = (pts N)[k]?.getD 0 :: ((pts N).take k).reverse := by
  have hd := ptd_dz N hN
  have e2 : ((pts N).take (k + 1)).reverse = (pts N)[k]?.getD 0 :: ((pts N).take k).reverse := by
    rw [take_snoc _ _ hk, List.reverse_append]; rfl
  have e3 : ptd N = ((pts N).drop (k + 1)).reverse ++ ((pts N)[k]?.getD 0 :: ((pts N).take k).reverse) := by
    rw [← e2, ← List.reverse_append, List.take_append_drop, pts, List.reverse_reverse]
  rw [hx] at hd
  have hd2 : Dz (x + 1) (x :: xs) := ⟨by omega, hd.2⟩
  rw [← hx, e3] at hd2
  have := dz_tail _ _ _ _ hd2
  exact ⟨by omega, this.2, e2⟩
theorem pts_last (N x : Nat) (xs : List Nat) (hx : ptd N = x :: xs) : (pts N).length = xs.length + 1 ∧ (pts N)[xs.length]?.getD 0 = x ∧ (pts N).reverse = x :: xs := by
  have e : pts N = xs.reverse ++ [x] := by unfold pts; rw [hx, List.reverse_cons]
  refine ⟨by rw [e]; simp, ?_, by rw [e]; simp⟩
  rw [e, List.getElem?_append_right (by simp)]
  simp

/-- At each round's head. -/
def CoRel (x : Nat) (P : List Nat) (v p : Value) : Prop := ∃ k : Nat, k ≤ P.length ∧ p = .int .i64 (k : Int) ∧ v = .int .u64 (fcn x (P.take k).reverse : Int)
theorem fcn_lt64 (x : Nat) (d : List Nat) (hx : x ≤ 61) (hl : (fz d).length ≤ x + 1) : fcn x d < 18446744073709551616 := by
  have h1 := fcn_lt x d hl
  have h2 : 2 ^ (x + 2) ≤ 2 ^ 63 := Nat.pow_le_pow_right (by omega) (by omega)
  omega

theorem or_pow (acc e r : Nat) (ha : acc < 18446744073709551616) (he : e ≤ 63) (h : acc ||| 2 ^ e = r) : bits .or .u64 (acc : Int) (IntKind.u64.wrap ((2 : Int) ^ e)) = (r : Int) := by
  have h1 : 2 ^ e ≤ 2 ^ 63 := Nat.pow_le_pow_right (by omega) he
  have e1 : ((2 : Int) ^ e) = ((2 ^ e : Nat) : Int) := by simp
  rw [e1]
  generalize 2 ^ e = pw at *
  rw [IntKind.wrap_u64, Int.emod_eq_of_lt (by omega) (by omega), bits_or_u64_nat _ _ ha (by omega), h]

set_option maxHeartbeats 2000000 in
theorem code_ok (n : Nat) (hn : n ≤ 1099511627776) (w : World) (hN : Nm w) :
    Calls Tryd.prog 12 #[.int .u64 (n : Int)] w (Gv w ((fco n).length : Int) (pack (fco n)).length (pack (fco n)) 0) := by
  have h64 : n + 1 < fb 64 := by rw [fb64]; omega
  obtain ⟨x, xs, hx, hx64, hxd, hxl, hxu⟩ := ptd_ne (n + 1) h64 (by omega)
  have hx58 : x < 58 := by
    rcases Nat.lt_or_ge x 58 with h | h
    · exact h
    · have := fb_mono h; rw [fb58] at this; omega
  obtain ⟨hq, hlast, hrev⟩ := pts_last (n + 1) x xs hx
  have HAt := Lib.hid (pts_at (n + 1) h64 x xs hx)
  have HS : Hid (∀ V, Below w.heap.size w V → Calls Tryd.prog 32 #[.int .u64 ((n : Int) + 1)] V (Inted V (ints (pts (n + 1))))) := fun V hb => by
    have := split_any (n + 1) (by omega) V (hN.on hb)
    rwa [show ((n + 1 : Nat) : Int) = (n : Int) + 1 from by omega] at this
  unfold Inted at HS
  rw [ints_length, hq] at HS
  have HFin : Hid (nb (fcn x (x :: xs)) (x + 2) = fco n) := by show _ = _; rw [fcn_bits x xs hxd]; unfold fco; rw [hx]
  have hfl : (fco n).length = x + 2 := by rw [← HFin.out, nb_length]
  have hnum := fcn_lt x (x :: xs) (by rw [fz_cons_length x xs hxd]; omega)
  have h2 : 2 ^ (x + 2) ≤ 2 ^ 63 := Nat.pow_le_pow_right (by omega) (by omega)
  have HP := Lib.hid (fun V => put_l [] (fco n) none 0 (fcn x (x :: xs)) (x + 2) (by omega) (Nat.div_eq_of_lt hnum) (by simp; omega) (by omega) HFin.out.symm V (.inl rfl))
  rw [show (([] : List Bool).length : Int) = 0 from rfl, show (pack ([] : List Bool)).length = 0 from rfl] at HP
  have hq64 : xs.length ≤ 63 := by have h1 := spl_len 64 (n + 1); have h2 : ptd (n + 1) = spl 64 (n + 1) := rfl; rw [← h2, hx] at h1; simp at h1; omega
  have HRv := Lib.hid hrev
  have HLa := Lib.hid hlast
  have HQ := Lib.hid hq
  have t1 : decide ((n : Int) ≤ 1099511627776) = true := by simp; omega
  clear hN hfl HFin hnum h2 hq hlast hrev hx h64 hxl hxu
  generalize (pack (fco n)).length = pl at *
  generalize pack (fco n) = pb at *
  generalize (fco n).length = fl at *
  generalize pts (n + 1) = P at *
  generalize xs.length = q at *
  go_enter Tryd.func12, Tryd.ntmps12
  go_wp2_with fail
  refine (range1 0 true 0 rfl _ _ (World.size_alloc _ _)).mono ?_
  rintro e w1 ⟨rfl, B1⟩
  have HA := Lib.hid (f_res_at B1)
  clear B1
  go_wp2_with fail
  refine (HS.out _ HA.out.2.1).mono ?_
  rintro e w2 ⟨A, c, rfl, ho, hb⟩
  have HR := Lib.hid (own_rdv ho)
  have HLow : Hid (Below w.heap.size w w2) := HA.out.2.1.trans (hb.mono (Nat.le_of_lt HA.out.2.2))
  have HRes : Hid (w2.heap[w.heap.size]? = some (.cells #[.int .i64 0, .slice none 0 0] 26 (0, 0))) := (hb.block _ HA.out.2.2).trans HA.out.1
  clear ho hb
  have HIg : Hid (∀ k, k < q + 1 → (zc (ints P))[k]? = some (.int .i64 ((P[k]?.getD 0 : Nat) : Int))) := fun k hk => by
    have h1 : k < P.length := by rw [HQ.out]; exact hk
    rw [zc_get (ints P) k (by rw [ints_length]; exact h1)]
    simp [ints, List.getElem?_map, List.getElem?_eq_getElem h1]
  obtain ⟨b, off, rfl, hbl, hcl⟩ := HR.out.at_ (HIg.out q (by omega))
  rw [HLa.out] at hcl
  go_wp2
  go_loop [7, 30] (fun v p => CoRel x P v p) (fun _ p => q + 1 - (intOf p).toNat)
  case atStart => exact ⟨0, Nat.zero_le _, rfl, by simp [fcn_nil]⟩
  case round =>
    obtain ⟨k, hk, rfl, rfl⟩ := hrel
    rw [HQ.out] at hk
    by_cases hlt : k < q + 1
    · obtain ⟨b', off', eA, hb', hc'⟩ := HR.out.at_ (HIg.out k hlt)
      simp only [Option.some.injEq, Addr.mk.injEq, and_true] at eA
      obtain ⟨rfl, rfl⟩ := eA
      obtain ⟨a1, a2, a3⟩ := HAt.out k (by rw [HQ.out]; exact hlt)
      have hst := fcn_cons x (P[k]?.getD 0) _ a1 a2
      rw [← a3] at hst
      have HST := Lib.hid hst
      have hlt64 := fcn_lt64 x (P.take k).reverse (by omega) (Nat.le_trans (by
        have := fz_len_le (P[k]?.getD 0) _ a2; exact this) (by omega))
      clear hst a2 a3
      generalize P[k]?.getD 0 = i at *
      generalize fcn x (P.take k).reverse = acc at *
      have HOr := Lib.hid (or_pow acc (x + 1 - i) _ hlt64 (by omega) HST.out)
      go_wp2
      rw [HOr.out]
      exact ⟨⟨k + 1, by rw [HQ.out]; omega, by go_num, rfl⟩, by simp [intOf]; omega⟩
    · have hkq : k = P.length := by rw [HQ.out]; omega
      have HF : Hid ((P.take k).reverse = x :: xs) := by show _ = _; rw [hkq, List.take_length]; exact HRv.out
      rw [HF.out]
      generalize fcn x (x :: xs) = code at *
      clear hkq hk
      have x0 : (0 : Int) ≤ (x : Int) := by omega
      have HPx : Hid (∀ V, Calls Tryd.prog 29 #[.agg #[.int .i64 0, .slice none 0 0], .int .u64 (code : Int), .int .i64 ((x : Int) + 1 + 1)] V (Gv V fl pl pb 0)) := fun V => by
        have := HP.out V
        rwa [show ((x + 2 : Nat) : Int) = (x : Int) + 1 + 1 from by omega] at this
      clear HP
      go_wp2_with fail
      refine (HPx.out w2).mono ?_
      rintro e w3 ⟨A4, c4, rfl, R4, B4⟩
      have hlt2 : w.heap.size < w2.heap.size := by
        have := (Array.getElem?_eq_some_iff.1 HRes.out).1
        exact this
      have HH := f_gv_store2 (w := w) (c := c4) (len := (fl : Int)) (n := pl) R4 (Nat.le_refl _) ((B4.block _ hlt2).trans HRes.out) (HLow.out.trans (B4.mono HLow.out.size)) 0
      clear R4 B4
      obtain ⟨⟨d0, d1, d2, d3⟩, HG⟩ := HH
      go_wp2
      exact bodyPost_ret (v := .tuple #[.agg #[.int .i64 fl, .slice A4 pl c4], .int .i64 0]) (by simp [results, Tryd.results12, go_sem, d0, d1]) rfl HG.out
set_option maxHeartbeats 1000000 in
theorem code_no (n : Nat) (hn : 1099511627776 < n) (w : World) :
    Calls Tryd.prog 12 #[.int .u64 (n : Int)] w (Gv w 0 0 [] 3) := by
  have t1 : decide ((n : Int) ≤ 1099511627776) = false := by simp; omega
  go_enter Tryd.func12, Tryd.ntmps12
  go_wp2_with fail
  refine (range1 0 false 3 rfl _ _ (World.size_alloc _ _)).mono ?_
  rintro e w1 ⟨rfl, B1⟩
  have HA := f_res_at B1
  clear B1
  have HH := f_gv_store2 (w := w) (len := 0) (n := 0) (A := none) (c := 0) (bs := []) (.inl rfl) (Nat.le_refl _) HA.1 HA.2.1 3
  clear HA
  obtain ⟨⟨d0, d1, d2, d3⟩, HG⟩ := HH
  go_wp2
  exact bodyPost_ret (v := .tuple #[.agg #[.int .i64 0, .slice none 0 0], .int .i64 3]) (by simp [results, Tryd.results12, go_sem, d0, d1]) rfl HG.out
end Go.Proofs.YtjogccpnhcnedaaDoor
