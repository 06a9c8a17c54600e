/- What Go's sort of whole numbers leaves in a row of the call's own; the errors of runs, one by one. -/
import Derived.Test.YtbakojhamaladaaRNLay
import Derived.Test.YtbakojhamaladaaRN3
import Derived.Sort.OwnSortedInts
namespace Go.Proofs.Ytbakojhamaladaa
set_option maxRecDepth 100000
set_option linter.unusedVariables false
open Go.RowKit Go.Shelf

theorem msort_ns (l : List Nat) : (ns l).mergeSort (fun x y => decide (x ≤ y)) = ns (nso l) := by
  have hp := List.mergeSort_perm (ns l) (fun x y : Int => decide (x ≤ y))
  have hs := List.pairwise_mergeSort (le := fun x y : Int => decide (x ≤ y)) (fun a b c h1 h2 => by simp at *; omega) (fun a b => by simp; omega) (ns l)
  generalize (ns l).mergeSort (fun x y => decide (x ≤ y)) = r at *
  have h0 : ∀ x ∈ r, 0 ≤ x := fun x hx => by
    have := hp.subset hx
    simp only [ns, List.mem_map] at this
    obtain ⟨y, _, rfl⟩ := this; omega
  have e1 : r = ns (r.map Int.toNat) := by
    unfold ns; rw [List.map_map]
    conv => lhs; rw [← List.map_id r]
    exact List.map_congr_left fun x hx => by have := h0 x hx; simp; omega
  have hpn : (r.map Int.toNat).Perm l := by have := hp.map Int.toNat; rwa [ns_nat] at this
  have hsn : (r.map Int.toNat).Pairwise (· ≤ ·) := List.pairwise_map.2 (hs.imp fun {a b} h => by simp at h; omega)
  rw [e1, nso_uniq hpn hsn]
theorem sort_own (l : List Nat) (n : Nat) (hn : l.length = n) (hn2 : n ≤ 1000000) (base : Nat) (v : Value) (w : World) (h : w.ownsRow base 3 1 v n (zc (ns l))) (hB : base ≤ w.heap.size) :
    Calls Try.prog 86 #[v] w fun e w' => e = .returned (.tuple #[]) ∧ w'.ownsRow base 3 1 v n (zc (ns (nso l))) ∧ Below base w w' := by
  have h' := h
  rcases h.2 with ⟨rfl, h0⟩ | ⟨g, cap, cur, rfl, hb, hg, h1, h2, h3, h4⟩
  · subst h0
    have : l = [] := List.eq_nil_of_length_eq_zero hn
    subst this
    exact (AnyM.slices_Sort_int_none sortI none 0 w).mono fun e w' ⟨he, hw⟩ => by
      subst hw
      exact ⟨he, h, Below.refl _ _⟩
  · have hl : (ns l).length = n := by rw [ns_length, hn]
    have hgs : g < w.heap.size := (Array.getElem?_eq_some_iff.1 hg).1
    have hH := holds_of_blockI (ss := ns l) hg (by rw [hl]; rw [Nat.mul_one] at h4; exact h4)
    have hcon := AnyM.slices_Sort_int sortI g 0 cap (ns l) w hH hgs (by rw [hl]; omega)
    rw [hl, msort_ns] at hcon
    refine hcon.mono ?_
    rintro e w' ⟨he, m, os, rfl⟩
    refine ⟨he, ?_, ?_⟩
    · have hl2 : (ns (nso l)).length = (ns l).length := by rw [ns_length, ns_length, (nso_perm l).length_eq]
      have := ownsRow_sortedI (w := w) (n := m) (os := os) (ss := ns l) (ts := ns (nso l)) hl2 hb hg (by rw [hl]; exact h1) h2 h3
      rw [hl] at this
      exact this
    · have hgr := grownBy_sortedI (w := w) (g := g) (n := m) (os := os) (ns (nso l)).toArray
      have e : (Value.slice (some ⟨g, 0, none⟩) n cap).ownBlock = some g := rfl
      rw [← e] at hgr
      exact grown_low hgr h' hB

/-- Cells of runs. -/
abbrev Ri := Int × Int
def rcs (r : List Ri) : List Value := r.flatMap fun p => [.int .i64 p.1, .int .i64 p.2]
theorem rcs_nil : rcs [] = [] := rfl
theorem rcs_cons (p : Ri) (r : List Ri) : rcs (p :: r) = .int .i64 p.1 :: .int .i64 p.2 :: rcs r := rfl
theorem rcs_append (a b : List Ri) : rcs (a ++ b) = rcs a ++ rcs b := by simp [rcs]
theorem rcs_length : ∀ r : List Ri, (rcs r).length = r.length * 2
  | [] => rfl
  | p :: r => by rw [rcs_cons]; simp [rcs_length r]; omega
theorem rcs_at : ∀ (r : List Ri) (i : Nat), i < r.length → (rcs r)[i * 2]? = some (.int .i64 (r[i]?.getD (0, 0)).1) ∧ (rcs r)[i * 2 + 1]? = some (.int .i64 (r[i]?.getD (0, 0)).2)
  | [], i, h => by simp at h
  | p :: r, 0, h => by rw [rcs_cons]; simp
  | p :: r, i + 1, h => by
    have := rcs_at r i (by simpa using h)
    rw [rcs_cons, show (i + 1) * 2 = i * 2 + 1 + 1 by omega]
    simpa using this
theorem rcs_one (r : List Ri) : ∀ u ∈ rcs r, u.oneCell' = true := by
  intro u hu
  simp only [rcs, List.mem_flatMap] at hu
  obtain ⟨x, _, hx⟩ := hu
  simp at hx
  rcases hx with rfl | rfl <;> rfl
theorem drop_atP (xs : List Ri) (i : Nat) (h : i < xs.length) : xs.drop i = xs[i]?.getD (0, 0) :: xs.drop (i + 1) := by
  rw [List.drop_eq_getElem_cons h, List.getElem?_eq_getElem h]; rfl

/-- The first error, each run asked with a number that the one before it left. -/
def eachP (f : Int → Ri → Int) (nx : Ri → Int) : Int → List Ri → Int
  | _, [] => 0
  | v, x :: t => if f v x = 0 then eachP f nx (nx x) t else f v x
theorem eachP_cons (f : Int → Ri → Int) (nx : Ri → Int) (v : Int) (x : Ri) (t : List Ri) : eachP f nx v (x :: t) = if f v x = 0 then eachP f nx (nx x) t else f v x := rfl
def EbxP (f : Int → Ri → Int) (nx : Ri → Int) (B : Nat) (v0 : Int) (xs : List Ri) (w : World) (p : Value) (wr : World) : Prop :=
  ∃ (i : Nat) (v : Int), i ≤ xs.length ∧ p = .int .i64 (i : Int) ∧ eachP f nx v0 xs = eachP f nx v (xs.drop i) ∧ wr.heap[B]? = some (.cells #[.int .i64 v] 3 (0, 0)) ∧ Below B w wr
set_option maxHeartbeats 1000000 in
theorem each_run (g : Nat) (B : Nat) (cb : Array Value) (f : Int → Ri → Int) (nx : Ri → Int) (xs : List Ri) (n : Nat) (hn : xs.length = n) (hn2 : n ≤ 9223372036854775807) (A : Option Addr) (c : Nat) (v0 : Int) (w : World) (h : RdV w B A (rcs xs)) (hb : w.heap[B]? = some (.cells #[.int .i64 v0] 3 (0, 0)))
    (eg : ∀ args w, (callFunc g args).run Try.prog w = .ok (.enter g args) w)
    (hg : ∀ (x : Ri) (v : Int) (V : World), V.heap[B]? = some (.cells #[.int .i64 v] 3 (0, 0)) → Calls Try.prog g (#[.agg #[.int .i64 x.1, .int .i64 x.2]] ++ cb) V fun e w' => e = .returned (.int .i64 (f v x)) ∧ Below B V w' ∧ (f v x = 0 → w'.heap[B]? = some (.cells #[.int .i64 (nx x)] 3 (0, 0)))) :
    Calls Try.prog 114 #[.slice A n c, .func (.func g) #[] cb] w fun e w' => e = .returned (.int .i64 (eachP f nx v0 xs)) ∧ Below B w w' := by
  have hBw : B < w.heap.size := (Array.getElem?_eq_some_iff.1 hb).1
  have HR := Lib.hid h; clear h
  have HN := Lib.hid hn; clear hn
  have HG := Lib.hid hg; clear hg
  have HB0 := Lib.hid hb; clear hb
  go_enter Try.func114, Try.ntmps114
  go_wp2
  go_loopw [10] (fun p wr => EbxP f nx B v0 xs w p wr) (fun p _ => n - (intOf p).toNat)
  case atStart => exact ⟨0, v0, Nat.zero_le _, rfl, rfl, HB0.out, Below.refl _ _⟩
  case round =>
    obtain ⟨i, v, hi, rfl, ht, hbox, hbel⟩ := hrel
    rw [HN.out] at hi
    by_cases hlt : i < n
    · have hin : i < xs.length := by rw [HN.out]; exact hlt
      have hR := HR.out.below hbel (Nat.le_refl _)
      obtain ⟨r0, r1⟩ := rcs_at xs i hin
      obtain ⟨b, off, rfl, hb, k0⟩ := hR.at_ r0
      obtain ⟨b2, off2, hA2, hb2, k1⟩ := hR.at_ r1
      simp only [Option.some.injEq, Addr.mk.injEq, and_true] at hA2
      obtain ⟨rfl, rfl⟩ := hA2
      rw [← Nat.add_assoc] at k1
      rw [drop_atP xs i hin, eachP_cons] at ht
      clear r0 r1 hR
      generalize xs[i]?.getD (0, 0) = x at *
      have hbox2 : (wr.alloc (.cells #[.int .i64 x.1, .int .i64 x.2] 60)).heap[B]? = some (.cells #[.int .i64 v] 3 (0, 0)) := (Below.heap_alloc _ _ _ (by have := hbel.size; omega)).trans hbox
      have HC := Lib.hid (HG.out x v _ hbox2)
      have HB : Hid (Below B w (wr.alloc (.cells #[.int .i64 x.1, .int .i64 x.2] 60))) := hbel.alloc (by have := hbel.size; omega) _
      clear hbel hbox hbox2
      obtain ⟨x1, x2⟩ := x
      simp only at k0 k1 HC HB
      by_cases hf : f v (x1, x2) = 0
      · rw [if_pos hf] at ht
        have HT := Lib.hid ht
        rw [hf] at HC
        clear hf ht
        go_wp2_with fail
        refine HC.out.mono ?_
        rintro e w1 ⟨rfl, b1, k1⟩
        have HB1 := Lib.hid b1; have HK1 := Lib.hid (k1 (by simp)); clear b1 k1
        go_wp2
        go_roundw
        case rel => exact ⟨i + 1, nx (x1, x2), by rw [HN.out]; omega, by go_num, HT.out, HK1.out, HB.out.trans HB1.out⟩
        case measure => simp [intOf]; omega
      · rw [if_neg hf] at ht
        have HE := Lib.hid ht
        have t0 : (f v (x1, x2) == 0) = false := by simpa using hf
        clear ht
        generalize f v (x1, x2) = y at *
        go_wp2_with fail
        refine HC.out.mono ?_
        rintro e w1 ⟨rfl, b1, -⟩
        have HB1 := Lib.hid b1; clear b1
        go_wp2
        go_ret
        exact ⟨ret_i64 HE.out.symm, HB.out.trans HB1.out⟩
    · have HT : Hid (eachP f nx v0 xs = 0) := by
        show _ = _
        rw [ht, List.drop_of_length_le (by rw [HN.out]; omega)]; rfl
      clear ht hbox
      have HB := Lib.hid hbel; clear hbel
      go_wp2
      go_ret
      exact ⟨ret_i64 HT.out.symm, HB.out⟩
end Go.Proofs.Ytbakojhamaladaa
