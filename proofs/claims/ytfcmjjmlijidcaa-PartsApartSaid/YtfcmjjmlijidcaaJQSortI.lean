/- Go's own sort of whole numbers: where it stands, and what it leaves in a row of the call's own. -/
import Derived.Test.YtfcmjjmlijidcaaRows
import Derived.Shelf.SortM.Plain
import Derived.Shelf.SortM.SortNone
import Derived.Test.YtfcmjjmlijidcaaJQRNPure
import Derived.Test.YtfcmjjmlijidcaaJQNMem
import Derived.Sort.OwnSortedInts
namespace Go.Proofs.Ytfcmjjmlijidcaa
section
set_option maxRecDepth 100000
set_option linter.unusedVariables false
open Go.Shelf

def sortI_ren : Go.Shelf.Ren := ⟨fun | 5 => 91 | 8 => 112 | 7 => 111 | 19 => 131 | 20 => 85 | 10 => 123 | 11 => 124 | 12 => 125 | 13 => 126 | 14 => 127 | 15 => 128 | 16 => 108 | 17 => 129 | 18 => 130 | 30 => 136 | 31 => 137 | 32 => 138 | 33 => 139 | 34 => 140 | 35 => 122 | 40 => 143 | n => n, fun | 23 => 22 | 25 => 3 | 3 => 3 | 32 => 117 | 22 => 22 | 0 => 0 | 44 => 157 | 46 => 61 | 4 => 4 | 36 => 151 | 35 => 150 | 41 => 111 | 5 => 5 | 9 => 9 | 53 => 161 | 57 => 165 | 63 => 170 | 64 => 171 | n => n, fun n => n⟩
theorem sortI : SlLaysM.n5 Try.prog sortI_ren where
  mixed := by kernel_rfl
  f5 := ⟨"slices.Sort[[]int,int]", by decide, Try.func91.trans (congrArg some (by kernel_rfl))⟩
  f7 := ⟨"slices.pdqsortOrdered[int]", by decide, Try.func111.trans (congrArg some (by kernel_rfl))⟩
  f8 := Try.func112.trans (congrArg some (by kernel_rfl))
  f10 := ⟨"slices.insertionSortOrdered[int]", by decide, Try.func123.trans (congrArg some (by kernel_rfl))⟩
  f11 := ⟨"slices.heapSortOrdered[int]", by decide, Try.func124.trans (congrArg some (by kernel_rfl))⟩
  f12 := ⟨"slices.breakPatternsOrdered[int]", by decide, Try.func125.trans (congrArg some (by kernel_rfl))⟩
  f13 := ⟨"slices.choosePivotOrdered[int]", by decide, Try.func126.trans (congrArg some (by kernel_rfl))⟩
  f14 := ⟨"slices.reverseRangeOrdered[int]", by decide, Try.func127.trans (congrArg some (by kernel_rfl))⟩
  f15 := ⟨"slices.partialInsertionSortOrdered[int]", by decide, Try.func128.trans (congrArg some (by kernel_rfl))⟩
  f16 := ⟨"cmp.Less[int]", by decide, Try.func108.trans (congrArg some (by kernel_rfl))⟩
  f17 := ⟨"slices.partitionEqualOrdered[int]", by decide, Try.func129.trans (congrArg some (by kernel_rfl))⟩
  f18 := ⟨"slices.partitionOrdered[int]", by decide, Try.func130.trans (congrArg some (by kernel_rfl))⟩
  f19 := Try.func131.trans (congrArg some (by kernel_rfl))
  f20 := Try.func85.trans (congrArg some (by kernel_rfl))
  f30 := ⟨"slices.siftDownOrdered[int]", by decide, Try.func136.trans (congrArg some (by kernel_rfl))⟩
  f31 := Try.func137.trans (congrArg some (by kernel_rfl))
  f32 := Try.func138.trans (congrArg some (by kernel_rfl))
  f33 := ⟨"slices.medianAdjacentOrdered[int]", by decide, Try.func139.trans (congrArg some (by kernel_rfl))⟩
  f34 := ⟨"slices.medianOrdered[int]", by decide, Try.func140.trans (congrArg some (by kernel_rfl))⟩
  f35 := ⟨"cmp.isNaN[int]", by decide, Try.func122.trans (congrArg some (by kernel_rfl))⟩
  f40 := ⟨"slices.order2Ordered[int]", by decide, Try.func143.trans (congrArg some (by kernel_rfl))⟩
  t0 := Try.underlying0
  a0 := Try.isAgg0
  z0 := Try.sizeOf0
  v0 := Try.zeroValue0
  t3 := Try.underlying3
  a3 := Try.isAgg3
  z3 := Try.sizeOf3
  v3 := Try.zeroValue3
  t4 := Try.underlying4
  a4 := Try.isAgg4
  z4 := Try.sizeOf4
  v4 := Try.zeroValue4
  t5 := Try.underlying5
  a5 := Try.isAgg5
  z5 := Try.sizeOf5
  v5 := Try.zeroValue5
  t9 := Try.underlying9
  a9 := Try.isAgg9
  z9 := Try.sizeOf9
  v9 := Try.zeroValue9
  t22 := Try.underlying22
  a22 := Try.isAgg22
  z22 := Try.sizeOf22
  v22 := Try.zeroValue22
  t23 := Try.underlying22
  a23 := Try.isAgg22
  z23 := Try.sizeOf22
  v23 := Try.zeroValue22
  t25 := Try.underlying3
  a25 := Try.isAgg3
  z25 := Try.sizeOf3
  v25 := Try.zeroValue3
  t32 := Try.underlying117
  a32 := Try.isAgg117
  z32 := Try.sizeOf117
  v32 := Try.zeroValue117
  t35 := Try.underlying150
  a35 := Try.isAgg150
  z35 := Try.sizeOf150
  v35 := Try.zeroValue150
  t36 := Try.underlying151
  a36 := Try.isAgg151
  z36 := Try.sizeOf151
  v36 := Try.zeroValue151
  t41 := Try.underlying111
  a41 := Try.isAgg111
  z41 := Try.sizeOf111
  v41 := Try.zeroValue111
  t44 := Try.underlying157
  a44 := Try.isAgg157
  z44 := Try.sizeOf157
  v44 := Try.zeroValue157
  t46 := Try.underlying61
  a46 := Try.isAgg61
  z46 := Try.sizeOf61
  v46 := Try.zeroValue61
  t53 := Try.underlying161
  a53 := Try.isAgg161
  z53 := Try.sizeOf161
  v53 := Try.zeroValue161
  t57 := Try.underlying165
  a57 := Try.isAgg165
  z57 := Try.sizeOf165
  v57 := Try.zeroValue165
  t63 := Try.underlying170
  a63 := Try.isAgg170
  z63 := Try.sizeOf170
  v63 := Try.zeroValue170
  t64 := Try.underlying171
  a64 := Try.isAgg171
  z64 := Try.sizeOf171
  v64 := Try.zeroValue171
end

section
set_option maxRecDepth 100000
set_option linter.unusedVariables false
open Go.RowKit Go.Shelf

theorem msort_ns (l : List Nat) : (ns l).mergeSort (fun x y => decide (x ≤ y)) = ns (nso l) := by
  have hp := List.mergeSort_perm (ns l) (fun x y : Int => decide (x ≤ y))
  have hs := List.pairwise_mergeSort (le := fun x y : Int => decide (x ≤ y)) (fun a b c h1 h2 => by simp at *; omega) (fun a b => by simp; omega) (ns l)
  generalize (ns l).mergeSort (fun x y => decide (x ≤ y)) = r at *
  have h0 : ∀ x ∈ r, 0 ≤ x := fun x hx => by
    have := hp.subset hx
    simp only [ns, List.mem_map] at this
    obtain ⟨y, _, rfl⟩ := this; omega
  have e1 : r = ns (r.map Int.toNat) := by
    unfold ns; rw [List.map_map]
    conv => lhs; rw [← List.map_id r]
    exact List.map_congr_left fun x hx => by have := h0 x hx; simp; omega
  have hpn : (r.map Int.toNat).Perm l := by have := hp.map Int.toNat; rwa [ns_nat] at this
  have hsn : (r.map Int.toNat).Pairwise (· ≤ ·) := List.pairwise_map.2 (hs.imp fun {a b} h => by simp at h; omega)
  rw [e1, nso_uniq hpn hsn]
theorem sort_own (l : List Nat) (n : Nat) (hn : l.length = n) (hn2 : n ≤ 1000000) (base : Nat) (v : Value) (w : World) (h : w.ownsRow base 3 1 v n (zc (ns l))) (hB : base ≤ w.heap.size) :
    Calls Try.prog 91 #[v] w fun e w' => e = .returned (.tuple #[]) ∧ w'.ownsRow base 3 1 v n (zc (ns (nso l))) ∧ Below base w w' := by
  have h' := h
  rcases h.2 with ⟨rfl, h0⟩ | ⟨g, cap, cur, rfl, hb, hg, h1, h2, h3, h4⟩
  · subst h0
    have : l = [] := List.eq_nil_of_length_eq_zero hn
    subst this
    exact (AnyM.slices_Sort_int_none sortI none 0 w).mono fun e w' ⟨he, hw⟩ => by
      subst hw
      exact ⟨he, h, Below.refl _ _⟩
  · have hl : (ns l).length = n := by rw [ns_length, hn]
    have hgs : g < w.heap.size := (Array.getElem?_eq_some_iff.1 hg).1
    have hH := holds_of_blockI (ss := ns l) hg (by rw [hl]; rw [Nat.mul_one] at h4; exact h4)
    have hcon := AnyM.slices_Sort_int sortI g 0 cap (ns l) w hH hgs (by rw [hl]; omega)
    rw [hl, msort_ns] at hcon
    refine hcon.mono ?_
    rintro e w' ⟨he, m, os, rfl⟩
    refine ⟨he, ?_, ?_⟩
    · have hl2 : (ns (nso l)).length = (ns l).length := by rw [ns_length, ns_length, (nso_perm l).length_eq]
      have := ownsRow_sortedI (w := w) (n := m) (os := os) (ss := ns l) (ts := ns (nso l)) hl2 hb hg (by rw [hl]; exact h1) h2 h3
      rw [hl] at this
      exact this
    · have hgr := grownBy_sortedI (w := w) (g := g) (n := m) (os := os) (ns (nso l)).toArray
      have e : (Value.slice (some ⟨g, 0, none⟩) n cap).ownBlock = some g := rfl
      rw [← e] at hgr
      exact grown_low hgr h' hB
end
end Go.Proofs.Ytfcmjjmlijidcaa
