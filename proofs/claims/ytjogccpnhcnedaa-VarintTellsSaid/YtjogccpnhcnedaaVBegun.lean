/- What is asked in any case of numbers as bytes: it answers true, in whatever world. -/
import Derived.Test.YtjogccpnhcnedaaVRefA
import Derived.Test.YtjogccpnhcnedaaVFold
namespace Go.Proofs.Ytjogccpnhcnedaa
set_option maxRecDepth 100000
set_option linter.unusedVariables false
open Go.RowKit Go.Shelf

/-- Bytes, newly laid. -/
theorem rd_new (w : World) (bs : List Nat) : Rd (w.alloc (.cells (bc bs).toArray 5)) (w.alloc (.cells (bc bs).toArray 5)).heap.size (some ⟨w.heap.size, 0, none⟩) bs := by
  refine .inr ⟨w.heap.size, 0, rfl, by simp, fun i hi => ?_⟩
  rw [cell_of_row _ _ _ _ _ _ (World.alloc_heap_new w (.cells (bc bs).toArray 5))]
  simpa using bc_get bs i hi
theorem rdv_new (w : World) (ns : List Nat) : RdV (w.alloc (.cells (nc ns).toArray 22)) (w.alloc (.cells (nc ns).toArray 22)).heap.size (some ⟨w.heap.size, 0, none⟩) (nc ns) := by
  refine .inr ⟨w.heap.size, 0, rfl, by simp, fun i v hi => ?_⟩
  rw [cell_of_row _ _ _ _ _ _ (World.alloc_heap_new w (.cells (nc ns).toArray 22))]
  simpa using hi
theorem from_new {w w' : World} {o : Obj} (h : Below (w.alloc o).heap.size (w.alloc o) w') : Below w.heap.size w w' := (one_below w o).trans (h.mono (by rw [World.size_alloc]; omega))
theorem wrote_new {w : World} {bs : List Nat} {err : Int} {o : Obj} {e : Ending} {w' : World} (h : Wrote (w.alloc o) bs err e w') : Wrote w bs err e w' := by
  obtain ⟨A, c, h1, h2, h3, h4⟩ := h
  exact ⟨A, c, h1, h2, h3, from_new h4⟩

theorem b1 (w : World) : Calls Try.prog 27 #[.slice (some ⟨w.heap.size, 0, none⟩) 2 2] (w.alloc (.cells #[.int .u64 300, .int .u64 0] 22)) (Wrote w [172, 2, 0] 0) := by
  have h := write_any [300, 0] 2 rfl (by decide) (by intro n hn; simp at hn; omega) _ 2 _ (rdv_new w [300, 0])
  have e1 : wrL [300, 0] = [172, 2, 0] := by decide +kernel
  have e2 : wrE [300, 0] = 0 := by decide +kernel
  rw [e1, e2] at h
  exact h.mono fun _ _ h => wrote_new h
theorem b2 (A : Option Addr) (c : Nat) (hc : 3 ≤ c) (w : World) (h : Rd w w.heap.size A [172, 2, 0]) : Calls Try.prog 28 #[.slice A 3 c, .int .i64 0] w (ReadP w 300 2 0) :=
  read_any [172, 2, 0] 3 rfl (by intro b hb; simp at hb; omega) 0 A c hc w h 300 2 0 (by decide +kernel)
theorem b3 (A : Option Addr) (c : Nat) (hc : 3 ≤ c) (w : World) (h : Rd w w.heap.size A [172, 2, 0]) : Calls Try.prog 29 #[.slice A 3 c] w (AllP w [300, 0] 0) :=
  all_any [172, 2, 0] 3 rfl (by decide) (by intro b hb; simp at hb; omega) A c hc w h [300, 0] 0 (by decide +kernel)
theorem b4 (w : World) : Calls Try.prog 28 #[.slice (some ⟨w.heap.size, 0, none⟩) 2 2, .int .i64 0] (w.alloc (.cells #[.int .u8 128, .int .u8 0] 5)) (ReadP w 0 0 1) :=
  (read_any [128, 0] 2 rfl (by intro b hb; simp at hb; omega) 0 _ 2 (Nat.le_refl _) _ (rd_new w [128, 0]) 0 0 1 (by decide +kernel)).mono fun _ _ ⟨h1, h2⟩ => ⟨h1, from_new h2⟩
theorem b5 (w : World) : Calls Try.prog 28 #[.slice (some ⟨w.heap.size, 0, none⟩) 1 1, .int .i64 0] (w.alloc (.cells #[.int .u8 128] 5)) (ReadP w 0 0 7) :=
  (read_any [128] 1 rfl (by intro b hb; simp at hb; omega) 0 _ 1 (Nat.le_refl _) _ (rd_new w [128]) 0 0 7 (by decide +kernel)).mono fun _ _ ⟨h1, h2⟩ => ⟨h1, from_new h2⟩
theorem b6 (A : Option Addr) (c : Nat) (w : World) (h : Rd w w.heap.size A [172, 2, 0]) : Calls Try.prog 37 #[.slice A 3 c, .slice (some ⟨w.heap.size, 0, none⟩) 3 3] (w.alloc (.cells #[.int .u8 172, .int .u8 2, .int .u8 0] 5)) fun e w' => e = .returned (.bool true) ∧ Below w.heap.size w w' :=
  (sameB_any _ A _ c 3 [172, 2, 0] [172, 2, 0] (by decide) (h.on (one_below w _)) (rd_new w [172, 2, 0])).mono fun _ _ ⟨h1, h2⟩ => ⟨h1, from_new h2⟩
theorem b7 (A : Option Addr) (c : Nat) (w : World) (h : RdV w w.heap.size A (nc [300, 0])) : Calls Try.prog 38 #[.slice A 2 c, .slice (some ⟨w.heap.size, 0, none⟩) 2 2] (w.alloc (.cells #[.int .u64 300, .int .u64 0] 22)) fun e w' => e = .returned (.bool true) ∧ Below w.heap.size w w' :=
  (sameN_any _ A _ c 2 [300, 0] [300, 0] (by decide) (h.on (one_below w _)) (rdv_new w [300, 0])).mono fun _ _ ⟨h1, h2⟩ => ⟨h1, from_new h2⟩

set_option maxHeartbeats 2000000 in
theorem vbegun_true (w : World) : Calls Try.prog 33 #[] w fun e w' => e = .returned (.bool true) ∧ Below w.heap.size w w' := by
  go_enter Try.func33, Try.ntmps33
  go_wp2_with fail
  refine (b1 w).mono ?_
  rintro e w1_ ⟨A, c, rfl, hc, Rq, Bq⟩
  have HB := Lib.hid Bq
  clear Bq
  have HR1 := Lib.hid Rq; clear Rq
  have HC := Lib.hid hc; clear hc
  go_wp2_with fail
  refine (b2 A c HC.out w1_ HR1.out).mono ?_
  rintro e w2_ ⟨rfl, Bq⟩
  replace HR1 := Lib.hid (HR1.out.on Bq)
  replace HB := Lib.hid (HB.out.trans (Bq.mono HB.out.size))
  clear Bq
  go_wp2_with fail
  refine (b3 A c HC.out w2_ HR1.out).mono ?_
  rintro e w3_ ⟨A2, c2, rfl, -, Rq, Bq⟩
  replace HR1 := Lib.hid (HR1.out.on Bq)
  replace HB := Lib.hid (HB.out.trans (Bq.mono HB.out.size))
  clear Bq
  have HR2 := Lib.hid Rq; clear Rq
  go_wp2_with fail
  refine (b4 w3_).mono ?_
  rintro e w4_ ⟨rfl, Bq⟩
  replace HR1 := Lib.hid (HR1.out.on Bq)
  replace HR2 := Lib.hid (HR2.out.on Bq)
  replace HB := Lib.hid (HB.out.trans (Bq.mono HB.out.size))
  clear Bq
  go_wp2_with fail
  refine (b5 w4_).mono ?_
  rintro e w5_ ⟨rfl, Bq⟩
  replace HR1 := Lib.hid (HR1.out.on Bq)
  replace HR2 := Lib.hid (HR2.out.on Bq)
  replace HB := Lib.hid (HB.out.trans (Bq.mono HB.out.size))
  clear Bq
  go_wp2_with fail
  refine (b6 A c w5_ HR1.out).mono ?_
  rintro e w6_ ⟨rfl, Bq⟩
  replace HR1 := Lib.hid (HR1.out.on Bq)
  replace HR2 := Lib.hid (HR2.out.on Bq)
  replace HB := Lib.hid (HB.out.trans (Bq.mono HB.out.size))
  clear Bq
  go_wp2_with fail
  refine (b7 A2 c2 w6_ HR2.out).mono ?_
  rintro e w7_ ⟨rfl, Bq⟩
  replace HR1 := Lib.hid (HR1.out.on Bq)
  replace HR2 := Lib.hid (HR2.out.on Bq)
  replace HB := Lib.hid (HB.out.trans (Bq.mono HB.out.size))
  clear Bq
  go_wp2_with fail
  refine (fold_any (-1) (by decide) (by decide) w7_).mono ?_
  rintro e w_ ⟨rfl, rfl⟩
  go_wp2_with fail
  refine (fold_any 2 (by decide) (by decide) w7_).mono ?_
  rintro e w_ ⟨rfl, rfl⟩
  go_wp2_with fail
  refine (unfold_any 3 (by decide) w7_).mono ?_
  rintro e w_ ⟨rfl, rfl⟩
  go_wp2
  go_ret
  exact ⟨rfl, HB.out⟩
end Go.Proofs.Ytjogccpnhcnedaa
