/- Texts of this proof, one behind the other; each fact names its conditions. -/
import Derived.Test.YtbddcokjkdoaaaaGreatSN2
import Derived.Test.YtbddcokjkdoaaaaGreatSN7
namespace Go.Proofs.YtbddcokjkdoaaaaGreat
set_option maxRecDepth 100000
set_option linter.unusedVariables false
open Go.RowKit Go.Shelf
def okT (top x : Int) : Bool := decide (0 ≤ x ∧ x ≤ top)
def fE (xs : List Int) (top : Int) : Int := if okN top = false then 3 else if 300 < xs.length then 2 else eachS (ckS (okT top) 0) id (-1) xs
set_option maxHeartbeats 400000 in
theorem okt_any (x top : Int) (T : Nat) (w : World) (hT : w.heap[T]? = some (.cells #[.int .i64 top] 3 (0, 0))) :
    Calls Tryz.prog 200 (#[.int .i64 x] ++ #[.pointer (some ⟨T, 0, none⟩)]) w fun e w' => e = .returned (.bool (okT top x)) ∧ w = w' := by
  show Calls Tryz.prog 200 #[.int .i64 x, .pointer (some ⟨T, 0, none⟩)] w _
  have hc : w.cell? ⟨T, 0, none⟩ = some (.int .i64 top) := (cell_at hT _).trans rfl
  clear hT
  by_cases h1 : 0 ≤ x
  · have t1 : decide ((0 : Int) ≤ x) = true := by simpa using h1
    by_cases h2 : x ≤ top
    · have e : okT top x = true := by unfold okT; simp; omega
      have t2 : decide (x ≤ top) = true := by simpa using h2
      rw [e]
      go_enter Tryz.func200, Tryz.ntmps200
      go_wp2
      go_ret
      exact ⟨rfl, rfl⟩
    · have e : okT top x = false := by unfold okT; simp; omega
      have t2 : decide (x ≤ top) = false := by simpa using h2
      rw [e]
      go_enter Tryz.func200, Tryz.ntmps200
      go_wp2
      go_ret
      exact ⟨rfl, rfl⟩
  · have e : okT top x = false := by unfold okT; simp; omega
    have t1 : decide ((0 : Int) ≤ x) = false := by simpa using h1
    rw [e]
    go_enter Tryz.func200, Tryz.ntmps200
    go_wp2
    go_ret
    exact ⟨rfl, rfl⟩
theorem entersT : ∀ args w, (callFunc 200 args).run Tryz.prog w = .ok (.enter 200 args) w := enters_of Tryz.func200 (by kernel_rfl) rfl
set_option maxHeartbeats 1000000 in
theorem fcheck_any (xs : List Int) (n : Nat) (hn : xs.length = n) (hn2 : n ≤ 9223372036854775807) (top : Int) (A : Option Addr) (c : Nat) (w : World) (h : RdV w w.heap.size A (zc xs)) :
    Calls Tryz.prog 159 #[.slice A n c, .int .i64 top] w fun e w' => e = .returned (.int .i64 (fE xs top)) ∧ Below w.heap.size w w' := by
  obtain ⟨e0, he0⟩ : ∃ e0, fE xs top = e0 := ⟨_, rfl⟩
  rw [he0]
  unfold fE at he0
  rw [hn] at he0
  have HN := Lib.hid (node_any top)
  by_cases hk : okN top = false
  · rw [if_pos hk] at he0
    subst he0
    rw [hk] at HN
    have HR := Lib.hid (range1 0 false 3 rfl)
    clear hk h hn
    go_enter Tryz.func159, Tryz.ntmps159
    go_wp2_with fail
    refine (HN.out _).mono ?_
    rintro e _ ⟨rfl, rfl⟩
    go_wp2_with fail
    refine (HR.out _ _ (World.size_alloc _ _)).mono ?_
    rintro e w2 ⟨rfl, B2⟩
    have HB2 : Hid (Below w.heap.size w w2) := (one_below w _).trans (B2.mono (by simp))
    clear B2
    go_wp2
    go_ret
    exact ⟨rfl, HB2.out⟩
  · rw [if_neg hk] at he0
    have hk1 : okN top = true := by simpa using hk
    have htop : 0 ≤ top ∧ top ≤ 1048576 := by unfold okN at hk1; simpa using hk1
    rw [hk1] at HN
    have HR := Lib.hid (range1 0 true 0 rfl)
    have hcl : ∀ V, V.heap[w.heap.size]? = some (.cells #[.int .i64 top] 3 (0, 0)) → w.heap.size < V.heap.size → RdV V V.heap.size A (zc xs) → Calls Tryz.prog 199 #[.slice A n c, .func (.func 200) #[] #[.pointer (some ⟨w.heap.size, 0, none⟩)]] V fun e w' => e = .returned (.int .i64 (eachS (ckS (okT top) 0) id (-1) xs)) ∧ Below V.heap.size V w' := fun V hV hs hR =>
      cfalls_any 200 #[.pointer (some ⟨w.heap.size, 0, none⟩)] (okT top) (fun x hx => by unfold okT at hx; simp at hx; omega) xs n hn hn2 A c V hR entersT (fun x V2 hV2 => okt_any x top w.heap.size V2 ((hV2.block _ hs).trans hV))
    have HX := Lib.hid h
    have HCl := Lib.hid hcl
    clear hcl hk hk1 htop h hn
    generalize eachS (ckS (okT top) 0) id (-1) xs = r at *
    obtain ⟨V0, hV0⟩ : ∃ V0, V0 = w.alloc (.cells #[.int .i64 top] 3) := ⟨_, rfl⟩
    have H0 : Hid (Below w.heap.size w V0 ∧ w.heap.size + 1 = V0.heap.size ∧ V0.heap[w.heap.size]? = some (.cells #[.int .i64 top] 3 (0, 0))) := by
      rw [hV0]; exact ⟨one_below _ _, (World.size_alloc _ _).symm, World.alloc_heap_new _ _⟩
    by_cases h3 : 300 < n
    · rw [if_pos h3] at he0
      subst he0
      have t0 : decide ((300 : Int) < (n : Int)) = true := by simp; omega
      have t1 : decide (300 < n) = true := by simpa using h3
      clear h3
      go_enter Tryz.func159, Tryz.ntmps159
      go_wp2_with fail
      refine (HN.out _).mono ?_
      rintro e _ ⟨rfl, rfl⟩
      go_wp2_with fail
      refine (HR.out _ _ (World.size_alloc _ _)).mono ?_
      rintro e w2 ⟨rfl, B2⟩
      have HB2 : Hid (Below w.heap.size w w2) := (one_below w _).trans (B2.mono (by simp))
      clear B2
      go_wp2
      go_ret
      exact ⟨rfl, HB2.out⟩
    · rw [if_neg h3] at he0
      have t0 : decide ((300 : Int) < (n : Int)) = false := by simp; omega
      have t1 : decide (300 < n) = false := by simpa using h3
      have HE := Lib.hid he0
      clear h3 he0
      go_enter Tryz.func159, Tryz.ntmps159
      go_wp2_with fail
      rw [← hV0]
      clear hV0
      refine (HN.out _).mono ?_
      rintro e _ ⟨rfl, rfl⟩
      go_wp2_with fail
      refine (HR.out _ _ rfl).mono ?_
      rintro e w2 ⟨rfl, B2⟩
      have HB2 : Hid (Below w.heap.size w w2) := H0.out.1.trans (B2.mono (by have := H0.out.2.1; omega))
      have HC := Lib.hid (HCl.out w2 ((B2.block _ (by have := H0.out.2.1; omega)).trans H0.out.2.2) (by have := H0.out.2.1; have := B2.size; omega) (HX.out.on HB2.out))
      clear B2
      go_wp2_with fail
      refine HC.out.mono ?_
      rintro e w3 ⟨rfl, B3⟩
      have HB3 : Hid (Below w.heap.size w w3) := HB2.out.trans (B3.mono HB2.out.size)
      clear B3
      go_wp2
      go_ret
      exact ⟨ret_i64 HE.out, HB3.out⟩
end Go.Proofs.YtbddcokjkdoaaaaGreat
