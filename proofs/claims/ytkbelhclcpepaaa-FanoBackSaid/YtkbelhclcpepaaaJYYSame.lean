/- Are two of them one? When their bits are, it says so. -/
import Derived.Test.YtkbelhclcpepaaaJYYBeg
namespace Go.Proofs.Ytkbelhclcpepaaa
set_option maxRecDepth 100000
set_option linter.unusedVariables false
open Go.RowKit Go.Shelf

def WrP (w : World) (n t k ll lh : Int) (n1 n2 : Nat) (b1 b2 : List Nat) (err : Int) (e : Ending) (w' : World) : Prop :=
  ∃ A1 c1 A2 c2, e = .returned (.tuple #[.agg #[.int .i64 n, .int .i64 t, .int .i64 k, .int .i64 ll, .slice A1 n1 c1, .int .i64 lh, .slice A2 n2 c2], .int .i64 err]) ∧ Rd w' w'.heap.size A1 b1 ∧ Rd w' w'.heap.size A2 b2 ∧ Below w.heap.size w w'
theorem box7_at2 {w V : World} {a b c d e f g : Value} {t : TypeId} {o : Obj} (h : Below (w.heap.size + 1 + 1) ((w.alloc o).alloc (.cells #[a, b, c, d, e, f, g] t)) V) :
    V.cell? ⟨w.heap.size + 1, 0, none⟩ = some a ∧ V.cell? ⟨w.heap.size + 1, 1, none⟩ = some b ∧ V.cell? ⟨w.heap.size + 1, 2, none⟩ = some c ∧ V.cell? ⟨w.heap.size + 1, 3, none⟩ = some d ∧ V.cell? ⟨w.heap.size + 1, 4, none⟩ = some e ∧ V.cell? ⟨w.heap.size + 1, 5, none⟩ = some f ∧ V.cell? ⟨w.heap.size + 1, 6, none⟩ = some g := by
  have := @box7_at (w.alloc o) V a b c d e f g t (by rw [World.size_alloc]; exact h)
  rw [World.size_alloc] at this
  exact this
set_option maxHeartbeats 2000000 in
theorem sfano_true (n t k ll lh : Int) (n1 n2 c1 c2 d1 d2 : Nat) (A1 A2 B1 B2 : Option Addr) (w : World)
    (H1 : Hid (∀ V, Below w.heap.size w V → Calls Try.prog 30 #[.agg #[.int .i64 ll, .slice A1 n1 c1], .agg #[.int .i64 ll, .slice B1 n1 d1]] V fun e w' => e = .returned (.bool true) ∧ Below V.heap.size V w'))
    (H2 : Hid (∀ V, Below w.heap.size w V → Calls Try.prog 30 #[.agg #[.int .i64 lh, .slice A2 n2 c2], .agg #[.int .i64 lh, .slice B2 n2 d2]] V fun e w' => e = .returned (.bool true) ∧ Below V.heap.size V w')) :
    Calls Try.prog 56 #[.agg #[.int .i64 n, .int .i64 t, .int .i64 k, .int .i64 ll, .slice A1 n1 c1, .int .i64 lh, .slice A2 n2 c2], .agg #[.int .i64 n, .int .i64 t, .int .i64 k, .int .i64 ll, .slice B1 n1 d1, .int .i64 lh, .slice B2 n2 d2]] w fun e w' => e = .returned (.bool true) ∧ Below w.heap.size w w' := by
  go_enter Try.func56, Try.ntmps56
  go_wp2_with fail
  refine (H1.out _ (up2 w _ _)).mono ?_
  rintro e w1 ⟨rfl, Bq⟩
  rw [World.size_alloc, World.size_alloc] at Bq
  have B1 : Below (w.heap.size + 1) (w.alloc (.cells #[.int .i64 n, .int .i64 t, .int .i64 k, .int .i64 ll, .slice A1 n1 c1, .int .i64 lh, .slice A2 n2 c2] 70)) w1 := by
    have q := one_below (w.alloc (.cells #[.int .i64 n, .int .i64 t, .int .i64 k, .int .i64 ll, .slice A1 n1 c1, .int .i64 lh, .slice A2 n2 c2] 70)) (.cells #[.int .i64 n, .int .i64 t, .int .i64 k, .int .i64 ll, .slice B1 n1 d1, .int .i64 lh, .slice B2 n2 d2] 70)
    rw [World.size_alloc] at q
    exact q.trans (Bq.mono (by omega))
  obtain ⟨pa0, pa1, pa2, pa3, pa4, pa5, pa6⟩ := box7_at B1
  obtain ⟨pb0, pb1, pb2, pb3, pb4, pb5, pb6⟩ := box7_at2 Bq
  have HB : Hid (Below w.heap.size w w1) := (one_below w _).trans (B1.mono (by omega))
  clear Bq B1
  go_wp2_with fail
  refine (H2.out _ HB.out).mono ?_
  rintro e w2 ⟨rfl, Bq⟩
  replace HB : Hid (Below w.heap.size w w2) := HB.out.trans (Bq.mono HB.out.size)
  clear Bq
  go_wp2
  go_ret
  exact ⟨rfl, HB.out⟩
end Go.Proofs.Ytkbelhclcpepaaa
