/- Words for the laws of runs: what Split and Merge answer, lengths as letters. -/
import Derived.Test.YthldcdcpflamaaaJGRN10
namespace Go.Proofs.Ythldcdcpflamaaa
set_option maxRecDepth 100000
set_option linter.unusedVariables false
open Go.RowKit Go.Shelf

def SpN (w : World) (n1 n2 : Nat) (R : List Ri) (l : List Nat) (err : Int) (e : Ending) (w' : World) : Prop :=
  ∃ A1 c1 A2 c2, e = .returned (.tuple #[.slice A1 n1 c1, .slice A2 n2 c2, .int .i64 err]) ∧ (n2 ≤ c2 ∧ (A2 = none → c2 = 0)) ∧ RdV w' w'.heap.size A1 (rcs R) ∧ RdV w' w'.heap.size A2 (zc (ns l)) ∧ Below w.heap.size w w'
theorem spN {w : World} {R : List Ri} {l : List Nat} {err : Int} {e : Ending} {w' : World} {n1 n2 : Nat} (h : SpP w R l err e w') (h1 : R.length = n1) (h2 : l.length = n2) : SpN w n1 n2 R l err e w' := by
  obtain ⟨A1, c1, A2, c2, he, -, hc, r1, r2, hb⟩ := h
  subst h1 h2
  exact ⟨A1, c1, A2, c2, he, hc, r1, r2, hb⟩
def IntsN (w : World) (n : Nat) (l : List Nat) (err : Int) (e : Ending) (w' : World) : Prop :=
  ∃ A c, e = .returned (.tuple #[.slice A n c, .int .i64 err]) ∧ n ≤ c ∧ (A = none → c = 0) ∧ RdV w' w'.heap.size A (zc (ns l)) ∧ Below w.heap.size w w'
theorem intsN {w : World} {l : List Nat} {err : Int} {e : Ending} {w' : World} {n : Nat} (h : IntsP w l err e w') (h1 : l.length = n) : IntsN w n l err e w' := by
  subst h1; exact h
theorem split_n (xs : List Int) (n : Nat) (hn : xs.length = n) (hn2 : n ≤ 9223372036854775807) (k : Int) (n1 n2 : Nat) (h1 : (spR xs k).length = n1) (h2 : (spL xs k).length = n2) (A : Option Addr) (c : Nat) (hc : n ≤ c) (w : World) (h : RdV w w.heap.size A (zc xs)) :
    Calls Try.prog 31 #[.slice A n c, .int .i64 k] w (SpN w n1 n2 (spR xs k) (spL xs k) (spE xs k)) :=
  (split_any xs n hn hn2 k A c hc w h).mono fun _ _ h => spN h h1 h2
theorem split_i (l : List Nat) (hl : Rising l) (n : Nat) (hn : l.length = n) (k : Nat) (hk : 2 ≤ k) (hk2 : k ≤ 300) (R : List Rn) (r : List Nat) (hR : lng k (rs l) = R) (hr : flatR (sht k (rs l)) = r) (n1 n2 : Nat) (h1 : R.length = n1) (h2 : r.length = n2) (A : Option Addr) (c : Nat) (hc : n ≤ c) (w : World) (h : RdV w w.heap.size A (zc (ns l))) :
    Calls Try.prog 31 #[.slice A n c, .int .i64 (k : Int)] w (SpN w n1 n2 (rz R) r 0) := by
  subst hR hr
  exact (split_in l hl n hn k hk hk2 A c hc w h).mono fun _ _ h => spN h (by rw [rz_length]; exact h1) h2
theorem merge_i (R : List Rn) (hR : OkR R) (M1 : List Nat) (M2 : Int) (n1 : Nat) (hn1 : R.length = n1) (l : List Nat) (hl : Rising l) (hM : mg R l = (M1, M2)) (n2 n : Nat) (hn2 : l.length = n2) (hn : M1.length = n) (A1 A2 : Option Addr) (c1 c2 : Nat) (hA2 : A2 = none → c2 = 0) (w : World) (h1 : RdV w w.heap.size A1 (rcs (rz R))) (h2 : RdV w w.heap.size A2 (zc (ns l))) :
    Calls Try.prog 32 #[.slice A1 n1 c1, .slice A2 n2 c2] w (IntsN w n M1 M2) :=
  (merge_in R hR M1 M2 n1 hn1 l hl hM n2 hn2 A1 A2 c1 c2 hA2 w h1 h2).mono fun _ _ h => intsN h hn
theorem merge_n (r : List Ri) (n1 : Nat) (hn1 : r.length = n1) (hz1 : n1 ≤ 9223372036854775807) (xs : List Int) (n2 : Nat) (hn2 : xs.length = n2) (hz2 : n2 ≤ 9223372036854775807) (M1 : List Nat) (M2 : Int) (hM : mgA r xs = (M1, M2)) (n : Nat) (hn : M1.length = n) (A1 A2 : Option Addr) (c1 c2 : Nat) (hA2 : A2 = none → c2 = 0) (w : World) (h1 : RdV w w.heap.size A1 (rcs r)) (h2 : RdV w w.heap.size A2 (zc xs)) :
    Calls Try.prog 32 #[.slice A1 n1 c1, .slice A2 n2 c2] w (IntsN w n M1 M2) := by
  have h := merge_any r n1 hn1 hz1 xs n2 hn2 hz2 A1 A2 c1 c2 hA2 w h1 h2
  rw [hM] at h
  exact h.mono fun _ _ h => intsN h hn
theorem sameI_xR (xs : List Int) (n : Nat) (hn : xs.length = n) (h2 : n ≤ 9223372036854775807) (A B : Option Addr) (c d : Nat) (w : World) (hA : RdV w w.heap.size A (zc xs)) (hB : RdV w w.heap.size B (zc xs)) :
    Calls Try.prog 25 #[.slice A n c, .slice B n d] w fun e w' => e = .returned (.bool true) ∧ Below w.heap.size w w' := by
  have h := sameI_any w A B c d xs xs (by omega) hA hB
  rw [hn] at h
  simpa using h
theorem sameI_t (l : List Nat) (n : Nat) (hn : l.length = n) (h2 : n ≤ 9223372036854775807) (A B : Option Addr) (c d : Nat) (w : World) (hA : RdV w w.heap.size A (zc (ns l))) (hB : RdV w w.heap.size B (zc (ns l))) :
    Calls Try.prog 25 #[.slice A n c, .slice B n d] w fun e w' => e = .returned (.bool true) ∧ Below w.heap.size w w' :=
  sameI_xR (ns l) n (by rw [ns_length]; exact hn) h2 A B c d w hA hB
theorem sameR_t (r : List Ri) (n : Nat) (hn : r.length = n) (h2 : n ≤ 1000000000) (A B : Option Addr) (c d : Nat) (w : World) (hA : RdV w w.heap.size A (rcs r)) (hB : RdV w w.heap.size B (rcs r)) :
    Calls Try.prog 37 #[.slice A n c, .slice B n d] w fun e w' => e = .returned (.bool true) ∧ Below w.heap.size w w' := by
  have h := sameR_any w A B c d r r (by omega) hA hB
  rw [hn] at h
  simpa using h
theorem lng_ge (k : Nat) (R : List Rn) : ∀ p ∈ lng k R, k ≤ p.2 := fun p hp => by
  unfold lng at hp
  have := (List.mem_filter.1 hp).2
  simpa using this
/-- At each round's head: nothing but how far it is. -/
def FarRel (n : Nat) (w : World) (p : Value) (wr : World) : Prop := ∃ i : Nat, i ≤ n ∧ p = .int .i64 (i : Int) ∧ Below w.heap.size w wr
end Go.Proofs.Ythldcdcpflamaaa
