/- Plain facts about unary codes: what All answers, in the codes' own words. -/
import Derived.Test.YtgibbokhdfblmaaUAll
import Derived.Test.YtgibbokhdfblmaaUPureA
namespace Go.Proofs.Ytgibbokhdfblmaa
open Go.RowKit

/-- What All answers, in the codes' own words. -/
theorem all_l (l : List Bool) (hl : l.length ≤ 8192) (A : Option Addr) (c m : Nat) (hm : m ≤ 8192) (ns : List Nat) (to : Nat) (hlen : m ≤ (prs 0 l).length) (hns : ns = (prs 0 l).take m) (hto : to = (ucs ns).length) (w : World) (h : Rd w w.heap.size A (pack l)) :
    Calls Try.prog 18 #[.agg #[.int .i64 (l.length : Int), .slice A (pack l).length c], .int .i64 (m : Int)] w (AllP w ns to 0) := by
  refine all_in l hl A c m w h hm ns to 0 (.inr ⟨by rw [pos_prs_length l 0 0]; exact hlen, ?_, ?_, rfl⟩)
  · rw [gaps_take, gaps_pos l 0 0 (Nat.le_refl _) (by omega), Nat.sub_zero]; exact hns
  · rw [aft_eq, aft_pos l 0 0 m (Nat.le_refl _) (by omega), Nat.zero_add, Nat.sub_zero, hto, hns]
theorem all_short (l : List Bool) (hl : l.length ≤ 8192) (A : Option Addr) (c m : Nat) (hm : m ≤ 8192) (hlen : (prs 0 l).length < m) (w : World) (h : Rd w w.heap.size A (pack l)) :
    Calls Try.prog 18 #[.agg #[.int .i64 (l.length : Int), .slice A (pack l).length c], .int .i64 (m : Int)] w (AllP w [] 0 7) :=
  all_in l hl A c m w h hm [] 0 7 (.inl ⟨by rw [pos_prs_length l 0 0]; exact hlen, rfl, rfl, rfl⟩)
end Go.Proofs.Ytgibbokhdfblmaa
