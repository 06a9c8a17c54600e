/- The document's own UnaryList, UnaryCode, ReadErr and UnaryRead, for whatever they are handed. -/
import Derived.Test.YtkbelhclcpepaaaRefU
namespace Go.Proofs.Ytkbelhclcpepaaa
open Go.RowKit

set_option maxRecDepth 100000 in
set_option maxHeartbeats 1000000 in
theorem rcode_big (n : Nat) (h : 8192 ≤ n) (hn : n < 18446744073709551616) (w : World) :
    Calls Try.prog 23 #[.int .u64 (n : Int)] w (Gave w [] 3) := by
  have t : (8191 : Int) < (n : Int) := by omega
  have HB := Lib.hid (one_below w (.cells #[.int .i64 0, .slice none 0 0] 25))
  go_enter Try.func23, Try.ntmps23
  go_wp2
  exact bodyPost_ret (v := .tuple #[.agg #[.int .i64 0, .slice none 0 0], .int .i64 3]) (by simp [results, Try.results23, go_sem]) rfl ⟨none, 0, rfl, .inl rfl, HB.out⟩

set_option maxRecDepth 100000 in
set_option maxHeartbeats 1000000 in
theorem rcode_ok (n : Nat) (h : n ≤ 8191) (L : List Bool) (hL : L = uc n) (w : World) :
    Calls Try.prog 23 #[.int .u64 (n : Int)] w (Gave w L 0) := by
  have HC := Lib.hid (uList_any n h L hL)
  have t : ¬ (8191 : Int) < (n : Int) := by omega
  have hl : L.length = n + 1 := by rw [hL, uc_length]
  have HLl := Lib.hid hl
  clear hl hL
  have HB := Lib.hid (one_below w (.cells #[.int .i64 0, .slice none 0 0] 25))
  have HR := Lib.hid (World.alloc_heap_new w (.cells #[.int .i64 0, .slice none 0 0] 25))
  go_enter Try.func23, Try.ntmps23
  go_wp2_with fail
  refine (HC.out _).mono ?_
  rintro e w1 ⟨A1, c1, rfl, ho1, hb1⟩
  rw [World.size_alloc] at hb1
  have HO := Lib.hid (own_rdv ho1); clear ho1
  have HB1 := Lib.hid hb1; clear hb1
  go_wp2_with fail
  refine (packBits_any L L.length rfl (by have := HLl.out; omega) A1 c1 w1 HO.out).mono ?_
  rintro e w5 ⟨A4, c4, rfl, R4, B4⟩
  have hz := HB1.out.size
  rw [World.size_alloc] at hz
  obtain ⟨⟨d0, d1, g0, g1⟩, HG⟩ := gv_store (w := w) (L := L) (c := c4) (r := w.heap.size) R4 (Nat.le_refl _) ((B4.block _ (by omega)).trans ((HB1.out.block _ (by omega)).trans HR.out)) ((HB.out.trans (HB1.out.mono (by omega))).trans (B4.mono (by omega)))
  clear R4 B4 hz
  go_wp2
  exact bodyPost_ret (v := .tuple #[.agg #[.int .i64 (L.length : Int), .slice A4 (pack L).length c4], .int .i64 0]) (by simp [results, Try.results23, go_sem, d0, d1]) rfl HG.out

/-- UnaryCode answers what Code answers. -/
theorem rcode_any (n : Nat) (hn : n < 18446744073709551616) (L : List Bool) (e0 : Int) (he : e0 = if 8192 ≤ n then 3 else 0) (hL : L = if 8192 ≤ n then [] else uc n) (w : World) :
    Calls Try.prog 23 #[.int .u64 (n : Int)] w (Gv w (L.length : Int) (pack L).length (pack L) e0) := by
  by_cases h : 8192 ≤ n
  · rw [if_pos h] at he hL
    subst he hL
    exact rcode_big n h hn w
  · rw [if_neg h] at he hL
    subst he
    exact rcode_ok n (by omega) L hL w

end Go.Proofs.Ytkbelhclcpepaaa
