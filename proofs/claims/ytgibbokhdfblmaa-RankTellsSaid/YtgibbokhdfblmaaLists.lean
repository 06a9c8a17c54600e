/- What the calls of bits answer for sequences that are right, each with its conditions. -/
import Derived.Test.YtgibbokhdfblmaaOpen
namespace Go.Proofs.Ytgibbokhdfblmaa
open Go.RowKit

theorem nb_snoc (n k : Nat) : nb n (k + 1) = nb (n / 2) k ++ [n % 2 == 1] := by
  apply List.ext_getElem
  · simp [nb]
  · intro i h1 h2
    rw [nb_length] at h1
    rw [List.getElem_append]
    split
    · rename_i h3
      rw [nb_length] at h3
      simp only [nb, List.getElem_map, List.getElem_range]
      rw [Nat.div_div_eq_div_mul]
      have e : k + 1 - 1 - i = (k - 1 - i) + 1 := by omega
      rw [e, Nat.pow_succ, Nat.mul_comm]
    · rename_i h3
      rw [nb_length] at h3
      have e : i = k := by omega
      subst e
      simp [nb]
theorem num_nb : ∀ (k n : Nat), num (nb n k) = n % 2 ^ k := by
  intro k
  induction k with
  | zero => intro n; simp [nb, num, Nat.mod_one]
  | succ k ih =>
    intro n
    rw [nb_snoc, num_snoc, ih]
    have e : (n % 2 == 1).toNat = n % 2 := by
      rcases (show n % 2 = 0 ∨ n % 2 = 1 by omega) with h | h <;> rw [h] <;> rfl
    rw [e, Nat.pow_succ, Nat.mul_comm (2 ^ k) 2, Nat.mod_mul]
    omega
theorem num_nb_small (n k : Nat) (h : n / 2 ^ k = 0) : num (nb n k) = n := by
  rw [num_nb]
  apply Nat.mod_eq_of_lt
  rcases Nat.div_eq_zero_iff.1 h with h | h
  · have := Nat.two_pow_pos k; omega
  · exact h

/-- Check of what is right. -/
theorem check_l (l : List Bool) (hl : l.length ≤ 8192) (A : Option Addr) (c : Nat) (w : World) (h : Rd w w.heap.size A (pack l)) :
    Calls Try.prog 43 #[.agg #[.int .i64 (l.length : Int), .slice A (pack l).length c]] w fun e w' => e = .returned (.int .i64 0) ∧ Below w.heap.size w w' := by
  have := check_any (l.length : Int) A c (pack l) w (pack_lt l) h
  rwa [chk_pack l hl] at this
theorem same_l (l : List Bool) (hl : l.length ≤ 8192) (A B : Option Addr) (c d : Nat) (w : World) (hA : Rd w w.heap.size A (pack l)) (hB : Rd w w.heap.size B (pack l)) :
    Calls Try.prog 26 #[.agg #[.int .i64 (l.length : Int), .slice A (pack l).length c], .agg #[.int .i64 (l.length : Int), .slice B (pack l).length d]] w fun e w' => e = .returned (.bool true) ∧ Below w.heap.size w w' := by
  have h := sameBits_any w (l.length : Int) (l.length : Int) A B c d (pack l) (pack l) (by rw [pack_length]; omega) hA hB
  simpa using h
/-- Nothing against nothing. -/
theorem same_0 (A B : Option Addr) (c d : Nat) (w : World) (hA : Rd w w.heap.size A (pack [])) :
    Calls Try.prog 26 #[.agg #[.int .i64 0, .slice A 0 c], .agg #[.int .i64 0, .slice B 0 d]] w fun e w' => e = .returned (.bool true) ∧ Below w.heap.size w w' := by
  have h := sameBits_any w 0 0 A B c d [] [] (by simp) hA (.inl rfl)
  simpa using h
theorem put_l (l L : List Bool) (A : Option Addr) (c n k : Nat) (hk : k ≤ 64) (hn : n / 2 ^ k = 0) (hf : l.length + k ≤ 8192) (hn64 : n < 18446744073709551616) (hL : L = l ++ nb n k) (w : World) (h : Rd w w.heap.size A (pack l)) :
    Calls Try.prog 64 #[.agg #[.int .i64 (l.length : Int), .slice A (pack l).length c], .int .u64 (n : Int), .int .i64 (k : Int)] w (Gv w (L.length : Int) (pack L).length (pack L) 0) := put_ok l L A c n k w h hk hn hf hn64 hL
theorem cut_l (l L : List Bool) (hl : l.length ≤ 8192) (A : Option Addr) (c fr to : Nat) (h1 : fr ≤ to) (h2 : to ≤ l.length) (hL : L = (l.drop fr).take (to - fr)) (w : World) (h : Rd w w.heap.size A (pack l)) :
    Calls Try.prog 65 #[.agg #[.int .i64 (l.length : Int), .slice A (pack l).length c], .int .i64 (fr : Int), .int .i64 (to : Int)] w (Gv w (L.length : Int) (pack L).length (pack L) 0) := cut_ok l L hl A c fr to w h h1 h2 hL
theorem cut_l0 (l L : List Bool) (hl : l.length ≤ 8192) (A : Option Addr) (c to : Nat) (h2 : to ≤ l.length) (hL : L = l.take to) (w : World) (h : Rd w w.heap.size A (pack l)) :
    Calls Try.prog 65 #[.agg #[.int .i64 (l.length : Int), .slice A (pack l).length c], .int .i64 0, .int .i64 (to : Int)] w (Gv w (L.length : Int) (pack L).length (pack L) 0) := cut_ok l L hl A c 0 to w h (Nat.zero_le _) h2 (by rw [List.drop_zero, Nat.sub_zero]; exact hL)
theorem join_l (a b L : List Bool) (A B : Option Addr) (c d : Nat) (hf : a.length + b.length ≤ 8192) (hL : L = a ++ b) (w : World) (hA : Rd w w.heap.size A (pack a)) (hB : Rd w w.heap.size B (pack b)) :
    Calls Try.prog 42 #[.agg #[.int .i64 (a.length : Int), .slice A (pack a).length c], .agg #[.int .i64 (b.length : Int), .slice B (pack b).length d]] w (Gv w (L.length : Int) (pack L).length (pack L) 0) := by
  have h := join_in a b L (by omega) (by omega) A B c d w hA hB hL
  rw [if_neg (by omega), if_neg (by omega)] at h
  exact h
theorem join_l8 (a b : List Bool) (ha : a.length ≤ 8192) (hb : b.length ≤ 8192) (A B : Option Addr) (c d : Nat) (hf : 8192 < a.length + b.length) (w : World) (hA : Rd w w.heap.size A (pack a)) (hB : Rd w w.heap.size B (pack b)) :
    Calls Try.prog 42 #[.agg #[.int .i64 (a.length : Int), .slice A (pack a).length c], .agg #[.int .i64 (b.length : Int), .slice B (pack b).length d]] w (Gv w 0 0 (pack []) 8) := by
  have h := join_in a b _ ha hb A B c d w hA hB rfl
  rw [if_pos hf, if_pos hf] at h
  exact h
theorem get_l (l : List Bool) (hl : l.length ≤ 8192) (A : Option Addr) (c p k m : Nat) (h1 : k ≤ 64) (h2 : p + k ≤ l.length) (hm : m = num ((l.drop p).take k)) (w : World) (h : Rd w w.heap.size A (pack l)) :
    Calls Try.prog 41 #[.agg #[.int .i64 (l.length : Int), .slice A (pack l).length c], .int .i64 (p : Int), .int .i64 (k : Int)] w fun e w' => e = .returned (.tuple #[.int .u64 (m : Int), .int .i64 0]) ∧ Below w.heap.size w w' := by
  subst hm
  exact get_ok l hl A c p k w h h1 h2
/-- Put that answers an error. -/
theorem put_e (len : Int) (A : Option Addr) (c : Nat) (bs : List Nat) (n : Nat) (width err : Int) (hb : ∀ b ∈ bs, b < 256) (hn64 : n < 18446744073709551616) (he : putL len bs n width = err) (h0 : err ≠ 0) (w : World) (h : Rd w w.heap.size A bs) :
    Calls Try.prog 64 #[.agg #[.int .i64 len, .slice A bs.length c], .int .u64 (n : Int), .int .i64 width] w (Gv w 0 0 (pack []) err) := by
  have := put_any len A c bs n width w hb h hn64
  rw [he, if_neg h0] at this
  exact this
theorem cut_e (len : Int) (A : Option Addr) (c : Nat) (bs : List Nat) (fr to err : Int) (hb : ∀ b ∈ bs, b < 256) (he : cutE len bs fr to = err) (h0 : err ≠ 0) (w : World) (h : Rd w w.heap.size A bs) :
    Calls Try.prog 65 #[.agg #[.int .i64 len, .slice A bs.length c], .int .i64 fr, .int .i64 to] w (Gv w 0 0 (pack []) err) := by
  have := cut_any len A c bs fr to w hb h
  rw [he, if_neg h0] at this
  exact this
theorem join_e (lx ly : Int) (A B : Option Addr) (c d : Nat) (xs ys : List Nat) (err : Int) (hx : ∀ b ∈ xs, b < 256) (hy : ∀ b ∈ ys, b < 256) (he : joinE lx xs ly ys = err) (h0 : err ≠ 0) (w : World) (hA : Rd w w.heap.size A xs) (hB : Rd w w.heap.size B ys) :
    Calls Try.prog 42 #[.agg #[.int .i64 lx, .slice A xs.length c], .agg #[.int .i64 ly, .slice B ys.length d]] w (Gv w 0 0 (pack []) err) := by
  have := join_any lx ly A B c d xs ys w hx hA hy hB
  rw [he, if_neg h0] at this
  exact this
theorem get_e (len : Int) (A : Option Addr) (c : Nat) (bs : List Nat) (p width err : Int) (hb : ∀ b ∈ bs, b < 256) (he : getE len bs p width = err) (h0 : err ≠ 0) (w : World) (h : Rd w w.heap.size A bs) :
    Calls Try.prog 41 #[.agg #[.int .i64 len, .slice A bs.length c], .int .i64 p, .int .i64 width] w fun e w' => e = .returned (.tuple #[.int .u64 0, .int .i64 err]) ∧ Below w.heap.size w w' := by
  have := get_any len A c bs p width w hb h
  unfold getN at this
  rw [he, if_neg h0] at this
  exact this

/-- Where Put answers no error the bits are right, the width is one, and the number fits. -/
theorem putL_zero (len : Int) (bs : List Nat) (n : Nat) (width : Int) (hb : ∀ b ∈ bs, b < 256) (h : putL len bs n width = 0) :
    ∃ (l : List Bool) (k : Nat), len = (l.length : Int) ∧ bs = pack l ∧ width = (k : Int) ∧ k ≤ 64 ∧ n / 2 ^ k = 0 ∧ l.length + k ≤ 8192 := by
  unfold putL at h
  by_cases hc : chk len bs = 0
  · rw [if_neg (by omega)] at h
    obtain ⟨l, rfl, hl, rfl⟩ := chk_zero len bs hb hc
    by_cases hw : width < 0 ∨ 64 < width ∨ n / 2 ^ width.toNat ≠ 0
    · rw [if_pos hw] at h; omega
    · rw [if_neg hw] at h
      by_cases hf : 8192 < (l.length : Int) + width
      · rw [if_pos hf] at h; omega
      · obtain ⟨k, rfl⟩ := Int.eq_ofNat_of_zero_le (show 0 ≤ width by omega)
        rw [Int.toNat_natCast] at hw
        exact ⟨l, k, rfl, rfl, rfl, by omega, by omega, by omega⟩
  · rw [if_pos hc] at h; exact absurd h hc
theorem cutE_zero (len : Int) (bs : List Nat) (fr to : Int) (hb : ∀ b ∈ bs, b < 256) (h : cutE len bs fr to = 0) :
    ∃ (l : List Bool) (f t : Nat), len = (l.length : Int) ∧ bs = pack l ∧ fr = (f : Int) ∧ to = (t : Int) ∧ f ≤ t ∧ t ≤ l.length ∧ l.length ≤ 8192 := by
  unfold cutE at h
  by_cases hc : chk len bs = 0
  · rw [if_neg (by omega)] at h
    obtain ⟨l, rfl, hl, rfl⟩ := chk_zero len bs hb hc
    by_cases hw : fr < 0 ∨ to < fr ∨ (l.length : Int) < to
    · rw [if_pos hw] at h; omega
    · obtain ⟨f, rfl⟩ := Int.eq_ofNat_of_zero_le (show 0 ≤ fr by omega)
      obtain ⟨t, rfl⟩ := Int.eq_ofNat_of_zero_le (show 0 ≤ to by omega)
      exact ⟨l, f, t, rfl, rfl, rfl, rfl, by omega, by omega, hl⟩
  · rw [if_pos hc] at h; exact absurd h hc
theorem joinE_zero (lx ly : Int) (xs ys : List Nat) (hx : ∀ b ∈ xs, b < 256) (hy : ∀ b ∈ ys, b < 256) (h : joinE lx xs ly ys = 0) :
    ∃ (a b : List Bool), lx = (a.length : Int) ∧ xs = pack a ∧ ly = (b.length : Int) ∧ ys = pack b ∧ a.length + b.length ≤ 8192 := by
  unfold joinE at h
  by_cases hc : chk lx xs = 0
  · rw [if_neg (by omega)] at h
    by_cases hd : chk ly ys = 0
    · rw [if_neg (by omega)] at h
      obtain ⟨a, rfl, ha, rfl⟩ := chk_zero lx xs hx hc
      obtain ⟨b, rfl, hb, rfl⟩ := chk_zero ly ys hy hd
      by_cases hf : 8192 < (a.length : Int) + (b.length : Int)
      · rw [if_pos hf] at h; omega
      · exact ⟨a, b, rfl, rfl, rfl, rfl, by omega⟩
    · rw [if_pos hd] at h; exact absurd h hd
  · rw [if_pos hc] at h; exact absurd h hc
theorem getE_zero (len : Int) (bs : List Nat) (p width : Int) (hb : ∀ b ∈ bs, b < 256) (h : getE len bs p width = 0) :
    ∃ (l : List Bool) (q k : Nat), len = (l.length : Int) ∧ bs = pack l ∧ p = (q : Int) ∧ width = (k : Int) ∧ k ≤ 64 ∧ q + k ≤ l.length ∧ l.length ≤ 8192 := by
  unfold getE at h
  by_cases hc : chk len bs = 0
  · rw [if_neg (by omega)] at h
    obtain ⟨l, rfl, hl, rfl⟩ := chk_zero len bs hb hc
    by_cases hw : width < 0 ∨ 64 < width ∨ p < 0 ∨ (l.length : Int) < p
    · rw [if_pos hw] at h; omega
    · rw [if_neg hw] at h
      by_cases hs : (l.length : Int) - p < width
      · rw [if_pos hs] at h; omega
      · obtain ⟨q, rfl⟩ := Int.eq_ofNat_of_zero_le (show 0 ≤ p by omega)
        obtain ⟨k, rfl⟩ := Int.eq_ofNat_of_zero_le (show 0 ≤ width by omega)
        exact ⟨l, q, k, rfl, rfl, rfl, rfl, by omega, by omega, hl⟩
  · rw [if_pos hc] at h; exact absurd h hc
end Go.Proofs.Ytgibbokhdfblmaa
