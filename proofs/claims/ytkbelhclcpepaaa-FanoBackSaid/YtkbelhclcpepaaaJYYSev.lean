/- What is read of what was written; what is asked of it. -/
import Derived.Test.YtkbelhclcpepaaaJYYSix
namespace Go.Proofs.Ytkbelhclcpepaaa
set_option maxRecDepth 100000
set_option linter.unusedVariables false
open Go.RowKit Go.Shelf

theorem frd_w (l : List Nat) (n t k : Nat) (hn : l.length = n) (hn3 : n ≤ 300) (ht : t ≤ 1048576) (hle : ∀ x ∈ l, x ≤ t) (hu : Up 0 l) (hk : fw n t = k) (hz : n + t / 2 ^ k + 1 ≤ 8192) :
    frE (n : Int) (t : Int) (k : Int) ((loP k l).length : Int) (pack (loP k l)) ((fhi k l t).length : Int) (pack (fhi k l t)) = 0 ∧ frL (n : Int) (t : Int) (k : Int) ((loP k l).length : Int) (pack (loP k l)) ((fhi k l t).length : Int) (pack (fhi k l t)) = l := by
  have hk20 : k ≤ 20 := by rw [← hk]; exact fw_bound n t ht
  have hll : n * k ≤ 300 * 20 := Nat.mul_le_mul hn3 hk20
  have h1 : (loP k l).length ≤ 8192 := by rw [loP_len, hn]; omega
  have h2 : (fhi k l t).length ≤ 8192 := by rw [fhi_len k l t hu hle, hn]; omega
  have hs : hsB n t (k : Int) ((loP k l).length : Int) (pack (loP k l)) ((fhi k l t).length : Int) (pack (fhi k l t)) :=
    ⟨by rw [hk], by rw [hk, loP_len, hn], by rw [hk, fhi_len k l t hu hle, hn]; rfl, chk_pack _ h2, by rw [Int.toNat_natCast, unpack_pack, fhi_cnt, hn], chk_pack _ h1⟩
  have hf : fE (ns (fdec (fw n t) (loP k l) (fhi k l t))) (t : Int) = 0 := by
    rw [hk, fdec_write k l t hu]; exact fE_ok ht (by omega) hle hu
  have hE : frE (n : Int) (t : Int) (k : Int) ((loP k l).length : Int) (pack (loP k l)) ((fhi k l t).length : Int) (pack (fhi k l t)) = 0 := by
    unfold frE
    rw [if_pos (by omega)]
    simp only [Int.toNat_natCast, unpack_pack]
    rw [if_pos hs, if_pos hf]
  refine ⟨hE, ?_⟩
  unfold frL
  rw [if_pos hE]
  simp only [Int.toNat_natCast, unpack_pack]
  rw [hk, fdec_write k l t hu]
theorem fread_w (l : List Nat) (n t k : Nat) (hn : l.length = n) (hn3 : n ≤ 300) (ht : t ≤ 1048576) (hle : ∀ x ∈ l, x ≤ t) (hu : Up 0 l) (hk : fw n t = k) (hz : n + t / 2 ^ k + 1 ≤ 8192) (A1 : Option Addr) (c1 : Nat) (A2 : Option Addr) (c2 : Nat) (w : World) (h1 : Rd w w.heap.size A1 (pack (loP k l))) (h2 : Rd w w.heap.size A2 (pack (fhi k l t))) :
    Calls Try.prog 50 #[.agg #[.int .i64 (n : Int), .int .i64 (t : Int), .int .i64 (k : Int), .int .i64 ((loP k l).length : Int), .slice A1 (pack (loP k l)).length c1, .int .i64 ((fhi k l t).length : Int), .slice A2 (pack (fhi k l t)).length c2]] w (RdP w n (ns l) 0) := by
  have := fread_any (n : Int) (t : Int) (k : Int) ((loP k l).length : Int) A1 c1 (pack (loP k l)) (pack_lt _) ((fhi k l t).length : Int) A2 c2 (pack (fhi k l t)) (pack_lt _) w h1 h2
  rw [(frd_w l n t k hn hn3 ht hle hu hk hz).1, (frd_w l n t k hn hn3 ht hle hu hk hz).2, hn] at this
  exact this
/-- The next one of what was written: where the first that is not less stands. -/
theorem fnext_w (l : List Nat) (n t k : Nat) (hn : l.length = n) (hn3 : n ≤ 300) (ht : t ≤ 1048576) (hle : ∀ x ∈ l, x ≤ t) (hu : Up 0 l) (hk : fw n t = k) (hz : n + t / 2 ^ k + 1 ≤ 8192) (x : Int) :
    ((∀ i, i < n → ((l[i]?.getD 0 : Nat) : Int) < x) ∧ Hid (∀ A1 c1 A2 c2 V, Rd V V.heap.size A1 (pack (loP k l)) → Rd V V.heap.size A2 (pack (fhi k l t)) → Calls Try.prog 52 #[.agg #[.int .i64 (n : Int), .int .i64 (t : Int), .int .i64 (k : Int), .int .i64 ((loP k l).length : Int), .slice A1 (pack (loP k l)).length c1, .int .i64 ((fhi k l t).length : Int), .slice A2 (pack (fhi k l t)).length c2], .int .i64 x] V (NxP V 0 0 5))) ∨
    (∃ i, i < n ∧ x ≤ ((l[i]?.getD 0 : Nat) : Int) ∧ (∀ j, j < i → ((l[j]?.getD 0 : Nat) : Int) < x) ∧ Hid (∀ A1 c1 A2 c2 V, Rd V V.heap.size A1 (pack (loP k l)) → Rd V V.heap.size A2 (pack (fhi k l t)) → Calls Try.prog 52 #[.agg #[.int .i64 (n : Int), .int .i64 (t : Int), .int .i64 (k : Int), .int .i64 ((loP k l).length : Int), .slice A1 (pack (loP k l)).length c1, .int .i64 ((fhi k l t).length : Int), .slice A2 (pack (fhi k l t)).length c2], .int .i64 x] V (NxP V i (l[i]?.getD 0) 0))) := by
  have hg := up_get l 0 hu
  by_cases h : ∃ i, i < n ∧ x ≤ ((l[i]?.getD 0 : Nat) : Int)
  · obtain ⟨i, hi, hle2, hmin⟩ : ∃ i, i < n ∧ x ≤ ((l[i]?.getD 0 : Nat) : Int) ∧ ∀ j, j < i → ((l[j]?.getD 0 : Nat) : Int) < x := by
      obtain ⟨i, hi, hx⟩ := h
      induction i using Nat.strongRecOn with
      | ind i ih =>
        by_cases hj : ∃ j, j < i ∧ x ≤ ((l[j]?.getD 0 : Nat) : Int)
        · obtain ⟨j, hji, hjx⟩ := hj
          exact ih j hji (by omega) hjx
        · exact ⟨i, hi, hx, fun j hji => Int.not_le.1 (fun q => hj ⟨j, hji, q⟩)⟩
    refine .inr ⟨i, hi, hle2, hmin, fun A1 c1 A2 c2 V R1 R2 => fnext_ok l hg (fun y hy => Nat.le_trans (hle y hy) ht) _ _ _ _ _ A1 A2 _ c1 _ c2 n hn hn3 rfl x i _ 0 (fun q hq q1 q2 => ?_) V (fun U hU => fread_w l n t k hn hn3 ht hle hu hk hz A1 c1 A2 c2 U (R1.on hU) (R2.on hU))⟩
    rcases Nat.lt_trichotomy q i with hc | hc | hc
    · have := q2 q (Nat.le_refl _) (by omega); have := hmin q hc; omega
    · subst hc; exact .inr ⟨hi, rfl, rfl, rfl⟩
    · have := q1 i hc; omega
  · have hall : ∀ i, i < n → ((l[i]?.getD 0 : Nat) : Int) < x := fun i hi => Int.not_le.1 (fun q => h ⟨i, hi, q⟩)
    refine .inl ⟨hall, fun A1 c1 A2 c2 V R1 R2 => fnext_ok l hg (fun y hy => Nat.le_trans (hle y hy) ht) _ _ _ _ _ A1 A2 _ c1 _ c2 n hn hn3 rfl x 0 0 5 (fun q hq q1 q2 => ?_) V (fun U hU => fread_w l n t k hn hn3 ht hle hu hk hz A1 c1 A2 c2 U (R1.on hU) (R2.on hU))⟩
    rcases Nat.lt_or_ge q n with hc | hc
    · have := q2 q (Nat.le_refl _) (by omega); have := hall q hc; omega
    · exact .inl ⟨by omega, rfl, rfl, rfl⟩
theorem fget_w (l : List Nat) (n t k : Nat) (hn : l.length = n) (hn3 : n ≤ 300) (ht : t ≤ 1048576) (hle : ∀ x ∈ l, x ≤ t) (hu : Up 0 l) (hk : fw n t = k) (hz : n + t / 2 ^ k + 1 ≤ 8192) (i : Nat) (hi : i < n) (x : Nat) (hx : l[i]?.getD 0 = x) (A1 : Option Addr) (c1 : Nat) (A2 : Option Addr) (c2 : Nat) (w : World) (h1 : Rd w w.heap.size A1 (pack (loP k l))) (h2 : Rd w w.heap.size A2 (pack (fhi k l t))) :
    Calls Try.prog 51 #[.agg #[.int .i64 (n : Int), .int .i64 (t : Int), .int .i64 (k : Int), .int .i64 ((loP k l).length : Int), .slice A1 (pack (loP k l)).length c1, .int .i64 ((fhi k l t).length : Int), .slice A2 (pack (fhi k l t)).length c2], .int .i64 (i : Int)] w (RkP w x 0) :=
  fget_ok l _ _ _ _ _ A1 A2 _ c1 _ c2 n hn rfl i hi x hx w (fun U hU => fread_w l n t k hn hn3 ht hle hu hk hz A1 c1 A2 c2 U (h1.on hU) (h2.on hU))
end Go.Proofs.Ytkbelhclcpepaaa
