/- The document's own answer on whether codes are apart, where there is an error: KraftApart's errors; for whatever bits they are handed. -/
import Derived.Test.YthfjfkbolfnkkaaKApart
import Derived.Test.YthfjfkbolfnkkaaRefCheck
namespace Go.Proofs.Ythfjfkbolfnkkaa
set_option maxRecDepth 100000
set_option linter.unusedVariables false
open Go.RowKit Go.Shelf Go.Sort

set_option maxHeartbeats 1000000 in
theorem refapart_e (rs : List Rx) (n : Nat) (hn : rs.length = n) (hn2 : n ≤ 9223372036854775807) (A : Option Addr) (c : Nat) (w : World) (h : RdR w w.heap.size A rs) (hb : ∀ x ∈ rs, ∀ b ∈ x.2.2.2, b < 256) (e0 : Int) (he : apE rs = e0) (h0 : e0 ≠ 0) :
    Calls Try.prog 19 #[.slice A n c] w fun e w' => e = .returned (.tuple #[.bool false, .int .i64 e0]) ∧ Below w.heap.size w w' := by
  unfold apE at he
  rw [hn] at he
  by_cases h64 : 64 < n
  · rw [if_pos h64] at he
    subst he
    have t0 : decide ((64 : Int) < (n : Int)) = true := by simp; omega
    have t1 : decide (64 < n) = true := by simpa using h64
    go_enter Try.func19, Try.ntmps19
    go_wp2
    go_ret2
    exact ⟨rfl, Below.refl _ _⟩
  · rw [if_neg h64] at he
    have t0 : decide ((64 : Int) < (n : Int)) = false := by simp; omega
    have t1 : decide (64 < n) = false := by simpa using h64
    have HR := Lib.hid h; have HN := Lib.hid hn; have HBy := Lib.hid hb; have HE0 := Lib.hid he; have H0 := Lib.hid h0
    clear h hn hb he h0
    go_enter Try.func19, Try.ntmps19
    go_wp2
    clear t0 t1
    go_loopw [4] (fun p wr => EbRel rs w p wr) (fun p _ => n - (intOf p).toNat)
    case atStart => exact ⟨0, Nat.zero_le _, rfl, fun j hj => absurd hj (Nat.not_lt_zero _), Below.refl _ _⟩
    case round =>
      obtain ⟨i, hi, rfl, ht, hbel⟩ := hrel
      rw [HN.out] at hi
      by_cases hlt : i < n
      · have hin : i < rs.length := by rw [HN.out]; exact hlt
        have hxi : rs[i]? = some (rAt rs i) := by unfold rAt; rw [List.getElem?_eq_getElem hin]; rfl
        obtain ⟨b, off, rfl, hbl, k0, k1, k2⟩ := (HR.out.below hbel hbel.size).at_ hxi
        have hat := eachE_at fE rs i hin ht
        have hby := HBy.out _ (List.mem_of_getElem? hxi)
        have HT := Lib.hid ht; clear ht
        have HB := Lib.hid hbel; clear hbel
        have ex : rs[i]?.getD default = rAt rs i := rfl
        rw [ex] at hat
        obtain ⟨x, hx⟩ : ∃ x, rAt rs i = x := ⟨_, rfl⟩
        rw [hx] at k0 k1 k2 hat hby
        have HX := Lib.hid hx; clear hx ex hxi
        obtain ⟨len, A1, c1, bs⟩ := x
        simp only at k0 k1 k2 hby
        have hat' : chk len bs ≠ 0 → eachE fE rs = chk len bs := hat
        clear hat
        have HC := Lib.hid (rcheck_any len A1 c1 bs hby wr k2)
        clear k2 hby
        have t1 : decide ((i : Int) < (n : Int)) = true := by simp; omega
        have t2 : decide (i < n) = true := by simpa using hlt
        have t3 : (0 : Int) ≤ (i : Int) := by omega
        have t4 : (i : Int) < (n : Int) := by omega
        generalize bs.length = N at *
        by_cases hf : chk len bs = 0
        · have HF := Lib.hid hf
          rw [hf] at HC
          clear hf hat'
          go_wp2_with fail
          refine HC.out.mono ?_
          rintro e w1 ⟨rfl, b1⟩
          have HB1 : Hid (Below w.heap.size w w1) := HB.out.trans (b1.mono HB.out.size)
          clear b1
          go_wp2
          go_roundw
          case rel => exact ⟨i + 1, by rw [HN.out]; omega, by go_num, fun j hj => by
            rcases Nat.lt_or_ge j i with h | h
            · exact HT.out j h
            · obtain rfl : j = i := by omega
              rw [HX.out]; exact HF.out, HB1.out⟩
          case measure => simp [intOf]; omega
        · have HE := Lib.hid ((hat' hf).symm.trans HE0.out)
          rw [HE.out] at HC
          have t0 : (e0 == 0) = false := by have := H0.out; simpa using this
          have t9 : (e0 != 0) = true := by have := H0.out; simpa using this
          clear hat' hf
          go_wp2_with fail
          refine HC.out.mono ?_
          rintro e w1 ⟨rfl, b1⟩
          have HB1 : Hid (Below w.heap.size w w1) := HB.out.trans (b1.mono HB.out.size)
          clear b1
          go_wp2
          go_ret2
          exact ⟨rfl, HB1.out⟩
      · exfalso
        have := eachE_all fE rs (fun j hj => ht j (by rw [HN.out] at hj; omega))
        exact H0.out (HE0.out.symm.trans this)

/-- Apart, pair by pair. -/
theorem apart_iff (ls : List (List Bool)) : apart ls ↔ ∀ i k, i < ls.length → k < ls.length → i ≠ k → ls[i]?.getD [] ≠ [] → ls[k]?.getD [] ≠ [] → ¬ (ls[k]?.getD [] <+: ls[i]?.getD []) := by
  unfold apart
  rw [List.pairwise_filter, List.pairwise_iff_getElem]
  have hne : ∀ x : List Bool, (!x.isEmpty) = true ↔ x ≠ [] := fun x => by cases x <;> simp
  constructor
  · intro h i k hi hk hik e1 e2
    rw [List.getElem?_eq_getElem hi, Option.getD_some] at e1 ⊢
    rw [List.getElem?_eq_getElem hk, Option.getD_some] at e2 ⊢
    rcases Nat.lt_or_ge i k with q | q
    · exact (h i k hi hk q ((hne _).2 e1) ((hne _).2 e2)).2
    · exact (h k i hk hi (by omega) ((hne _).2 e2) ((hne _).2 e1)).1
  · intro h i k hi hk q e1 e2
    have a := h i k hi hk (by omega)
    have b := h k i hk hi (by omega)
    rw [List.getElem?_eq_getElem hi, Option.getD_some, List.getElem?_eq_getElem hk, Option.getD_some] at a b
    exact ⟨b ((hne _).1 e2) ((hne _).1 e1), a ((hne _).1 e1) ((hne _).1 e2)⟩
end Go.Proofs.Ythfjfkbolfnkkaa
