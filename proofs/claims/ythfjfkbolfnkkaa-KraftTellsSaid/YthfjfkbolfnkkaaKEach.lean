/- The errors of the bits of a list, one by one; a copy of a list of bits; whether bits begin with bits. -/
import Derived.Test.YthfjfkbolfnkkaaKCodes
import Derived.Test.YthfjfkbolfnkkaaKByt
import Derived.WalkLawsBesides
import Derived.Deep.AppendLies
import Derived.Lib.SliceRun
namespace Go.Proofs.Ythfjfkbolfnkkaa
set_option maxRecDepth 100000
set_option linter.unusedVariables false
open Go.RowKit Go.Shelf Go.Sort

def rAt (rs : List Rx) (i : Nat) : Rx := rs[i]?.getD default
/-- At each round's head: the first i have none. -/
def EbRel (rs : List Rx) (w : World) (p : Value) (wr : World) : Prop :=
  ∃ i : Nat, i ≤ rs.length ∧ p = .int .i64 (i : Int) ∧ (∀ j, j < i → chk (rAt rs j).1 (rAt rs j).2.2.2 = 0) ∧ Below w.heap.size w wr
def fE (x : Rx) : Int := chk x.1 x.2.2.2

set_option maxHeartbeats 1000000 in
theorem each_bits (rs : List Rx) (n : Nat) (hn : rs.length = n) (hn2 : n ≤ 9223372036854775807) (A : Option Addr) (c : Nat) (w : World) (h : RdR w w.heap.size A rs) (hb : ∀ x ∈ rs, ∀ b ∈ x.2.2.2, b < 256) :
    Calls Try.prog 38 #[.slice A n c, .func (.func 39) #[] #[]] w fun e w' => e = .returned (.int .i64 (eachE fE rs)) ∧ Below w.heap.size w w' := by
  have HR := Lib.hid h; clear h
  have HN := Lib.hid hn; clear hn
  have HBy := Lib.hid hb; clear hb
  go_enter Try.func38, Try.ntmps38
  go_wp2
  go_loopw [10] (fun p wr => EbRel rs w p wr) (fun p _ => n - (intOf p).toNat)
  case atStart => exact ⟨0, Nat.zero_le _, rfl, fun j hj => absurd hj (Nat.not_lt_zero _), Below.refl _ _⟩
  case round =>
    obtain ⟨i, hi, rfl, ht, hbel⟩ := hrel
    rw [HN.out] at hi
    by_cases hlt : i < n
    · have hin : i < rs.length := by rw [HN.out]; exact hlt
      have hxi : rs[i]? = some (rAt rs i) := by unfold rAt; rw [List.getElem?_eq_getElem hin]; rfl
      obtain ⟨b, off, rfl, hbl, k0, k1, k2⟩ := (HR.out.below hbel hbel.size).at_ hxi
      have hat := eachE_at fE rs i hin ht
      have hby := HBy.out _ (List.mem_of_getElem? hxi)
      have HT := Lib.hid ht; clear ht
      have HB := Lib.hid hbel; clear hbel
      have ex : rs[i]?.getD default = rAt rs i := rfl
      rw [ex] at hat
      have HRx := Lib.hid (show rAt rs i = rAt rs i from rfl)
      obtain ⟨x, hx⟩ : ∃ x, rAt rs i = x := ⟨_, rfl⟩
      rw [hx] at k0 k1 k2 hat hby
      have HX := Lib.hid hx; clear hx ex hxi HRx
      obtain ⟨len, A1, c1, bs⟩ := x
      simp only at k0 k1 k2 hby
      have hat' : chk len bs ≠ 0 → eachE fE rs = chk len bs := hat
      clear hat
      have HC : Hid (∀ V, Below wr.heap.size wr V → Calls Try.prog 39 #[.agg #[.int .i64 len, .slice A1 bs.length c1]] V fun e w' => e = .returned (.int .i64 (chk len bs)) ∧ Below V.heap.size V w') := fun V hV => check_any len A1 c1 bs V hby (k2.below hV hV.size)
      clear k2 hby
      generalize bs.length = N at *
      by_cases hf : chk len bs = 0
      · have HF := Lib.hid hf
        rw [hf] at HC
        clear hf hat'
        go_wp2_with fail
        refine (HC.out _ (one_below wr _)).mono ?_
        rintro e w1 ⟨rfl, b1⟩
        have HB1 : Hid (Below w.heap.size w w1) := HB.out.trans (((one_below wr _).trans (b1.mono (by simp))).mono HB.out.size)
        clear b1
        go_wp2
        go_roundw
        case rel => exact ⟨i + 1, by rw [HN.out]; omega, by go_num, fun j hj => by
          rcases Nat.lt_or_ge j i with h | h
          · exact HT.out j h
          · obtain rfl : j = i := by omega
            rw [HX.out]; exact HF.out, HB1.out⟩
        case measure => simp [intOf]; omega
      · have HE := Lib.hid (hat' hf)
        have t0 : (chk len bs == 0) = false := by simpa using hf
        clear hat'
        generalize chk len bs = y at *
        go_wp2_with fail
        refine (HC.out _ (one_below wr _)).mono ?_
        rintro e w1 ⟨rfl, b1⟩
        have HB1 : Hid (Below w.heap.size w w1) := HB.out.trans (((one_below wr _).trans (b1.mono (by simp))).mono HB.out.size)
        clear b1
        go_wp2
        go_ret
        exact ⟨ret_i64 HE.out.symm, HB1.out⟩
    · have HT : Hid (eachE fE rs = 0) := eachE_all fE rs (fun j hj => ht j (by rw [HN.out] at hj; omega))
      clear ht
      have HB := Lib.hid hbel; clear hbel
      go_wp2
      go_ret
      exact ⟨ret_i64 HT.out.symm, HB.out⟩

/-- A copy of a list of bits: a row of the call's own. -/
theorem rdr_news {w : World} {b off : Nat} {bs : List Bx} (hc : ∀ i x, (bs.map rx)[i]? = some x → w.cell? ⟨b, off + i * 2, none⟩ = some (.int .i64 x.1) ∧ w.cell? ⟨b, off + i * 2 + 1, none⟩ = some (.slice x.2.1 x.2.2.2.length x.2.2.1) ∧ Rd w w.heap.size x.2.1 x.2.2.2) :
    ∀ j u, (bs.flatMap encB)[j]? = some u → w.cell? ((⟨b, off, none⟩ : Addr).add j) = some u := by
  intro j u hu
  have hl := flatMap_len encB 2 encB_len bs
  have hj : j < bs.length * 2 := by have := (List.getElem?_eq_some_iff.1 hu).1; omega
  have ha : (⟨b, off, none⟩ : Addr).add j = ⟨b, off + j, none⟩ := by unfold Addr.add; split <;> simp_all
  rw [ha]
  have hq : j / 2 < bs.length := by omega
  have e := encBs_get bs (j / 2) (j % 2) hq (Nat.mod_lt _ (by omega))
  rw [show j / 2 * 2 + j % 2 = j by omega, hu] at e
  have hx : (bs.map rx)[j / 2]? = some (rx (bAt bs (j / 2))) := by rw [List.getElem?_map]; unfold bAt; rw [List.getElem?_eq_getElem hq]; rfl
  obtain ⟨c0, c1, _⟩ := hc _ _ hx
  rcases (show j % 2 = 0 ∨ j % 2 = 1 by omega) with h | h
  · rw [h] at e
    rw [show off + j = off + j / 2 * 2 by omega, c0]
    exact e.symm
  · rw [h] at e
    rw [show off + j = off + j / 2 * 2 + 1 by omega, c1]
    exact e.symm
set_option maxHeartbeats 1000000 in
theorem clone_any (bs : List Bx) (n : Nat) (hn : bs.length = n) (h64 : n ≤ 64) (A : Option Addr) (c : Nat) (w : World) (h : RdR w w.heap.size A (bs.map rx)) :
    Calls Try.prog 40 #[.slice A n c] w fun e w' => ∃ v, e = .returned v ∧ w'.ownsRow w.heap.size 26 2 v n (bs.flatMap encB) ∧ Below w.heap.size w w' := by
  obtain ⟨i0, hi, hz0, hz1, hz2⟩ := info_parts info_bits
  have HR := Lib.hid h; clear h
  have HN := Lib.hid hn; clear hn
  cases A with
  | none =>
    have hbs : bs = [] := by
      rcases HR.out with h | ⟨b, off, h, _⟩
      · simpa using h
      · cases h
    have h0 : n = 0 := by rw [← HN.out, hbs]; rfl
    subst h0
    have hq : (binOp .eql 23 (.slice none 0 c) (.slice none 0 0)).run Try.prog w = .ok (.bool true) w := Lib.run_eql_slice_nil w _ _ none 0 c 0 0 Try.underlying23
    go_enter Try.func40, Try.ntmps40
    go_wp2
    go_ret
    exact ⟨_, rfl, by rw [hbs]; exact ⟨rfl, .inl ⟨rfl, rfl⟩⟩, Below.refl _ _⟩
  | some a =>
    have HNs : Hid (∀ (V : World), Below w.heap.size w V → ∀ j u, (bs.flatMap encB)[j]? = some u → V.cell? (a.add j) = some u) := by
      intro V hV
      rcases HR.out.below hV hV.size with h | ⟨b, off, h, hb, hc⟩
      · have : bs = [] := by simpa using h
        subst this
        intro j u hu; simp at hu
      · simp only [Option.some.injEq] at h
        subst h
        exact rdr_news hc
    have HLn : Hid ((bs.flatMap encB).length = n * 2) := by show _ = _; rw [flatMap_len encB 2 encB_len, HN.out]
    have H1 : Hid (∀ u ∈ bs.flatMap encB, u.oneCell' = true) := by
      intro u hu
      obtain ⟨x, _, hx⟩ := List.mem_flatMap.1 hu
      exact encB_one x u hx
    have hq : (binOp .eql 23 (.slice (some a) n c) (.slice none 0 0)).run Try.prog w = .ok (.bool false) w := Lib.run_eql_slice_nil w _ _ (some a) n c 0 0 Try.underlying23
    have HO0 : (w.alloc (.cells #[] 26)).ownsRow w.heap.size 26 2 (.slice (some ⟨w.heap.size, 0, none⟩) 0 0) 0 [] :=
      ⟨rfl, .inr ⟨w.heap.size, 0, #[], rfl, Nat.le_refl _, World.alloc_heap_new w _, Nat.le_refl _, by unfold maxLen; omega, rfl, rfl⟩⟩
    go_enter Try.func40, Try.ntmps40
    go_wp2_with (at_builtin; refine wpList_append_own _ rfl _ _ 23 rfl w.heap.size 26 i0 (.agg #[.int .i64 0, .slice none 0 0]) 2 32 Try.underlying23 hi hz0 hz1 hz2 rfl (by decide) _ _ _ rfl HO0 a n c (bs.flatMap encB) rfl HLn.out (HNs.out _ (one_below w _)) H1.out (by unfold maxLen; omega) (by omega) (by simp) ?_; intro v' w3 hown' hgrow _)
    have HO3 := Lib.hid hown'
    have HB3 : Hid (Below w.heap.size w w3) := (one_below w _).trans (grown_low hgrow HO0 (by simp))
    clear hown' hgrow HO0
    go_wp2
    go_ret
    exact ⟨_, rfl, by simpa using HO3.out, HB3.out⟩
end Go.Proofs.Ythfjfkbolfnkkaa
