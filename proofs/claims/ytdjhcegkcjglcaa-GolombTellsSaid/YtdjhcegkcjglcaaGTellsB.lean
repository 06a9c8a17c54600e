/- The law GolombTells, all its ways together. -/
import Derived.Test.YtdjhcegkcjglcaaGTells1
import Derived.Test.YtdjhcegkcjglcaaGTells2
import Derived.Test.YtdjhcegkcjglcaaGTells3
import Derived.Test.YtdjhcegkcjglcaaETellsB
import Derived.Test.YtdjhcegkcjglcaaGRises
namespace Go.Proofs.Ytdjhcegkcjglcaa
set_option maxRecDepth 100000
set_option linter.unusedVariables false
open Go.RowKit

theorem rcE_rdE (len : Int) (bs : List Nat) (p : Int) (ok : Bool) (h : rdE len bs p ≠ 0) : rcE len bs p ok = rdE len bs p := by
  unfold rcE rdE at *
  by_cases hc : chk len bs = 0
  · have hn : ¬ (chk len bs ≠ 0) := fun h => h hc
    rw [if_neg hn] at h ⊢
    rw [if_neg hn]
    by_cases hp : p < 0 ∨ len < p
    · rw [if_pos hp, if_pos]
      rcases hp with hp | hp
      · exact .inl hp
      · exact .inr (.inl hp)
    · rw [if_neg hp] at h; exact absurd rfl h
  · rw [if_pos hc, if_pos hc]
theorem rcE_no (len : Int) (bs : List Nat) (p : Int) (h : rdE len bs p = 0) : rcE len bs p false = 3 := by
  unfold rcE rdE at *
  by_cases hc : chk len bs = 0
  · rw [if_neg (fun h => h hc), if_pos (.inr (.inr rfl))]
  · rw [if_pos hc] at h; exact absurd h hc
theorem rdE_zero (len : Int) (bs : List Nat) (p : Int) (hb : ∀ b ∈ bs, b < 256) (h : rdE len bs p = 0) : ∃ (l : List Bool) (s : Nat), len = (l.length : Int) ∧ bs = pack l ∧ p = (s : Int) ∧ l.length ≤ 8192 ∧ s ≤ l.length := by
  unfold rdE at h
  by_cases hc : chk len bs = 0
  · rw [if_neg (fun h => h hc)] at h
    obtain ⟨l, rfl, hl, rfl⟩ := chk_zero len bs hb hc
    by_cases hp : p < 0 ∨ (l.length : Int) < p
    · rw [if_pos hp] at h; omega
    · obtain ⟨s, rfl⟩ := Int.eq_ofNat_of_zero_le (show 0 ≤ p by omega)
      exact ⟨l, s, rfl, rfl, rfl, hl, by omega⟩
  · rw [if_pos hc] at h; exact absurd h hc
theorem bl_only (l : List Bool) (hl : l.length ≤ 8192) (A : Option Addr) (c : Nat) (V : World) (h : Rd V V.heap.size A (pack l)) :
    Calls Try.prog 24 #[.agg #[.int .i64 (l.length : Int), .slice A (pack l).length c]] V fun e w' => ∃ A c, e = .returned (.slice A l.length c) ∧ RdV w' w'.heap.size A (ic l) ∧ Below V.heap.size V w' :=
  (bl_cap l hl A c V h).mono fun _ _ ⟨A', c', h1, h2, h3, _⟩ => ⟨A', c', h1, h2, h3⟩
theorem lstR_or (l : List Bool) (s m : Nat) : (lstR l s m).2.2 = 0 ∨ lstR l s m = (0, 0, 7) := by
  unfold lstR
  split
  · exact .inl rfl
  · split
    · exact .inl rfl
    · exact .inr rfl
theorem lst_has (n m : Nat) (h1 : 1 ≤ m) (h2 : m ≤ 72057594037927936) (hn : n < m) (V : World) :
    Calls Try.prog 39 #[.int .u64 (n : Int), .int .u64 (m : Int)] V fun e w' => ∃ A c, e = .returned (.slice A (lst n m).length c) ∧ RdV w' w'.heap.size A (ic (lst n m)) ∧ (A = none → c = 0) ∧ Below V.heap.size V w' :=
  (leastList_any n m h1 h2 hn _ rfl V).mono fun _ _ ⟨A', c', e1, e2, e3⟩ => ⟨A', c', e1, own_rdv e2, own_none e2, e3⟩

theorem gtells_law (n m : Nat) (len : Int) (A : Option Addr) (c : Nat) (bs : List Nat) (p : Int) (w : World) (hn : n < 18446744073709551616) (hm64 : m < 18446744073709551616) (hb : ∀ b ∈ bs, b < 256) (hA : Rd w w.heap.size A bs) (_ : -9223372036854775808 ≤ p ∧ p ≤ 9223372036854775807) :
    Calls Try.prog 8 #[.int .u64 (n : Int), .int .u64 (m : Int), .agg #[.int .i64 len, .slice A bs.length c], .int .i64 p] w fun e w' => e = .returned (.bool true) ∧ Below w.heap.size w w' := by
  have hbl : rdE len bs p ≠ 0 → Hid (∀ V, Rd V V.heap.size A bs → Calls Try.prog 37 #[.agg #[.int .i64 len, .slice A bs.length c], .int .i64 p, .int .u64 (m : Int)] V (ReadP V 0 0 (rdE len bs p))) := fun h V hV => by
    have e := rcE_rdE len bs p (okM m) h
    have := rleast_bad_l len A c bs p m hb (by rw [e]; exact h) V hV
    rwa [e] at this
  have hbc : rdE len bs p ≠ 0 → Hid (∀ V, Rd V V.heap.size A bs → Calls Try.prog 38 #[.agg #[.int .i64 len, .slice A bs.length c], .int .i64 p, .int .u64 (m : Int)] V (ReadP V 0 0 (rdE len bs p))) := fun h V hV => by
    have e := rcE_rdE len bs p (okM m) h
    have := rcode_bad_l len A c bs p m hb (by rw [e]; exact h) V hV
    rwa [e] at this
  have herr : Hid (∀ V, Rd V V.heap.size A bs → Calls Try.prog 23 #[.agg #[.int .i64 len, .slice A bs.length c], .int .i64 p] V fun e w' => e = .returned (.int .i64 (rdE len bs p)) ∧ Below V.heap.size V w') := fun V hV => readErr_any len A c bs p V hb hV _ rfl
  have s0 := same_hid [] (by decide)
  by_cases hm : 1 ≤ m ∧ m ≤ 1099511627776
  · obtain ⟨hm1, hm2⟩ := hm
    have szm := sz_le m 40 (by omega)
    have key : (∃ e0 : Int, e0 ≠ 0 ∧ Hid (∀ V, Rd V V.heap.size A bs → Calls Try.prog 37 #[.agg #[.int .i64 len, .slice A bs.length c], .int .i64 p, .int .u64 (m : Int)] V (ReadP V 0 0 e0)) ∧ Hid (∀ V, Rd V V.heap.size A bs → Calls Try.prog 38 #[.agg #[.int .i64 len, .slice A bs.length c], .int .i64 p, .int .u64 (m : Int)] V (ReadP V 0 0 e0)) ∧ Hid (∀ V, Rd V V.heap.size A bs → Calls Try.prog 23 #[.agg #[.int .i64 len, .slice A bs.length c], .int .i64 p] V fun e w' => e = .returned (.int .i64 e0) ∧ Below V.heap.size V w')) ∨
        (∃ (r1 r2 s1 s2 nB : Nat) (g : Int) (lB : List Bool), Hid (∀ V, Rd V V.heap.size A bs → Calls Try.prog 37 #[.agg #[.int .i64 len, .slice A bs.length c], .int .i64 p, .int .u64 (m : Int)] V (ReadP V r1 r2 0)) ∧ Hid (∀ V, Rd V V.heap.size A bs → Calls Try.prog 38 #[.agg #[.int .i64 len, .slice A bs.length c], .int .i64 p, .int .u64 (m : Int)] V (ReadP V s1 s2 g)) ∧ Hid (∀ V, Rd V V.heap.size A bs → Calls Try.prog 23 #[.agg #[.int .i64 len, .slice A bs.length c], .int .i64 p] V fun e w' => e = .returned (.int .i64 0) ∧ Below V.heap.size V w') ∧ Hid (∀ V, Rd V V.heap.size A bs → Calls Try.prog 24 #[.agg #[.int .i64 len, .slice A bs.length c]] V fun e w' => ∃ A c, e = .returned (.slice A nB c) ∧ RdV w' w'.heap.size A (ic lB) ∧ Below V.heap.size V w') ∧ Hid (∀ A c V, RdV V V.heap.size A (ic lB) → Calls Try.prog 41 #[.slice A nB c, .int .i64 p, .int .u64 (m : Int)] V fun e w' => e = .returned (.tuple #[.int .u64 (r1 : Int), .int .i64 (r2 : Int)]) ∧ Below V.heap.size V w') ∧ Hid (∀ A c V, RdV V V.heap.size A (ic lB) → Calls Try.prog 42 #[.slice A nB c, .int .i64 p, .int .u64 (m : Int)] V (ReadP V s1 s2 g))) ∨
        (∃ (x0 s1 s2 nB : Nat) (g : Int) (lB : List Bool), Hid (∀ V, Rd V V.heap.size A bs → Calls Try.prog 37 #[.agg #[.int .i64 len, .slice A bs.length c], .int .i64 p, .int .u64 (m : Int)] V (ReadP V 0 0 7)) ∧ Hid (∀ V, Rd V V.heap.size A bs → Calls Try.prog 38 #[.agg #[.int .i64 len, .slice A bs.length c], .int .i64 p, .int .u64 (m : Int)] V (ReadP V s1 s2 g)) ∧ Hid (∀ V, Rd V V.heap.size A bs → Calls Try.prog 23 #[.agg #[.int .i64 len, .slice A bs.length c], .int .i64 p] V fun e w' => e = .returned (.int .i64 0) ∧ Below V.heap.size V w') ∧ Hid (∀ V, Rd V V.heap.size A bs → Calls Try.prog 24 #[.agg #[.int .i64 len, .slice A bs.length c]] V fun e w' => ∃ A c, e = .returned (.slice A nB c) ∧ RdV w' w'.heap.size A (ic lB) ∧ Below V.heap.size V w') ∧ Hid (∀ A c V, RdV V V.heap.size A (ic lB) → Calls Try.prog 41 #[.slice A nB c, .int .i64 p, .int .u64 (m : Int)] V fun e w' => e = .returned (.tuple #[.int .u64 (x0 : Int), .int .i64 (-1)]) ∧ Below V.heap.size V w') ∧ Hid (∀ A c V, RdV V V.heap.size A (ic lB) → Calls Try.prog 42 #[.slice A nB c, .int .i64 p, .int .u64 (m : Int)] V (ReadP V s1 s2 g))) := by
      by_cases hr : rdE len bs p = 0
      · rw [hr] at herr
        obtain ⟨l, s, rfl, rfl, rfl, hl, hs⟩ := rdE_zero len bs p hb hr
        right
        rcases lstR_or l s m with h0 | h7
        · left
          refine ⟨(lstR l s m).1, (lstR l s m).2.1, (golR l s m).1, (golR l s m).2.1, l.length, (golR l s m).2.2, l, fun V hV => ?_, fun V hV => rcode_l l hl m hm1 hm2 A c s hs V hV, herr, fun V hV => bl_only l hl A c V hV, fun A' c' V hV => ?_, fun A' c' V hV => golombRead_any l l.length rfl hl A' c' s m hs hm1 hm2 _ rfl V hV⟩
          · have := rleast_l l hl m hm1 hm2 A c s hs V hV
            rwa [h0] at this
          · exact (leastRead_any l l.length rfl hl A' c' s m hs hm1 (by omega) _ rfl _ _ ⟨rfl, by rw [if_pos h0]⟩ V hV).mono fun _ _ ⟨e1, e2⟩ => ⟨e1, by subst e2; exact Below.refl _ _⟩
        · right
          refine ⟨(lstR l s m).1, (golR l s m).1, (golR l s m).2.1, l.length, (golR l s m).2.2, l, fun V hV => ?_, fun V hV => rcode_l l hl m hm1 hm2 A c s hs V hV, herr, fun V hV => bl_only l hl A c V hV, fun A' c' V hV => ?_, fun A' c' V hV => golombRead_any l l.length rfl hl A' c' s m hs hm1 hm2 _ rfl V hV⟩
          · have := rleast_l l hl m hm1 hm2 A c s hs V hV
            rwa [h7] at this
          · exact (leastRead_any l l.length rfl hl A' c' s m hs hm1 (by omega) _ rfl _ (-1) ⟨rfl, by rw [h7]; rfl⟩ V hV).mono fun _ _ ⟨e1, e2⟩ => ⟨e1, by subst e2; exact Below.refl _ _⟩
      · exact .inl ⟨_, hr, hbl hr, hbc hr, herr⟩
    clear hbl hbc herr
    have q1 : (n : Int).tdiv (m : Int) = ((n / m : Nat) : Int) := by first | rfl | simp
    have q2 : (n : Int) / (m : Int) = ((n / m : Nat) : Int) := by simp
    have q3 : (n : Int).tmod (m : Int) = ((n % m : Nat) : Int) := by rw [Int.tmod_eq_emod_of_nonneg (by omega)]; simp
    have q4 : (n : Int) % (m : Int) = ((n % m : Nat) : Int) := by simp
    have q5 : IntKind.u64.wrap ((n / m : Nat) : Int) = ((n / m : Nat) : Int) := by
      have := Nat.div_le_self n m
      clear q1 q2 q3 q4
      generalize n / m = q at *
      exact u64w _ (by omega) (by omega)
    have q6 : IntKind.u64.wrap ((n % m : Nat) : Int) = ((n % m : Nat) : Int) := by
      have := Nat.mod_le n m
      clear q1 q2 q3 q4 q5
      generalize n % m = q at *
      exact u64w _ (by omega) (by omega)
    have hyok : n ≤ 1099511627776 → n / m < 8128 → (uc (n / m)).length + (lst (n % m) m).length ≤ 8192 := fun _ h => by
      have := lst_length_le (n % m) m
      rw [uc_length]; omega
    by_cases hl : n < m
    · have hX : Hid (∀ V, Calls Try.prog 35 #[.int .u64 (n : Int), .int .u64 (m : Int)] V (Gv V ((lst n m).length : Int) (pack (lst n m)).length (pack (lst n m)) 0)) := fun V => least_ok n m hm1 hm2 hl _ rfl V
      have zl : (lst n m).length ≤ 8192 := by have := lst_length_le n m; omega
      have hLL : Hid (∀ V, Calls Try.prog 39 #[.int .u64 (n : Int), .int .u64 (m : Int)] V fun e w' => ∃ A c, e = .returned (.slice A (lst n m).length c) ∧ RdV w' w'.heap.size A (ic (lst n m)) ∧ Below V.heap.size V w') := fun V => lst_rd (leastList_any n m hm1 (by omega) hl _ rfl V)
      have hPK := fun A c V h => pk_rd (lst n m) zl A c V h
      have hS1 := same_hid (lst n m) zl
      by_cases hn40 : n ≤ 1099511627776
      · by_cases hq : n / m < 8128
        · have hY : Hid (∀ V, Calls Try.prog 36 #[.int .u64 (n : Int), .int .u64 (m : Int)] V (Gv V ((gol n m).length : Int) (pack (gol n m)).length (pack (gol n m)) 0)) := fun V => code_ok n m hm1 hm2 hn40 hq _ rfl V
          have hUL := hyok hn40 hq
          have gl : (gol n m).length = (uc (n / m)).length + (lst (n % m) m).length := by unfold gol; rw [List.length_append]
          have hU := fun V => uList_any (n / m) (by omega) _ rfl V
          have hL2 := fun V => lst_has (n % m) m hm1 (by omega) (Nat.mod_lt n (by omega)) V
          have hPC := fun (A : Option Addr) (c : Nat) (V : World) (h : RdV V V.heap.size A (ic (uc (n / m)) ++ ic (lst (n % m) m))) => packBits_any (gol n m) _ gl hUL A c V (by unfold gol; rw [ic_append]; exact h)
          have hLl : Hid ((ic (lst (n % m) m)).length = (lst (n % m) m).length) := ic_length _
          have hS2 := same_hid (gol n m) (by rw [gl]; exact hUL)
          rcases key with ⟨e0, h0, k1, k2, k3⟩ | ⟨r1, r2, s1, s2, nB, g, lB, k1, k2, k3, k4, k5, k6⟩ | ⟨x0, s1, s2, nB, g, lB, k1, k2, k3, k4, k5, k6⟩
          · exact gtells_ok_ok_bad w (n : Int) (m : Int) ((n / m : Nat) : Int) ((n % m : Nat) : Int) len A c bs.length bs p ((lst n m).length : Int) ((gol n m).length : Int) (pack (lst n m)).length (pack (gol n m)).length (lst n m).length (uc (n / m)).length (lst (n % m) m).length 0 (pack (lst n m)) (pack (gol n m)) (lst n m) (uc (n / m)) (lst (n % m) m) [] e0 0 0 0 0 0 0 hA hX hY k1 k2 k3 hLL hPK hU hL2 hPC hLl hUL hS1 hS2 (by omega) (by omega) (by omega) (by omega) q1 q2 q3 q4 q5 q6 (by omega) h0
          · exact gtells_ok_ok_hit w (n : Int) (m : Int) ((n / m : Nat) : Int) ((n % m : Nat) : Int) len A c bs.length bs p ((lst n m).length : Int) ((gol n m).length : Int) (pack (lst n m)).length (pack (gol n m)).length (lst n m).length (uc (n / m)).length (lst (n % m) m).length nB (pack (lst n m)) (pack (gol n m)) (lst n m) (uc (n / m)) (lst (n % m) m) lB 0 r1 r2 s1 s2 0 g hA hX hY k1 k2 k3 hLL hPK hU hL2 hPC hLl hUL hS1 hS2 k4 k5 k6 (by omega) (by omega) (by omega) (by omega) q1 q2 q3 q4 q5 q6 (by omega)
          · exact gtells_ok_ok_short w (n : Int) (m : Int) ((n / m : Nat) : Int) ((n % m : Nat) : Int) len A c bs.length bs p ((lst n m).length : Int) ((gol n m).length : Int) (pack (lst n m)).length (pack (gol n m)).length (lst n m).length (uc (n / m)).length (lst (n % m) m).length nB (pack (lst n m)) (pack (gol n m)) (lst n m) (uc (n / m)) (lst (n % m) m) lB 0 0 0 s1 s2 x0 g hA hX hY k1 k2 k3 hLL hPK hU hL2 hPC hLl hUL hS1 hS2 k4 k5 k6 (by omega) (by omega) (by omega) (by omega) q1 q2 q3 q4 q5 q6 (by omega)
        · have hY : Hid (∀ V, Calls Try.prog 36 #[.int .u64 (n : Int), .int .u64 (m : Int)] V (Gv V 0 0 [] 3)) := fun V => code_no n m hn (fun h => by omega) V
          rcases key with ⟨e0, h0, k1, k2, k3⟩ | ⟨r1, r2, s1, s2, nB, g, lB, k1, k2, k3, k4, k5, k6⟩ | ⟨x0, s1, s2, nB, g, lB, k1, k2, k3, k4, k5, k6⟩
          · exact gtells_ok_n2_bad w (n : Int) (m : Int) ((n / m : Nat) : Int) ((n % m : Nat) : Int) len A c bs.length bs p ((lst n m).length : Int) 0 (pack (lst n m)).length 0 (lst n m).length 0 0 0 (pack (lst n m)) [] (lst n m) [] [] [] e0 0 0 0 0 0 0 hA hX hY k1 k2 k3 hLL hPK hS1 s0 (by omega) (by omega) (by omega) (by omega) q1 q2 q3 q4 q5 q6 (by omega) h0
          · exact gtells_ok_n2_hit w (n : Int) (m : Int) ((n / m : Nat) : Int) ((n % m : Nat) : Int) len A c bs.length bs p ((lst n m).length : Int) 0 (pack (lst n m)).length 0 (lst n m).length 0 0 nB (pack (lst n m)) [] (lst n m) [] [] lB 0 r1 r2 s1 s2 0 g hA hX hY k1 k2 k3 hLL hPK hS1 s0 k4 k5 k6 (by omega) (by omega) (by omega) (by omega) q1 q2 q3 q4 q5 q6 (by omega)
          · exact gtells_ok_n2_short w (n : Int) (m : Int) ((n / m : Nat) : Int) ((n % m : Nat) : Int) len A c bs.length bs p ((lst n m).length : Int) 0 (pack (lst n m)).length 0 (lst n m).length 0 0 nB (pack (lst n m)) [] (lst n m) [] [] lB 0 0 0 s1 s2 x0 g hA hX hY k1 k2 k3 hLL hPK hS1 s0 k4 k5 k6 (by omega) (by omega) (by omega) (by omega) q1 q2 q3 q4 q5 q6 (by omega)
      · omega
    · have hX : Hid (∀ V, Calls Try.prog 35 #[.int .u64 (n : Int), .int .u64 (m : Int)] V (Gv V 0 0 [] 3)) := fun V => least_no n m (fun h => by omega) V
      by_cases hn40 : n ≤ 1099511627776
      · by_cases hq : n / m < 8128
        · have hY : Hid (∀ V, Calls Try.prog 36 #[.int .u64 (n : Int), .int .u64 (m : Int)] V (Gv V ((gol n m).length : Int) (pack (gol n m)).length (pack (gol n m)) 0)) := fun V => code_ok n m hm1 hm2 hn40 hq _ rfl V
          have hUL := hyok hn40 hq
          have gl : (gol n m).length = (uc (n / m)).length + (lst (n % m) m).length := by unfold gol; rw [List.length_append]
          have hU := fun V => uList_any (n / m) (by omega) _ rfl V
          have hL2 := fun V => lst_has (n % m) m hm1 (by omega) (Nat.mod_lt n (by omega)) V
          have hPC := fun (A : Option Addr) (c : Nat) (V : World) (h : RdV V V.heap.size A (ic (uc (n / m)) ++ ic (lst (n % m) m))) => packBits_any (gol n m) _ gl hUL A c V (by unfold gol; rw [ic_append]; exact h)
          have hLl : Hid ((ic (lst (n % m) m)).length = (lst (n % m) m).length) := ic_length _
          have hS2 := same_hid (gol n m) (by rw [gl]; exact hUL)
          rcases key with ⟨e0, h0, k1, k2, k3⟩ | ⟨r1, r2, s1, s2, nB, g, lB, k1, k2, k3, k4, k5, k6⟩ | ⟨x0, s1, s2, nB, g, lB, k1, k2, k3, k4, k5, k6⟩
          · exact gtells_no_ok_bad w (n : Int) (m : Int) ((n / m : Nat) : Int) ((n % m : Nat) : Int) len A c bs.length bs p 0 ((gol n m).length : Int) 0 (pack (gol n m)).length 0 (uc (n / m)).length (lst (n % m) m).length 0 [] (pack (gol n m)) [] (uc (n / m)) (lst (n % m) m) [] e0 0 0 0 0 0 0 hA hX hY k1 k2 k3 hU hL2 hPC hLl hUL s0 hS2 (by omega) (by omega) (by omega) (by omega) q1 q2 q3 q4 q5 q6 (by omega) h0
          · exact gtells_no_ok_hit w (n : Int) (m : Int) ((n / m : Nat) : Int) ((n % m : Nat) : Int) len A c bs.length bs p 0 ((gol n m).length : Int) 0 (pack (gol n m)).length 0 (uc (n / m)).length (lst (n % m) m).length nB [] (pack (gol n m)) [] (uc (n / m)) (lst (n % m) m) lB 0 r1 r2 s1 s2 0 g hA hX hY k1 k2 k3 hU hL2 hPC hLl hUL s0 hS2 k4 k5 k6 (by omega) (by omega) (by omega) (by omega) q1 q2 q3 q4 q5 q6 (by omega)
          · exact gtells_no_ok_short w (n : Int) (m : Int) ((n / m : Nat) : Int) ((n % m : Nat) : Int) len A c bs.length bs p 0 ((gol n m).length : Int) 0 (pack (gol n m)).length 0 (uc (n / m)).length (lst (n % m) m).length nB [] (pack (gol n m)) [] (uc (n / m)) (lst (n % m) m) lB 0 0 0 s1 s2 x0 g hA hX hY k1 k2 k3 hU hL2 hPC hLl hUL s0 hS2 k4 k5 k6 (by omega) (by omega) (by omega) (by omega) q1 q2 q3 q4 q5 q6 (by omega)
        · have hY : Hid (∀ V, Calls Try.prog 36 #[.int .u64 (n : Int), .int .u64 (m : Int)] V (Gv V 0 0 [] 3)) := fun V => code_no n m hn (fun h => by omega) V
          rcases key with ⟨e0, h0, k1, k2, k3⟩ | ⟨r1, r2, s1, s2, nB, g, lB, k1, k2, k3, k4, k5, k6⟩ | ⟨x0, s1, s2, nB, g, lB, k1, k2, k3, k4, k5, k6⟩
          · exact gtells_no_n2_bad w (n : Int) (m : Int) ((n / m : Nat) : Int) ((n % m : Nat) : Int) len A c bs.length bs p 0 0 0 0 0 0 0 0 [] [] [] [] [] [] e0 0 0 0 0 0 0 hA hX hY k1 k2 k3 s0 s0 (by omega) (by omega) (by omega) (by omega) q1 q2 q3 q4 q5 q6 (by omega) h0
          · exact gtells_no_n2_hit w (n : Int) (m : Int) ((n / m : Nat) : Int) ((n % m : Nat) : Int) len A c bs.length bs p 0 0 0 0 0 0 0 nB [] [] [] [] [] lB 0 r1 r2 s1 s2 0 g hA hX hY k1 k2 k3 s0 s0 k4 k5 k6 (by omega) (by omega) (by omega) (by omega) q1 q2 q3 q4 q5 q6 (by omega)
          · exact gtells_no_n2_short w (n : Int) (m : Int) ((n / m : Nat) : Int) ((n % m : Nat) : Int) len A c bs.length bs p 0 0 0 0 0 0 0 nB [] [] [] [] [] lB 0 0 0 s1 s2 x0 g hA hX hY k1 k2 k3 s0 s0 k4 k5 k6 (by omega) (by omega) (by omega) (by omega) q1 q2 q3 q4 q5 q6 (by omega)
      · have hY : Hid (∀ V, Calls Try.prog 36 #[.int .u64 (n : Int), .int .u64 (m : Int)] V (Gv V 0 0 [] 3)) := fun V => code_no n m hn (fun h => by omega) V
        rcases key with ⟨e0, h0, k1, k2, k3⟩ | ⟨r1, r2, s1, s2, nB, g, lB, k1, k2, k3, k4, k5, k6⟩ | ⟨x0, s1, s2, nB, g, lB, k1, k2, k3, k4, k5, k6⟩
        · exact gtells_no_n1_bad w (n : Int) (m : Int) ((n / m : Nat) : Int) ((n % m : Nat) : Int) len A c bs.length bs p 0 0 0 0 0 0 0 0 [] [] [] [] [] [] e0 0 0 0 0 0 0 hA hX hY k1 k2 k3 s0 s0 (by omega) (by omega) (by omega) (by omega) h0
        · exact gtells_no_n1_hit w (n : Int) (m : Int) ((n / m : Nat) : Int) ((n % m : Nat) : Int) len A c bs.length bs p 0 0 0 0 0 0 0 nB [] [] [] [] [] lB 0 r1 r2 s1 s2 0 g hA hX hY k1 k2 k3 s0 s0 k4 k5 k6 (by omega) (by omega) (by omega) (by omega)
        · exact gtells_no_n1_short w (n : Int) (m : Int) ((n / m : Nat) : Int) ((n % m : Nat) : Int) len A c bs.length bs p 0 0 0 0 0 0 0 nB [] [] [] [] [] lB 0 0 0 s1 s2 x0 g hA hX hY k1 k2 k3 s0 s0 k4 k5 k6 (by omega) (by omega) (by omega) (by omega)
  · have hX : Hid (∀ V, Calls Try.prog 35 #[.int .u64 (n : Int), .int .u64 (m : Int)] V (Gv V 0 0 [] 3)) := fun V => least_no n m (fun h => by omega) V
    have hY : Hid (∀ V, Calls Try.prog 36 #[.int .u64 (n : Int), .int .u64 (m : Int)] V (Gv V 0 0 [] 3)) := fun V => code_no n m hn (fun h => by omega) V
    have hok : okM m = false := by unfold okM; exact decide_eq_false hm
    by_cases hr : rdE len bs p = 0
    · rw [hr] at herr
      have e : rcE len bs p (okM m) = 3 := by rw [hok]; exact rcE_no len bs p hr
      have h3 : Hid (∀ V, Rd V V.heap.size A bs → Calls Try.prog 37 #[.agg #[.int .i64 len, .slice A bs.length c], .int .i64 p, .int .u64 (m : Int)] V (ReadP V 0 0 3)) := fun V hV => by have := rleast_bad_l len A c bs p m hb (by rw [e]; decide) V hV; rwa [e] at this
      have h4 : Hid (∀ V, Rd V V.heap.size A bs → Calls Try.prog 38 #[.agg #[.int .i64 len, .slice A bs.length c], .int .i64 p, .int .u64 (m : Int)] V (ReadP V 0 0 3)) := fun V hV => by have := rcode_bad_l len A c bs p m hb (by rw [e]; decide) V hV; rwa [e] at this
      by_cases hlo : m < 1
      · exact gtells_lo w (n : Int) (m : Int) 0 0 len A c bs.length bs p 0 0 0 0 0 0 0 0 [] [] [] [] [] [] 0 0 0 0 0 0 0 hA hX hY h3 h4 herr s0 s0 (by omega)
      · exact gtells_ho w (n : Int) (m : Int) 0 0 len A c bs.length bs p 0 0 0 0 0 0 0 0 [] [] [] [] [] [] 0 0 0 0 0 0 0 hA hX hY h3 h4 herr s0 s0 (by omega)
    · by_cases hlo : m < 1
      · exact gtells_lb w (n : Int) (m : Int) 0 0 len A c bs.length bs p 0 0 0 0 0 0 0 0 [] [] [] [] [] [] (rdE len bs p) 0 0 0 0 0 0 hA hX hY (hbl hr) (hbc hr) herr s0 s0 (by omega) hr
      · exact gtells_hb w (n : Int) (m : Int) 0 0 len A c bs.length bs p 0 0 0 0 0 0 0 0 [] [] [] [] [] [] (rdE len bs p) 0 0 0 0 0 0 hA hX hY (hbl hr) (hbc hr) herr s0 s0 (by omega) hr
end Go.Proofs.Ytdjhcegkcjglcaa
