/- The document's own way to copy, to merge, and to join: PartsCopy, Merged, PartsJoin, for whatever lists. -/
import Derived.Test.YtfcmjjmlijidcaaJQQRef
import Derived.Test.YtfcmjjmlijidcaaJQ6
import Derived.Test.YtfcmjjmlijidcaaJQ4
namespace Go.Proofs.Ytfcmjjmlijidcaa
set_option maxRecDepth 100000
set_option linter.unusedVariables false
open Go.RowKit Go.Shelf

/-- The sum that PartsCopy keeps: no more once it was too much. -/
def cs : Int → Int → List Int → Int
  | _, s, [] => s
  | m, s, b :: t => cs m (if (if m < b then 1000 else s) < 1000 then (if m < b then 1000 else s) + b else (if m < b then 1000 else s)) t
theorem cs_cons (m s b : Int) (t : List Int) : cs m s (b :: t) = cs m (if (if m < b then 1000 else s) < 1000 then (if m < b then 1000 else s) + b else (if m < b then 1000 else s)) t := rfl
theorem cs_big (m : Int) (hm : m ≤ 300) : ∀ (bs : List Int) (s : Int), (∀ b ∈ bs, 0 ≤ b) → m < s → m < cs m s bs
  | [], s, _, h => h
  | b :: t, s, hb, h => by
    rw [cs_cons]
    refine cs_big m hm t _ (fun c hc => hb c (by simp [hc])) ?_
    have := hb b (by simp)
    split <;> split <;> omega
theorem cs_fit (m : Int) (hm : m ≤ 300) : ∀ (bs : List Int) (s : Int), (∀ b ∈ bs, 0 ≤ b) → 0 ≤ s → s ≤ m → (cs m s bs ≤ m ↔ bfit (m - s) bs = true)
  | [], s, _, h0, h => by simp [cs, bfit]; exact h
  | b :: t, s, hb, h0, h => by
    have h1 := hb b (by simp)
    have h2 := fun c hc => hb c (List.mem_cons_of_mem b hc)
    rw [cs_cons]
    unfold bfit
    by_cases hle : b ≤ m - s
    · have e : (if (if m < b then 1000 else s) < 1000 then (if m < b then 1000 else s) + b else (if m < b then (1000 : Int) else s)) = s + b := by
        rw [if_neg (show ¬ m < b by omega), if_pos (by omega)]
      rw [e, decide_eq_true hle, Bool.true_and, cs_fit m hm t (s + b) h2 (by omega) (by omega), show m - s - b = m - (s + b) by omega]
    · rw [decide_eq_false hle, Bool.false_and]
      have := cs_big m hm t (if (if m < b then 1000 else s) < 1000 then (if m < b then 1000 else s) + b else (if m < b then (1000 : Int) else s)) h2 (by split <;> split <;> omega)
      constructor
      · intro h; omega
      · intro h; cases h
theorem cs_step (m s : Int) (bs : List Int) (i : Nat) (h : i < bs.length) : cs m s (bs.drop i) = cs m (if (if m < bs[i]?.getD 0 then 1000 else s) < 1000 then (if m < bs[i]?.getD 0 then 1000 else s) + bs[i]?.getD 0 else (if m < bs[i]?.getD 0 then 1000 else s)) (bs.drop (i + 1)) := by
  rw [drop_at bs i h]; rfl
/-- At each round's head of the check. -/
def KsRel (bs : List Int) (m : Nat) (w : World) (s p : Value) (wr : World) : Prop :=
  ∃ (i : Nat) (z : Int), i ≤ bs.length ∧ p = .int .i64 (i : Int) ∧ s = .int .i64 z ∧ 0 ≤ z ∧ z ≤ 2000 ∧ bbad true bs = bbad (decide (i = 0)) (bs.drop i) ∧ cs m 0 bs = cs m z (bs.drop i) ∧ Below w.heap.size w wr
/-- How far to look for a place's block. -/
def fnd (B : List Nat) (i : Nat) : Nat → Nat → Nat
  | 0, b => b
  | g + 1, b => if b < B.length ∧ (B.take (b + 1)).sum ≤ i then fnd B i g (b + 1) else b
theorem pr_at : ∀ (B : List Nat) (p : Bool) (i b : Nat), b ≤ B.length → (B.take b).sum ≤ i → (b < B.length → i < (B.take (b + 1)).sum) → pr p B i = (p == decide (b % 2 = 0))
  | [], p, i, b, h, _, _ => by
    obtain rfl : b = 0 := by simpa using h
    cases p <;> simp [pr]
  | c :: t, p, i, 0, _, _, h2 => by
    have := h2 (by simp)
    simp at this
    unfold pr
    rw [if_pos this]
    cases p <;> simp
  | c :: t, p, i, b + 1, h, h1, h2 => by
    rw [List.take_succ_cons, List.sum_cons] at h1
    unfold pr
    rw [if_neg (by omega), pr_at t (!p) (i - c) b (by simpa using h) (by omega) (fun hb => by have := h2 (by simpa using hb); rw [List.take_succ_cons, List.sum_cons] at this; omega)]
    rw [← par_succ b]
    cases p <;> cases decide (b % 2 = 0) <;> rfl
theorem sum_take_succ (B : List Nat) (b : Nat) (h : b < B.length) : (B.take (b + 1)).sum = (B.take b).sum + B[b]?.getD 0 := by
  rw [take_snocN B b h, List.sum_append]; simp
/-- At each round's head of the looking. -/
def FdRel (B : List Nat) (i : Nat) (W : World) (p s : Value) (wr : World) : Prop :=
  ∃ b : Nat, b ≤ B.length ∧ p = .int .i64 (b : Int) ∧ s = .int .i64 ((B.take b).sum : Int) ∧ (B.take b).sum ≤ i ∧ wr.heap = W.heap ∧ Below W.heap.size W wr
def M3Rel2 (L X : List Nat) (w : World) (v p q : Value) (wr : World) : Prop :=
  ∃ (i k : Nat) (out : List Nat), Mi L X out i k ∧ p = .int .i64 (i : Int) ∧ q = .int .i64 (k : Int) ∧ wr.ownsRow w.heap.size 3 1 v out.length (zc (ns out)) ∧ Below w.heap.size w wr
theorem mi_len2 {L X out : List Nat} {i k : Nat} (h : Mi L X out i k) : out.length ≤ L.length + X.length := by
  have := h.perm.length_eq
  rw [List.length_append, List.length_take, List.length_take] at this
  omega
theorem own_same2 {w W' : World} {base : Nat} {e : TypeId} {size n : Nat} {v : Value} {xs : List Value} (h : w.ownsRow base e size v n xs) (hk : ∀ g, v.ownBlock = some g → W'.heap[g]? = w.heap[g]?) : W'.ownsRow base e size v n xs := by
  refine ⟨h.1, ?_⟩
  rcases h.2 with h2 | ⟨g, cap, cur, rfl, a1, a2, a3, a4, a5, a6⟩
  · exact .inl h2
  · exact .inr ⟨g, cap, cur, rfl, a1, (hk g rfl).trans a2, a3, a4, a5, a6⟩
/-- A list, as long as is said, and an error come back. -/
def IntM2 (w : World) (n : Nat) (l : List Nat) (err : Int) (e : Ending) (w' : World) : Prop :=
  ∃ A c, e = .returned (.tuple #[.slice A n c, .int .i64 err]) ∧ RdV w' w'.heap.size A (zc (ns l)) ∧ Below w.heap.size w w'
set_option maxHeartbeats 8000000 in
theorem merged_in (L X : List Nat) (hLp : L.Pairwise (· < ·)) (hXp : X.Pairwise (· < ·)) (hflb : L.length ≤ 90000) (n2 : Nat) (hXn : X.length = n2) (hX4 : n2 ≤ 300) (M1 : List Nat) (M2 : Int) (hM : un L X = (M1, M2)) (n : Nat) (hn : M1.length = n) (A1 A2 : Option Addr) (c1 c2 : Nat) (w : World) (h1 : RdV w w.heap.size A1 (zc (ns L))) (h2 : RdV w w.heap.size A2 (zc (ns X))) :
    Calls Try.prog 58 #[.slice A1 L.length c1, .slice A2 n2 c2] w (IntM2 w n M1 M2) := by
  obtain ⟨i0, hi, hz0, hz1, hz2'⟩ := info_parts info3
  have HL := Lib.hid h1; have HX := Lib.hid h2; have HLp := Lib.hid hLp; have HXp := Lib.hid hXp; have HXn := Lib.hid hXn; have HMG := Lib.hid hM; have HNn := Lib.hid hn
  clear h1 h2 hLp hXp hXn hM hn
  go_enter Try.func58, Try.ntmps58
  go_wp2
  go_loopw [6, 7, 8] (fun a p q wr => M3Rel2 L X w a p q wr) (fun _ p q _ => L.length + n2 - (intOf p).toNat - (intOf q).toNat)
  case atStart => exact ⟨0, 0, [], mi_start _ _, rfl, rfl, ⟨rfl, .inl ⟨rfl, rfl⟩⟩, Below.refl _ _⟩
  case round =>
    obtain ⟨p, k, out, hM, rfl, rfl, hrow, hbel⟩ := hrel
    obtain ⟨Ao, co, rfl⟩ := own_slice3 hrow
    have hml := mi_len2 hM
    rw [HXn.out] at hml
    have hpi := hM.hi
    have hki := hM.hk
    rw [HXn.out] at hki
    by_cases h1 : p < L.length
    · obtain ⟨b, off, hbA, hb, qV⟩ := HL.out.at_ (ns_get L p h1)
      by_cases h2 : k < n2
      · obtain ⟨b2, off2, hbA2, hb2, qV2⟩ := HX.out.at_ (ns_get X k (by rw [HXn.out]; exact h2))
        subst hbA; subst hbA2
        have k0 := (hbel.cell (p := ⟨b, off + p, none⟩) hb).trans qV
        have k1 := (hbel.cell (p := ⟨b2, off2 + k, none⟩) hb2).trans qV2
        have hk' : k < X.length := by rw [HXn.out]; exact h2
        have hLl := at_mem L p h1
        have hXl := at_mem X k hk'
        have HLa : Hid (X[k]?.getD 0 < L[p]?.getD 0 → Mi L X (out ++ [X[k]?.getD 0]) p (k + 1)) := fun q => mi_right hM HXp.out hk' fun y hy => by
          rw [drop_nat L p h1] at hy
          rcases List.mem_cons.1 hy with rfl | hy
          · exact q
          · exact Nat.lt_trans q (pw_drop HLp.out p h1 y hy)
        have HXa : Hid (L[p]?.getD 0 < X[k]?.getD 0 → Mi L X (out ++ [L[p]?.getD 0]) (p + 1) k) := fun q => mi_left hM HLp.out h1 fun y hy => by
          rw [drop_nat X k hk'] at hy
          rcases List.mem_cons.1 hy with rfl | hy
          · exact q
          · exact Nat.lt_trans q (pw_drop HXp.out k hk' y hy)
        generalize L[p]?.getD 0 = x at *
        generalize X[k]?.getD 0 = y at *
        have HDup : Hid (x = y → M1 = [] ∧ M2 = 6) := fun q => by
          have e := HMG.out
          rw [un_dup L X x hLl (q ▸ hXl)] at e
          exact ⟨(Prod.mk.inj e).1.symm, (Prod.mk.inj e).2.symm⟩
        have d1 : decide ((p : Int) < (L.length : Int)) = true := by simp; omega
        have d1' : decide (p < L.length) = true := by simpa using h1
        have t7 : (0 : Int) ≤ (p : Int) := by omega
        have t8 : (p : Int) < (L.length : Int) := by omega
        have d2 : decide ((k : Int) < (n2 : Int)) = true := by simp; omega
        have d2' : decide (k < n2) = true := by simpa using h2
        have t9 : (0 : Int) ≤ (k : Int) := by omega
        have t10 : (k : Int) < (n2 : Int) := by omega
        have d3 : decide ((n2 : Int) ≤ (k : Int)) = false := by simp; omega
        have d3' : decide (n2 ≤ k) = false := by simp; omega
        have HO := Lib.hid hrow; have HB2 := Lib.hid hbel
        clear hM qV qV2 hb hb2 hLl hXl hrow hbel hk'
        by_cases hxy : x = y
        · obtain ⟨rfl, rfl⟩ := HDup.out hxy
          obtain rfl : n = 0 := by rw [← HNn.out]; rfl
          subst hxy
          have d4 : ((x : Int) == (x : Int)) = true := by simp
          clear HDup HLa HXa h1 h2
          go_wp2
          go_quiet (fail)
          go_wp2
          go_ret2
          exact ⟨none, 0, rfl, .inl rfl, below_drewN HB2.out _⟩
        · have d4 : ((x : Int) == (y : Int)) = false := by simp; omega
          by_cases hlt2 : x < y
          · have d5 : decide ((x : Int) < (y : Int)) = true := by simp; omega
            have d5' : decide (x < y) = true := by simpa using hlt2
            have HMn := Lib.hid (HXa.out hlt2)
            clear HDup HLa HXa h1 h2 hxy hlt2
            go_wp2
            go_quiet (fail)
            revert nq
            intro q1
            go_wp2
            go_quiet (fail)
            generalize hW : World.drewN (World.drewN wr q1) nq = W
            have kW : W.cell? ⟨b, off + p, none⟩ = some (.int .i64 (x : Int)) := by rw [← hW]; exact k0
            have HO2 := own_same2 (W' := W) HO.out (fun g _ => by rw [← hW]; rfl)
            have HBW : Hid (Below w.heap.size w W) := by show Below _ _ _; rw [← hW]; exact below_drewN (below_drewN HB2.out _) _
            have HZZ : Hid (zc (ns out) ++ [Value.int .i64 (x : Int)] = zc (ns (out ++ [x]))) := by show _ = _; rw [ns_append, zc_append]; rfl
            clear hW HO HB2
            go_wp2_with (at_builtin; go_loud (refine wpList_append_own _ rfl _ _ 22 rfl w.heap.size 3 i0 (.int .i64 0) 1 8 Try.underlying22 hi hz0 hz1 hz2' rfl (by decide) _ _ _ rfl (HO2.alloc _) ⟨W.heap.size, 0, none⟩ 1 1 [.int .i64 (x : Int)] rfl rfl (news_row W [.int .i64 (x : Int)] _) (by simp [Value.oneCell']) (by unfold maxLen; omega) (by omega) (by have := HBW.out.size; simp; omega) ?_; intro v' w3 hown' hgrow _))
            rw [HZZ.out] at hown'
            have HO3 := Lib.hid hown'
            have HB3 : Hid (Below w.heap.size w w3) := HBW.out.trans (((Below.refl w.heap.size W).alloc HBW.out.size _).trans (grown_low hgrow (HO2.alloc _) (by have := HBW.out.size; simp; omega)))
            clear hown' hgrow HO2
            go_roundw
            case rel => exact ⟨p + 1, k, out ++ [x], HMn.out, by go_num, rfl, by rw [List.length_append]; exact HO3.out, HB3.out⟩
            case measure => simp [intOf]; omega
          · have d5 : decide ((x : Int) < (y : Int)) = false := by simp; omega
            have d5' : decide (x < y) = false := by simpa using hlt2
            have HMn := Lib.hid (HLa.out (by omega))
            clear HDup HLa HXa h1 h2 hxy hlt2
            go_wp2
            go_quiet (fail)
            revert nq
            intro q1
            go_wp2
            go_quiet (fail)
            generalize hW : World.drewN (World.drewN wr q1) nq = W
            have kW : W.cell? ⟨b2, off2 + k, none⟩ = some (.int .i64 (y : Int)) := by rw [← hW]; exact k1
            have HO2 := own_same2 (W' := W) HO.out (fun g _ => by rw [← hW]; rfl)
            have HBW : Hid (Below w.heap.size w W) := by show Below _ _ _; rw [← hW]; exact below_drewN (below_drewN HB2.out _) _
            have HZZ : Hid (zc (ns out) ++ [Value.int .i64 (y : Int)] = zc (ns (out ++ [y]))) := by show _ = _; rw [ns_append, zc_append]; rfl
            clear hW HO HB2
            go_wp2_with (at_builtin; go_loud (refine wpList_append_own _ rfl _ _ 22 rfl w.heap.size 3 i0 (.int .i64 0) 1 8 Try.underlying22 hi hz0 hz1 hz2' rfl (by decide) _ _ _ rfl (HO2.alloc _) ⟨W.heap.size, 0, none⟩ 1 1 [.int .i64 (y : Int)] rfl rfl (news_row W [.int .i64 (y : Int)] _) (by simp [Value.oneCell']) (by unfold maxLen; omega) (by omega) (by have := HBW.out.size; simp; omega) ?_; intro v' w3 hown' hgrow _))
            rw [HZZ.out] at hown'
            have HO3 := Lib.hid hown'
            have HB3 : Hid (Below w.heap.size w w3) := HBW.out.trans (((Below.refl w.heap.size W).alloc HBW.out.size _).trans (grown_low hgrow (HO2.alloc _) (by have := HBW.out.size; simp; omega)))
            clear hown' hgrow HO2
            go_roundw
            case rel => exact ⟨p, k + 1, out ++ [y], HMn.out, rfl, by go_num, by rw [List.length_append]; exact HO3.out, HB3.out⟩
            case measure => simp [intOf]; omega
      · subst hbA
        have k0 := (hbel.cell (p := ⟨b, off + p, none⟩) hb).trans qV
        have HMn := Lib.hid (mi_left hM HLp.out h1 (by rw [List.drop_of_length_le (by rw [HXn.out]; omega)]; simp))
        generalize L[p]?.getD 0 = x at *
        have d1 : decide ((p : Int) < (L.length : Int)) = true := by simp; omega
        have d1' : decide (p < L.length) = true := by simpa using h1
        have t7 : (0 : Int) ≤ (p : Int) := by omega
        have t8 : (p : Int) < (L.length : Int) := by omega
        have d2 : decide ((k : Int) < (n2 : Int)) = false := by simp; omega
        have d2' : decide (k < n2) = false := by simpa using h2
        have d3 : decide ((n2 : Int) ≤ (k : Int)) = true := by simp; omega
        have d3' : decide (n2 ≤ k) = true := by simp; omega
        have HO := Lib.hid hrow; have HB2 := Lib.hid hbel
        clear hM qV hb hrow hbel h1 h2
        go_wp2
        go_quiet (fail)
        revert nq
        intro q1
        go_wp2
        go_quiet (fail)
        generalize hW : World.drewN (World.drewN wr q1) nq = W
        have kW : W.cell? ⟨b, off + p, none⟩ = some (.int .i64 (x : Int)) := by rw [← hW]; exact k0
        have HO2 := own_same2 (W' := W) HO.out (fun g _ => by rw [← hW]; rfl)
        have HBW : Hid (Below w.heap.size w W) := by show Below _ _ _; rw [← hW]; exact below_drewN (below_drewN HB2.out _) _
        have HZZ : Hid (zc (ns out) ++ [Value.int .i64 (x : Int)] = zc (ns (out ++ [x]))) := by show _ = _; rw [ns_append, zc_append]; rfl
        clear hW HO HB2
        go_wp2_with (at_builtin; go_loud (refine wpList_append_own _ rfl _ _ 22 rfl w.heap.size 3 i0 (.int .i64 0) 1 8 Try.underlying22 hi hz0 hz1 hz2' rfl (by decide) _ _ _ rfl (HO2.alloc _) ⟨W.heap.size, 0, none⟩ 1 1 [.int .i64 (x : Int)] rfl rfl (news_row W [.int .i64 (x : Int)] _) (by simp [Value.oneCell']) (by unfold maxLen; omega) (by omega) (by have := HBW.out.size; simp; omega) ?_; intro v' w3 hown' hgrow _))
        rw [HZZ.out] at hown'
        have HO3 := Lib.hid hown'
        have HB3 : Hid (Below w.heap.size w w3) := HBW.out.trans (((Below.refl w.heap.size W).alloc HBW.out.size _).trans (grown_low hgrow (HO2.alloc _) (by have := HBW.out.size; simp; omega)))
        clear hown' hgrow HO2
        go_roundw
        case rel => exact ⟨p + 1, k, out ++ [x], HMn.out, by go_num, rfl, by rw [List.length_append]; exact HO3.out, HB3.out⟩
        case measure => simp [intOf]; omega
    · by_cases h2 : k < n2
      · obtain ⟨b2, off2, hbA2, hb2, qV2⟩ := HX.out.at_ (ns_get X k (by rw [HXn.out]; exact h2))
        subst hbA2
        have k1 := (hbel.cell (p := ⟨b2, off2 + k, none⟩) hb2).trans qV2
        have HMn := Lib.hid (mi_right hM HXp.out (by rw [HXn.out]; exact h2) (by rw [List.drop_of_length_le (by omega)]; simp))
        generalize X[k]?.getD 0 = y at *
        have d1 : decide ((p : Int) < (L.length : Int)) = false := by simp; omega
        have d1' : decide (p < L.length) = false := by simpa using h1
        have d2 : decide ((k : Int) < (n2 : Int)) = true := by simp; omega
        have d2' : decide (k < n2) = true := by simpa using h2
        have t9 : (0 : Int) ≤ (k : Int) := by omega
        have t10 : (k : Int) < (n2 : Int) := by omega
        have d3 : decide ((n2 : Int) ≤ (k : Int)) = false := by simp; omega
        have d3' : decide (n2 ≤ k) = false := by simp; omega
        have HO := Lib.hid hrow; have HB2 := Lib.hid hbel
        clear hM qV2 hb2 hrow hbel h1 h2
        go_wp2
        go_quiet (fail)
        revert nq
        intro q1
        go_wp2
        go_quiet (fail)
        generalize hW : World.drewN (World.drewN wr q1) nq = W
        have kW : W.cell? ⟨b2, off2 + k, none⟩ = some (.int .i64 (y : Int)) := by rw [← hW]; exact k1
        have HO2 := own_same2 (W' := W) HO.out (fun g _ => by rw [← hW]; rfl)
        have HBW : Hid (Below w.heap.size w W) := by show Below _ _ _; rw [← hW]; exact below_drewN (below_drewN HB2.out _) _
        have HZZ : Hid (zc (ns out) ++ [Value.int .i64 (y : Int)] = zc (ns (out ++ [y]))) := by show _ = _; rw [ns_append, zc_append]; rfl
        clear hW HO HB2
        go_wp2_with (at_builtin; go_loud (refine wpList_append_own _ rfl _ _ 22 rfl w.heap.size 3 i0 (.int .i64 0) 1 8 Try.underlying22 hi hz0 hz1 hz2' rfl (by decide) _ _ _ rfl (HO2.alloc _) ⟨W.heap.size, 0, none⟩ 1 1 [.int .i64 (y : Int)] rfl rfl (news_row W [.int .i64 (y : Int)] _) (by simp [Value.oneCell']) (by unfold maxLen; omega) (by omega) (by have := HBW.out.size; simp; omega) ?_; intro v' w3 hown' hgrow _))
        rw [HZZ.out] at hown'
        have HO3 := Lib.hid hown'
        have HB3 : Hid (Below w.heap.size w w3) := HBW.out.trans (((Below.refl w.heap.size W).alloc HBW.out.size _).trans (grown_low hgrow (HO2.alloc _) (by have := HBW.out.size; simp; omega)))
        clear hown' hgrow HO2
        go_roundw
        case rel => exact ⟨p, k + 1, out ++ [y], HMn.out, rfl, by go_num, by rw [List.length_append]; exact HO3.out, HB3.out⟩
        case measure => simp [intOf]; omega
      · obtain rfl : p = L.length := by omega
        have hkX : k = X.length := by rw [HXn.out]; omega
        have d1 : decide ((L.length : Int) < (L.length : Int)) = false := by simp
        have d1' : decide (L.length < L.length) = false := by simp
        have d2 : decide ((k : Int) < (n2 : Int)) = false := by simp; omega
        have d2' : decide (k < n2) = false := by simpa using h2
        have e := HMG.out
        rw [un_mi (L := L) (X := X) (out := out) (by rw [← hkX]; exact hM)] at e
        have HR := Lib.hid (own_rdv hrow)
        have HB2 : Hid (Below w.heap.size w wr) := hbel
        clear hM hrow hbel hkX
        by_cases h5 : 300 < out.length
        · rw [if_pos h5] at e
          obtain ⟨rfl, rfl⟩ := Prod.mk.inj e
          obtain rfl : n = 0 := by rw [← HNn.out]; rfl
          have t1 : decide ((300 : Int) < (out.length : Int)) = true := by simp; omega
          have t2 : decide (300 < out.length) = true := by simpa using h5
          clear e h5 h1 h2
          go_wp2
          go_ret2
          exact ⟨none, 0, rfl, .inl rfl, HB2.out⟩
        · rw [if_neg h5] at e
          obtain ⟨rfl, rfl⟩ := Prod.mk.inj e
          obtain rfl : n = out.length := HNn.out.symm
          have t1 : decide ((300 : Int) < (out.length : Int)) = false := by simp; omega
          have t2 : decide (300 < out.length) = false := by simpa using h5
          clear e h5 h1 h2
          go_wp2
          go_ret2
          exact ⟨Ao, co, rfl, HR.out, HB2.out⟩
/-- At each round's head: what is copied of the first places. -/
def CoRel (B F : List Nat) (w : World) (v p : Value) (wr : World) : Prop :=
  ∃ i : Nat, i ≤ F.length ∧ p = .int .i64 (i : Int) ∧ wr.ownsRow w.heap.size 3 1 v (cp true B (F.take i)).length (zc (ns (cp true B (F.take i)))) ∧ Below w.heap.size w wr
def FdRel2 (B : List Nat) (i : Nat) (p s : Value) : Prop :=
  ∃ b : Nat, b ≤ B.length ∧ p = .int .i64 (b : Int) ∧ s = .int .i64 ((B.take b).sum : Int) ∧ (B.take b).sum ≤ i
set_option maxHeartbeats 8000000 in
theorem rcopy_in (F : List Nat) (hF : Rising F) (n : Nat) (hn : F.length = n) (bs : List Int) (m : Nat) (hm : bs.length = m) (hm2 : m ≤ n + 1) (M : List Nat) (e0 : Int) (hM : cpA (ns F) bs = M) (he : cpE (ns F) bs = e0) (k0 : Nat) (hk0 : M.length = k0) (A1 A2 : Option Addr) (c1 c2 : Nat) (w : World) (h1 : RdV w w.heap.size A1 (zc (ns F))) (h2 : RdV w w.heap.size A2 (zc bs)) :
    Calls Try.prog 17 #[.slice A1 n c1, .slice A2 m c2] w (IntM2 w k0 M e0) := by
  have h300 : n ≤ 300 := by have := hF.1; omega
  have he' : e0 = if bbad true bs = true then 3 else if bfit n bs = true then 0 else 8 := by
    rw [← he]; unfold cpE
    rw [rchk_ok F hF, if_neg (by simp)]
    unfold bchk
    rw [ns_length, hn, if_neg (by omega)]
  have hM' : e0 ≠ 0 → M = [] := fun h => by rw [← hM]; unfold cpA; rw [he, if_pos h]
  have HErr : Hid (bbad true bs = true → M = [] ∧ e0 = 3) := fun h => by
    have : e0 = 3 := by rw [he', if_pos h]
    exact ⟨hM' (by omega), this⟩
  have HFull : Hid (bbad true bs = false → bfit n bs = false → M = [] ∧ e0 = 8) := fun h h' => by
    have : e0 = 8 := by rw [he', if_neg (by rw [h]; simp), if_neg (by rw [h']; simp)]
    exact ⟨hM' (by omega), this⟩
  have HGood : Hid (bbad true bs = false → bfit n bs = true → e0 = 0 ∧ ∃ B, bs = ns B ∧ BOk B n ∧ cp true B F = M) := fun h h' => by
    have hz : e0 = 0 := by rw [he', if_neg (by rw [h]; simp), if_pos h']
    refine ⟨hz, ?_⟩
    obtain ⟨B, rfl, hB⟩ := bchk_zero bs n (by unfold bchk; rw [if_neg (by omega), if_neg (by rw [h]; simp), if_pos h'])
    refine ⟨B, rfl, hB, ?_⟩
    rw [← hM]; unfold cpA
    rw [he, if_neg (by omega), tn_ns, tn_ns]
  have HRis : Hid (Calls Try.prog 15 #[.slice A1 n c1] w fun e w' => e = .returned (.int .i64 0) ∧ Below w.heap.size w w') := by
    have := rising_any (ns F) n (by rw [ns_length, hn]) (by omega) A1 c1 w h1
    rwa [rchk_ok F hF] at this
  obtain ⟨i0, hif, hz0, hz1, hz2⟩ := info_parts info3
  have HX1 := Lib.hid h1; have HX2 := Lib.hid h2; have HN := Lib.hid hn; have HN2 := Lib.hid hm; have HNn := Lib.hid hk0
  have t1 : IntKind.i64.wrap ((n : Int) + 1) = (n : Int) + 1 := IntWalk.i64_in _ (by omega)
  have t2 : decide ((m : Int) > (n : Int) + 1) = false := by simp; omega
  have t3 : decide ((n : Int) + 1 < (m : Int)) = false := by simp; omega
  have t4 : decide (n + 1 < m) = false := by simp; omega
  clear h1 h2 hn hm hM he hk0 he' hM' hF
  go_enter Try.func17, Try.ntmps17
  go_wp2_with fail
  refine HRis.out.mono ?_
  rintro e w1 ⟨rfl, B1⟩
  have HB1 := Lib.hid B1; clear B1 HRis
  go_wp2
  clear t1 t2 t3 t4
  go_loopw [7, 8] (fun s p wr => KsRel bs n w s p wr) (fun _ p _ => m - (intOf p).toNat)
  case atStart => exact ⟨0, 0, Nat.zero_le _, rfl, rfl, by omega, by omega, rfl, rfl, HB1.out⟩
  case round =>
    obtain ⟨i, z, hi, rfl, rfl, hz0', hz1', hbb, hcs, hbel⟩ := hrel
    rw [HN2.out] at hi
    by_cases hlt : i < m
    · have hin : i < bs.length := by rw [HN2.out]; exact hlt
      obtain ⟨b2, off2, rfl, hb2, hcb⟩ := (HX2.out.on hbel).at_ (zc_get bs i hin)
      have hst := cs_step n z bs i hin
      have hstb := bbad_step (decide (i = 0)) bs i hin
      have HB := Lib.hid hbel
      clear hbel
      have g1 : decide ((i : Int) < (m : Int)) = true := by simp; omega
      have g2 : decide (i < m) = true := by simpa using hlt
      have g3 : (0 : Int) ≤ (i : Int) := by omega
      have g4 : (i : Int) < (m : Int) := by omega
      generalize hx : bs[i]?.getD 0 = b at *
      by_cases hneg : b < 0
      · have hR : bbad true bs = true := by rw [hbb, hstb, decide_eq_true (.inl hneg), Bool.true_or]
        have HQ := Lib.hid (HErr.out hR)
        have q1 : decide (b < 0) = true := by simpa using hneg
        clear hbb hcs hst hstb hx hR
        go_wp2
        go_ret2
        exact ⟨none, 0, by rw [show k0 = 0 by rw [← HNn.out, HQ.out.1]; rfl, HQ.out.2]; rfl, by rw [HQ.out.1]; exact .inl rfl, HB.out⟩
      · have q1 : decide (b < 0) = false := by simpa using hneg
        by_cases hbz : b = 0
        · have q2 : (b == 0) = true := by simpa using hbz
          by_cases hi0 : i = 0
          · have q3 : decide ((i : Int) > 0) = false := by simp; omega
            have q4 : decide ((0 : Int) < (i : Int)) = false := by simp; omega
            have q5 : decide (0 < i) = false := by simp; omega
            have HS : Hid (bbad true bs = bbad (decide (i + 1 = 0)) (bs.drop (i + 1))) := by
              show _ = _
              rw [hbb, hstb, hi0]; simp [hbz]
            have q6 : decide (b > (n : Int)) = false := by simp; omega
            have q7 : decide ((n : Int) < b) = false := by simp; omega
            clear hi0
            by_cases hzz : z < 1000
            · have q8 : decide (z < 1000) = true := by simpa using hzz
              have q9 : IntKind.i64.wrap (z + b) = z + b := IntWalk.i64_in _ (by omega)
              have HS2 : Hid (cs n 0 bs = cs n (z) (bs.drop (i + 1))) := by
                show _ = _
                rw [hcs, hst]; congr 1; rw [if_neg (show ¬ (n : Int) < b by omega), if_pos hzz]; omega
              clear hcs hst hbb hx hstb
              go_wp2
              go_roundw
              case rel => exact ⟨i + 1, z, by rw [HN2.out]; omega, by go_num, rfl, by omega, by omega, HS.out, HS2.out, HB.out⟩
              case measure => simp [intOf]; omega
            · have q8 : decide (z < 1000) = false := by simpa using hzz
              have HS2 : Hid (cs n 0 bs = cs n (z) (bs.drop (i + 1))) := by
                show _ = _
                rw [hcs, hst]; congr 1; rw [if_neg (show ¬ (n : Int) < b by omega), if_neg hzz]
              clear hcs hst hbb hx hstb
              go_wp2
              go_roundw
              case rel => exact ⟨i + 1, z, by rw [HN2.out]; omega, by go_num, rfl, by omega, by omega, HS.out, HS2.out, HB.out⟩
              case measure => simp [intOf]; omega
          · have hR : bbad true bs = true := by rw [hbb, hstb, decide_eq_true (.inr ⟨hbz, by simpa using hi0⟩), Bool.true_or]
            have HQ := Lib.hid (HErr.out hR)
            have q3 : decide ((i : Int) > 0) = true := by simp; omega
            have q4 : decide ((0 : Int) < (i : Int)) = true := by simp; omega
            have q5 : decide (0 < i) = true := by simp; omega
            clear hbb hcs hst hstb hx hR hi0 hbz
            go_wp2
            go_ret2
            exact ⟨none, 0, by rw [show k0 = 0 by rw [← HNn.out, HQ.out.1]; rfl, HQ.out.2]; rfl, by rw [HQ.out.1]; exact .inl rfl, HB.out⟩
        · have q2 : (b == 0) = false := by simpa using hbz
          have HS : Hid (bbad true bs = bbad (decide (i + 1 = 0)) (bs.drop (i + 1))) := by
            show _ = _
            rw [hbb, hstb, decide_eq_false (by rintro (h | ⟨h, _⟩); exact hneg h; exact hbz h)]; simp
          by_cases hgt : b > (n : Int)
          · have q6 : decide (b > (n : Int)) = true := by simpa using hgt
            have q7 : decide ((n : Int) < b) = true := by simpa using hgt
            have HS2 : Hid (cs n 0 bs = cs n (1000) (bs.drop (i + 1))) := by
              show _ = _
              rw [hcs, hst]; congr 1; rw [if_pos hgt, if_neg (by omega)]
            clear hcs hst hbb hx hstb
            go_wp2
            go_roundw
            case rel => exact ⟨i + 1, 1000, by rw [HN2.out]; omega, by go_num, rfl, by omega, by omega, HS.out, HS2.out, HB.out⟩
            case measure => simp [intOf]; omega
          · have q6 : decide (b > (n : Int)) = false := by simp; omega
            have q7 : decide ((n : Int) < b) = false := by simp; omega
            by_cases hzz : z < 1000
            · have q8 : decide (z < 1000) = true := by simpa using hzz
              have q9 : IntKind.i64.wrap (z + b) = z + b := IntWalk.i64_in _ (by omega)
              have HS2 : Hid (cs n 0 bs = cs n (z + b) (bs.drop (i + 1))) := by
                show _ = _
                rw [hcs, hst]; congr 1; rw [if_neg (show ¬ (n : Int) < b by omega), if_pos hzz]
              clear hcs hst hbb hx hstb
              go_wp2
              go_roundw
              case rel => exact ⟨i + 1, z + b, by rw [HN2.out]; omega, by go_num, rfl, by omega, by omega, HS.out, HS2.out, HB.out⟩
              case measure => simp [intOf]; omega
            · have q8 : decide (z < 1000) = false := by simpa using hzz
              have HS2 : Hid (cs n 0 bs = cs n (z) (bs.drop (i + 1))) := by
                show _ = _
                rw [hcs, hst]; congr 1; rw [if_neg (show ¬ (n : Int) < b by omega), if_neg hzz]
              clear hcs hst hbb hx hstb
              go_wp2
              go_roundw
              case rel => exact ⟨i + 1, z, by rw [HN2.out]; omega, by go_num, rfl, by omega, by omega, HS.out, HS2.out, HB.out⟩
              case measure => simp [intOf]; omega
    · have e : i = bs.length := by rw [HN2.out]; omega
      have hF0 : bbad true bs = false := by rw [hbb, e, List.drop_length]; rfl
      have hZ : cs n 0 bs = z := by rw [hcs, e, List.drop_length]; rfl
      have HB := Lib.hid hbel
      have g1 : decide ((i : Int) < (m : Int)) = false := by simp; omega
      have g2 : decide (i < m) = false := by simpa using hlt
      have hge := bbad_all bs true hF0
      have hfit := cs_fit n (by omega) bs 0 (fun b hb => by
        obtain ⟨j, hj, rfl⟩ := List.getElem_of_mem hb
        have := hge j hj
        rwa [List.getElem?_eq_getElem hj] at this) (Int.le_refl _) (by omega)
      rw [hZ, Int.sub_zero] at hfit
      by_cases hzn : z ≤ (n : Int)
      · have HBf : Hid (bfit n bs = true) := hfit.1 hzn
        obtain ⟨he0, hok⟩ := HGood.out hF0 HBf.out
        have HOk := Lib.hid hok
        subst he0
        clear hok
        have q6 : decide (z > (n : Int)) = false := by simp; omega
        have q7 : decide ((n : Int) < z) = false := by simp; omega
        clear hbb hcs hbel e hF0 hZ hge hfit
        obtain ⟨B, rfl, hB, hM⟩ := HOk.out
        have HBo := Lib.hid hB; have HMM := Lib.hid hM
        have hBs := hB.2.2
        clear hB hM HErr HFull HGood HOk HBf
        obtain ⟨W, hW⟩ : ∃ W, W = wr := ⟨_, rfl⟩
        subst hW
        go_wp2
        clear hi hlt g1 g2 q6 q7 hzn hz0' hz1'
        go_loopw [9, 10] (fun v p V => CoRel B F W v p V) (fun _ p _ => n - (intOf p).toNat)
        case atStart => exact ⟨0, Nat.zero_le _, rfl, by rw [List.take_zero, cp_nil]; exact ⟨rfl, .inl ⟨rfl, rfl⟩⟩, Below.refl _ _⟩
        case round =>
          obtain ⟨i, hi, rfl, hrow, hbel⟩ := hrel
          rw [HN.out] at hi
          obtain ⟨Av, cv, rfl⟩ := own_slice3 hrow
          obtain ⟨V, hV⟩ : ∃ V, V = wr := ⟨_, rfl⟩
          subst hV
          have hln : (cp true B (F.take i)).length ≤ i := Nat.le_trans (cp_len B true (F.take i)).length_le (List.length_take_le i F)
          have HB2 := Lib.hid hbel
          have hbw := HB.out.trans (hbel.mono HB.out.size)
          have hXb := HX2.out.on hbw
          have hXf := HX1.out.on hbw
          have HXb := Lib.hid hXb; have HXf := Lib.hid hXf
          by_cases hlt : i < n
          · have hin : i < F.length := by rw [HN.out]; exact hlt
            have g1 : decide ((i : Int) < (n : Int)) = true := by simp; omega
            have g2 : decide (i < n) = true := by simpa using hlt
            have hsn : cp true B (F.take (i + 1)) = cp true B (F.take i) ++ (if pr true B i then [F[i]?.getD 0] else []) := by
              rw [take_snocN F i hin, cp_snoc, List.length_take, Nat.min_eq_left (by omega)]
            obtain ⟨b, off, rfl, hbb, hcx⟩ := hXf.at_ (ns_get F i hin)
            have HSn := Lib.hid hsn
            clear hsn hXb hXf hbel hbw
            generalize hk : (cp true B (F.take i)).length = k at *
            have HK := Lib.hid hk
            clear hk
            go_wp2
            go_loopw [11, 12] (fun p s V' => FdRel2 B i p s ∧ V' = V) (fun p _ _ => m - (intOf p).toNat)
            case atStart => exact ⟨⟨0, Nat.zero_le _, rfl, rfl, Nat.zero_le _⟩, rfl⟩
            case round =>
              obtain ⟨⟨d, hd, rfl, rfl, hds⟩, hw2⟩ := hrel
              have hw3 := hw2.symm
              subst hw3
              clear hw2
              have hdm : d ≤ m := by rw [← HN2.out, ns_length]; exact hd
              by_cases hdl : d < m
              · have hdin : d < B.length := by have := HN2.out; rw [ns_length] at this; omega
                obtain ⟨b3, off3, rfl, hb3, hc3⟩ := HXb.out.at_ (ns_get B d hdin)
                have hss := sum_take_succ B d hdin
                have htot : (B.take (d + 1)).sum ≤ n := by
                  have : (B.take (d + 1)).sum + (B.drop (d + 1)).sum = B.sum := by rw [← List.sum_append, List.take_append_drop]
                  omega
                have HPr : Hid (i < (B.take (d + 1)).sum → pr true B i = decide (d % 2 = 0)) := fun h => by
                  rw [pr_at B true i d hd hds (fun _ => h)]; cases decide (d % 2 = 0) <;> rfl
                generalize B[d]?.getD 0 = y at *
                generalize hS : (B.take d).sum = s at *
                have HSS := Lib.hid hS
                have HSu : Hid ((B.take (d + 1)).sum = s + y) := hss
                rw [hss] at htot HPr
                clear hS hss
                have f1 : decide ((d : Int) < (m : Int)) = true := by simp; omega
                have f2 : decide (d < m) = true := by simpa using hdl
                have f3 : (0 : Int) ≤ (d : Int) := by omega
                have f4 : (d : Int) < (m : Int) := by omega
                have f5 : IntKind.i64.wrap ((s : Int) + (y : Int)) = (s : Int) + (y : Int) := IntWalk.i64_in _ (by omega)
                by_cases hge : s + y ≤ i
                · have f6 : decide ((s : Int) + (y : Int) ≤ (i : Int)) = true := by simp; omega
                  have f7 : decide ((i : Int) ≥ (s : Int) + (y : Int)) = true := by simp; omega
                  have f8 : decide (s + y ≤ i) = true := by simpa using hge
                  clear HPr
                  go_wp2
                  go_roundw
                  case rel => exact ⟨⟨d + 1, hdin, by go_num, by rw [HSu.out]; go_num, by rw [HSu.out]; exact hge⟩, by trivial⟩
                  case measure => simp [intOf]; omega
                · have f6 : decide ((s : Int) + (y : Int) ≤ (i : Int)) = false := by simp; omega
                  have f7 : decide ((i : Int) ≥ (s : Int) + (y : Int)) = false := by simp; omega
                  have f8 : decide (s + y ≤ i) = false := by simpa using hge
                  have hpr := HPr.out (by omega)
                  by_cases hev : d % 2 = 0
                  · rw [decide_eq_true hev] at hpr
                    rw [hpr, if_pos rfl] at HSn
                    have e1 : ((d : Int) % 2 == 0) = true := by simp; omega
                    have e2 : IntKind.i64.wrap ((d : Int) % 2) = (d : Int) % 2 := IntWalk.i64_in _ (by omega)
                    have e3 : (d : Int).tmod 2 = (d : Int) % 2 := Int.tmod_eq_emod_of_nonneg (by omega)
                    have e4 : (d : Int) % 2 = 0 := by omega
                    generalize F[i]?.getD 0 = x at *
                    have HLn : Hid ((cp true B (F.take i) ++ [x]).length = k + 1) := by show _ = _; rw [List.length_append, HK.out]; rfl
                    have HZc : Hid (zc (ns (cp true B (F.take i))) ++ [Value.int .i64 (x : Int)] = zc (ns (cp true B (F.take i) ++ [x]))) := by show _ = _; rw [ns_append, zc_append]; rfl
                    clear hpr hev hd hds
                    go_wp2_with (at_builtin; refine wpList_append_own _ rfl _ _ 22 rfl W.heap.size 3 i0 (.int .i64 0) 1 8 Try.underlying22 hif hz0 hz1 hz2 rfl (by decide) _ _ _ rfl (hrow.alloc _) ⟨V.heap.size, 0, none⟩ 1 1 [.int .i64 (x : Int)] rfl rfl (news_row V [.int .i64 (x : Int)] _) (by simp [Value.oneCell']) (by unfold maxLen; omega) (by omega) (by have := HB2.out.size; simp; omega) ?_; intro v' w3 hown' hgrow _; obtain ⟨Av', cv', rfl⟩ := own_slice3 hown')
                    rw [HZc.out] at hown'
                    have HO3 := Lib.hid hown'
                    have HB3 : Hid (Below W.heap.size W w3) := HB2.out.trans (((Below.refl W.heap.size _).alloc HB2.out.size _).trans (grown_low hgrow (hrow.alloc _) (by have := HB2.out.size; simp; omega)))
                    clear hown' hgrow hrow
                    go_wp2
                    go_roundw
                    case rel => exact ⟨i + 1, by rw [HN.out]; omega, by go_num, by rw [HSn.out, HLn.out]; exact HO3.out, HB3.out⟩
                    case measure => simp [intOf]; omega
                  · rw [decide_eq_false hev] at hpr
                    rw [hpr, if_neg (by decide), List.append_nil] at HSn
                    have e1 : ((d : Int) % 2 == 0) = false := by simp; omega
                    have e2 : IntKind.i64.wrap ((d : Int) % 2) = (d : Int) % 2 := IntWalk.i64_in _ (by omega)
                    have e3 : (d : Int).tmod 2 = (d : Int) % 2 := Int.tmod_eq_emod_of_nonneg (by omega)
                    have e4 : (d : Int) % 2 = 1 := by omega
                    clear hpr hev hd hds
                    go_wp2
                    go_roundw
                    case rel => exact ⟨i + 1, by rw [HN.out]; omega, by go_num, by rw [HSn.out, HK.out]; exact hrow, HB2.out⟩
                    case measure => simp [intOf]; omega
              · have hdq : d = B.length := by have := HN2.out; rw [ns_length] at this; omega
                have hpr : pr true B i = decide (d % 2 = 0) := by
                  rw [pr_at B true i d hd hds (fun h => by omega)]; cases decide (d % 2 = 0) <;> rfl
                have f1 : decide ((d : Int) < (m : Int)) = false := by simp; omega
                have f2 : decide (d < m) = false := by simpa using hdl
                clear hdq
                generalize (B.take d).sum = s at *
                by_cases hev : d % 2 = 0
                · rw [decide_eq_true hev] at hpr
                  rw [hpr, if_pos rfl] at HSn
                  have e1 : ((d : Int) % 2 == 0) = true := by simp; omega
                  have e2 : IntKind.i64.wrap ((d : Int) % 2) = (d : Int) % 2 := IntWalk.i64_in _ (by omega)
                  have e3 : (d : Int).tmod 2 = (d : Int) % 2 := Int.tmod_eq_emod_of_nonneg (by omega)
                  have e4 : (d : Int) % 2 = 0 := by omega
                  generalize F[i]?.getD 0 = x at *
                  have HLn : Hid ((cp true B (F.take i) ++ [x]).length = k + 1) := by show _ = _; rw [List.length_append, HK.out]; rfl
                  have HZc : Hid (zc (ns (cp true B (F.take i))) ++ [Value.int .i64 (x : Int)] = zc (ns (cp true B (F.take i) ++ [x]))) := by show _ = _; rw [ns_append, zc_append]; rfl
                  clear hpr hev hd hds
                  go_wp2_with (at_builtin; refine wpList_append_own _ rfl _ _ 22 rfl W.heap.size 3 i0 (.int .i64 0) 1 8 Try.underlying22 hif hz0 hz1 hz2 rfl (by decide) _ _ _ rfl (hrow.alloc _) ⟨V.heap.size, 0, none⟩ 1 1 [.int .i64 (x : Int)] rfl rfl (news_row V [.int .i64 (x : Int)] _) (by simp [Value.oneCell']) (by unfold maxLen; omega) (by omega) (by have := HB2.out.size; simp; omega) ?_; intro v' w3 hown' hgrow _; obtain ⟨Av', cv', rfl⟩ := own_slice3 hown')
                  rw [HZc.out] at hown'
                  have HO3 := Lib.hid hown'
                  have HB3 : Hid (Below W.heap.size W w3) := HB2.out.trans (((Below.refl W.heap.size _).alloc HB2.out.size _).trans (grown_low hgrow (hrow.alloc _) (by have := HB2.out.size; simp; omega)))
                  clear hown' hgrow hrow
                  go_wp2
                  go_roundw
                  case rel => exact ⟨i + 1, by rw [HN.out]; omega, by go_num, by rw [HSn.out, HLn.out]; exact HO3.out, HB3.out⟩
                  case measure => simp [intOf]; omega
                · rw [decide_eq_false hev] at hpr
                  rw [hpr, if_neg (by decide), List.append_nil] at HSn
                  have e1 : ((d : Int) % 2 == 0) = false := by simp; omega
                  have e2 : IntKind.i64.wrap ((d : Int) % 2) = (d : Int) % 2 := IntWalk.i64_in _ (by omega)
                  have e3 : (d : Int).tmod 2 = (d : Int) % 2 := Int.tmod_eq_emod_of_nonneg (by omega)
                  have e4 : (d : Int) % 2 = 1 := by omega
                  clear hpr hev hd hds
                  go_wp2
                  go_roundw
                  case rel => exact ⟨i + 1, by rw [HN.out]; omega, by go_num, by rw [HSn.out, HK.out]; exact hrow, HB2.out⟩
                  case measure => simp [intOf]; omega
          · have e : F.take i = F := List.take_of_length_le (by rw [HN.out]; omega)
            have hLq : Hid ((cp true B (F.take i)).length = M.length) := by show _ = _; rw [e, HMM.out]
            rw [e, HMM.out] at hrow
            have g1 : decide ((i : Int) < (n : Int)) = false := by simp; omega
            have g2 : decide (i < n) = false := by simpa using hlt
            have HO2 := Lib.hid (own_rdv hrow)
            have HB3 := Lib.hid hbw
            clear hrow hbel e hbw hXb hXf hln
            go_wp2
            go_ret2
            exact ⟨_, _, by rw [← HNn.out, ← hLq.out]; rfl, HO2.out, HB3.out⟩
      · have hnf : bfit n bs = false := by
          cases h : bfit n bs with
          | false => rfl
          | true => exact absurd (hfit.2 h) hzn
        have HQ := Lib.hid (HFull.out hF0 hnf)
        have q6 : decide (z > (n : Int)) = true := by simp; omega
        have q7 : decide ((n : Int) < z) = true := by simp; omega
        clear hbb hcs hbel e hF0 hZ hge hfit hnf
        go_wp2
        go_ret2
        exact ⟨none, 0, by rw [show k0 = 0 by rw [← HNn.out, HQ.out.1]; rfl, HQ.out.2]; rfl, by rw [HQ.out.1]; exact .inl rfl, HB.out⟩
set_option maxHeartbeats 1000000 in
theorem rcopy_any (xs : List Int) (n : Nat) (hn : xs.length = n) (hn2 : n ≤ 9223372036854775807) (bs : List Int) (m : Nat) (hm : bs.length = m) (M : List Nat) (e0 : Int) (hM : cpA xs bs = M) (he : cpE xs bs = e0) (k0 : Nat) (hk0 : M.length = k0) (A1 A2 : Option Addr) (c1 c2 : Nat) (w : World) (h1 : RdV w w.heap.size A1 (zc xs)) (h2 : RdV w w.heap.size A2 (zc bs)) :
    Calls Try.prog 17 #[.slice A1 n c1, .slice A2 m c2] w (IntM2 w k0 M e0) := by
  by_cases hr : rchk xs = 0
  · obtain ⟨F, rfl, hF⟩ := rchk_zero xs hr
    rw [ns_length] at hn
    by_cases hbig : m ≤ n + 1
    · exact rcopy_in F hF n hn bs m hm hbig M e0 hM he k0 hk0 A1 A2 c1 c2 w h1 h2
    · have h3 : n ≤ 300 := by rw [← hn]; exact hF.1
      have e2 : e0 = 2 := by
        rw [← he]; unfold cpE
        rw [hr, if_neg (by simp)]
        unfold bchk
        rw [ns_length, hn, hm, if_pos (by omega)]
      have hM0 : M = [] := by rw [← hM]; unfold cpA; rw [he, if_pos (by omega)]
      subst hM0
      obtain rfl : k0 = 0 := hk0.symm
      have HRis : Hid (Calls Try.prog 15 #[.slice A1 n c1] w fun e w' => e = .returned (.int .i64 0) ∧ Below w.heap.size w w') := by
        have := rising_any (ns F) n (by rw [ns_length, hn]) (by omega) A1 c1 w h1
        rwa [rchk_ok F hF] at this
      have t1 : IntKind.i64.wrap ((n : Int) + 1) = (n : Int) + 1 := IntWalk.i64_in _ (by omega)
      have t2 : decide ((m : Int) > (n : Int) + 1) = true := by simp; omega
      have t3 : decide ((n : Int) + 1 < (m : Int)) = true := by simp; omega
      have t4 : decide (n + 1 < m) = true := by simp; omega
      have HE := Lib.hid e2
      clear h1 h2 hn hm hM he hk0 hF e2 hr
      go_enter Try.func17, Try.ntmps17
      go_wp2_with fail
      refine HRis.out.mono ?_
      rintro e w1 ⟨rfl, B1⟩
      have HB1 := Lib.hid B1; clear B1 HRis
      go_wp2
      go_ret2
      exact ⟨none, 0, by rw [HE.out]; rfl, .inl rfl, HB1.out⟩
  · have e2 : e0 = rchk xs := by rw [← he]; unfold cpE; rw [if_pos (by simpa using hr)]
    have hM0 : M = [] := by rw [← hM]; unfold cpA; rw [he, if_pos (by rw [e2]; simpa using hr)]
    subst hM0
    obtain rfl : k0 = 0 := hk0.symm
    have HRis := Lib.hid (rising_any xs n hn hn2 A1 c1 w h1)
    rw [← e2] at HRis
    have t0 : (e0 != 0) = true := by rw [e2]; simpa using hr
    clear h1 h2 hn hm hM he hk0 e2 hr
    go_enter Try.func17, Try.ntmps17
    go_wp2_with fail
    refine HRis.out.mono ?_
    rintro e w1 ⟨rfl, B1⟩
    have HB1 := Lib.hid B1; clear B1 HRis
    go_wp2
    go_ret2
    exact ⟨none, 0, rfl, .inl rfl, HB1.out⟩
set_option maxHeartbeats 1000000 in
theorem rjoin_any (xs : List Int) (n : Nat) (hn : xs.length = n) (hn2 : n ≤ 9223372036854775807) (bs : List Int) (m : Nat) (hm : bs.length = m) (ys : List Int) (k : Nat) (hk : ys.length = k) (hk2 : k ≤ 9223372036854775807) (M1 : List Nat) (M2 : Int) (hM : jnA xs bs ys = (M1, M2)) (k0 : Nat) (hk0 : M1.length = k0) (A1 A2 A3 : Option Addr) (c1 c2 c3 : Nat) (w : World) (h1 : RdV w w.heap.size A1 (zc xs)) (h2 : RdV w w.heap.size A2 (zc bs)) (h3 : RdV w w.heap.size A3 (zc ys)) :
    Calls Try.prog 18 #[.slice A1 n c1, .slice A2 m c2, .slice A3 k c3] w (IntM2 w k0 M1 M2) := by
  have HP := Lib.hid (rcopy_any xs n hn hn2 bs m hm _ _ rfl rfl _ rfl A1 A2 c1 c2 w h1 h2)
  have HC : Hid (∀ V, Below w.heap.size w V → Calls Try.prog 15 #[.slice A3 k c3] V fun e w' => e = .returned (.int .i64 (rchk ys)) ∧ Below V.heap.size V w') := fun V hV => rising_any ys k hk hk2 A3 c3 V (h3.on hV)
  by_cases hc : cpE xs bs = 0
  · by_cases hr : rchk ys = 0
    · obtain ⟨l, rfl, hl⟩ := rchk_zero ys hr
      have hz : rchk xs = 0 := by
        by_cases hz : rchk xs = 0
        · exact hz
        · unfold cpE at hc; rw [if_pos (by simpa using hz)] at hc; exact hc
      obtain ⟨F, rfl, hF⟩ := rchk_zero xs hz
      have e2 : cpA (ns F) bs = cp true (tn bs) F := by unfold cpA; rw [if_neg (by simpa using hc), tn_ns]
      have e : un (cpA (ns F) bs) l = (M1, M2) := by
        rw [← hM]
        have e1 : jnE (ns F) bs (ns l) = 0 := by unfold jnE; rw [if_neg (by simpa using hc)]; exact hr
        unfold jnA
        rw [if_neg (by simpa using e1), e2, tn_ns, tn_ns]
      rw [ns_length] at hk
      have hcr : Rising (cpA (ns F) bs) := by rw [e2]; exact cp_rising _ _ hF
      rw [hc] at HP
      rw [hr] at HC
      generalize hMM : cpA (ns F) bs = M at *
      have HU : Hid (∀ A c V, RdV V V.heap.size A (zc (ns M)) → Below w.heap.size w V → Calls Try.prog 58 #[.slice A M.length c, .slice A3 k c3] V (IntM2 V k0 M1 M2)) := fun A c V hV hb => merged_in M l (rising_lt hcr) (rising_lt hl) (by have := hcr.1; omega) k hk (by have := hl.1; omega) M1 M2 e k0 hk0 A A3 c c3 V hV (h3.on hb)
      clear h1 h2 h3 hn hm hk e hc hr hM hz hMM e2 hcr
      go_enter Try.func18, Try.ntmps18
      go_wp2_with fail
      refine HP.out.mono ?_
      rintro e w1 ⟨A, c, rfl, k3, k4⟩
      have HB1 := Lib.hid k4; have HR1 := Lib.hid k3
      clear k3 k4
      go_wp2_with fail
      refine (HC.out w1 HB1.out).mono ?_
      rintro e w2 ⟨rfl, B2⟩
      have HB2 := Lib.hid (HB1.out.trans (B2.mono HB1.out.size))
      have HUu := Lib.hid (HU.out A c w2 (HR1.out.on B2) HB2.out)
      clear B2 HU
      generalize M.length = ml at *
      go_wp2_with fail
      refine HUu.out.mono ?_
      rintro e w3 ⟨A5, c5, rfl, j3, j4⟩
      have HB3 := Lib.hid (HB2.out.trans (j4.mono HB2.out.size)); have HR3 := Lib.hid j3
      clear j3 j4
      go_wp2
      go_ret2
      exact ⟨_, _, rfl, HR3.out, HB3.out⟩
    · have e : M1 = [] ∧ M2 = rchk ys := by
        have e1 : jnE xs bs ys = rchk ys := by unfold jnE; rw [if_neg (by simpa using hc)]
        unfold jnA at hM
        rw [e1, if_pos (by simpa using hr)] at hM
        exact ⟨(Prod.mk.inj hM).1.symm, (Prod.mk.inj hM).2.symm⟩
      obtain ⟨rfl, rfl⟩ := e
      obtain rfl : k0 = 0 := hk0.symm
      rw [hc] at HP
      generalize rchk ys = er at *
      have t0 : (er != 0) = true := by simpa using hr
      generalize (cpA xs bs) = M at *
      clear h1 h2 h3 hn hm hk hc hr hM hk0
      generalize M.length = ml at *
      go_enter Try.func18, Try.ntmps18
      go_wp2_with fail
      refine HP.out.mono ?_
      rintro e w1 ⟨A, c, rfl, k3, k4⟩
      have HB1 := Lib.hid k4
      clear k3 k4
      go_wp2_with fail
      refine (HC.out w1 HB1.out).mono ?_
      rintro e w2 ⟨rfl, B2⟩
      have HB2 := Lib.hid (HB1.out.trans (B2.mono HB1.out.size))
      clear B2
      go_wp2
      go_ret2
      exact ⟨none, 0, rfl, .inl rfl, HB2.out⟩
  · have e : M1 = [] ∧ M2 = cpE xs bs := by
      have e1 : jnE xs bs ys = cpE xs bs := by unfold jnE; rw [if_pos (by simpa using hc)]
      unfold jnA at hM
      rw [e1, if_pos (by simpa using hc)] at hM
      exact ⟨(Prod.mk.inj hM).1.symm, (Prod.mk.inj hM).2.symm⟩
    obtain ⟨rfl, rfl⟩ := e
    obtain rfl : k0 = 0 := hk0.symm
    generalize cpE xs bs = er at *
    have t0 : (er != 0) = true := by simpa using hc
    have t1 : (er == 0) = false := by simpa using hc
    clear h1 h2 h3 hn hm hk hc HC hM hk0
    generalize (cpA xs bs) = M at *
    generalize M.length = ml at *
    go_enter Try.func18, Try.ntmps18
    go_wp2_with fail
    refine HP.out.mono ?_
    rintro e w1 ⟨A, c, rfl, k3, k4⟩
    have HB1 := Lib.hid k4
    clear k3 k4
    go_wp2
    go_ret2
    exact ⟨none, 0, rfl, .inl rfl, HB1.out⟩
end Go.Proofs.Ytfcmjjmlijidcaa
