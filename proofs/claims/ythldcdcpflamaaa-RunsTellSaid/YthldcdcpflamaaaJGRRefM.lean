/- The document's own merging of runs and numbers: plain facts, and RunsMerge; for whatever runs and numbers it is handed. -/
import Derived.Test.YthldcdcpflamaaaJGRRef
import Derived.Test.YthldcdcpflamaaaJGRRis
namespace Go.Proofs.Ythldcdcpflamaaa
set_option maxRecDepth 100000
set_option linter.unusedVariables false
open Go.RowKit Go.Shelf

/-- The number that is missing behind the last run. -/
def lastE (R : List Rn) : Int := match R.getLast? with | none => -1 | some p => (p.1 : Int) + (p.2 : Int)
theorem lastE_snoc (R : List Rn) (p : Rn) : lastE (R ++ [p]) = (p.1 : Int) + (p.2 : Int) := by simp [lastE]
theorem rk_cons (v : Int) (p : Ri) (t : List Ri) : rk v (p :: t) = if p.1 < 0 ∨ 1048576 < p.1 ∨ p.2 < 1 ∨ 300 < p.2 ∨ 1048576 < p.1 + p.2 - 1 then 3 else if p.1 ≤ v then 4 else rk (p.1 + p.2) t := rfl
theorem rz_snoc2 (R : List Rn) (f m : Nat) : rz (R ++ [(f, m)]) = rz R ++ [((f : Int), (m : Int))] := by simp [rz]
theorem lastE_at (R : List Rn) (i : Nat) (h : R.length = i + 1) : lastE R = ((R[i]?.getD (0, 0)).1 : Int) + ((R[i]?.getD (0, 0)).2 : Int) := by
  unfold lastE
  rw [List.getLast?_eq_getElem?, h, Nat.add_sub_cancel, List.getElem?_eq_getElem (by omega)]; rfl

theorem mg_eq (R : List Rn) (X out : List Nat) (h : Mi (flatR R) X out (flatR R).length X.length) : mg R X = if 300 < out.length then ([], 2) else (out, 0) := by
  obtain ⟨e1, e2⟩ := mi_end h
  unfold mg
  simp only
  rw [if_neg (by rw [e2]; simp), e1]
theorem mg_dup (R : List Rn) (X : List Nat) (x : Nat) (h1 : x ∈ flatR R) (h2 : x ∈ X) : mg R X = ([], 6) := by
  unfold mg
  simp only
  rw [if_pos (tw_dup _ _ x h1 h2)]

/-! the walk -/
def IntM (w : World) (n : Nat) (l : List Nat) (err : Int) (e : Ending) (w' : World) : Prop :=
  ∃ A c, e = .returned (.tuple #[.slice A n c, .int .i64 err]) ∧ RdV w' w'.heap.size A (zc (ns l)) ∧ Below w.heap.size w w'
def M1Rel (r : List Ri) (w : World) (v p : Value) (wr : World) : Prop :=
  ∃ (i : Nat) (R : List Rn), i ≤ r.length ∧ R.length = i ∧ p = .int .i64 (i : Int) ∧ r.take i = rz R ∧ (∀ q ∈ R, q.1 ≤ 1048576 ∧ q.2 ≤ 300) ∧ rk (-1) r = rk (lastE R) (r.drop i) ∧
    wr.ownsRow w.heap.size 3 1 v (flatR R).length (zc (ns (flatR R))) ∧ Below w.heap.size w wr
def M2Rel (l0 : List Nat) (F M : Nat) (w : World) (v p : Value) (wr : World) : Prop :=
  ∃ n : Nat, n ≤ M ∧ p = .int .i64 (n : Int) ∧ wr.ownsRow w.heap.size 3 1 v (l0.length + n) (zc (ns (l0 ++ List.range' F n))) ∧ Below w.heap.size w wr
def M3Rel (L X : List Nat) (w : World) (v p q : Value) (wr : World) : Prop :=
  ∃ (i k : Nat) (out : List Nat), Mi L X out i k ∧ p = .int .i64 (i : Int) ∧ q = .int .i64 (k : Int) ∧ wr.ownsRow w.heap.size 3 1 v out.length (zc (ns out)) ∧ Below w.heap.size w wr
theorem mi_len {L X out : List Nat} {i k : Nat} (h : Mi L X out i k) : out.length ≤ L.length + X.length := by
  have := h.perm.length_eq
  rw [List.length_append, List.length_take, List.length_take] at this
  omega

set_option maxHeartbeats 8000000 in
theorem rmerge_many (n1 : Nat) (h : 300 < n1) (A1 A2 : Option Addr) (c1 n2 c2 : Nat) (w : World) :
    Calls Try.prog 35 #[.slice A1 n1 c1, .slice A2 n2 c2] w (IntM w 0 [] 2) := by
  have t1 : decide ((300 : Int) < (n1 : Int)) = true := by simp; omega
  have t2 : decide (300 < n1) = true := by simpa using h
  clear h
  go_enter Try.func35, Try.ntmps35
  go_wp2
  go_ret2
  exact ⟨none, 0, rfl, .inl rfl, Below.refl _ _⟩

set_option maxHeartbeats 8000000 in
theorem rmerge_any (r : List Ri) (n1 : Nat) (hn1 : r.length = n1) (h300 : n1 ≤ 300) (hb : ∀ x ∈ r, (-9223372036854775808 ≤ x.1 ∧ x.1 ≤ 9223372036854775807) ∧ (-9223372036854775808 ≤ x.2 ∧ x.2 ≤ 9223372036854775807)) (xs : List Int) (n2 : Nat) (hn2 : xs.length = n2) (hz2 : n2 ≤ 9223372036854775807) (M1 : List Nat) (M2 : Int) (hM : mgA r xs = (M1, M2)) (n : Nat) (hn : M1.length = n) (A1 A2 : Option Addr) (c1 c2 : Nat) (w : World) (h1 : RdV w w.heap.size A1 (rcs r)) (h2 : RdV w w.heap.size A2 (zc xs)) :
    Calls Try.prog 35 #[.slice A1 n1 c1, .slice A2 n2 c2] w (IntM w n M1 M2) := by
  have HRk : Hid (rk (-1) r ≠ 0 → M1 = [] ∧ M2 = rk (-1) r) := fun h => by
    have e : mgA r xs = ([], rk (-1) r) := by
      have : rkchk r = rk (-1) r := by unfold rkchk; rw [if_neg (by omega)]
      have e2 : mgE0 r xs = rk (-1) r := by unfold mgE0; rw [this, if_pos h]
      unfold mgA; rw [e2, if_pos h]
    rw [e] at hM; exact ⟨(Prod.mk.inj hM).1.symm, (Prod.mk.inj hM).2.symm⟩
  have HRc : Hid (rk (-1) r = 0 → rchk xs ≠ 0 → M1 = [] ∧ M2 = rchk xs) := fun h h' => by
    have : rkchk r = 0 := by unfold rkchk; rw [if_neg (by omega)]; exact h
    have e2 : mgE0 r xs = rchk xs := by unfold mgE0; rw [if_neg (by simpa using this)]
    have e : mgA r xs = ([], rchk xs) := by unfold mgA; rw [e2, if_pos h']
    rw [e] at hM; exact ⟨(Prod.mk.inj hM).1.symm, (Prod.mk.inj hM).2.symm⟩
  have HOk : Hid (rk (-1) r = 0 → ∀ R, r = rz R → OkR R) := fun h R hR => by
    have : rkchk r = 0 := by unfold rkchk; rw [if_neg (by omega)]; exact h
    obtain ⟨R', e, hO⟩ := rkchk_zero r this
    have : R = R' := by rw [← rn_rz R, ← hR, e, rn_rz]
    rw [this]; exact hO
  have HMg : Hid (∀ R X, r = rz R → OkR R → xs = ns X → Rising X → mg R X = (M1, M2)) := fun R X e1 e2 e3 e4 => by rw [e1, e3, mgA_ok R e2 X e4] at hM; exact hM
  have HRis : Hid (∀ V, Below w.heap.size w V → Calls Try.prog 18 #[.slice A2 n2 c2] V fun e w' => e = .returned (.int .i64 (rchk xs)) ∧ Below V.heap.size V w') := fun V hV => rising_any xs n2 hn2 hz2 A2 c2 V (h2.on hV)
  have HBd := Lib.hid hb
  obtain ⟨i0, hi, hz0, hz1, hz2'⟩ := info_parts info3
  have HX1 := Lib.hid h1; have HX2 := Lib.hid h2; have HN1 := Lib.hid hn1; have HN2 := Lib.hid hn2; have HNn := Lib.hid hn
  clear h1 h2 hn1 hn2 hM hb hn
  go_enter Try.func35, Try.ntmps35
  have s1 : decide ((300 : Int) < (n1 : Int)) = false := by simp; omega
  have s2 : decide (300 < n1) = false := by simp; omega
  go_wp2
  go_loopw [6, 7] (fun v p wr => M1Rel r w v p wr) (fun _ p _ => n1 - (intOf p).toNat)
  case atStart => exact ⟨0, [], Nat.zero_le _, rfl, rfl, rfl, by simp, rfl, ⟨rfl, .inl ⟨rfl, rfl⟩⟩, Below.refl _ _⟩
  case round =>
    obtain ⟨i, R, hi', hRl, rfl, htk, hRb, hrk, hrow, hbel⟩ := hrel
    rw [HN1.out] at hi'
    obtain ⟨Av, cv, rfl⟩ := own_slice3 hrow
    by_cases hlt : i < n1
    · have hin : i < r.length := by rw [HN1.out]; exact hlt
      obtain ⟨a0, a1⟩ := rcs_at r i hin
      obtain ⟨b, off, rfl, hb, q0w⟩ := HX1.out.at_ a0
      obtain ⟨b2, off2, hA2', hb2, q1w⟩ := HX1.out.at_ a1
      simp only [Option.some.injEq, Addr.mk.injEq, and_true] at hA2'
      obtain ⟨rfl, rfl⟩ := hA2'
      rw [← Nat.add_assoc] at q1w
      have q0 := (hbel.cell (p := ⟨b, off + i * 2, none⟩) hb).trans q0w
      have q1 := (hbel.cell (p := ⟨b, off + i * 2 + 1, none⟩) hb).trans q1w
      have HBb := Lib.hid hb; have HRL := Lib.hid hRl
      have hbd := HBd.out _ (show r[i]?.getD (0, 0) ∈ r by rw [List.getElem?_eq_getElem hin]; exact List.getElem_mem hin)
      have hsnoc : r.take (i + 1) = r.take i ++ [r[i]?.getD (0, 0)] := by rw [List.take_succ_eq_append_getElem hin, List.getElem?_eq_getElem hin]; rfl
      rw [drop_atP r i hin, rk_cons] at hrk
      generalize r[i]?.getD (0, 0) = x at *
      obtain ⟨f, m⟩ := x
      simp only at q0 q1 q0w q1w hbd hrk
      have HQ0 := Lib.hid q0w; have HQ1 := Lib.hid q1w
      clear q0w q1w
      have HBt : Hid (∀ (z lo hi : Int) (bb : Bool), decide (lo ≤ z ∧ z ≤ hi) = bb → ∀ nq, Calls Try.prog 45 #[.int .i64 z, .int .i64 lo, .int .i64 hi] (wr.drewN nq) fun e w' => e = .returned (.bool bb) ∧ w' = wr.drewN nq) := fun z lo hi bb hbb nq => (between_any z lo hi _).mono fun e w' ⟨he, hw⟩ => ⟨by rw [he, hbb], hw.symm⟩
      have t7 : (0 : Int) ≤ (i : Int) := by omega
      have t8 : (i : Int) < (n1 : Int) := by omega
      by_cases g1 : 0 ≤ f ∧ f ≤ 1048576
      · by_cases g2 : 1 ≤ m ∧ m ≤ 300
        · obtain ⟨F, rfl⟩ : ∃ F : Nat, f = (F : Int) := ⟨f.toNat, by omega⟩
          obtain ⟨M, rfl⟩ : ∃ M : Nat, m = (M : Int) := ⟨m.toNat, by omega⟩
          have HC := Lib.hid (HBt.out (F : Int) 0 1048576 true (by simp; omega))
          have HD := Lib.hid (HBt.out (M : Int) 1 300 true (by simp; omega))
          have tw1 : IntKind.i64.wrap ((F : Int) + (M : Int)) = (F : Int) + (M : Int) := IntWalk.i64_in _ (by omega)
          have tw2 : IntKind.i64.wrap ((F : Int) + (M : Int) - 1) = (F : Int) + (M : Int) - 1 := IntWalk.i64_in _ (by omega)
          have hF9 : F ≤ 1048576 := by omega
          have hM9 : M ≤ 300 := by omega
          by_cases g3 : 1048576 < (F : Int) + (M : Int) - 1
          · have t9 : decide (1048576 < (F : Int) + (M : Int) - 1) = true := by simpa using g3
            rw [if_pos (by omega)] at hrk
            obtain ⟨rfl, rfl⟩ := HRk.out (by omega)
            rw [hrk]
            obtain rfl : n = 0 := by rw [← HNn.out]; rfl
            have HB := Lib.hid hbel
            clear hbel hrow hrk htk hRb hsnoc g1 g2 g3 hbd a0 a1
            go_wp2
            go_quiet ((go_at_call 45; first | (with_reducible exact Calls.quiet_of_same (HC.out _)) | (with_reducible exact Calls.quiet_of_same (HD.out _))))
            go_wp2
            go_ret2
            exact ⟨none, 0, rfl, .inl rfl, below_drewN HB.out _⟩
          · have t9 : decide (1048576 < (F : Int) + (M : Int) - 1) = false := by simpa using g3
            rw [if_neg (by omega)] at hrk
            have hsn2 : r.take (i + 1) = rz (R ++ [(F, M)]) := by rw [hsnoc, htk, rz_snoc2]
            have hRb2 : ∀ q ∈ R ++ [(F, M)], q.1 ≤ 1048576 ∧ q.2 ≤ 300 := fun q hq => by
              rcases List.mem_append.1 hq with h | h
              · exact hRb q h
              · simp at h; subst h; simp only; omega
            have hfl := flat_len R (fun p hp => (hRb p hp).2)
            have hflb : (flatR R).length ≤ 90000 := by omega
            have HSn := Lib.hid hsn2; have HRb2 := Lib.hid hRb2
            by_cases hi0 : i = 0
            · have hR0 : R = [] := List.eq_nil_of_length_eq_zero (by omega)
              have hle : lastE R = -1 := by rw [hR0]; rfl
              rw [hle, if_neg (by omega)] at hrk
              have t10 : decide ((0 : Int) < (i : Int)) = false := by simp; omega
              have t11 : decide (0 < i) = false := by simp; omega
              have HRk2 := Lib.hid hrk
              have HB := Lib.hid hbel
              have HO := Lib.hid hrow
              clear hbel hrow hrk htk hRb hsnoc g1 g2 g3 hbd a0 a1 hsn2 hRb2 hR0 hle hi0
              go_wp2
              go_quiet ((go_at_call 45; first | (with_reducible exact Calls.quiet_of_same (HC.out _)) | (with_reducible exact Calls.quiet_of_same (HD.out _))))
              go_wp2
              go_quiet (fail)
              go_wp2
              go_loopw [6, 8] (fun v p w' => M2Rel (flatR R) F M w v p w') (fun _ p _ => M - (intOf p).toNat)
              case atStart => exact ⟨0, Nat.zero_le _, rfl, by rw [List.range'_zero, List.append_nil]; exact own_same HO.out (fun g _ => rfl), below_drewN (below_drewN HB.out _) _⟩
              case round =>
                obtain ⟨u, hu, rfl, hrow, hbel⟩ := hrel
                have c0 := (hbel.cell (p := ⟨b, off + i * 2, none⟩) (show b < w.heap.size from HBb.out)).trans HQ0.out
                have c1' := (hbel.cell (p := ⟨b, off + i * 2 + 1, none⟩) (show b < w.heap.size from HBb.out)).trans HQ1.out
                obtain ⟨Au, cu, rfl⟩ := own_slice3 hrow
                by_cases hlt2 : u < M
                · have t20 : decide ((u : Int) < (M : Int)) = true := by simp; omega
                  have t21 : decide (u < M) = true := by simpa using hlt2
                  have tw9 : IntKind.i64.wrap ((F : Int) + (u : Int)) = (F : Int) + (u : Int) := IntWalk.i64_in _ (by omega)
                  have hzz : zc (ns (flatR R ++ List.range' F u)) ++ [Value.int .i64 ((F : Int) + (u : Int))] = zc (ns (flatR R ++ List.range' F (u + 1))) := by
                    rw [range'_snoc, ← List.append_assoc, ns_append (flatR R ++ List.range' F u), zc_append]
                    simp [ns, zc]
                  have HZZ := Lib.hid hzz; clear hzz
                  have HB2 := Lib.hid hbel; clear hbel
                  go_wp2_with (at_builtin; go_loud (refine wpList_append_own _ rfl _ _ 22 rfl w.heap.size 3 i0 (.int .i64 0) 1 8 Try.underlying22 hi hz0 hz1 hz2' rfl (by decide) _ _ _ rfl (hrow.alloc _) ⟨wr.heap.size, 0, none⟩ 1 1 [.int .i64 ((F : Int) + (u : Int))] rfl rfl (news_row wr [.int .i64 ((F : Int) + (u : Int))] _) (by simp [Value.oneCell']) (by unfold maxLen; omega) (by omega) (by have := HB2.out.size; simp; omega) ?_; intro v' w3 hown' hgrow _))
                  rw [HZZ.out] at hown'
                  have HO3 := Lib.hid hown'
                  have HB3 : Hid (Below w.heap.size w w3) := HB2.out.trans (((Below.refl w.heap.size wr).alloc HB2.out.size _).trans (grown_low hgrow (hrow.alloc _) (by have := HB2.out.size; simp; omega)))
                  clear hown' hgrow hrow
                  go_roundw
                  case rel => exact ⟨u + 1, by omega, by go_num, HO3.out, HB3.out⟩
                  case measure => simp [intOf]; omega
                · obtain rfl : u = M := by omega
                  have t20 : decide ((u : Int) < (u : Int)) = false := by simp
                  have t21 : decide (u < u) = false := by simp
                  have HO3 := Lib.hid hrow
                  have HB3 := Lib.hid hbel
                  clear hrow hbel
                  go_wp2
                  go_roundw
                  case rel => exact ⟨i + 1, R ++ [(F, u)], by rw [HN1.out]; omega, by rw [List.length_append, HRL.out]; rfl, by go_num, HSn.out, HRb2.out, by rw [lastE_snoc]; exact HRk2.out, by rw [flatR_snoc, List.length_append, nums_length]; exact HO3.out, HB3.out⟩
                  case measure => simp [intOf]; omega
            · have hRi : R.length = (i - 1) + 1 := by omega
              have hle := lastE_at R (i - 1) hRi
              have hin2 : i - 1 < R.length := by omega
              have hpb := hRb _ (mem_at R (i - 1) hin2)
              have hrp : r[i - 1]?.getD (0, 0) = (((R[i - 1]?.getD (0, 0)).1 : Int), ((R[i - 1]?.getD (0, 0)).2 : Int)) := by
                have : (r.take i)[i - 1]?.getD (0, 0) = (rz R)[i - 1]?.getD (0, 0) := by rw [htk]
                rw [List.getElem?_take_of_lt (by omega), rz_at R (i - 1) hin2] at this
                exact this
              obtain ⟨p0, p1⟩ := rcs_at r (i - 1) (by omega)
              rw [hrp] at p0 p1
              obtain ⟨b3, off3, hA3, hb3, q2⟩ := (HX1.out.on hbel).at_ p0
              obtain ⟨b4, off4, hA4, hb4, q3⟩ := (HX1.out.on hbel).at_ p1
              simp only [Option.some.injEq, Addr.mk.injEq, and_true] at hA3
              obtain ⟨rfl, rfl⟩ := hA3
              simp only [Option.some.injEq, Addr.mk.injEq, and_true] at hA4
              obtain ⟨rfl, rfl⟩ := hA4
              rw [← Nat.add_assoc] at q3
              rw [hle] at hrk
              generalize R[i - 1]?.getD (0, 0) = pp at *
              obtain ⟨G, Q⟩ := pp
              simp only at q2 q3 hpb hrk
              have t10 : decide ((0 : Int) < (i : Int)) = true := by simp; omega
              have t11 : decide (0 < i) = true := by simp; omega
              have t12 : (0 : Int) ≤ (i : Int) - 1 := by omega
              have t13 : (i : Int) - 1 < (n1 : Int) := by omega
              have t14 : ((i : Int) - 1).toNat = i - 1 := by omega
              have ts : IntKind.i64.wrap ((i : Int) - 1) = (i : Int) - 1 := IntWalk.i64_in _ (by omega)
              have tw3 : IntKind.i64.wrap ((G : Int) + (Q : Int)) = (G : Int) + (Q : Int) := IntWalk.i64_in _ (by omega)
              have tw4 : IntKind.i64.wrap ((G : Int) + (Q : Int) + 1) = (G : Int) + (Q : Int) + 1 := IntWalk.i64_in _ (by omega)
              have t15 : 1 ≤ i := by omega
              by_cases g4 : (F : Int) < (G : Int) + (Q : Int) + 1
              · have t16 : decide ((F : Int) < (G : Int) + (Q : Int) + 1) = true := by simpa using g4
                rw [if_pos (by omega)] at hrk
                obtain ⟨rfl, rfl⟩ := HRk.out (by omega)
                rw [hrk]
                obtain rfl : n = 0 := by rw [← HNn.out]; rfl
                have HB := Lib.hid hbel
                clear hbel hrow hrk htk hRb hsnoc g1 g2 g3 g4 hbd a0 a1 hsn2 hRb2 hle hrp p0 p1 hi0
                go_wp2
                go_quiet ((go_at_call 45; first | (with_reducible exact Calls.quiet_of_same (HC.out _)) | (with_reducible exact Calls.quiet_of_same (HD.out _))))
                go_wp2
                go_quiet (fail)
                go_wp2
                go_ret2
                exact ⟨none, 0, rfl, .inl rfl, below_drewN (below_drewN HB.out _) _⟩
              · have t16 : decide ((F : Int) < (G : Int) + (Q : Int) + 1) = false := by simpa using g4
                rw [if_neg (by omega)] at hrk
                have HRk2 := Lib.hid hrk
                have HB := Lib.hid hbel
                have HO := Lib.hid hrow
                clear hbel hrow hrk htk hRb hsnoc g1 g2 g3 g4 hbd a0 a1 hsn2 hRb2 hle hrp p0 p1 hi0
                go_wp2
                go_quiet ((go_at_call 45; first | (with_reducible exact Calls.quiet_of_same (HC.out _)) | (with_reducible exact Calls.quiet_of_same (HD.out _))))
                go_wp2
                go_quiet (fail)
                go_wp2
                go_loopw [6, 8] (fun v p w' => M2Rel (flatR R) F M w v p w') (fun _ p _ => M - (intOf p).toNat)
                case atStart => exact ⟨0, Nat.zero_le _, rfl, by rw [List.range'_zero, List.append_nil]; exact own_same HO.out (fun g _ => rfl), below_drewN (below_drewN HB.out _) _⟩
                case round =>
                  obtain ⟨u, hu, rfl, hrow, hbel⟩ := hrel
                  have c0 := (hbel.cell (p := ⟨b, off + i * 2, none⟩) (show b < w.heap.size from HBb.out)).trans HQ0.out
                  have c1' := (hbel.cell (p := ⟨b, off + i * 2 + 1, none⟩) (show b < w.heap.size from HBb.out)).trans HQ1.out
                  obtain ⟨Au, cu, rfl⟩ := own_slice3 hrow
                  by_cases hlt2 : u < M
                  · have t20 : decide ((u : Int) < (M : Int)) = true := by simp; omega
                    have t21 : decide (u < M) = true := by simpa using hlt2
                    have tw9 : IntKind.i64.wrap ((F : Int) + (u : Int)) = (F : Int) + (u : Int) := IntWalk.i64_in _ (by omega)
                    have hzz : zc (ns (flatR R ++ List.range' F u)) ++ [Value.int .i64 ((F : Int) + (u : Int))] = zc (ns (flatR R ++ List.range' F (u + 1))) := by
                      rw [range'_snoc, ← List.append_assoc, ns_append (flatR R ++ List.range' F u), zc_append]
                      simp [ns, zc]
                    have HZZ := Lib.hid hzz; clear hzz
                    have HB2 := Lib.hid hbel; clear hbel
                    go_wp2_with (at_builtin; go_loud (refine wpList_append_own _ rfl _ _ 22 rfl w.heap.size 3 i0 (.int .i64 0) 1 8 Try.underlying22 hi hz0 hz1 hz2' rfl (by decide) _ _ _ rfl (hrow.alloc _) ⟨wr.heap.size, 0, none⟩ 1 1 [.int .i64 ((F : Int) + (u : Int))] rfl rfl (news_row wr [.int .i64 ((F : Int) + (u : Int))] _) (by simp [Value.oneCell']) (by unfold maxLen; omega) (by omega) (by have := HB2.out.size; simp; omega) ?_; intro v' w3 hown' hgrow _))
                    rw [HZZ.out] at hown'
                    have HO3 := Lib.hid hown'
                    have HB3 : Hid (Below w.heap.size w w3) := HB2.out.trans (((Below.refl w.heap.size wr).alloc HB2.out.size _).trans (grown_low hgrow (hrow.alloc _) (by have := HB2.out.size; simp; omega)))
                    clear hown' hgrow hrow
                    go_roundw
                    case rel => exact ⟨u + 1, by omega, by go_num, HO3.out, HB3.out⟩
                    case measure => simp [intOf]; omega
                  · obtain rfl : u = M := by omega
                    have t20 : decide ((u : Int) < (u : Int)) = false := by simp
                    have t21 : decide (u < u) = false := by simp
                    have HO3 := Lib.hid hrow
                    have HB3 := Lib.hid hbel
                    clear hrow hbel
                    go_wp2
                    go_roundw
                    case rel => exact ⟨i + 1, R ++ [(F, u)], by rw [HN1.out]; omega, by rw [List.length_append, HRL.out]; rfl, by go_num, HSn.out, HRb2.out, by rw [lastE_snoc]; exact HRk2.out, by rw [flatR_snoc, List.length_append, nums_length]; exact HO3.out, HB3.out⟩
                    case measure => simp [intOf]; omega
        · have HC := Lib.hid (HBt.out f 0 1048576 true (by simpa using g1))
          have HD := Lib.hid (HBt.out m 1 300 false (by simpa using g2))
          rw [if_pos (by omega)] at hrk
          obtain ⟨rfl, rfl⟩ := HRk.out (by omega)
          rw [hrk]
          obtain rfl : n = 0 := by rw [← HNn.out]; rfl
          have HB := Lib.hid hbel
          clear hbel hrow hrk htk hRb hsnoc g1 g2 hbd a0 a1
          go_wp2
          go_quiet ((go_at_call 45; first | (with_reducible exact Calls.quiet_of_same (HC.out _)) | (with_reducible exact Calls.quiet_of_same (HD.out _))))
          go_wp2
          go_ret2
          exact ⟨none, 0, rfl, .inl rfl, below_drewN HB.out _⟩
      · have HC := Lib.hid (HBt.out f 0 1048576 false (by simpa using g1))
        rw [if_pos (by omega)] at hrk
        obtain ⟨rfl, rfl⟩ := HRk.out (by omega)
        rw [hrk]
        obtain rfl : n = 0 := by rw [← HNn.out]; rfl
        have HB := Lib.hid hbel
        clear hbel hrow hrk htk hRb hsnoc g1 hbd a0 a1
        go_wp2
        go_quiet ((go_at_call 45; with_reducible exact Calls.quiet_of_same (HC.out _)))
        go_wp2
        go_ret2
        exact ⟨none, 0, rfl, .inl rfl, below_drewN HB.out _⟩
    · obtain rfl : i = n1 := by omega
      rw [List.drop_of_length_le (by rw [HN1.out]; omega)] at hrk
      have hrk0 : rk (-1) r = 0 := by rw [hrk]; rfl
      have hrR : r = rz R := by rw [← htk, List.take_of_length_le (by rw [HN1.out]; omega)]
      have hOk := HOk.out hrk0 R hrR
      have hLp : (flatR R).Pairwise (· < ·) := (sep_flat_lt R _ hOk.2.1).2
      have hfl := flat_len R (fun p hp => (hRb p hp).2)
      have hflb : (flatR R).length ≤ 90000 := by omega
      have hL0 : RdV wr wr.heap.size Av (zc (ns (flatR R))) := own_rdv hrow
      have HC := HRis.out wr hbel
      have HB := Lib.hid hbel
      have HL0 := Lib.hid hL0
      have t1 : decide ((i : Int) < (i : Int)) = false := by simp
      have t2 : decide (i < i) = false := by simp
      by_cases e0 : rchk xs = 0
      · obtain ⟨X, rfl, hX⟩ := rchk_zero xs e0
        have hXp : X.Pairwise (· < ·) := ((ris_pairwise X _).1 hX.2).2
        have hX3 := hX.1
        have hXn : X.length = n2 := by rw [← HN2.out, ns_length]
        rw [e0] at HC
        have HC' := Lib.hid HC
        have HMG := Lib.hid (HMg.out R X hrR hOk rfl hX)
        have HLp := Lib.hid hLp; have HXp := Lib.hid hXp; have HXn := Lib.hid hXn
        have hX4 : n2 ≤ 300 := by omega
        clear HC hRl htk hRb hrk hrow hbel hL0 hrk0 hrR hOk hLp hfl hX hXp hX3 hXn e0
        generalize hLL : flatR R = L at *
        have HLL := Lib.hid hLL
        clear hLL
        go_wp2_with fail
        refine HC'.out.mono ?_
        rintro e V ⟨rfl, hbV⟩
        have HL := Lib.hid (HL0.out.on hbV)
        have HBV : Hid (Below w.heap.size w V) := HB.out.trans (hbV.mono HB.out.size)
        have HX := Lib.hid (HX2.out.on HBV.out)
        clear hbV
        clear HB HC' HL0
        go_wp2
        go_loopw [10, 11, 12] (fun a p q wr => M3Rel L X V a p q wr) (fun _ p q _ => L.length + n2 - (intOf p).toNat - (intOf q).toNat)
        case atStart => exact ⟨0, 0, [], mi_start _ _, rfl, rfl, ⟨rfl, .inl ⟨rfl, rfl⟩⟩, Below.refl _ _⟩
        case round =>
          obtain ⟨p, k, out, hM, rfl, rfl, hrow, hbel⟩ := hrel
          obtain ⟨Ao, co, rfl⟩ := own_slice3 hrow
          have hml := mi_len hM
          rw [HXn.out] at hml
          have hpi := hM.hi
          have hki := hM.hk
          rw [HXn.out] at hki
          by_cases h1 : p < L.length
          · obtain ⟨b, off, hbA, hb, qV⟩ := HL.out.at_ (ns_get L p h1)
            by_cases h2 : k < n2
            · obtain ⟨b2, off2, hbA2, hb2, qV2⟩ := HX.out.at_ (ns_get X k (by rw [HXn.out]; exact h2))
              subst hbA; subst hbA2
              have k0 := (hbel.cell (p := ⟨b, off + p, none⟩) hb).trans qV
              have k1 := (hbel.cell (p := ⟨b2, off2 + k, none⟩) hb2).trans qV2
              have hk' : k < X.length := by rw [HXn.out]; exact h2
              have hLl := at_mem L p h1
              have hXl := at_mem X k hk'
              have HLa : Hid (X[k]?.getD 0 < L[p]?.getD 0 → Mi L X (out ++ [X[k]?.getD 0]) p (k + 1)) := fun q => mi_right hM HXp.out hk' fun y hy => by
                rw [drop_nat L p h1] at hy
                rcases List.mem_cons.1 hy with rfl | hy
                · exact q
                · exact Nat.lt_trans q (pw_drop HLp.out p h1 y hy)
              have HXa : Hid (L[p]?.getD 0 < X[k]?.getD 0 → Mi L X (out ++ [L[p]?.getD 0]) (p + 1) k) := fun q => mi_left hM HLp.out h1 fun y hy => by
                rw [drop_nat X k hk'] at hy
                rcases List.mem_cons.1 hy with rfl | hy
                · exact q
                · exact Nat.lt_trans q (pw_drop HXp.out k hk' y hy)
              generalize L[p]?.getD 0 = x at *
              generalize X[k]?.getD 0 = y at *
              have HDup : Hid (x = y → M1 = [] ∧ M2 = 6) := fun q => by
                have e := HMG.out
                rw [mg_dup R X x (by rw [HLL.out]; exact hLl) (q ▸ hXl)] at e
                exact ⟨(Prod.mk.inj e).1.symm, (Prod.mk.inj e).2.symm⟩
              have d1 : decide ((p : Int) < (L.length : Int)) = true := by simp; omega
              have d1' : decide (p < L.length) = true := by simpa using h1
              have t7 : (0 : Int) ≤ (p : Int) := by omega
              have t8 : (p : Int) < (L.length : Int) := by omega
              have d2 : decide ((k : Int) < (n2 : Int)) = true := by simp; omega
              have d2' : decide (k < n2) = true := by simpa using h2
              have t9 : (0 : Int) ≤ (k : Int) := by omega
              have t10 : (k : Int) < (n2 : Int) := by omega
              have d3 : decide ((n2 : Int) ≤ (k : Int)) = false := by simp; omega
              have d3' : decide (n2 ≤ k) = false := by simp; omega
              have HO := Lib.hid hrow; have HB2 := Lib.hid hbel
              clear hM qV qV2 hb hb2 hLl hXl hrow hbel hk'
              by_cases hxy : x = y
              · obtain ⟨rfl, rfl⟩ := HDup.out hxy
                obtain rfl : n = 0 := by rw [← HNn.out]; rfl
                subst hxy
                have d4 : ((x : Int) == (x : Int)) = true := by simp
                clear HDup HLa HXa h1 h2
                go_wp2
                go_quiet (fail)
                go_wp2
                go_ret2
                exact ⟨none, 0, rfl, .inl rfl, below_drewN (HBV.out.trans (HB2.out.mono HBV.out.size)) _⟩
              · have d4 : ((x : Int) == (y : Int)) = false := by simp; omega
                by_cases hlt2 : x < y
                · have d5 : decide ((x : Int) < (y : Int)) = true := by simp; omega
                  have d5' : decide (x < y) = true := by simpa using hlt2
                  have HMn := Lib.hid (HXa.out hlt2)
                  clear HDup HLa HXa h1 h2 hxy hlt2
                  go_wp2
                  go_quiet (fail)
                  revert nq
                  intro q1
                  go_wp2
                  go_quiet (fail)
                  generalize hW : World.drewN (World.drewN wr q1) nq = W
                  have kW : W.cell? ⟨b, off + p, none⟩ = some (.int .i64 (x : Int)) := by rw [← hW]; exact k0
                  have HO2 := own_same (W' := W) HO.out (fun g _ => by rw [← hW]; rfl)
                  have HBW : Hid (Below V.heap.size V W) := by show Below _ _ _; rw [← hW]; exact below_drewN (below_drewN HB2.out _) _
                  have HZZ : Hid (zc (ns out) ++ [Value.int .i64 (x : Int)] = zc (ns (out ++ [x]))) := by show _ = _; rw [ns_append, zc_append]; rfl
                  clear hW HO HB2
                  go_wp2_with (at_builtin; go_loud (refine wpList_append_own _ rfl _ _ 22 rfl V.heap.size 3 i0 (.int .i64 0) 1 8 Try.underlying22 hi hz0 hz1 hz2' rfl (by decide) _ _ _ rfl (HO2.alloc _) ⟨W.heap.size, 0, none⟩ 1 1 [.int .i64 (x : Int)] rfl rfl (news_row W [.int .i64 (x : Int)] _) (by simp [Value.oneCell']) (by unfold maxLen; omega) (by omega) (by have := HBW.out.size; simp; omega) ?_; intro v' w3 hown' hgrow _))
                  rw [HZZ.out] at hown'
                  have HO3 := Lib.hid hown'
                  have HB3 : Hid (Below V.heap.size V w3) := HBW.out.trans (((Below.refl V.heap.size W).alloc HBW.out.size _).trans (grown_low hgrow (HO2.alloc _) (by have := HBW.out.size; simp; omega)))
                  clear hown' hgrow HO2
                  go_roundw
                  case rel => exact ⟨p + 1, k, out ++ [x], HMn.out, by go_num, rfl, by rw [List.length_append]; exact HO3.out, HB3.out⟩
                  case measure => simp [intOf]; omega
                · have d5 : decide ((x : Int) < (y : Int)) = false := by simp; omega
                  have d5' : decide (x < y) = false := by simpa using hlt2
                  have HMn := Lib.hid (HLa.out (by omega))
                  clear HDup HLa HXa h1 h2 hxy hlt2
                  go_wp2
                  go_quiet (fail)
                  revert nq
                  intro q1
                  go_wp2
                  go_quiet (fail)
                  generalize hW : World.drewN (World.drewN wr q1) nq = W
                  have kW : W.cell? ⟨b2, off2 + k, none⟩ = some (.int .i64 (y : Int)) := by rw [← hW]; exact k1
                  have HO2 := own_same (W' := W) HO.out (fun g _ => by rw [← hW]; rfl)
                  have HBW : Hid (Below V.heap.size V W) := by show Below _ _ _; rw [← hW]; exact below_drewN (below_drewN HB2.out _) _
                  have HZZ : Hid (zc (ns out) ++ [Value.int .i64 (y : Int)] = zc (ns (out ++ [y]))) := by show _ = _; rw [ns_append, zc_append]; rfl
                  clear hW HO HB2
                  go_wp2_with (at_builtin; go_loud (refine wpList_append_own _ rfl _ _ 22 rfl V.heap.size 3 i0 (.int .i64 0) 1 8 Try.underlying22 hi hz0 hz1 hz2' rfl (by decide) _ _ _ rfl (HO2.alloc _) ⟨W.heap.size, 0, none⟩ 1 1 [.int .i64 (y : Int)] rfl rfl (news_row W [.int .i64 (y : Int)] _) (by simp [Value.oneCell']) (by unfold maxLen; omega) (by omega) (by have := HBW.out.size; simp; omega) ?_; intro v' w3 hown' hgrow _))
                  rw [HZZ.out] at hown'
                  have HO3 := Lib.hid hown'
                  have HB3 : Hid (Below V.heap.size V w3) := HBW.out.trans (((Below.refl V.heap.size W).alloc HBW.out.size _).trans (grown_low hgrow (HO2.alloc _) (by have := HBW.out.size; simp; omega)))
                  clear hown' hgrow HO2
                  go_roundw
                  case rel => exact ⟨p, k + 1, out ++ [y], HMn.out, rfl, by go_num, by rw [List.length_append]; exact HO3.out, HB3.out⟩
                  case measure => simp [intOf]; omega
            · subst hbA
              have k0 := (hbel.cell (p := ⟨b, off + p, none⟩) hb).trans qV
              have HMn := Lib.hid (mi_left hM HLp.out h1 (by rw [List.drop_of_length_le (by rw [HXn.out]; omega)]; simp))
              generalize L[p]?.getD 0 = x at *
              have d1 : decide ((p : Int) < (L.length : Int)) = true := by simp; omega
              have d1' : decide (p < L.length) = true := by simpa using h1
              have t7 : (0 : Int) ≤ (p : Int) := by omega
              have t8 : (p : Int) < (L.length : Int) := by omega
              have d2 : decide ((k : Int) < (n2 : Int)) = false := by simp; omega
              have d2' : decide (k < n2) = false := by simpa using h2
              have d3 : decide ((n2 : Int) ≤ (k : Int)) = true := by simp; omega
              have d3' : decide (n2 ≤ k) = true := by simp; omega
              have HO := Lib.hid hrow; have HB2 := Lib.hid hbel
              clear hM qV hb hrow hbel h1 h2
              go_wp2
              go_quiet (fail)
              revert nq
              intro q1
              go_wp2
              go_quiet (fail)
              generalize hW : World.drewN (World.drewN wr q1) nq = W
              have kW : W.cell? ⟨b, off + p, none⟩ = some (.int .i64 (x : Int)) := by rw [← hW]; exact k0
              have HO2 := own_same (W' := W) HO.out (fun g _ => by rw [← hW]; rfl)
              have HBW : Hid (Below V.heap.size V W) := by show Below _ _ _; rw [← hW]; exact below_drewN (below_drewN HB2.out _) _
              have HZZ : Hid (zc (ns out) ++ [Value.int .i64 (x : Int)] = zc (ns (out ++ [x]))) := by show _ = _; rw [ns_append, zc_append]; rfl
              clear hW HO HB2
              go_wp2_with (at_builtin; go_loud (refine wpList_append_own _ rfl _ _ 22 rfl V.heap.size 3 i0 (.int .i64 0) 1 8 Try.underlying22 hi hz0 hz1 hz2' rfl (by decide) _ _ _ rfl (HO2.alloc _) ⟨W.heap.size, 0, none⟩ 1 1 [.int .i64 (x : Int)] rfl rfl (news_row W [.int .i64 (x : Int)] _) (by simp [Value.oneCell']) (by unfold maxLen; omega) (by omega) (by have := HBW.out.size; simp; omega) ?_; intro v' w3 hown' hgrow _))
              rw [HZZ.out] at hown'
              have HO3 := Lib.hid hown'
              have HB3 : Hid (Below V.heap.size V w3) := HBW.out.trans (((Below.refl V.heap.size W).alloc HBW.out.size _).trans (grown_low hgrow (HO2.alloc _) (by have := HBW.out.size; simp; omega)))
              clear hown' hgrow HO2
              go_roundw
              case rel => exact ⟨p + 1, k, out ++ [x], HMn.out, by go_num, rfl, by rw [List.length_append]; exact HO3.out, HB3.out⟩
              case measure => simp [intOf]; omega
          · by_cases h2 : k < n2
            · obtain ⟨b2, off2, hbA2, hb2, qV2⟩ := HX.out.at_ (ns_get X k (by rw [HXn.out]; exact h2))
              subst hbA2
              have k1 := (hbel.cell (p := ⟨b2, off2 + k, none⟩) hb2).trans qV2
              have HMn := Lib.hid (mi_right hM HXp.out (by rw [HXn.out]; exact h2) (by rw [List.drop_of_length_le (by omega)]; simp))
              generalize X[k]?.getD 0 = y at *
              have d1 : decide ((p : Int) < (L.length : Int)) = false := by simp; omega
              have d1' : decide (p < L.length) = false := by simpa using h1
              have d2 : decide ((k : Int) < (n2 : Int)) = true := by simp; omega
              have d2' : decide (k < n2) = true := by simpa using h2
              have t9 : (0 : Int) ≤ (k : Int) := by omega
              have t10 : (k : Int) < (n2 : Int) := by omega
              have d3 : decide ((n2 : Int) ≤ (k : Int)) = false := by simp; omega
              have d3' : decide (n2 ≤ k) = false := by simp; omega
              have HO := Lib.hid hrow; have HB2 := Lib.hid hbel
              clear hM qV2 hb2 hrow hbel h1 h2
              go_wp2
              go_quiet (fail)
              revert nq
              intro q1
              go_wp2
              go_quiet (fail)
              generalize hW : World.drewN (World.drewN wr q1) nq = W
              have kW : W.cell? ⟨b2, off2 + k, none⟩ = some (.int .i64 (y : Int)) := by rw [← hW]; exact k1
              have HO2 := own_same (W' := W) HO.out (fun g _ => by rw [← hW]; rfl)
              have HBW : Hid (Below V.heap.size V W) := by show Below _ _ _; rw [← hW]; exact below_drewN (below_drewN HB2.out _) _
              have HZZ : Hid (zc (ns out) ++ [Value.int .i64 (y : Int)] = zc (ns (out ++ [y]))) := by show _ = _; rw [ns_append, zc_append]; rfl
              clear hW HO HB2
              go_wp2_with (at_builtin; go_loud (refine wpList_append_own _ rfl _ _ 22 rfl V.heap.size 3 i0 (.int .i64 0) 1 8 Try.underlying22 hi hz0 hz1 hz2' rfl (by decide) _ _ _ rfl (HO2.alloc _) ⟨W.heap.size, 0, none⟩ 1 1 [.int .i64 (y : Int)] rfl rfl (news_row W [.int .i64 (y : Int)] _) (by simp [Value.oneCell']) (by unfold maxLen; omega) (by omega) (by have := HBW.out.size; simp; omega) ?_; intro v' w3 hown' hgrow _))
              rw [HZZ.out] at hown'
              have HO3 := Lib.hid hown'
              have HB3 : Hid (Below V.heap.size V w3) := HBW.out.trans (((Below.refl V.heap.size W).alloc HBW.out.size _).trans (grown_low hgrow (HO2.alloc _) (by have := HBW.out.size; simp; omega)))
              clear hown' hgrow HO2
              go_roundw
              case rel => exact ⟨p, k + 1, out ++ [y], HMn.out, rfl, by go_num, by rw [List.length_append]; exact HO3.out, HB3.out⟩
              case measure => simp [intOf]; omega
            · obtain rfl : p = L.length := by omega
              have hkX : k = X.length := by rw [HXn.out]; omega
              have d1 : decide ((L.length : Int) < (L.length : Int)) = false := by simp
              have d1' : decide (L.length < L.length) = false := by simp
              have d2 : decide ((k : Int) < (n2 : Int)) = false := by simp; omega
              have d2' : decide (k < n2) = false := by simpa using h2
              have e := HMG.out
              rw [mg_eq R X out (by rw [HLL.out, ← hkX]; exact hM)] at e
              have HR := Lib.hid (own_rdv hrow)
              have HB2 : Hid (Below w.heap.size w wr) := HBV.out.trans (hbel.mono HBV.out.size)
              clear hM hrow hbel hkX
              by_cases h5 : 300 < out.length
              · rw [if_pos h5] at e
                obtain ⟨rfl, rfl⟩ := Prod.mk.inj e
                obtain rfl : n = 0 := by rw [← HNn.out]; rfl
                have t1 : decide ((300 : Int) < (out.length : Int)) = true := by simp; omega
                have t2 : decide (300 < out.length) = true := by simpa using h5
                clear e h5 h1 h2
                go_wp2
                go_ret2
                exact ⟨none, 0, rfl, .inl rfl, HB2.out⟩
              · rw [if_neg h5] at e
                obtain ⟨rfl, rfl⟩ := Prod.mk.inj e
                obtain rfl : n = out.length := HNn.out.symm
                have t1 : decide ((300 : Int) < (out.length : Int)) = false := by simp; omega
                have t2 : decide (300 < out.length) = false := by simpa using h5
                clear e h5 h1 h2
                go_wp2
                go_ret2
                exact ⟨Ao, co, rfl, HR.out, HB2.out⟩
      · obtain ⟨rfl, rfl⟩ := HRc.out hrk0 e0
        obtain rfl : n = 0 := by rw [← HNn.out]; rfl
        have HC' := Lib.hid HC
        clear HC hRl htk hRb hrk hrow hbel hL0 hrk0 hrR hOk hLp hfl
        generalize rchk xs = z at *
        go_wp2_with fail
        refine HC'.out.mono ?_
        rintro e V ⟨rfl, hbV⟩
        have HBV : Hid (Below w.heap.size w V) := HB.out.trans (hbV.mono HB.out.size)
        clear hbV HB HC'
        have t9 : decide (z = 0) = false := by simpa using e0
        go_wp2
        go_ret2
        exact ⟨none, 0, rfl, .inl rfl, HBV.out⟩
end Go.Proofs.Ythldcdcpflamaaa
