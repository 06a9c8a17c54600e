/- The document's own merging of runs and numbers: plain facts, and RunsMerge; for whatever runs and numbers it is handed. -/
import Derived.Test.YthbgjlebgcnfeaaRRef
import Derived.Test.YthbgjlebgcnfeaaRRis
import Derived.Test.YthbgjlebgcnfeaaNOpen
import Derived.Test.YthbgjlebgcnfeaaRNOpen
namespace Go.Proofs.Ythbgjlebgcnfeaa

section
set_option maxRecDepth 100000
set_option linter.unusedVariables false
open Go.RowKit Go.Shelf

/-- The number that is missing behind the last run. -/
def lastE (R : List Rn) : Int := match R.getLast? with | none => -1 | some p => (p.1 : Int) + (p.2 : Int)
theorem lastE_snoc (R : List Rn) (p : Rn) : lastE (R ++ [p]) = (p.1 : Int) + (p.2 : Int) := by simp [lastE]
theorem rk_cons (v : Int) (p : Ri) (t : List Ri) : rk v (p :: t) = if p.1 < 0 ∨ 1048576 < p.1 ∨ p.2 < 1 ∨ 300 < p.2 ∨ 1048576 < p.1 + p.2 - 1 then 3 else if p.1 ≤ v then 4 else rk (p.1 + p.2) t := rfl
theorem rz_snoc2 (R : List Rn) (f m : Nat) : rz (R ++ [(f, m)]) = rz R ++ [((f : Int), (m : Int))] := by simp [rz]
theorem lastE_at (R : List Rn) (i : Nat) (h : R.length = i + 1) : lastE R = ((R[i]?.getD (0, 0)).1 : Int) + ((R[i]?.getD (0, 0)).2 : Int) := by
  unfold lastE
  rw [List.getLast?_eq_getElem?, h, Nat.add_sub_cancel, List.getElem?_eq_getElem (by omega)]; rfl

theorem mg_eq (R : List Rn) (X out : List Nat) (h : Mi (flatR R) X out (flatR R).length X.length) : mg R X = if 300 < out.length then ([], 2) else (out, 0) := by
  obtain ⟨e1, e2⟩ := mi_end h
  unfold mg
  simp only
  rw [if_neg (by rw [e2]; simp), e1]
theorem mg_dup (R : List Rn) (X : List Nat) (x : Nat) (h1 : x ∈ flatR R) (h2 : x ∈ X) : mg R X = ([], 6) := by
  unfold mg
  simp only
  rw [if_pos (tw_dup _ _ x h1 h2)]

/-! the walk -/
def IntM (w : World) (n : Nat) (l : List Nat) (err : Int) (e : Ending) (w' : World) : Prop :=
  ∃ A c, e = .returned (.tuple #[.slice A n c, .int .i64 err]) ∧ RdV w' w'.heap.size A (zc (ns l)) ∧ Below w.heap.size w w'
def M1Rel (r : List Ri) (w : World) (v p : Value) (wr : World) : Prop :=
  ∃ (i : Nat) (R : List Rn), i ≤ r.length ∧ R.length = i ∧ p = .int .i64 (i : Int) ∧ r.take i = rz R ∧ (∀ q ∈ R, q.1 ≤ 1048576 ∧ q.2 ≤ 300) ∧ rk (-1) r = rk (lastE R) (r.drop i) ∧
    wr.ownsRow w.heap.size 3 1 v (flatR R).length (zc (ns (flatR R))) ∧ Below w.heap.size w wr
def M2Rel (l0 : List Nat) (F M : Nat) (w : World) (v p : Value) (wr : World) : Prop :=
  ∃ n : Nat, n ≤ M ∧ p = .int .i64 (n : Int) ∧ wr.ownsRow w.heap.size 3 1 v (l0.length + n) (zc (ns (l0 ++ List.range' F n))) ∧ Below w.heap.size w wr
def M3Rel (L X : List Nat) (w : World) (v p q : Value) (wr : World) : Prop :=
  ∃ (i k : Nat) (out : List Nat), Mi L X out i k ∧ p = .int .i64 (i : Int) ∧ q = .int .i64 (k : Int) ∧ wr.ownsRow w.heap.size 3 1 v out.length (zc (ns out)) ∧ Below w.heap.size w wr
theorem mi_len {L X out : List Nat} {i k : Nat} (h : Mi L X out i k) : out.length ≤ L.length + X.length := by
  have := h.perm.length_eq
  rw [List.length_append, List.length_take, List.length_take] at this
  omega

set_option maxHeartbeats 8000000 in
theorem rmerge_many (n1 : Nat) (h : 300 < n1) (A1 A2 : Option Addr) (c1 n2 c2 : Nat) (w : World) :
    Calls Try.prog 30 #[.slice A1 n1 c1, .slice A2 n2 c2] w (IntM w 0 [] 2) := by
  have t1 : decide ((300 : Int) < (n1 : Int)) = true := by simp; omega
  have t2 : decide (300 < n1) = true := by simpa using h
  clear h
  go_enter Try.func30, Try.ntmps30
  go_wp2
  go_ret2
  exact ⟨none, 0, rfl, .inl rfl, Below.refl _ _⟩

set_option maxHeartbeats 8000000 in
theorem rmerge_any (r : List Ri) (n1 : Nat) (hn1 : r.length = n1) (h300 : n1 ≤ 300) (hb : ∀ x ∈ r, (-9223372036854775808 ≤ x.1 ∧ x.1 ≤ 9223372036854775807) ∧ (-9223372036854775808 ≤ x.2 ∧ x.2 ≤ 9223372036854775807)) (xs : List Int) (n2 : Nat) (hn2 : xs.length = n2) (hz2 : n2 ≤ 9223372036854775807) (M1 : List Nat) (M2 : Int) (hM : mgA r xs = (M1, M2)) (n : Nat) (hn : M1.length = n) (A1 A2 : Option Addr) (c1 c2 : Nat) (w : World) (h1 : RdV w w.heap.size A1 (rcs r)) (h2 : RdV w w.heap.size A2 (zc xs)) :
    Calls Try.prog 30 #[.slice A1 n1 c1, .slice A2 n2 c2] w (IntM w n M1 M2) := by
  have HRk : Hid (rk (-1) r ≠ 0 → M1 = [] ∧ M2 = rk (-1) r) := fun h => by
    have e : mgA r xs = ([], rk (-1) r) := by
      have : rkchk r = rk (-1) r := by unfold rkchk; rw [if_neg (by omega)]
      have e2 : mgE0 r xs = rk (-1) r := by unfold mgE0; rw [this, if_pos h]
      unfold mgA; rw [e2, if_pos h]
    rw [e] at hM; exact ⟨(Prod.mk.inj hM).1.symm, (Prod.mk.inj hM).2.symm⟩
  have HRc : Hid (rk (-1) r = 0 → rchk xs ≠ 0 → M1 = [] ∧ M2 = rchk xs) := fun h h' => by
    have : rkchk r = 0 := by unfold rkchk; rw [if_neg (by omega)]; exact h
    have e2 : mgE0 r xs = rchk xs := by unfold mgE0; rw [if_neg (by simpa using this)]
    have e : mgA r xs = ([], rchk xs) := by unfold mgA; rw [e2, if_pos h']
    rw [e] at hM; exact ⟨(Prod.mk.inj hM).1.symm, (Prod.mk.inj hM).2.symm⟩
  have HOk : Hid (rk (-1) r = 0 → ∀ R, r = rz R → OkR R) := fun h R hR => by
    have : rkchk r = 0 := by unfold rkchk; rw [if_neg (by omega)]; exact h
    obtain ⟨R', e, hO⟩ := rkchk_zero r this
    have : R = R' := by rw [← rn_rz R, ← hR, e, rn_rz]
    rw [this]; exact hO
  have HMg : Hid (∀ R X, r = rz R → OkR R → xs = ns X → Rising X → mg R X = (M1, M2)) := fun R X e1 e2 e3 e4 => by rw [e1, e3, mgA_ok R e2 X e4] at hM; exact hM
  have HRis : Hid (∀ V, Below w.heap.size w V → Calls Try.prog 19 #[.slice A2 n2 c2] V fun e w' => e = .returned (.int .i64 (rchk xs)) ∧ Below V.heap.size V w') := fun V hV => rising_any xs n2 hn2 hz2 A2 c2 V (h2.on hV)
  have HBd := Lib.hid hb
  obtain ⟨i0, hi, hz0, hz1, hz2'⟩ := info_parts info3
  have HX1 := Lib.hid h1; have HX2 := Lib.hid h2; have HN1 := Lib.hid hn1; have HN2 := Lib.hid hn2; have HNn := Lib.hid hn
  clear h1 h2 hn1 hn2 hM hb hn
  go_enter Try.func30, Try.ntmps30
  have s1 : decide ((300 : Int) < (n1 : Int)) = false := by simp; omega
  have s2 : decide (300 < n1) = false := by simp; omega
  go_wp2
  go_loopw [6, 7] (fun v p wr => M1Rel r w v p wr) (fun _ p _ => n1 - (intOf p).toNat)
  case atStart => exact ⟨0, [], Nat.zero_le _, rfl, rfl, rfl, by simp, rfl, ⟨rfl, .inl ⟨rfl, rfl⟩⟩, Below.refl _ _⟩
  case round =>
    obtain ⟨i, R, hi', hRl, rfl, htk, hRb, hrk, hrow, hbel⟩ := hrel
    rw [HN1.out] at hi'
    obtain ⟨Av, cv, rfl⟩ := own_slice3 hrow
    by_cases hlt : i < n1
    · have hin : i < r.length := by rw [HN1.out]; exact hlt
      obtain ⟨a0, a1⟩ := rcs_at r i hin
      obtain ⟨b, off, rfl, hb, q0w⟩ := HX1.out.at_ a0
      obtain ⟨b2, off2, hA2', hb2, q1w⟩ := HX1.out.at_ a1
      simp only [Option.some.injEq, Addr.mk.injEq, and_true] at hA2'
      obtain ⟨rfl, rfl⟩ := hA2'
      rw [← Nat.add_assoc] at q1w
      have q0 := (hbel.cell (p := ⟨b, off + i * 2, none⟩) hb).trans q0w
      have q1 := (hbel.cell (p := ⟨b, off + i * 2 + 1, none⟩) hb).trans q1w
      have HBb := Lib.hid hb; have HRL := Lib.hid hRl
      have hbd := HBd.out _ (show r[i]?.getD (0, 0) ∈ r by rw [List.getElem?_eq_getElem hin]; exact List.getElem_mem hin)
      have hsnoc : r.take (i + 1) = r.take i ++ [r[i]?.getD (0, 0)] := by rw [List.take_succ_eq_append_getElem hin, List.getElem?_eq_getElem hin]; rfl
      rw [drop_atP r i hin, rk_cons] at hrk
      generalize r[i]?.getD (0, 0) = x at *
      obtain ⟨f, m⟩ := x
      simp only at q0 q1 q0w q1w hbd hrk
      have HQ0 := Lib.hid q0w; have HQ1 := Lib.hid q1w
      clear q0w q1w
      have HBt : Hid (∀ (z lo hi : Int) (bb : Bool), decide (lo ≤ z ∧ z ≤ hi) = bb → ∀ nq, Calls Try.prog 53 #[.int .i64 z, .int .i64 lo, .int .i64 hi] (wr.drewN nq) fun e w' => e = .returned (.bool bb) ∧ w' = wr.drewN nq) := fun z lo hi bb hbb nq => (between_any z lo hi _).mono fun e w' ⟨he, hw⟩ => ⟨by rw [he, hbb], hw.symm⟩
      have t7 : (0 : Int) ≤ (i : Int) := by omega
      have t8 : (i : Int) < (n1 : Int) := by omega
      by_cases g1 : 0 ≤ f ∧ f ≤ 1048576
      · by_cases g2 : 1 ≤ m ∧ m ≤ 300
        · obtain ⟨F, rfl⟩ : ∃ F : Nat, f = (F : Int) := ⟨f.toNat, by omega⟩
          obtain ⟨M, rfl⟩ : ∃ M : Nat, m = (M : Int) := ⟨m.toNat, by omega⟩
          have HC := Lib.hid (HBt.out (F : Int) 0 1048576 true (by simp; omega))
          have HD := Lib.hid (HBt.out (M : Int) 1 300 true (by simp; omega))
          have tw1 : IntKind.i64.wrap ((F : Int) + (M : Int)) = (F : Int) + (M : Int) := IntWalk.i64_in _ (by omega)
          have tw2 : IntKind.i64.wrap ((F : Int) + (M : Int) - 1) = (F : Int) + (M : Int) - 1 := IntWalk.i64_in _ (by omega)
          have hF9 : F ≤ 1048576 := by omega
          have hM9 : M ≤ 300 := by omega
          by_cases g3 : 1048576 < (F : Int) + (M : Int) - 1
          · have t9 : decide (1048576 < (F : Int) + (M : Int) - 1) = true := by simpa using g3
            rw [if_pos (by omega)] at hrk
            obtain ⟨rfl, rfl⟩ := HRk.out (by omega)
            rw [hrk]
            obtain rfl : n = 0 := by rw [← HNn.out]; rfl
            have HB := Lib.hid hbel
            clear hbel hrow hrk htk hRb hsnoc g1 g2 g3 hbd a0 a1
            go_wp2
            go_quiet ((go_at_call 53; first | (with_reducible exact Calls.quiet_of_same (HC.out _)) | (with_reducible exact Calls.quiet_of_same (HD.out _))))
            go_wp2
            go_ret2
            exact ⟨none, 0, rfl, .inl rfl, below_drewN HB.out _⟩
          · have t9 : decide (1048576 < (F : Int) + (M : Int) - 1) = false := by simpa using g3
            rw [if_neg (by omega)] at hrk
            have hsn2 : r.take (i + 1) = rz (R ++ [(F, M)]) := by rw [hsnoc, htk, rz_snoc2]
            have hRb2 : ∀ q ∈ R ++ [(F, M)], q.1 ≤ 1048576 ∧ q.2 ≤ 300 := fun q hq => by
              rcases List.mem_append.1 hq with h | h
              · exact hRb q h
              · simp at h; subst h; simp only; omega
            have hfl := flat_len R (fun p hp => (hRb p hp).2)
            have hflb : (flatR R).length ≤ 90000 := by omega
            have HSn := Lib.hid hsn2; have HRb2 := Lib.hid hRb2
            by_cases hi0 : i = 0
            · have hR0 : R = [] := List.eq_nil_of_length_eq_zero (by omega)
              have hle : lastE R = -1 := by rw [hR0]; rfl
              rw [hle, if_neg (by omega)] at hrk
              have t10 : decide ((0 : Int) < (i : Int)) = false := by simp; omega
              have t11 : decide (0 < i) = false := by simp; omega
              have HRk2 := Lib.hid hrk
              have HB := Lib.hid hbel
              have HO := Lib.hid hrow
              clear hbel hrow hrk htk hRb hsnoc g1 g2 g3 hbd a0 a1 hsn2 hRb2 hR0 hle hi0
              go_wp2
              go_quiet ((go_at_call 53; first | (with_reducible exact Calls.quiet_of_same (HC.out _)) | (with_reducible exact Calls.quiet_of_same (HD.out _))))
              go_wp2
              go_quiet (fail)
              go_wp2
              go_loopw [6, 8] (fun v p w' => M2Rel (flatR R) F M w v p w') (fun _ p _ => M - (intOf p).toNat)
              case atStart => exact ⟨0, Nat.zero_le _, rfl, by rw [List.range'_zero, List.append_nil]; exact own_same HO.out (fun g _ => rfl), below_drewN (below_drewN HB.out _) _⟩
              case round =>
                obtain ⟨u, hu, rfl, hrow, hbel⟩ := hrel
                have c0 := (hbel.cell (p := ⟨b, off + i * 2, none⟩) (show b < w.heap.size from HBb.out)).trans HQ0.out
                have c1' := (hbel.cell (p := ⟨b, off + i * 2 + 1, none⟩) (show b < w.heap.size from HBb.out)).trans HQ1.out
                obtain ⟨Au, cu, rfl⟩ := own_slice3 hrow
                by_cases hlt2 : u < M
                · have t20 : decide ((u : Int) < (M : Int)) = true := by simp; omega
                  have t21 : decide (u < M) = true := by simpa using hlt2
                  have tw9 : IntKind.i64.wrap ((F : Int) + (u : Int)) = (F : Int) + (u : Int) := IntWalk.i64_in _ (by omega)
                  have hzz : zc (ns (flatR R ++ List.range' F u)) ++ [Value.int .i64 ((F : Int) + (u : Int))] = zc (ns (flatR R ++ List.range' F (u + 1))) := by
                    rw [range'_snoc, ← List.append_assoc, ns_append (flatR R ++ List.range' F u), zc_append]
                    simp [ns, zc]
                  have HZZ := Lib.hid hzz; clear hzz
                  have HB2 := Lib.hid hbel; clear hbel
                  go_wp2_with (at_builtin; go_loud (refine wpList_append_own _ rfl _ _ 22 rfl w.heap.size 3 i0 (.int .i64 0) 1 8 Try.underlying22 hi hz0 hz1 hz2' rfl (by decide) _ _ _ rfl (hrow.alloc _) ⟨wr.heap.size, 0, none⟩ 1 1 [.int .i64 ((F : Int) + (u : Int))] rfl rfl (news_row wr [.int .i64 ((F : Int) + (u : Int))] _) (by simp [Value.oneCell']) (by unfold maxLen; omega) (by omega) (by have := HB2.out.size; simp; omega) ?_; intro v' w3 hown' hgrow _))
                  rw [HZZ.out] at hown'
                  have HO3 := Lib.hid hown'
                  have HB3 : Hid (Below w.heap.size w w3) := HB2.out.trans (((Below.refl w.heap.size wr).alloc HB2.out.size _).trans (grown_low hgrow (hrow.alloc _) (by have := HB2.out.size; simp; omega)))
                  clear hown' hgrow hrow
                  go_roundw
                  case rel => exact ⟨u + 1, by omega, by go_num, HO3.out, HB3.out⟩
                  case measure => simp [intOf]; omega
                · obtain rfl : u = M := by omega
                  have t20 : decide ((u : Int) < (u : Int)) = false := by simp
                  have t21 : decide (u < u) = false := by simp
                  have HO3 := Lib.hid hrow
                  have HB3 := Lib.hid hbel
                  clear hrow hbel
                  go_wp2
                  go_roundw
                  case rel => exact ⟨i + 1, R ++ [(F, u)], by rw [HN1.out]; omega, by rw [List.length_append, HRL.out]; rfl, by go_num, HSn.out, HRb2.out, by rw [lastE_snoc]; exact HRk2.out, by rw [flatR_snoc, List.length_append, nums_length]; exact HO3.out, HB3.out⟩
                  case measure => simp [intOf]; omega
            · have hRi : R.length = (i - 1) + 1 := by omega
              have hle := lastE_at R (i - 1) hRi
              have hin2 : i - 1 < R.length := by omega
              have hpb := hRb _ (mem_at R (i - 1) hin2)
              have hrp : r[i - 1]?.getD (0, 0) = (((R[i - 1]?.getD (0, 0)).1 : Int), ((R[i - 1]?.getD (0, 0)).2 : Int)) := by
                have : (r.take i)[i - 1]?.getD (0, 0) = (rz R)[i - 1]?.getD (0, 0) := by rw [htk]
                rw [List.getElem?_take_of_lt (by omega), rz_at R (i - 1) hin2] at this
                exact this
              obtain ⟨p0, p1⟩ := rcs_at r (i - 1) (by omega)
              rw [hrp] at p0 p1
              obtain ⟨b3, off3, hA3, hb3, q2⟩ := (HX1.out.on hbel).at_ p0
              obtain ⟨b4, off4, hA4, hb4, q3⟩ := (HX1.out.on hbel).at_ p1
              simp only [Option.some.injEq, Addr.mk.injEq, and_true] at hA3
              obtain ⟨rfl, rfl⟩ := hA3
              simp only [Option.some.injEq, Addr.mk.injEq, and_true] at hA4
              obtain ⟨rfl, rfl⟩ := hA4
              rw [← Nat.add_assoc] at q3
              rw [hle] at hrk
              generalize R[i - 1]?.getD (0, 0) = pp at *
              obtain ⟨G, Q⟩ := pp
              simp only at q2 q3 hpb hrk
              have t10 : decide ((0 : Int) < (i : Int)) = true := by simp; omega
              have t11 : decide (0 < i) = true := by simp; omega
              have t12 : (0 : Int) ≤ (i : Int) - 1 := by omega
              have t13 : (i : Int) - 1 < (n1 : Int) := by omega
              have t14 : ((i : Int) - 1).toNat = i - 1 := by omega
              have ts : IntKind.i64.wrap ((i : Int) - 1) = (i : Int) - 1 := IntWalk.i64_in _ (by omega)
              have tw3 : IntKind.i64.wrap ((G : Int) + (Q : Int)) = (G : Int) + (Q : Int) := IntWalk.i64_in _ (by omega)
              have tw4 : IntKind.i64.wrap ((G : Int) + (Q : Int) + 1) = (G : Int) + (Q : Int) + 1 := IntWalk.i64_in _ (by omega)
              have t15 : 1 ≤ i := by omega
              by_cases g4 : (F : Int) < (G : Int) + (Q : Int) + 1
              · have t16 : decide ((F : Int) < (G : Int) + (Q : Int) + 1) = true := by simpa using g4
                rw [if_pos (by omega)] at hrk
                obtain ⟨rfl, rfl⟩ := HRk.out (by omega)
                rw [hrk]
                obtain rfl : n = 0 := by rw [← HNn.out]; rfl
                have HB := Lib.hid hbel
                clear hbel hrow hrk htk hRb hsnoc g1 g2 g3 g4 hbd a0 a1 hsn2 hRb2 hle hrp p0 p1 hi0
                go_wp2
                go_quiet ((go_at_call 53; first | (with_reducible exact Calls.quiet_of_same (HC.out _)) | (with_reducible exact Calls.quiet_of_same (HD.out _))))
                go_wp2
                go_quiet (fail)
                go_wp2
                go_ret2
                exact ⟨none, 0, rfl, .inl rfl, below_drewN (below_drewN HB.out _) _⟩
              · have t16 : decide ((F : Int) < (G : Int) + (Q : Int) + 1) = false := by simpa using g4
                rw [if_neg (by omega)] at hrk
                have HRk2 := Lib.hid hrk
                have HB := Lib.hid hbel
                have HO := Lib.hid hrow
                clear hbel hrow hrk htk hRb hsnoc g1 g2 g3 g4 hbd a0 a1 hsn2 hRb2 hle hrp p0 p1 hi0
                go_wp2
                go_quiet ((go_at_call 53; first | (with_reducible exact Calls.quiet_of_same (HC.out _)) | (with_reducible exact Calls.quiet_of_same (HD.out _))))
                go_wp2
                go_quiet (fail)
                go_wp2
                go_loopw [6, 8] (fun v p w' => M2Rel (flatR R) F M w v p w') (fun _ p _ => M - (intOf p).toNat)
                case atStart => exact ⟨0, Nat.zero_le _, rfl, by rw [List.range'_zero, List.append_nil]; exact own_same HO.out (fun g _ => rfl), below_drewN (below_drewN HB.out _) _⟩
                case round =>
                  obtain ⟨u, hu, rfl, hrow, hbel⟩ := hrel
                  have c0 := (hbel.cell (p := ⟨b, off + i * 2, none⟩) (show b < w.heap.size from HBb.out)).trans HQ0.out
                  have c1' := (hbel.cell (p := ⟨b, off + i * 2 + 1, none⟩) (show b < w.heap.size from HBb.out)).trans HQ1.out
                  obtain ⟨Au, cu, rfl⟩ := own_slice3 hrow
                  by_cases hlt2 : u < M
                  · have t20 : decide ((u : Int) < (M : Int)) = true := by simp; omega
                    have t21 : decide (u < M) = true := by simpa using hlt2
                    have tw9 : IntKind.i64.wrap ((F : Int) + (u : Int)) = (F : Int) + (u : Int) := IntWalk.i64_in _ (by omega)
                    have hzz : zc (ns (flatR R ++ List.range' F u)) ++ [Value.int .i64 ((F : Int) + (u : Int))] = zc (ns (flatR R ++ List.range' F (u + 1))) := by
                      rw [range'_snoc, ← List.append_assoc, ns_append (flatR R ++ List.range' F u), zc_append]
                      simp [ns, zc]
                    have HZZ := Lib.hid hzz; clear hzz
                    have HB2 := Lib.hid hbel; clear hbel
                    go_wp2_with (at_builtin; go_loud (refine wpList_append_own _ rfl _ _ 22 rfl w.heap.size 3 i0 (.int .i64 0) 1 8 Try.underlying22 hi hz0 hz1 hz2' rfl (by decide) _ _ _ rfl (hrow.alloc _) ⟨wr.heap.size, 0, none⟩ 1 1 [.int .i64 ((F : Int) + (u : Int))] rfl rfl (news_row wr [.int .i64 ((F : Int) + (u : Int))] _) (by simp [Value.oneCell']) (by unfold maxLen; omega) (by omega) (by have := HB2.out.size; simp; omega) ?_; intro v' w3 hown' hgrow _))
                    rw [HZZ.out] at hown'
                    have HO3 := Lib.hid hown'
                    have HB3 : Hid (Below w.heap.size w w3) := HB2.out.trans (((Below.refl w.heap.size wr).alloc HB2.out.size _).trans (grown_low hgrow (hrow.alloc _) (by have := HB2.out.size; simp; omega)))
                    clear hown' hgrow hrow
                    go_roundw
                    case rel => exact ⟨u + 1, by omega, by go_num, HO3.out, HB3.out⟩
                    case measure => simp [intOf]; omega
                  · obtain rfl : u = M := by omega
                    have t20 : decide ((u : Int) < (u : Int)) = false := by simp
                    have t21 : decide (u < u) = false := by simp
                    have HO3 := Lib.hid hrow
                    have HB3 := Lib.hid hbel
                    clear hrow hbel
                    go_wp2
                    go_roundw
                    case rel => exact ⟨i + 1, R ++ [(F, u)], by rw [HN1.out]; omega, by rw [List.length_append, HRL.out]; rfl, by go_num, HSn.out, HRb2.out, by rw [lastE_snoc]; exact HRk2.out, by rw [flatR_snoc, List.length_append, nums_length]; exact HO3.out, HB3.out⟩
                    case measure => simp [intOf]; omega
        · have HC := Lib.hid (HBt.out f 0 1048576 true (by simpa using g1))
          have HD := Lib.hid (HBt.out m 1 300 false (by simpa using g2))
          rw [if_pos (by omega)] at hrk
          obtain ⟨rfl, rfl⟩ := HRk.out (by omega)
          rw [hrk]
          obtain rfl : n = 0 := by rw [← HNn.out]; rfl
          have HB := Lib.hid hbel
          clear hbel hrow hrk htk hRb hsnoc g1 g2 hbd a0 a1
          go_wp2
          go_quiet ((go_at_call 53; first | (with_reducible exact Calls.quiet_of_same (HC.out _)) | (with_reducible exact Calls.quiet_of_same (HD.out _))))
          go_wp2
          go_ret2
          exact ⟨none, 0, rfl, .inl rfl, below_drewN HB.out _⟩
      · have HC := Lib.hid (HBt.out f 0 1048576 false (by simpa using g1))
        rw [if_pos (by omega)] at hrk
        obtain ⟨rfl, rfl⟩ := HRk.out (by omega)
        rw [hrk]
        obtain rfl : n = 0 := by rw [← HNn.out]; rfl
        have HB := Lib.hid hbel
        clear hbel hrow hrk htk hRb hsnoc g1 hbd a0 a1
        go_wp2
        go_quiet ((go_at_call 53; with_reducible exact Calls.quiet_of_same (HC.out _)))
        go_wp2
        go_ret2
        exact ⟨none, 0, rfl, .inl rfl, below_drewN HB.out _⟩
    · obtain rfl : i = n1 := by omega
      rw [List.drop_of_length_le (by rw [HN1.out]; omega)] at hrk
      have hrk0 : rk (-1) r = 0 := by rw [hrk]; rfl
      have hrR : r = rz R := by rw [← htk, List.take_of_length_le (by rw [HN1.out]; omega)]
      have hOk := HOk.out hrk0 R hrR
      have hLp : (flatR R).Pairwise (· < ·) := (sep_flat_lt R _ hOk.2.1).2
      have hfl := flat_len R (fun p hp => (hRb p hp).2)
      have hflb : (flatR R).length ≤ 90000 := by omega
      have hL0 : RdV wr wr.heap.size Av (zc (ns (flatR R))) := own_rdv hrow
      have HC := HRis.out wr hbel
      have HB := Lib.hid hbel
      have HL0 := Lib.hid hL0
      have t1 : decide ((i : Int) < (i : Int)) = false := by simp
      have t2 : decide (i < i) = false := by simp
      by_cases e0 : rchk xs = 0
      · obtain ⟨X, rfl, hX⟩ := rchk_zero xs e0
        have hXp : X.Pairwise (· < ·) := ((ris_pairwise X _).1 hX.2).2
        have hX3 := hX.1
        have hXn : X.length = n2 := by rw [← HN2.out, ns_length]
        rw [e0] at HC
        have HC' := Lib.hid HC
        have HMG := Lib.hid (HMg.out R X hrR hOk rfl hX)
        have HLp := Lib.hid hLp; have HXp := Lib.hid hXp; have HXn := Lib.hid hXn
        have hX4 : n2 ≤ 300 := by omega
        clear HC hRl htk hRb hrk hrow hbel hL0 hrk0 hrR hOk hLp hfl hX hXp hX3 hXn e0
        generalize hLL : flatR R = L at *
        have HLL := Lib.hid hLL
        clear hLL
        go_wp2_with fail
        refine HC'.out.mono ?_
        rintro e V ⟨rfl, hbV⟩
        have HL := Lib.hid (HL0.out.on hbV)
        have HBV : Hid (Below w.heap.size w V) := HB.out.trans (hbV.mono HB.out.size)
        have HX := Lib.hid (HX2.out.on HBV.out)
        clear hbV
        clear HB HC' HL0
        go_wp2
        go_loopw [10, 11, 12] (fun a p q wr => M3Rel L X V a p q wr) (fun _ p q _ => L.length + n2 - (intOf p).toNat - (intOf q).toNat)
        case atStart => exact ⟨0, 0, [], mi_start _ _, rfl, rfl, ⟨rfl, .inl ⟨rfl, rfl⟩⟩, Below.refl _ _⟩
        case round =>
          obtain ⟨p, k, out, hM, rfl, rfl, hrow, hbel⟩ := hrel
          obtain ⟨Ao, co, rfl⟩ := own_slice3 hrow
          have hml := mi_len hM
          rw [HXn.out] at hml
          have hpi := hM.hi
          have hki := hM.hk
          rw [HXn.out] at hki
          by_cases h1 : p < L.length
          · obtain ⟨b, off, hbA, hb, qV⟩ := HL.out.at_ (ns_get L p h1)
            by_cases h2 : k < n2
            · obtain ⟨b2, off2, hbA2, hb2, qV2⟩ := HX.out.at_ (ns_get X k (by rw [HXn.out]; exact h2))
              subst hbA; subst hbA2
              have k0 := (hbel.cell (p := ⟨b, off + p, none⟩) hb).trans qV
              have k1 := (hbel.cell (p := ⟨b2, off2 + k, none⟩) hb2).trans qV2
              have hk' : k < X.length := by rw [HXn.out]; exact h2
              have hLl := at_mem L p h1
              have hXl := at_mem X k hk'
              have HLa : Hid (X[k]?.getD 0 < L[p]?.getD 0 → Mi L X (out ++ [X[k]?.getD 0]) p (k + 1)) := fun q => mi_right hM HXp.out hk' fun y hy => by
                rw [drop_nat L p h1] at hy
                rcases List.mem_cons.1 hy with rfl | hy
                · exact q
                · exact Nat.lt_trans q (pw_drop HLp.out p h1 y hy)
              have HXa : Hid (L[p]?.getD 0 < X[k]?.getD 0 → Mi L X (out ++ [L[p]?.getD 0]) (p + 1) k) := fun q => mi_left hM HLp.out h1 fun y hy => by
                rw [drop_nat X k hk'] at hy
                rcases List.mem_cons.1 hy with rfl | hy
                · exact q
                · exact Nat.lt_trans q (pw_drop HXp.out k hk' y hy)
              generalize L[p]?.getD 0 = x at *
              generalize X[k]?.getD 0 = y at *
              have HDup : Hid (x = y → M1 = [] ∧ M2 = 6) := fun q => by
                have e := HMG.out
                rw [mg_dup R X x (by rw [HLL.out]; exact hLl) (q ▸ hXl)] at e
                exact ⟨(Prod.mk.inj e).1.symm, (Prod.mk.inj e).2.symm⟩
              have d1 : decide ((p : Int) < (L.length : Int)) = true := by simp; omega
              have d1' : decide (p < L.length) = true := by simpa using h1
              have t7 : (0 : Int) ≤ (p : Int) := by omega
              have t8 : (p : Int) < (L.length : Int) := by omega
              have d2 : decide ((k : Int) < (n2 : Int)) = true := by simp; omega
              have d2' : decide (k < n2) = true := by simpa using h2
              have t9 : (0 : Int) ≤ (k : Int) := by omega
              have t10 : (k : Int) < (n2 : Int) := by omega
              have d3 : decide ((n2 : Int) ≤ (k : Int)) = false := by simp; omega
              have d3' : decide (n2 ≤ k) = false := by simp; omega
              have HO := Lib.hid hrow; have HB2 := Lib.hid hbel
              clear hM qV qV2 hb hb2 hLl hXl hrow hbel hk'
              by_cases hxy : x = y
              · obtain ⟨rfl, rfl⟩ := HDup.out hxy
                obtain rfl : n = 0 := by rw [← HNn.out]; rfl
                subst hxy
                have d4 : ((x : Int) == (x : Int)) = true := by simp
                clear HDup HLa HXa h1 h2
                go_wp2
                go_quiet (fail)
                go_wp2
                go_ret2
                exact ⟨none, 0, rfl, .inl rfl, below_drewN (HBV.out.trans (HB2.out.mono HBV.out.size)) _⟩
              · have d4 : ((x : Int) == (y : Int)) = false := by simp; omega
                by_cases hlt2 : x < y
                · have d5 : decide ((x : Int) < (y : Int)) = true := by simp; omega
                  have d5' : decide (x < y) = true := by simpa using hlt2
                  have HMn := Lib.hid (HXa.out hlt2)
                  clear HDup HLa HXa h1 h2 hxy hlt2
                  go_wp2
                  go_quiet (fail)
                  revert nq
                  intro q1
                  go_wp2
                  go_quiet (fail)
                  generalize hW : World.drewN (World.drewN wr q1) nq = W
                  have kW : W.cell? ⟨b, off + p, none⟩ = some (.int .i64 (x : Int)) := by rw [← hW]; exact k0
                  have HO2 := own_same (W' := W) HO.out (fun g _ => by rw [← hW]; rfl)
                  have HBW : Hid (Below V.heap.size V W) := by show Below _ _ _; rw [← hW]; exact below_drewN (below_drewN HB2.out _) _
                  have HZZ : Hid (zc (ns out) ++ [Value.int .i64 (x : Int)] = zc (ns (out ++ [x]))) := by show _ = _; rw [ns_append, zc_append]; rfl
                  clear hW HO HB2
                  go_wp2_with (at_builtin; go_loud (refine wpList_append_own _ rfl _ _ 22 rfl V.heap.size 3 i0 (.int .i64 0) 1 8 Try.underlying22 hi hz0 hz1 hz2' rfl (by decide) _ _ _ rfl (HO2.alloc _) ⟨W.heap.size, 0, none⟩ 1 1 [.int .i64 (x : Int)] rfl rfl (news_row W [.int .i64 (x : Int)] _) (by simp [Value.oneCell']) (by unfold maxLen; omega) (by omega) (by have := HBW.out.size; simp; omega) ?_; intro v' w3 hown' hgrow _))
                  rw [HZZ.out] at hown'
                  have HO3 := Lib.hid hown'
                  have HB3 : Hid (Below V.heap.size V w3) := HBW.out.trans (((Below.refl V.heap.size W).alloc HBW.out.size _).trans (grown_low hgrow (HO2.alloc _) (by have := HBW.out.size; simp; omega)))
                  clear hown' hgrow HO2
                  go_roundw
                  case rel => exact ⟨p + 1, k, out ++ [x], HMn.out, by go_num, rfl, by rw [List.length_append]; exact HO3.out, HB3.out⟩
                  case measure => simp [intOf]; omega
                · have d5 : decide ((x : Int) < (y : Int)) = false := by simp; omega
                  have d5' : decide (x < y) = false := by simpa using hlt2
                  have HMn := Lib.hid (HLa.out (by omega))
                  clear HDup HLa HXa h1 h2 hxy hlt2
                  go_wp2
                  go_quiet (fail)
                  revert nq
                  intro q1
                  go_wp2
                  go_quiet (fail)
                  generalize hW : World.drewN (World.drewN wr q1) nq = W
                  have kW : W.cell? ⟨b2, off2 + k, none⟩ = some (.int .i64 (y : Int)) := by rw [← hW]; exact k1
                  have HO2 := own_same (W' := W) HO.out (fun g _ => by rw [← hW]; rfl)
                  have HBW : Hid (Below V.heap.size V W) := by show Below _ _ _; rw [← hW]; exact below_drewN (below_drewN HB2.out _) _
                  have HZZ : Hid (zc (ns out) ++ [Value.int .i64 (y : Int)] = zc (ns (out ++ [y]))) := by show _ = _; rw [ns_append, zc_append]; rfl
                  clear hW HO HB2
                  go_wp2_with (at_builtin; go_loud (refine wpList_append_own _ rfl _ _ 22 rfl V.heap.size 3 i0 (.int .i64 0) 1 8 Try.underlying22 hi hz0 hz1 hz2' rfl (by decide) _ _ _ rfl (HO2.alloc _) ⟨W.heap.size, 0, none⟩ 1 1 [.int .i64 (y : Int)] rfl rfl (news_row W [.int .i64 (y : Int)] _) (by simp [Value.oneCell']) (by unfold maxLen; omega) (by omega) (by have := HBW.out.size; simp; omega) ?_; intro v' w3 hown' hgrow _))
                  rw [HZZ.out] at hown'
                  have HO3 := Lib.hid hown'
                  have HB3 : Hid (Below V.heap.size V w3) := HBW.out.trans (((Below.refl V.heap.size W).alloc HBW.out.size _).trans (grown_low hgrow (HO2.alloc _) (by have := HBW.out.size; simp; omega)))
                  clear hown' hgrow HO2
                  go_roundw
                  case rel => exact ⟨p, k + 1, out ++ [y], HMn.out, rfl, by go_num, by rw [List.length_append]; exact HO3.out, HB3.out⟩
                  case measure => simp [intOf]; omega
            · subst hbA
              have k0 := (hbel.cell (p := ⟨b, off + p, none⟩) hb).trans qV
              have HMn := Lib.hid (mi_left hM HLp.out h1 (by rw [List.drop_of_length_le (by rw [HXn.out]; omega)]; simp))
              generalize L[p]?.getD 0 = x at *
              have d1 : decide ((p : Int) < (L.length : Int)) = true := by simp; omega
              have d1' : decide (p < L.length) = true := by simpa using h1
              have t7 : (0 : Int) ≤ (p : Int) := by omega
              have t8 : (p : Int) < (L.length : Int) := by omega
              have d2 : decide ((k : Int) < (n2 : Int)) = false := by simp; omega
              have d2' : decide (k < n2) = false := by simpa using h2
              have d3 : decide ((n2 : Int) ≤ (k : Int)) = true := by simp; omega
              have d3' : decide (n2 ≤ k) = true := by simp; omega
              have HO := Lib.hid hrow; have HB2 := Lib.hid hbel
              clear hM qV hb hrow hbel h1 h2
              go_wp2
              go_quiet (fail)
              revert nq
              intro q1
              go_wp2
              go_quiet (fail)
              generalize hW : World.drewN (World.drewN wr q1) nq = W
              have kW : W.cell? ⟨b, off + p, none⟩ = some (.int .i64 (x : Int)) := by rw [← hW]; exact k0
              have HO2 := own_same (W' := W) HO.out (fun g _ => by rw [← hW]; rfl)
              have HBW : Hid (Below V.heap.size V W) := by show Below _ _ _; rw [← hW]; exact below_drewN (below_drewN HB2.out _) _
              have HZZ : Hid (zc (ns out) ++ [Value.int .i64 (x : Int)] = zc (ns (out ++ [x]))) := by show _ = _; rw [ns_append, zc_append]; rfl
              clear hW HO HB2
              go_wp2_with (at_builtin; go_loud (refine wpList_append_own _ rfl _ _ 22 rfl V.heap.size 3 i0 (.int .i64 0) 1 8 Try.underlying22 hi hz0 hz1 hz2' rfl (by decide) _ _ _ rfl (HO2.alloc _) ⟨W.heap.size, 0, none⟩ 1 1 [.int .i64 (x : Int)] rfl rfl (news_row W [.int .i64 (x : Int)] _) (by simp [Value.oneCell']) (by unfold maxLen; omega) (by omega) (by have := HBW.out.size; simp; omega) ?_; intro v' w3 hown' hgrow _))
              rw [HZZ.out] at hown'
              have HO3 := Lib.hid hown'
              have HB3 : Hid (Below V.heap.size V w3) := HBW.out.trans (((Below.refl V.heap.size W).alloc HBW.out.size _).trans (grown_low hgrow (HO2.alloc _) (by have := HBW.out.size; simp; omega)))
              clear hown' hgrow HO2
              go_roundw
              case rel => exact ⟨p + 1, k, out ++ [x], HMn.out, by go_num, rfl, by rw [List.length_append]; exact HO3.out, HB3.out⟩
              case measure => simp [intOf]; omega
          · by_cases h2 : k < n2
            · obtain ⟨b2, off2, hbA2, hb2, qV2⟩ := HX.out.at_ (ns_get X k (by rw [HXn.out]; exact h2))
              subst hbA2
              have k1 := (hbel.cell (p := ⟨b2, off2 + k, none⟩) hb2).trans qV2
              have HMn := Lib.hid (mi_right hM HXp.out (by rw [HXn.out]; exact h2) (by rw [List.drop_of_length_le (by omega)]; simp))
              generalize X[k]?.getD 0 = y at *
              have d1 : decide ((p : Int) < (L.length : Int)) = false := by simp; omega
              have d1' : decide (p < L.length) = false := by simpa using h1
              have d2 : decide ((k : Int) < (n2 : Int)) = true := by simp; omega
              have d2' : decide (k < n2) = true := by simpa using h2
              have t9 : (0 : Int) ≤ (k : Int) := by omega
              have t10 : (k : Int) < (n2 : Int) := by omega
              have d3 : decide ((n2 : Int) ≤ (k : Int)) = false := by simp; omega
              have d3' : decide (n2 ≤ k) = false := by simp; omega
              have HO := Lib.hid hrow; have HB2 := Lib.hid hbel
              clear hM qV2 hb2 hrow hbel h1 h2
              go_wp2
              go_quiet (fail)
              revert nq
              intro q1
              go_wp2
              go_quiet (fail)
              generalize hW : World.drewN (World.drewN wr q1) nq = W
              have kW : W.cell? ⟨b2, off2 + k, none⟩ = some (.int .i64 (y : Int)) := by rw [← hW]; exact k1
              have HO2 := own_same (W' := W) HO.out (fun g _ => by rw [← hW]; rfl)
              have HBW : Hid (Below V.heap.size V W) := by show Below _ _ _; rw [← hW]; exact below_drewN (below_drewN HB2.out _) _
              have HZZ : Hid (zc (ns out) ++ [Value.int .i64 (y : Int)] = zc (ns (out ++ [y]))) := by show _ = _; rw [ns_append, zc_append]; rfl
              clear hW HO HB2
              go_wp2_with (at_builtin; go_loud (refine wpList_append_own _ rfl _ _ 22 rfl V.heap.size 3 i0 (.int .i64 0) 1 8 Try.underlying22 hi hz0 hz1 hz2' rfl (by decide) _ _ _ rfl (HO2.alloc _) ⟨W.heap.size, 0, none⟩ 1 1 [.int .i64 (y : Int)] rfl rfl (news_row W [.int .i64 (y : Int)] _) (by simp [Value.oneCell']) (by unfold maxLen; omega) (by omega) (by have := HBW.out.size; simp; omega) ?_; intro v' w3 hown' hgrow _))
              rw [HZZ.out] at hown'
              have HO3 := Lib.hid hown'
              have HB3 : Hid (Below V.heap.size V w3) := HBW.out.trans (((Below.refl V.heap.size W).alloc HBW.out.size _).trans (grown_low hgrow (HO2.alloc _) (by have := HBW.out.size; simp; omega)))
              clear hown' hgrow HO2
              go_roundw
              case rel => exact ⟨p, k + 1, out ++ [y], HMn.out, rfl, by go_num, by rw [List.length_append]; exact HO3.out, HB3.out⟩
              case measure => simp [intOf]; omega
            · obtain rfl : p = L.length := by omega
              have hkX : k = X.length := by rw [HXn.out]; omega
              have d1 : decide ((L.length : Int) < (L.length : Int)) = false := by simp
              have d1' : decide (L.length < L.length) = false := by simp
              have d2 : decide ((k : Int) < (n2 : Int)) = false := by simp; omega
              have d2' : decide (k < n2) = false := by simpa using h2
              have e := HMG.out
              rw [mg_eq R X out (by rw [HLL.out, ← hkX]; exact hM)] at e
              have HR := Lib.hid (own_rdv hrow)
              have HB2 : Hid (Below w.heap.size w wr) := HBV.out.trans (hbel.mono HBV.out.size)
              clear hM hrow hbel hkX
              by_cases h5 : 300 < out.length
              · rw [if_pos h5] at e
                obtain ⟨rfl, rfl⟩ := Prod.mk.inj e
                obtain rfl : n = 0 := by rw [← HNn.out]; rfl
                have t1 : decide ((300 : Int) < (out.length : Int)) = true := by simp; omega
                have t2 : decide (300 < out.length) = true := by simpa using h5
                clear e h5 h1 h2
                go_wp2
                go_ret2
                exact ⟨none, 0, rfl, .inl rfl, HB2.out⟩
              · rw [if_neg h5] at e
                obtain ⟨rfl, rfl⟩ := Prod.mk.inj e
                obtain rfl : n = out.length := HNn.out.symm
                have t1 : decide ((300 : Int) < (out.length : Int)) = false := by simp; omega
                have t2 : decide (300 < out.length) = false := by simpa using h5
                clear e h5 h1 h2
                go_wp2
                go_ret2
                exact ⟨Ao, co, rfl, HR.out, HB2.out⟩
      · obtain ⟨rfl, rfl⟩ := HRc.out hrk0 e0
        obtain rfl : n = 0 := by rw [← HNn.out]; rfl
        have HC' := Lib.hid HC
        clear HC hRl htk hRb hrk hrow hbel hL0 hrk0 hrR hOk hLp hfl
        generalize rchk xs = z at *
        go_wp2_with fail
        refine HC'.out.mono ?_
        rintro e V ⟨rfl, hbV⟩
        have HBV : Hid (Below w.heap.size w V) := HB.out.trans (hbV.mono HB.out.size)
        clear hbV HB HC'
        have t9 : decide (z = 0) = false := by simpa using e0
        go_wp2
        go_ret2
        exact ⟨none, 0, rfl, .inl rfl, HBV.out⟩
end

section
set_option maxRecDepth 100000
set_option linter.unusedVariables false
open Go.RowKit Go.Shelf

theorem mgA_len (r : List Ri) (xs : List Int) : (mgA r xs).1.length ≤ 300 := by
  unfold mgA
  split
  · simp
  · unfold mg
    simp only
    split
    · simp
    · split
      · simp
      · simp only; omega
theorem rmerge_n (r : List Ri) (n1 : Nat) (hn1 : r.length = n1) (hb : ∀ x ∈ r, (-9223372036854775808 ≤ x.1 ∧ x.1 ≤ 9223372036854775807) ∧ (-9223372036854775808 ≤ x.2 ∧ x.2 ≤ 9223372036854775807)) (xs : List Int) (n2 : Nat) (hn2 : xs.length = n2) (hz2 : n2 ≤ 9223372036854775807) (M1 : List Nat) (M2 : Int) (hM : mgA r xs = (M1, M2)) (n : Nat) (hn : M1.length = n) (A1 A2 : Option Addr) (c1 c2 : Nat) (w : World) (h1 : RdV w w.heap.size A1 (rcs r)) (h2 : RdV w w.heap.size A2 (zc xs)) :
    Calls Try.prog 30 #[.slice A1 n1 c1, .slice A2 n2 c2] w (IntM w n M1 M2) := by
  by_cases h : 300 < n1
  · have e : mgA r xs = ([], 2) := by
      have e1 : rkchk r = 2 := by unfold rkchk; rw [if_pos (by omega)]
      have e2 : mgE0 r xs = 2 := by unfold mgE0; rw [e1, if_pos (by decide)]
      unfold mgA; rw [e2, if_pos (by decide)]
    rw [e] at hM
    obtain ⟨rfl, rfl⟩ := Prod.mk.inj hM
    subst hn
    exact rmerge_many n1 h A1 A2 c1 n2 c2 w
  · exact rmerge_any r n1 hn1 (by omega) hb xs n2 hn2 hz2 M1 M2 hM n hn A1 A2 c1 c2 w h1 h2
set_option maxHeartbeats 8000000 in
theorem runsTell_law (A1 : Option Addr) (c1 : Nat) (xs : List Int) (k : Int) (A2 : Option Addr) (c2 : Nat) (rr : List Ri) (A3 : Option Addr) (c3 : Nat) (ys : List Int) (w : World)
    (hc1 : xs.length ≤ c1) (hna1 : A1 = none → c1 = 0) (hb1 : ∀ x ∈ xs, -9223372036854775808 ≤ x ∧ x ≤ 9223372036854775807) (hA1 : RdV w w.heap.size A1 (zc xs)) (hn1 : xs.length ≤ 9223372036854775807) (hk : -9223372036854775808 ≤ k ∧ k ≤ 9223372036854775807)
    (hc2 : rr.length ≤ c2) (hna2 : A2 = none → c2 = 0) (hb2 : ∀ x ∈ rr, (-9223372036854775808 ≤ x.1 ∧ x.1 ≤ 9223372036854775807) ∧ (-9223372036854775808 ≤ x.2 ∧ x.2 ≤ 9223372036854775807)) (hA2 : RdV w w.heap.size A2 (rcs rr)) (hn2 : rr.length ≤ 9223372036854775807)
    (hc3 : ys.length ≤ c3) (hna3 : A3 = none → c3 = 0) (hb3 : ∀ x ∈ ys, -9223372036854775808 ≤ x ∧ x ≤ 9223372036854775807) (hA3 : RdV w w.heap.size A3 (zc ys)) (hn3 : ys.length ≤ 9223372036854775807) :
    Calls Try.prog 9 #[.slice A1 xs.length c1, .int .i64 k, .slice A2 rr.length c2, .slice A3 ys.length c3] w fun e w' => e = .returned (.bool true) ∧ Below w.heap.size w w' := by
  obtain ⟨M1, M2, hM⟩ : ∃ M1 M2, mgA rr ys = (M1, M2) := ⟨_, _, rfl⟩
  obtain ⟨N1, N2, hN⟩ : ∃ N1 N2, mgA rr [] = (N1, N2) := ⟨_, _, rfl⟩
  have hml : M1.length ≤ 300 := by have := mgA_len rr ys; rw [hM] at this; exact this
  have HA1 := Lib.hid hA1; have HA2 := Lib.hid hA2; have HA3 := Lib.hid hA3
  have HM : Hid (∀ V, RdV V V.heap.size A2 (rcs rr) → RdV V V.heap.size A3 (zc ys) → Calls Try.prog 27 #[.slice A2 rr.length c2, .slice A3 ys.length c3] V (IntsN V M1.length M1 M2)) := fun V h1 h2 => merge_n rr _ rfl hn2 ys _ rfl hn3 M1 M2 hM _ rfl A2 A3 c2 c3 hna3 V h1 h2
  have HC : Hid (∀ V, RdV V V.heap.size A2 (rcs rr) → Calls Try.prog 28 #[.slice A2 rr.length c2] V fun e w' => e = .returned (.tuple #[.int .i64 (N1.length : Int), .int .i64 N2]) ∧ Below V.heap.size V w') := fun V h1 => count_any rr _ rfl hn2 N1 N2 hN A2 c2 V h1
  have HR : Hid (∀ V, RdV V V.heap.size A1 (zc xs) → Calls Try.prog 19 #[.slice A1 xs.length c1] V fun e w' => e = .returned (.int .i64 (rchk xs)) ∧ Below V.heap.size V w') := fun V h1 => rising_any xs _ rfl hn1 A1 c1 V h1
  have HRm : Hid (∀ V, RdV V V.heap.size A2 (rcs rr) → RdV V V.heap.size A3 (zc ys) → Calls Try.prog 30 #[.slice A2 rr.length c2, .slice A3 ys.length c3] V (IntM V M1.length M1 M2)) := fun V h1 h2 => rmerge_n rr _ rfl hb2 ys _ rfl hn3 M1 M2 hM _ rfl A2 A3 c2 c3 V h1 h2
  have HRn : Hid (∀ V, RdV V V.heap.size A2 (rcs rr) → Calls Try.prog 30 #[.slice A2 rr.length c2, .slice none 0 0] V (IntM V N1.length N1 N2)) := fun V h1 => rmerge_n rr _ rfl hb2 [] 0 rfl (by decide) N1 N2 hN _ rfl A2 none c2 0 V h1 (.inl rfl)
  have HSI : Hid (∀ (A B : Option Addr) (c d : Nat) (V : World), RdV V V.heap.size A (zc (ns M1)) → RdV V V.heap.size B (zc (ns M1)) → Calls Try.prog 24 #[.slice A M1.length c, .slice B M1.length d] V fun e w' => e = .returned (.bool true) ∧ Below V.heap.size V w') := fun A B c d V h1 h2 => sameI_t M1 _ rfl (by omega) A B c d V h1 h2
  clear hM hN hml hA2 hA3 hb1 hb2 hb3 hna1 hna2 hna3 hc2 hc3 hn2 hn3
  generalize rr.length = nr at *
  generalize ys.length = ny at *
  generalize M1.length = nm at *
  generalize N1.length = nk at *
  have f1 : (M2 == M2) = true := by simp
  have f2 : (N2 == N2) = true := by simp
  have f3 : ((nk : Int) == (nk : Int)) = true := by simp
  by_cases hE : spE xs k = 0
  · obtain ⟨l, K, rfl, hl, rfl, b1, b2⟩ := spE_zero xs k hE
    obtain ⟨e1, e2⟩ := spR_ok l hl K b1 b2
    have hrk := rchk_ok l hl
    have hR := (okR_filter (fun p => decide (K ≤ p.2)) (rs l) (rs_okR l hl)).1
    have hR' : (lng K (rs l)).length ≤ 300 := hR
    have hL' : (flatR (sht K (rs l))).length ≤ 1000000 := by
      have h1 := flat_len (sht K (rs l)) (fun p hp => ((rs_okR l hl).2.2 p (List.mem_filter.1 hp).1).1)
      have h2 : (sht K (rs l)).length ≤ (rs l).length := List.length_filter_le _ _
      have h3 := (rs_okR l hl).1
      omega
    have HS := split_n (ns l) _ rfl hn1 (K : Int) _ _ rfl rfl A1 c1 hc1 w hA1
    rw [hE, e1, e2, rz_length] at HS
    rw [hrk] at HR
    have HSp : Hid (∀ V, RdV V V.heap.size A1 (zc (ns l)) → Calls Try.prog 29 #[.slice A1 (ns l).length c1, .int .i64 (K : Int)] V (SrP V (rz (lng K (rs l))) (flatR (sht K (rs l))) (lng K (rs l)).length (flatR (sht K (rs l))).length)) := fun V h => by
      rw [ns_length]; exact rsplit_in l hl _ rfl K b1 b2 _ _ rfl rfl A1 c1 V h
    have HSR : Hid (∀ (A B : Option Addr) (c d : Nat) (V : World), RdV V V.heap.size A (rcs (rz (lng K (rs l)))) → RdV V V.heap.size B (rcs (rz (lng K (rs l)))) → Calls Try.prog 32 #[.slice A (lng K (rs l)).length c, .slice B (lng K (rs l)).length d] V fun e w' => e = .returned (.bool true) ∧ Below V.heap.size V w') := fun A B c d V h1 h2 => sameR_t _ _ (rz_length _) (by omega) A B c d V h1 h2
    have HSL : Hid (∀ (A B : Option Addr) (c d : Nat) (V : World), RdV V V.heap.size A (zc (ns (flatR (sht K (rs l))))) → RdV V V.heap.size B (zc (ns (flatR (sht K (rs l))))) → Calls Try.prog 24 #[.slice A (flatR (sht K (rs l))).length c, .slice B (flatR (sht K (rs l))).length d] V fun e w' => e = .returned (.bool true) ∧ Below V.heap.size V w') := fun A B c d V h1 h2 => sameI_t _ _ rfl (by omega) A B c d V h1 h2
    replace HS := Lib.hid HS
    have t1 : decide ((K : Int) < 2) = false := by simp; omega
    have t2 : decide ((300 : Int) < (K : Int)) = false := by simp; omega
    have t1' : decide (K < 2) = false := by simp; omega
    have t2' : decide (300 < K) = false := by simp; omega
    clear hE hl e1 e2 hrk hR hR' hL' hA1 hc1 hn1 hk b1 b2
    generalize (lng K (rs l)).length = n1 at *
    generalize (flatR (sht K (rs l))).length = n2 at *
    generalize rz (lng K (rs l)) = R0 at *
    generalize flatR (sht K (rs l)) = L0 at *
    generalize (ns l).length = nx at *
    go_enter Try.func9, Try.ntmps9
    go_wp2_with fail
    refine HS.out.mono ?_
    rintro e w1 ⟨B1, d1, B2, d2, rfl, -, r1, r2, Bq⟩
    replace HA1 := Lib.hid (HA1.out.on Bq)
    replace HA2 := Lib.hid (HA2.out.on Bq)
    replace HA3 := Lib.hid (HA3.out.on Bq)
    have HX := Lib.hid r1; have HY := Lib.hid r2
    have HB := Lib.hid Bq
    clear Bq r1 r2 HS
    go_wp2_with fail
    refine (HM.out w1 HA2.out HA3.out).mono ?_
    rintro e w2 ⟨B3, d3, rfl, -, -, r3, Bq⟩
    replace HA1 := Lib.hid (HA1.out.on Bq)
    replace HA2 := Lib.hid (HA2.out.on Bq)
    replace HA3 := Lib.hid (HA3.out.on Bq)
    replace HX := Lib.hid (HX.out.on Bq)
    replace HY := Lib.hid (HY.out.on Bq)
    have HZ := Lib.hid r3
    replace HB := Lib.hid (HB.out.trans (Bq.mono HB.out.size))
    clear Bq
    clear r3 HM
    go_wp2_with fail
    refine (HC.out w2 HA2.out).mono ?_
    rintro e w3 ⟨rfl, Bq⟩
    replace HA1 := Lib.hid (HA1.out.on Bq)
    replace HA2 := Lib.hid (HA2.out.on Bq)
    replace HA3 := Lib.hid (HA3.out.on Bq)
    replace HX := Lib.hid (HX.out.on Bq)
    replace HY := Lib.hid (HY.out.on Bq)
    replace HZ := Lib.hid (HZ.out.on Bq)
    replace HB := Lib.hid (HB.out.trans (Bq.mono HB.out.size))
    clear Bq
    clear HC
    go_wp2_with fail
    refine (HR.out w3 HA1.out).mono ?_
    rintro e w4 ⟨rfl, Bq⟩
    replace HA1 := Lib.hid (HA1.out.on Bq)
    replace HA2 := Lib.hid (HA2.out.on Bq)
    replace HA3 := Lib.hid (HA3.out.on Bq)
    replace HX := Lib.hid (HX.out.on Bq)
    replace HY := Lib.hid (HY.out.on Bq)
    replace HZ := Lib.hid (HZ.out.on Bq)
    replace HB := Lib.hid (HB.out.trans (Bq.mono HB.out.size))
    clear Bq
    clear HR
    go_wp2_with fail
    refine (HSp.out w4 HA1.out).mono ?_
    rintro e w5 ⟨B5, d5, B6, d6, rfl, r5, r6, Bq⟩
    replace HA2 := Lib.hid (HA2.out.on Bq)
    replace HA3 := Lib.hid (HA3.out.on Bq)
    replace HX := Lib.hid (HX.out.on Bq)
    replace HY := Lib.hid (HY.out.on Bq)
    replace HZ := Lib.hid (HZ.out.on Bq)
    have HP := Lib.hid r5; have HQ := Lib.hid r6
    replace HB := Lib.hid (HB.out.trans (Bq.mono HB.out.size))
    clear Bq
    clear r5 r6 HSp
    go_wp2_with fail
    refine (HRm.out w5 HA2.out HA3.out).mono ?_
    rintro e w6 ⟨B7, d7, rfl, r7, Bq⟩
    replace HA2 := Lib.hid (HA2.out.on Bq)
    replace HX := Lib.hid (HX.out.on Bq)
    replace HY := Lib.hid (HY.out.on Bq)
    replace HZ := Lib.hid (HZ.out.on Bq)
    replace HP := Lib.hid (HP.out.on Bq)
    replace HQ := Lib.hid (HQ.out.on Bq)
    have HV := Lib.hid r7
    replace HB := Lib.hid (HB.out.trans (Bq.mono HB.out.size))
    clear Bq
    clear r7 HRm HA3
    go_wp2_with fail
    refine (HRn.out w6 HA2.out).mono ?_
    rintro e w7 ⟨B8, d8, rfl, -, Bq⟩
    replace HX := Lib.hid (HX.out.on Bq)
    replace HY := Lib.hid (HY.out.on Bq)
    replace HZ := Lib.hid (HZ.out.on Bq)
    replace HP := Lib.hid (HP.out.on Bq)
    replace HQ := Lib.hid (HQ.out.on Bq)
    replace HV := Lib.hid (HV.out.on Bq)
    replace HB := Lib.hid (HB.out.trans (Bq.mono HB.out.size))
    clear Bq
    clear HRn HA2
    go_wp2_with fail
    refine (runsbegun_true w7).mono ?_
    rintro e w8 ⟨rfl, Bq⟩
    replace HX := Lib.hid (HX.out.on Bq)
    replace HY := Lib.hid (HY.out.on Bq)
    replace HZ := Lib.hid (HZ.out.on Bq)
    replace HP := Lib.hid (HP.out.on Bq)
    replace HQ := Lib.hid (HQ.out.on Bq)
    replace HV := Lib.hid (HV.out.on Bq)
    replace HB := Lib.hid (HB.out.trans (Bq.mono HB.out.size))
    clear Bq
    go_wp2_with fail
    refine (HSR.out _ _ _ _ w8 HX.out HP.out).mono ?_
    rintro e w9 ⟨rfl, Bq⟩
    replace HY := Lib.hid (HY.out.on Bq)
    replace HZ := Lib.hid (HZ.out.on Bq)
    replace HQ := Lib.hid (HQ.out.on Bq)
    replace HV := Lib.hid (HV.out.on Bq)
    replace HB := Lib.hid (HB.out.trans (Bq.mono HB.out.size))
    clear Bq
    go_wp2_with fail
    refine (HSL.out _ _ _ _ w9 HY.out HQ.out).mono ?_
    rintro e w10 ⟨rfl, Bq⟩
    replace HZ := Lib.hid (HZ.out.on Bq)
    replace HV := Lib.hid (HV.out.on Bq)
    replace HB := Lib.hid (HB.out.trans (Bq.mono HB.out.size))
    clear Bq
    go_wp2_with fail
    refine (HSI.out _ _ _ _ w10 HZ.out HV.out).mono ?_
    rintro e w11 ⟨rfl, Bq⟩
    replace HB := Lib.hid (HB.out.trans (Bq.mono HB.out.size))
    clear Bq
    go_wp2
    go_ret
    exact ⟨rfl, HB.out⟩
  · obtain ⟨e1, e2⟩ := spR_no xs k hE
    have HS0 := split_n xs _ rfl hn1 k 0 0 (by rw [e1]; rfl) (by rw [e2]; rfl) A1 c1 hc1 w hA1
    rw [e1, e2] at HS0
    have HSR : Hid (∀ (A B : Option Addr) (c d : Nat) (V : World), RdV V V.heap.size A (rcs []) → RdV V V.heap.size B (rcs []) → Calls Try.prog 32 #[.slice A 0 c, .slice B 0 d] V fun e w' => e = .returned (.bool true) ∧ Below V.heap.size V w') := fun A B c d V h1 h2 => sameR_t [] 0 rfl (by decide) A B c d V h1 h2
    have HSL : Hid (∀ (A B : Option Addr) (c d : Nat) (V : World), RdV V V.heap.size A (zc (ns [])) → RdV V V.heap.size B (zc (ns [])) → Calls Try.prog 24 #[.slice A 0 c, .slice B 0 d] V fun e w' => e = .returned (.bool true) ∧ Below V.heap.size V w') := fun A B c d V h1 h2 => sameI_t [] 0 rfl (by decide) A B c d V h1 h2
    by_cases hz : rchk xs = 0
    · have hE3 : spE xs k = 3 := by
        unfold spE rgE at hE ⊢
        rw [hz] at hE ⊢
        by_cases q1 : 2 ≤ k <;> by_cases q2 : k ≤ 300 <;> simp_all
      have HE2 : k < 2 ∨ 300 < k := by
        rcases Int.lt_or_le k 2 with h | h
        · exact .inl h
        · rcases Int.lt_or_le 300 k with h' | h'
          · exact .inr h'
          · exfalso; apply hE; unfold spE rgE; rw [hz]; simp [h, h']
      rw [hE3] at HS0
      rw [hz] at HR
      have HS := Lib.hid HS0
      clear HS0 hE hE3 hz e1 e2 hA1 hc1 hn1 hk
      generalize xs.length = nx at *
      by_cases q1 : k < 2
      · have t1 : decide (k < 2) = true := by simpa using q1
        clear HE2 q1
        go_enter Try.func9, Try.ntmps9
        go_wp2_with fail
        refine HS.out.mono ?_
        rintro e w1 ⟨B1, d1, B2, d2, rfl, -, r1, r2, Bq⟩
        replace HA1 := Lib.hid (HA1.out.on Bq)
        replace HA2 := Lib.hid (HA2.out.on Bq)
        replace HA3 := Lib.hid (HA3.out.on Bq)
        have HX := Lib.hid r1; have HY := Lib.hid r2
        have HB := Lib.hid Bq
        clear Bq r1 r2 HS
        go_wp2_with fail
        refine (HM.out w1 HA2.out HA3.out).mono ?_
        rintro e w2 ⟨B3, d3, rfl, -, -, r3, Bq⟩
        replace HA1 := Lib.hid (HA1.out.on Bq)
        replace HA2 := Lib.hid (HA2.out.on Bq)
        replace HA3 := Lib.hid (HA3.out.on Bq)
        replace HX := Lib.hid (HX.out.on Bq)
        replace HY := Lib.hid (HY.out.on Bq)
        have HZ := Lib.hid r3
        replace HB := Lib.hid (HB.out.trans (Bq.mono HB.out.size))
        clear Bq
        clear r3 HM
        go_wp2_with fail
        refine (HC.out w2 HA2.out).mono ?_
        rintro e w3 ⟨rfl, Bq⟩
        replace HA1 := Lib.hid (HA1.out.on Bq)
        replace HA2 := Lib.hid (HA2.out.on Bq)
        replace HA3 := Lib.hid (HA3.out.on Bq)
        replace HX := Lib.hid (HX.out.on Bq)
        replace HY := Lib.hid (HY.out.on Bq)
        replace HZ := Lib.hid (HZ.out.on Bq)
        replace HB := Lib.hid (HB.out.trans (Bq.mono HB.out.size))
        clear Bq
        clear HC
        go_wp2_with fail
        refine (HR.out w3 HA1.out).mono ?_
        rintro e w4 ⟨rfl, Bq⟩
        replace HA1 := Lib.hid (HA1.out.on Bq)
        replace HA2 := Lib.hid (HA2.out.on Bq)
        replace HA3 := Lib.hid (HA3.out.on Bq)
        replace HX := Lib.hid (HX.out.on Bq)
        replace HY := Lib.hid (HY.out.on Bq)
        replace HZ := Lib.hid (HZ.out.on Bq)
        replace HB := Lib.hid (HB.out.trans (Bq.mono HB.out.size))
        clear Bq
        clear HR
        go_wp2_with fail
        obtain ⟨w5, hw5⟩ : ∃ w5, w5 = w4 := ⟨_, rfl⟩
        subst hw5
        have HP : Hid (RdV w5 w5.heap.size none (rcs [])) := .inl rfl
        have HQ : Hid (RdV w5 w5.heap.size none (zc (ns []))) := .inl rfl
        go_wp2_with fail
        refine (HRm.out w5 HA2.out HA3.out).mono ?_
        rintro e w6 ⟨B7, d7, rfl, r7, Bq⟩
        replace HA2 := Lib.hid (HA2.out.on Bq)
        replace HX := Lib.hid (HX.out.on Bq)
        replace HY := Lib.hid (HY.out.on Bq)
        replace HZ := Lib.hid (HZ.out.on Bq)
        replace HP := Lib.hid (HP.out.on Bq)
        replace HQ := Lib.hid (HQ.out.on Bq)
        have HV := Lib.hid r7
        replace HB := Lib.hid (HB.out.trans (Bq.mono HB.out.size))
        clear Bq
        clear r7 HRm HA3
        go_wp2_with fail
        refine (HRn.out w6 HA2.out).mono ?_
        rintro e w7 ⟨B8, d8, rfl, -, Bq⟩
        replace HX := Lib.hid (HX.out.on Bq)
        replace HY := Lib.hid (HY.out.on Bq)
        replace HZ := Lib.hid (HZ.out.on Bq)
        replace HP := Lib.hid (HP.out.on Bq)
        replace HQ := Lib.hid (HQ.out.on Bq)
        replace HV := Lib.hid (HV.out.on Bq)
        replace HB := Lib.hid (HB.out.trans (Bq.mono HB.out.size))
        clear Bq
        clear HRn HA2
        go_wp2_with fail
        refine (runsbegun_true w7).mono ?_
        rintro e w8 ⟨rfl, Bq⟩
        replace HX := Lib.hid (HX.out.on Bq)
        replace HY := Lib.hid (HY.out.on Bq)
        replace HZ := Lib.hid (HZ.out.on Bq)
        replace HP := Lib.hid (HP.out.on Bq)
        replace HQ := Lib.hid (HQ.out.on Bq)
        replace HV := Lib.hid (HV.out.on Bq)
        replace HB := Lib.hid (HB.out.trans (Bq.mono HB.out.size))
        clear Bq
        go_wp2_with fail
        refine (HSR.out _ _ _ _ w8 HX.out HP.out).mono ?_
        rintro e w9 ⟨rfl, Bq⟩
        replace HY := Lib.hid (HY.out.on Bq)
        replace HZ := Lib.hid (HZ.out.on Bq)
        replace HQ := Lib.hid (HQ.out.on Bq)
        replace HV := Lib.hid (HV.out.on Bq)
        replace HB := Lib.hid (HB.out.trans (Bq.mono HB.out.size))
        clear Bq
        go_wp2_with fail
        refine (HSL.out _ _ _ _ w9 HY.out HQ.out).mono ?_
        rintro e w10 ⟨rfl, Bq⟩
        replace HZ := Lib.hid (HZ.out.on Bq)
        replace HV := Lib.hid (HV.out.on Bq)
        replace HB := Lib.hid (HB.out.trans (Bq.mono HB.out.size))
        clear Bq
        go_wp2_with fail
        refine (HSI.out _ _ _ _ w10 HZ.out HV.out).mono ?_
        rintro e w11 ⟨rfl, Bq⟩
        replace HB := Lib.hid (HB.out.trans (Bq.mono HB.out.size))
        clear Bq
        go_wp2
        go_ret
        exact ⟨rfl, HB.out⟩
      · have t1 : decide (k < 2) = false := by simpa using q1
        have t2 : decide (300 < k) = true := by simp; omega
        clear HE2 q1
        go_enter Try.func9, Try.ntmps9
        go_wp2_with fail
        refine HS.out.mono ?_
        rintro e w1 ⟨B1, d1, B2, d2, rfl, -, r1, r2, Bq⟩
        replace HA1 := Lib.hid (HA1.out.on Bq)
        replace HA2 := Lib.hid (HA2.out.on Bq)
        replace HA3 := Lib.hid (HA3.out.on Bq)
        have HX := Lib.hid r1; have HY := Lib.hid r2
        have HB := Lib.hid Bq
        clear Bq r1 r2 HS
        go_wp2_with fail
        refine (HM.out w1 HA2.out HA3.out).mono ?_
        rintro e w2 ⟨B3, d3, rfl, -, -, r3, Bq⟩
        replace HA1 := Lib.hid (HA1.out.on Bq)
        replace HA2 := Lib.hid (HA2.out.on Bq)
        replace HA3 := Lib.hid (HA3.out.on Bq)
        replace HX := Lib.hid (HX.out.on Bq)
        replace HY := Lib.hid (HY.out.on Bq)
        have HZ := Lib.hid r3
        replace HB := Lib.hid (HB.out.trans (Bq.mono HB.out.size))
        clear Bq
        clear r3 HM
        go_wp2_with fail
        refine (HC.out w2 HA2.out).mono ?_
        rintro e w3 ⟨rfl, Bq⟩
        replace HA1 := Lib.hid (HA1.out.on Bq)
        replace HA2 := Lib.hid (HA2.out.on Bq)
        replace HA3 := Lib.hid (HA3.out.on Bq)
        replace HX := Lib.hid (HX.out.on Bq)
        replace HY := Lib.hid (HY.out.on Bq)
        replace HZ := Lib.hid (HZ.out.on Bq)
        replace HB := Lib.hid (HB.out.trans (Bq.mono HB.out.size))
        clear Bq
        clear HC
        go_wp2_with fail
        refine (HR.out w3 HA1.out).mono ?_
        rintro e w4 ⟨rfl, Bq⟩
        replace HA1 := Lib.hid (HA1.out.on Bq)
        replace HA2 := Lib.hid (HA2.out.on Bq)
        replace HA3 := Lib.hid (HA3.out.on Bq)
        replace HX := Lib.hid (HX.out.on Bq)
        replace HY := Lib.hid (HY.out.on Bq)
        replace HZ := Lib.hid (HZ.out.on Bq)
        replace HB := Lib.hid (HB.out.trans (Bq.mono HB.out.size))
        clear Bq
        clear HR
        go_wp2_with fail
        obtain ⟨w5, hw5⟩ : ∃ w5, w5 = w4 := ⟨_, rfl⟩
        subst hw5
        have HP : Hid (RdV w5 w5.heap.size none (rcs [])) := .inl rfl
        have HQ : Hid (RdV w5 w5.heap.size none (zc (ns []))) := .inl rfl
        go_wp2_with fail
        refine (HRm.out w5 HA2.out HA3.out).mono ?_
        rintro e w6 ⟨B7, d7, rfl, r7, Bq⟩
        replace HA2 := Lib.hid (HA2.out.on Bq)
        replace HX := Lib.hid (HX.out.on Bq)
        replace HY := Lib.hid (HY.out.on Bq)
        replace HZ := Lib.hid (HZ.out.on Bq)
        replace HP := Lib.hid (HP.out.on Bq)
        replace HQ := Lib.hid (HQ.out.on Bq)
        have HV := Lib.hid r7
        replace HB := Lib.hid (HB.out.trans (Bq.mono HB.out.size))
        clear Bq
        clear r7 HRm HA3
        go_wp2_with fail
        refine (HRn.out w6 HA2.out).mono ?_
        rintro e w7 ⟨B8, d8, rfl, -, Bq⟩
        replace HX := Lib.hid (HX.out.on Bq)
        replace HY := Lib.hid (HY.out.on Bq)
        replace HZ := Lib.hid (HZ.out.on Bq)
        replace HP := Lib.hid (HP.out.on Bq)
        replace HQ := Lib.hid (HQ.out.on Bq)
        replace HV := Lib.hid (HV.out.on Bq)
        replace HB := Lib.hid (HB.out.trans (Bq.mono HB.out.size))
        clear Bq
        clear HRn HA2
        go_wp2_with fail
        refine (runsbegun_true w7).mono ?_
        rintro e w8 ⟨rfl, Bq⟩
        replace HX := Lib.hid (HX.out.on Bq)
        replace HY := Lib.hid (HY.out.on Bq)
        replace HZ := Lib.hid (HZ.out.on Bq)
        replace HP := Lib.hid (HP.out.on Bq)
        replace HQ := Lib.hid (HQ.out.on Bq)
        replace HV := Lib.hid (HV.out.on Bq)
        replace HB := Lib.hid (HB.out.trans (Bq.mono HB.out.size))
        clear Bq
        go_wp2_with fail
        refine (HSR.out _ _ _ _ w8 HX.out HP.out).mono ?_
        rintro e w9 ⟨rfl, Bq⟩
        replace HY := Lib.hid (HY.out.on Bq)
        replace HZ := Lib.hid (HZ.out.on Bq)
        replace HQ := Lib.hid (HQ.out.on Bq)
        replace HV := Lib.hid (HV.out.on Bq)
        replace HB := Lib.hid (HB.out.trans (Bq.mono HB.out.size))
        clear Bq
        go_wp2_with fail
        refine (HSL.out _ _ _ _ w9 HY.out HQ.out).mono ?_
        rintro e w10 ⟨rfl, Bq⟩
        replace HZ := Lib.hid (HZ.out.on Bq)
        replace HV := Lib.hid (HV.out.on Bq)
        replace HB := Lib.hid (HB.out.trans (Bq.mono HB.out.size))
        clear Bq
        go_wp2_with fail
        refine (HSI.out _ _ _ _ w10 HZ.out HV.out).mono ?_
        rintro e w11 ⟨rfl, Bq⟩
        replace HB := Lib.hid (HB.out.trans (Bq.mono HB.out.size))
        clear Bq
        go_wp2
        go_ret
        exact ⟨rfl, HB.out⟩
    · have hE3 : spE xs k = rchk xs := by
        unfold spE rgE
        simp [hz]
      rw [hE3] at HS0
      have HS := Lib.hid HS0
      clear HS0 hE hE3 e1 e2 hA1 hc1 hn1 hk
      generalize xs.length = nx at *
      generalize rchk xs = z at *
      have t1 : (z == 0) = false := by simpa using hz
      have t2 : (z == z) = true := by simp
      clear hz
      go_enter Try.func9, Try.ntmps9
      go_wp2_with fail
      refine HS.out.mono ?_
      rintro e w1 ⟨B1, d1, B2, d2, rfl, -, r1, r2, Bq⟩
      replace HA1 := Lib.hid (HA1.out.on Bq)
      replace HA2 := Lib.hid (HA2.out.on Bq)
      replace HA3 := Lib.hid (HA3.out.on Bq)
      have HX := Lib.hid r1; have HY := Lib.hid r2
      have HB := Lib.hid Bq
      clear Bq r1 r2 HS
      go_wp2_with fail
      refine (HM.out w1 HA2.out HA3.out).mono ?_
      rintro e w2 ⟨B3, d3, rfl, -, -, r3, Bq⟩
      replace HA1 := Lib.hid (HA1.out.on Bq)
      replace HA2 := Lib.hid (HA2.out.on Bq)
      replace HA3 := Lib.hid (HA3.out.on Bq)
      replace HX := Lib.hid (HX.out.on Bq)
      replace HY := Lib.hid (HY.out.on Bq)
      have HZ := Lib.hid r3
      replace HB := Lib.hid (HB.out.trans (Bq.mono HB.out.size))
      clear Bq
      clear r3 HM
      go_wp2_with fail
      refine (HC.out w2 HA2.out).mono ?_
      rintro e w3 ⟨rfl, Bq⟩
      replace HA1 := Lib.hid (HA1.out.on Bq)
      replace HA2 := Lib.hid (HA2.out.on Bq)
      replace HA3 := Lib.hid (HA3.out.on Bq)
      replace HX := Lib.hid (HX.out.on Bq)
      replace HY := Lib.hid (HY.out.on Bq)
      replace HZ := Lib.hid (HZ.out.on Bq)
      replace HB := Lib.hid (HB.out.trans (Bq.mono HB.out.size))
      clear Bq
      clear HC
      go_wp2_with fail
      refine (HR.out w3 HA1.out).mono ?_
      rintro e w4 ⟨rfl, Bq⟩
      replace HA1 := Lib.hid (HA1.out.on Bq)
      replace HA2 := Lib.hid (HA2.out.on Bq)
      replace HA3 := Lib.hid (HA3.out.on Bq)
      replace HX := Lib.hid (HX.out.on Bq)
      replace HY := Lib.hid (HY.out.on Bq)
      replace HZ := Lib.hid (HZ.out.on Bq)
      replace HB := Lib.hid (HB.out.trans (Bq.mono HB.out.size))
      clear Bq
      clear HR
      go_wp2_with fail
      obtain ⟨w5, hw5⟩ : ∃ w5, w5 = w4 := ⟨_, rfl⟩
      subst hw5
      have HP : Hid (RdV w5 w5.heap.size none (rcs [])) := .inl rfl
      have HQ : Hid (RdV w5 w5.heap.size none (zc (ns []))) := .inl rfl
      go_wp2_with fail
      refine (HRm.out w5 HA2.out HA3.out).mono ?_
      rintro e w6 ⟨B7, d7, rfl, r7, Bq⟩
      replace HA2 := Lib.hid (HA2.out.on Bq)
      replace HX := Lib.hid (HX.out.on Bq)
      replace HY := Lib.hid (HY.out.on Bq)
      replace HZ := Lib.hid (HZ.out.on Bq)
      replace HP := Lib.hid (HP.out.on Bq)
      replace HQ := Lib.hid (HQ.out.on Bq)
      have HV := Lib.hid r7
      replace HB := Lib.hid (HB.out.trans (Bq.mono HB.out.size))
      clear Bq
      clear r7 HRm HA3
      go_wp2_with fail
      refine (HRn.out w6 HA2.out).mono ?_
      rintro e w7 ⟨B8, d8, rfl, -, Bq⟩
      replace HX := Lib.hid (HX.out.on Bq)
      replace HY := Lib.hid (HY.out.on Bq)
      replace HZ := Lib.hid (HZ.out.on Bq)
      replace HP := Lib.hid (HP.out.on Bq)
      replace HQ := Lib.hid (HQ.out.on Bq)
      replace HV := Lib.hid (HV.out.on Bq)
      replace HB := Lib.hid (HB.out.trans (Bq.mono HB.out.size))
      clear Bq
      clear HRn HA2
      go_wp2_with fail
      refine (runsbegun_true w7).mono ?_
      rintro e w8 ⟨rfl, Bq⟩
      replace HX := Lib.hid (HX.out.on Bq)
      replace HY := Lib.hid (HY.out.on Bq)
      replace HZ := Lib.hid (HZ.out.on Bq)
      replace HP := Lib.hid (HP.out.on Bq)
      replace HQ := Lib.hid (HQ.out.on Bq)
      replace HV := Lib.hid (HV.out.on Bq)
      replace HB := Lib.hid (HB.out.trans (Bq.mono HB.out.size))
      clear Bq
      go_wp2_with fail
      refine (HSR.out _ _ _ _ w8 HX.out HP.out).mono ?_
      rintro e w9 ⟨rfl, Bq⟩
      replace HY := Lib.hid (HY.out.on Bq)
      replace HZ := Lib.hid (HZ.out.on Bq)
      replace HQ := Lib.hid (HQ.out.on Bq)
      replace HV := Lib.hid (HV.out.on Bq)
      replace HB := Lib.hid (HB.out.trans (Bq.mono HB.out.size))
      clear Bq
      go_wp2_with fail
      refine (HSL.out _ _ _ _ w9 HY.out HQ.out).mono ?_
      rintro e w10 ⟨rfl, Bq⟩
      replace HZ := Lib.hid (HZ.out.on Bq)
      replace HV := Lib.hid (HV.out.on Bq)
      replace HB := Lib.hid (HB.out.trans (Bq.mono HB.out.size))
      clear Bq
      go_wp2_with fail
      refine (HSI.out _ _ _ _ w10 HZ.out HV.out).mono ?_
      rintro e w11 ⟨rfl, Bq⟩
      replace HB := Lib.hid (HB.out.trans (Bq.mono HB.out.size))
      clear Bq
      go_wp2
      go_ret
      exact ⟨rfl, HB.out⟩
end

section
open Go.ChangeShapes Go.WideShapes Go.ChangeAt Go.RowKit
open Go.ChangeMaps (open_string shut_string)

set_option linter.unusedVariables false
set_option maxRecDepth 100000 in
theorem runsTell_lifted (os : Os) (started : os.Started) (H : Type) (enc : TypeId × Value → H) :
    ReturnsInHanded {} Try.checked os 9 .any (Rows.runsTellSpec.pre6 enc Try.prog Try.f9 Rows.runsTellRow.domain false) (Rows.runsTellSpec.post enc Try.prog Try.f9 false true false false) := by
  refine returnsInHanded_of_change (C := Try.checked) own started (by kernel_rfl) Try.func9
    (ChangeSpec.witness6 (enc := enc) (C := Try.checked) false ⟨#[], #[.slice none 0 0, .int .i64 0, .slice none 0 0, .slice none 0 0], []⟩ 8 (by kernel_rfl) (by kernel_rfl) (by kernel_rfl) (by kernel_rfl)) ?_
  intro W base args ds gs before hval0 hW hcnd _
  have hval : ∀ (j : Nat) t v, Try.f9.params[j]? = some t → args[j]? = some v → Value.okWide Try.prog W .any base t v := hval0
  have hW' := hW
  obtain ⟨p, q, hA0, hV, rfl, hfz, hnd⟩ := hW
  have hA : DataW.TrodAll enc Try.prog W 0 (fun _ => true) true Try.f9.params.toList args.toList ds p := hA0
  rw [Try.params9] at hA hval
  obtain ⟨v0, vs0, d0, ds0, p0, q0, hargs, rfl, rfl, h0, r0⟩ := trodAll_cons hA
  obtain ⟨v1, vs1, d1, ds1, p1, q1, rfl, rfl, rfl, h1, r1⟩ := trodAll_cons r0
  obtain ⟨v2, vs2, d2, ds2, p2, q2, rfl, rfl, rfl, h2, r2⟩ := trodAll_cons r1
  obtain ⟨v3, vs3, d3, ds3, p3, q3, rfl, rfl, rfl, h3, r3⟩ := trodAll_cons r2
  obtain ⟨rfl, rfl, rfl⟩ := trodAll_nil r3
  obtain rfl : args = #[v0, v1, v2, v3] := by cases args; simp_all
  obtain ⟨rfl, rfl⟩ := trodVars_none hV
  have k0 := h0
  have lt0 : ∀ x ∈ p0, x.block < W.heap.size := by obtain ⟨m, hm⟩ := k0; exact DataW.trod_lt m _ _ _ hm
  obtain ⟨A0, c0, xs0, rfl, cp0, nl0, rd0, by0, sz0⟩ := open_zs (hval 0 22 v0 rfl rfl) h0
  obtain ⟨x1, rfl, rfl, rfl, wx1⟩ := open_int Try.underlying3 (hval 1 3 v1 rfl rfl) h1
  have bd1 := bounds_i64 wx1
  have k2 := h2
  have lt2 : ∀ x ∈ p2, x.block < W.heap.size := by obtain ⟨m, hm⟩ := k2; exact DataW.trod_lt m _ _ _ hm
  obtain ⟨A2, c2, rs2, rfl, cp2, nl2, rd2, by2, sz2⟩ := open_rl (hval 2 38 v2 rfl rfl) h2
  have k3 := h3
  have lt3 : ∀ x ∈ p3, x.block < W.heap.size := by obtain ⟨m, hm⟩ := k3; exact DataW.trod_lt m _ _ _ hm
  obtain ⟨A3, c3, xs3, rfl, cp3, nl3, rd3, by3, sz3⟩ := open_zs (hval 3 22 v3 rfl rfl) h3
  clear hA0 hval0
  refine (runsTell_law A0 c0 xs0 x1 A2 c2 rs2 A3 c3 xs3 W cp0 nl0 by0 rd0 sz0 bd1 cp2 nl2 by2 rd2 sz2 cp3 nl3 by3 rd3 sz3).mono fun e W' ⟨he, bel⟩ => ?_
  subst he
  exact ⟨_, rfl, _, _, _, [], _, [], hW', trodAll_mk1 (shut_bool Try.underlying4 _), (trodAll_cons_mk (Below.trod laidOut (by kernel_rfl) (of_decide_eq_true (by kernel_rfl)) k0 bel lt0) (trodAll_cons_mk (shut_int Try.underlying3 wx1) (trodAll_cons_mk (Below.trod laidOut (by kernel_rfl) (of_decide_eq_true (by kernel_rfl)) k2 bel lt2) (trodAll_cons_mk (Below.trod laidOut (by kernel_rfl) (of_decide_eq_true (by kernel_rfl)) k3 bel lt3) trodAll_mk0)))), rfl, bel.frame _, fun h => by cases h⟩

theorem RunsTell_holds : Rows.RunsTellSaid :=
  OpenClaim.holds_of_wide 9 Try.f9 rfl rfl rfl rfl rfl rfl rfl ⟨rfl, rfl, rfl, rfl, rfl⟩ rfl rfl rfl rfl rfl (by kernel_rfl) Try.func9 (by kernel_rfl)
    (of_decide_eq_true (by kernel_rfl)) (by unfold Func.isWrapper; first | (rw [if_pos (by decide +kernel)]; kernel_rfl) | (rw [if_neg (by decide +kernel)]; exact ⟨rfl, rfl⟩))
    (fun os started H enc _ => runsTell_lifted os started H enc)
#print axioms RunsTell_holds
end
end Go.Proofs.Ythbgjlebgcnfeaa
