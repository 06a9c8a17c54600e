/- The arcs of a list are visited, one by one. -/
import Derived.Test.YtnbjhldpadjgfaaWCol
namespace Go.Proofs.Ytnbjhldpadjgfaa
set_option linter.unusedVariables false
open Go.RowKit Go.Shelf

attribute [local go_sem] Oper.semAt_some

theorem acs_at (L : List Ar) (i : Nat) (h : i < L.length) : (acs L)[i * 2]? = some (.int .i64 (((L[i]?.getD (0, 0)).1 : Nat) : Int)) ∧ (acs L)[i * 2 + 1]? = some (.int .i64 (((L[i]?.getD (0, 0)).2 : Nat) : Int)) := by
  have hz : i < (rz L).length := by rw [rz_length]; exact h
  have := rcs_at (rz L) i hz
  unfold acs
  rw [this.1, this.2]
  unfold rz
  rw [List.getElem?_map, List.getElem?_eq_getElem h]
  exact ⟨rfl, rfl⟩
theorem take_ar (L : List Ar) (i : Nat) (h : i < L.length) : L.take (i + 1) = L.take i ++ [L[i]?.getD (0, 0)] := by
  rw [List.take_succ_eq_append_getElem h, List.getElem?_eq_getElem h]; rfl
theorem ar_mem (L : List Ar) (i : Nat) (h : i < L.length) : L[i]?.getD (0, 0) ∈ L := by rw [List.getElem?_eq_getElem h]; exact List.getElem_mem h
set_option maxRecDepth 100000 in
set_option maxHeartbeats 2000000 in
theorem vals1_in (n : Nat) (hn : 2 ≤ n) (lp Bs n₀ N c : Nat) (A : Option Addr) (L : List Ar) (hN : L.length = N) (hN2 : N ≤ 1000000) (J Jx : List Ar → World → Prop) (W : World) (hJa : AbidesFrom W.heap.size J)
    (hY : ∀ pre x V, J pre V → pre.length < L.length → YieldAt Fence.wide (n - 1) Try.prog lp (encC L x) V fun e V' =>
      (e = .returned (.bool true) ∧ J (pre ++ [x]) V' ∧ Below n₀ V V') ∨ (e = .returned (.bool false) ∧ Jx (pre ++ [x]) V'))
    (hn0 : n₀ ≤ W.heap.size) (hBs : W.cell? ⟨Bs, 0, none⟩ = some (.slice A N c)) (hRd : RdV W n₀ A (acs L)) (h0 : J [] W) :
    CallsIn Fence.wide n Try.prog 82 #[.func (.yield lp) #[] #[], .pointer (some ⟨Bs, 0, none⟩)] W fun e V => (∃ v, e = .returned v) ∧
      ((∃ ys, ys = L ∧ J ys V) ∨ (∃ pre, pre <+: L ∧ Jx pre V)) := by
  have HY := Lib.hid hY; clear hY
  have HR := Lib.hid hRd; clear hRd
  have HN := Lib.hid hN; clear hN
  have HJa := Lib.hid (fun s X Y hs (hb : Below X.heap.size X Y) => hJa s X Y none hs (grown_of_below hb none) (fun r e => by cases e))
  clear hJa
  refine callsIn_of_wp Try.func82 rfl trivial ?_ rfl
  simp only [Try.ntmps82, List.size_toArray, List.length_cons, List.length_nil, Nat.reduceAdd, Nat.reduceSub, Array.replicate_succ, Array.replicate_zero, List.push_toArray, List.append_toArray, List.nil_append, List.cons_append]
  gi_wp2
  gi_loopw [7] (fun p wr => ∃ i : Nat, i ≤ N ∧ p = .int .i64 (i : Int) ∧ Below n₀ W wr ∧ J (L.take i) wr)
    (fun p _ => N - (intOf p).toNat)
  case atStart =>
    exact ⟨0, Nat.zero_le _, rfl, Below.refl _ _, by rw [List.take_zero]; exact h0⟩
  case round =>
    obtain ⟨i, hi, rfl, hk, hJ⟩ := hrel
    by_cases hlt : i < N
    · have hin : i < L.length := by rw [HN.out]; exact hlt
      obtain ⟨r0, r1⟩ := acs_at L i hin
      have hRw := HR.out.below hk (Nat.le_refl _)
      obtain ⟨b, off, rfl, hb, k0⟩ := hRw.at_ r0
      obtain ⟨b2, off2, hA2, hb2, k1⟩ := hRw.at_ r1
      simp only [Option.some.injEq, Addr.mk.injEq, and_true] at hA2
      obtain ⟨rfl, rfl⟩ := hA2
      rw [← Nat.add_assoc] at k1
      have hmem := ar_mem L i hin
      have HS := Lib.hid (⟨take_ar L i hin, by rw [← take_ar L i hin]; exact List.take_prefix _ _⟩ : L.take (i + 1) = L.take i ++ [L[i]?.getD (0, 0)] ∧ L.take i ++ [L[i]?.getD (0, 0)] <+: L)
      have hY2 := HY.out (L.take i) (L[i]?.getD (0, 0)) (wr.alloc (.cells #[.int .i64 (((L[i]?.getD (0, 0)).1 : Nat) : Int), .int .i64 (((L[i]?.getD (0, 0)).2 : Nat) : Int)] 36)) (HJa.out _ wr _ hJ (one_below wr _)) (by rw [List.length_take]; omega)
      unfold encC at hY2
      rw [clp_mem hmem] at hY2
      clear r0 r1 hRw hmem
      generalize L[i]?.getD (0, 0) = x at *
      have HKB : Hid (Below n₀ W (wr.alloc (.cells #[.int .i64 (x.1 : Int), .int .i64 (x.2 : Int)] 36))) := hk.alloc (by have := hk.size; omega) _
      clear hk hJ
      obtain ⟨fn, tmps, assign, body, hy, hR⟩ := hY2
      dsimp only [encA] at hy
      obtain ⟨x1, x2⟩ := x
      simp only at k0 k1 hy
      gi_wp2
      refine ⟨fun _ => by omega, hR.mono ?_⟩
      rintro e W3 (⟨rfl, hJ3, hk3⟩ | ⟨rfl, hJx3⟩)
      · gi_wp2
        go_roundw
        case rel => exact ⟨i + 1, by omega, by go_num, HKB.out.trans hk3, by rw [HS.out.1]; exact hJ3⟩
        case measure => simp [intOf]; omega
      · gi_wp2
        refine bodyPost_ret (results_none rfl _ _ _) rfl ?_
        exact ⟨⟨_, rfl⟩, .inr ⟨_, HS.out.2, hJx3⟩⟩
    · rw [List.take_of_length_le (by rw [HN.out]; omega)] at hJ
      have HJ := Lib.hid hJ
      clear hJ hk
      gi_wp2
      go_end0
      exact ⟨⟨_, rfl⟩, .inl ⟨_, rfl, HJ.out⟩⟩
/-- The visit, as a contract. -/
theorem vals_stops (n : Nat) (hn : 2 ≤ n) (Bs n₀ N c : Nat) (A : Option Addr) (L : List Ar) (hN : L.length = N) (hN2 : N ≤ 1000000) (w : World) (hn0 : n₀ ≤ w.heap.size) (hBs : w.heap[Bs]? = some (.cells #[.slice A N c] 30 (0, 0))) (hRd : RdV w n₀ A (acs L)) :
    SeqStopsK Fence.wide n Try.prog 82 #[.pointer (some ⟨Bs, 0, none⟩)] (encC L) (Below n₀) (fun ys => ys = L) (fun pre => pre <+: L) L.length w :=
  fun lp J Jx W hW hJ _ hY h0 => vals1_in n hn lp Bs n₀ N c A L hN hN2 J Jx W hJ hY (Nat.le_trans hn0 hW.size) ((cell_at ((hW.block Bs (Array.getElem?_eq_some_iff.1 hBs).1).trans hBs) 0).trans rfl) (hRd.below (hW.mono hn0) (Nat.le_refl _)) h0
set_option maxHeartbeats 1000000 in
/-- The maker of the visit. -/
theorem vals_in (A : Option Addr) (N c : Nat) (w : World) :
    Calls Try.prog 45 #[.slice A N c] w fun e w' => e = .returned (.func (.func 82) #[] #[.pointer (some ⟨w.heap.size, 0, none⟩)]) ∧ w' = w.alloc (.cells #[.slice A N c] 30) := by
  go_enter Try.func45, Try.ntmps45
  go_wp2
  go_ret
  exact ⟨rfl, rfl⟩
theorem entersVals1 : ∀ args w, (callFunc 82 args).run Try.prog w = .ok (.enter 82 args) w := enters_of Try.func82 (by kernel_rfl) rfl
end Go.Proofs.Ytnbjhldpadjgfaa
