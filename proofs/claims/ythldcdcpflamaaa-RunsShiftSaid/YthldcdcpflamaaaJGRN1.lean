/- The numbers of a run are visited; and what slices.AppendSeq makes of them behind a row of the call's own. -/
import Derived.Test.YthldcdcpflamaaaJGNGaps
import Derived.Test.YthldcdcpflamaaaJGRNPure
namespace Go.Proofs.Ythldcdcpflamaaa
set_option linter.unusedVariables false
open Go.RowKit Go.Shelf

attribute [local go_sem] Oper.semAt_some

theorem range'_snoc (f i : Nat) : List.range' f (i + 1) = List.range' f i ++ [f + i] := by rw [List.range'_concat]; simp
theorem range'_pre (f i m : Nat) (h : i ≤ m) : List.range' f i <+: List.range' f m := by
  obtain ⟨d, rfl⟩ : ∃ d, m = i + d := ⟨m - i, by omega⟩
  rw [← List.range'_append_1]
  exact List.prefix_append _ _

set_option maxRecDepth 100000 in
set_option maxHeartbeats 1000000 in
theorem nums1_in (n : Nat) (hn : 2 ≤ n) (lp Br : Nat) (Q : Nat → Prop) (f m : Nat) (hf : f ≤ 1048576) (hm : m ≤ 300) (J Jx : List Nat → World → Prop) (hQb : Q Br) (W : World)
    (hY : ∀ (pre : List Nat) (x : Nat) (W : World), J pre W → pre.length < m → YieldAt Fence.wide (n - 1) Try.prog lp #[.int .i64 (x : Int)] W fun e W' =>
      (e = .returned (.bool true) ∧ J (pre ++ [x]) W' ∧ (KeepQ Q W W' ∧ W.heap.size ≤ W'.heap.size)) ∨ (e = .returned (.bool false) ∧ Jx (pre ++ [x]) W'))
    (hBr : W.heap[Br]? = some (.cells #[.int .i64 (f : Int), .int .i64 (m : Int)] 60 (0, 0))) (h0 : J [] W) :
    CallsIn Fence.wide n Try.prog 84 #[.func (.yield lp) #[] #[], .pointer (some ⟨Br, 0, none⟩)] W fun e W' => (∃ v, e = .returned v) ∧
      ((∃ ys, ys = List.range' f m ∧ J ys W') ∨ (∃ pre, pre <+: List.range' f m ∧ Jx pre W')) := by
  have hc1 : W.cell? ⟨Br, 1, none⟩ = some (.int .i64 (m : Int)) := (cell_at hBr 1).trans rfl
  have HBr := Lib.hid hBr; clear hBr
  refine callsIn_of_wp Try.func84 rfl trivial ?_ rfl
  simp only [Try.ntmps84, List.size_toArray, List.length_cons, List.length_nil, Nat.reduceAdd, Nat.reduceSub, Array.replicate_succ, Array.replicate_zero, List.push_toArray, List.append_toArray, List.nil_append, List.cons_append]
  gi_wp2
  gi_loopw [6] (fun p wr => ∃ i : Nat, i ≤ m ∧ p = .int .i64 (i : Int) ∧ KeepQ Q W wr ∧ W.heap.size ≤ wr.heap.size ∧ J (List.range' f i) wr)
    (fun p _ => m - (intOf p).toNat)
  case atStart => exact ⟨0, Nat.zero_le _, rfl, fun _ _ => rfl, Nat.le_refl _, h0⟩
  case round =>
    obtain ⟨i, hi, rfl, hk, hsz, hJ⟩ := hrel
    by_cases hlt : i < m
    · have cb : wr.cell? ⟨Br, 0, none⟩ = some (.int .i64 (f : Int)) := (cell_at ((hk Br hQb).trans HBr.out) 0).trans rfl
      obtain ⟨fn, tmps, assign, body, hy, hR⟩ := hY _ (f + i) wr hJ (by simp; exact hlt)
      have HP := Lib.hid (range'_snoc f i)
      have HK := Lib.hid (⟨hk, hsz⟩ : KeepQ Q W wr ∧ W.heap.size ≤ wr.heap.size)
      have hfi : ((f + i : Nat) : Int) = (f : Int) + (i : Int) := by omega
      try rw [hfi] at hy
      clear hfi
      clear hk hsz hJ
      gi_wp2
      refine ⟨fun _ => by omega, hR.mono ?_⟩
      rintro e W3 (⟨rfl, hJ3, hk3, hs3⟩ | ⟨rfl, hJx3⟩)
      · gi_wp2
        go_roundw
        case rel =>
          refine ⟨i + 1, by omega, by go_num, fun k hq => (hk3 k hq).trans (HK.out.1 k hq), Nat.le_trans HK.out.2 hs3, ?_⟩
          rw [HP.out]
          exact hJ3
        case measure => simp [intOf]; omega
      · gi_wp2
        refine bodyPost_ret (results_none rfl _ _ _) rfl ?_
        refine ⟨⟨_, rfl⟩, .inr ⟨_, ?_, hJx3⟩⟩
        rw [← HP.out]
        exact range'_pre f (i + 1) m (by omega)
    · obtain rfl : i = m := by omega
      have HJ := Lib.hid hJ
      clear hJ
      gi_wp2
      go_end0
      exact ⟨⟨_, rfl⟩, .inl ⟨_, rfl, HJ.out⟩⟩

/-- The visit, as a contract. -/
theorem nums_stops (n : Nat) (hn : 2 ≤ n) (Br : Nat) (Q : Nat → Prop) (f m : Nat) (hf : f ≤ 1048576) (hm : m ≤ 300) (hQb : Q Br) (w : World) (hBw : Br < w.heap.size)
    (hBr : w.heap[Br]? = some (.cells #[.int .i64 (f : Int), .int .i64 (m : Int)] 60 (0, 0))) :
    SeqStopsK Fence.wide n Try.prog 84 #[.pointer (some ⟨Br, 0, none⟩)] (fun x : Nat => #[Value.int .i64 (x : Int)]) (KeepS Q) (fun ys => ys = List.range' f m) (fun pre => pre <+: List.range' f m) m w :=
  fun lp J Jx W hW hJ _ hY h0 => nums1_in n hn lp Br Q f m hf hm J Jx hQb W hY ((hW.block Br hBw).trans hBr) h0

set_option maxHeartbeats 1000000 in
/-- The maker of the visit. -/
theorem nums_of (n : Nat) (f m : Int) (w : World) :
    CallsIn Fence.wide n Try.prog 65 #[.agg #[.int .i64 f, .int .i64 m]] w fun e w' => e = .returned (.func (.func 84) #[] #[.pointer (some ⟨w.heap.size, 0, none⟩)]) ∧
      w' = w.alloc (.cells #[.int .i64 f, .int .i64 m] 60) := by
  refine callsIn_of_wp Try.func65 rfl trivial ?_ rfl
  simp only [Try.ntmps65, List.size_toArray, List.length_cons, List.length_nil, Nat.reduceAdd, Nat.reduceSub, Array.replicate_succ, Array.replicate_zero, List.push_toArray, List.append_toArray, List.nil_append, List.cons_append]
  gi_wp2
  go_ret
  exact ⟨rfl, rfl⟩
end Go.Proofs.Ythldcdcpflamaaa
