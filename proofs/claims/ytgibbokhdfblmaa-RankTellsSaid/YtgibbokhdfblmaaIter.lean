/- The bits of a sequence are visited, from one position up to another one, whatever the visitor does that keeps the sequence. -/
import Derived.Test.YtgibbokhdfblmaaSame
import Derived.RangeFuncNested
import Derived.RangeFuncBound
import Derived.RangeFuncCalls
import Derived.RangeFuncLeaves
import Derived.Shelf.Abstract
import Derived.Shelf.RegionOpen
import Derived.OwnWalkIn
import Derived.TacticsInMore
import Derived.LoopNIn
import Derived.LoopIn
namespace Go.Proofs.Ytgibbokhdfblmaa
open Go.RowKit Go.Shelf

attribute [local go_sem] Oper.semAt_some

/-- What lies in the blocks of Q lies as it lay. -/
def KeepQ (Q : Nat → Prop) (W W' : World) : Prop := ∀ k, Q k → W'.heap[k]? = W.heap[k]?

theorem and_byte (l : List Bool) (i : Nat) : bits .and .u8 ((byteAt l (i / 8) : Int) / 2 ^ (7 - i % 8)) 1 = ((l[i]?.getD false).toNat : Int) := by
  have e : (byteAt l (i / 8) : Int) / 2 ^ (7 - i % 8) = ((byteAt l (i / 8) / 2 ^ (7 - i % 8) : Nat) : Int) := by simp
  have h1 : byteAt l (i / 8) / 2 ^ (7 - i % 8) ≤ byteAt l (i / 8) := Nat.div_le_self _ _
  have h2 := byteAt_lt l (i / 8)
  rw [e]
  have := u8_and_nat (byteAt l (i / 8) / 2 ^ (7 - i % 8)) 1 (by omega) (by omega)
  rw [show ((1 : Nat) : Int) = 1 from rfl] at this
  rw [this, Nat.and_one_is_mod, bit_of_byte]
  rfl

theorem take_bits (l : List Bool) (fr i : Nat) (hi : i < l.length) (hf : fr ≤ i) : (l.drop fr).take (i + 1 - fr) = (l.drop fr).take (i - fr) ++ [l[i]?.getD false] := by
  rw [show i + 1 - fr = i - fr + 1 from by omega, List.take_succ_eq_append_getElem (by rw [List.length_drop]; omega)]
  congr 1
  rw [List.getElem_drop, List.getElem?_eq_getElem hi]
  simp only [Option.getD_some, List.cons.injEq, and_true]
  congr 1
  omega

set_option maxRecDepth 100000 in
set_option maxHeartbeats 1000000 in
theorem bits1_in (F : Fence) (n : Nat) (h54 : F.fn 88) (hro : F.round = none) (hn : 1 ≤ n) (lp Bf Bt Bb B0 c : Nat) (A : Option Addr) (Q : Nat → Prop) (l : List Bool) (hl : l.length ≤ 8192) (fr to : Nat) (hft : fr ≤ to) (hto : to ≤ l.length) (J Jx : List Bool → World → Prop)
    (hQt : Q Bt) (hQb : Q Bb) (hQ : ∀ k, k < B0 → Q k)
    (hY : ∀ pre x W, J pre W → pre.length < to - fr → YieldAt F (n - 1) Try.prog lp #[.int .u8 (x.toNat : Int)] W fun e W' =>
      (e = .returned (.bool true) ∧ J (pre ++ [x]) W' ∧ KeepQ Q W W') ∨ (e = .returned (.bool false) ∧ Jx (pre ++ [x]) W'))
    (W : World) (hBf : W.cell? ⟨Bf, 0, none⟩ = some (.int .i64 (fr : Int))) (hBt : W.cell? ⟨Bt, 0, none⟩ = some (.int .i64 (to : Int))) (hBb : W.cell? ⟨Bb, 1, none⟩ = some (.slice A (pack l).length c))
    (hRd : Rd W B0 A (pack l)) (h0 : J [] W) :
    CallsIn F n Try.prog 88 #[.func (.yield lp) #[] #[], .pointer (some ⟨Bf, 0, none⟩), .pointer (some ⟨Bt, 0, none⟩), .pointer (some ⟨Bb, 0, none⟩)] W fun e W' => (∃ v, e = .returned v) ∧
      ((∃ ys, ys = (l.drop fr).take (to - fr) ∧ J ys W') ∨ (∃ pre, pre <+: (l.drop fr).take (to - fr) ∧ Jx pre W')) := by
  refine callsIn_of_wp Try.func88 rfl h54 ?_ hro
  simp only [Try.ntmps88, List.size_toArray, List.length_cons, List.length_nil, Nat.reduceAdd, Nat.reduceSub, Array.replicate_succ, Array.replicate_zero, List.push_toArray, List.append_toArray, List.nil_append, List.cons_append]
  gi_wp2
  gi_loopw [5] (fun p wr => ∃ i : Nat, fr ≤ i ∧ i ≤ to ∧ p = .int .i64 (i : Int) ∧ KeepQ Q W wr ∧ J ((l.drop fr).take (i - fr)) wr)
    (fun p _ => to - (intOf p).toNat)
  case atStart =>
    exact ⟨fr, Nat.le_refl _, hft, rfl, fun _ _ => rfl, by simpa using h0⟩
  case round =>
    obtain ⟨i, hi1, hi2, rfl, hk, hJ⟩ := hrel
    have ct : wr.cell? ⟨Bt, 0, none⟩ = some (.int .i64 (to : Int)) := (World.cell?_of_block (w := W) (a := ⟨Bt, 0, none⟩) (hk Bt hQt)).trans hBt
    by_cases hlt : i < to
    · have hpl := pack_length l
      obtain ⟨b, off, rfl, hbB, hc⟩ : ∃ b off, A = some ⟨b, off, none⟩ ∧ b < B0 ∧ ∀ i, i < (pack l).length → W.cell? ⟨b, off + i, none⟩ = some (.int .u8 (((pack l)[i]?.getD 0 : Nat) : Int)) := by
        rcases hRd with h | h
        · exfalso; rw [h] at hpl; simp at hpl; omega
        · exact h
      have cb : wr.cell? ⟨Bb, 1, none⟩ = some (.slice (some ⟨b, off, none⟩) (pack l).length c) := (World.cell?_of_block (w := W) (a := ⟨Bb, 1, none⟩) (hk Bb hQb)).trans hBb
      have cx : wr.cell? ⟨b, off + i / 8, none⟩ = some (.int .u8 (byteAt l (i / 8) : Int)) := by
        have := (World.cell?_of_block (w := W) (a := ⟨b, off + i / 8, none⟩) (hk b (hQ b hbB))).trans (hc (i / 8) (by omega))
        rwa [pack_get] at this
      obtain ⟨fn, tmps, assign, body, hy, hR⟩ := hY _ (l[i]?.getD false) wr hJ (by rw [List.length_take, List.length_drop]; omega)
      have i0 : (0 : Int) ≤ (i : Int) / 8 := by omega
      have i1 : (i : Int) / 8 < ((pack l).length : Int) := by omega
      have i2 : ((i : Int) / 8).toNat = i / 8 := by omega
      clear hpl hc
      have hbit := and_byte l i
      have HT := Lib.hid (take_bits l fr i (by omega) hi1)
      generalize l[i]?.getD false = x at *
      gi_wp2
      refine hR.mono ?_
      rintro e W3 (⟨rfl, hJ3, hk3⟩ | ⟨rfl, hJx3⟩)
      · gi_wp2
        go_roundw
        case rel => exact ⟨i + 1, by omega, by omega, by go_num, fun k hq => (hk3 k hq).trans (hk k hq), by rw [HT.out]; exact hJ3⟩
        case measure => simp [intOf]; omega
      · gi_wp2
        refine bodyPost_ret (results_none rfl _ _ _) rfl ?_
        refine ⟨⟨_, rfl⟩, .inr ⟨_, ?_, hJx3⟩⟩
        rw [← HT.out]
        exact (List.take_prefix_take_left (by omega) : List.take (i + 1 - fr) (List.drop fr l) <+: List.take (to - fr) (List.drop fr l))
    · have e : i = to := by omega
      have HJ : Hid (J ((l.drop fr).take (to - fr)) wr) := by rw [← e]; exact hJ
      clear e hJ
      gi_wp2
      go_end0
      exact ⟨⟨_, rfl⟩, .inl ⟨_, rfl, HJ.out⟩⟩

theorem keepQ_t {Q : Nat → Prop} {A B C : World} (h : KeepQ Q A B) (k : KeepQ Q B C) : KeepQ Q A C := fun i hi => (k i hi).trans (h i hi)
theorem keepQ_b {Q : Nat → Prop} {w : World} (hn : ∀ k, Q k → k < w.heap.size) (W : World) (l : Nat) (o o' : Obj) (hl : w.heap.size ≤ l) (_ : W.heap[l]? = some o) (_ : o.isCells = false) (_ : o.isWalk = false) : KeepQ Q W (W.putObj l o') :=
  fun k hk => World.putObj_heap_other (by have := hn k hk; omega)

/-- The visit, as a contract. -/
theorem bits_stops (F : Fence) (n : Nat) (h54 : F.fn 88) (hro : F.round = none) (hn : 1 ≤ n) (Bf Bt Bb B0 c : Nat) (A : Option Addr) (Q : Nat → Prop) (l : List Bool) (hl : l.length ≤ 8192) (fr to : Nat) (hft : fr ≤ to) (hto : to ≤ l.length)
    (hQt : Q Bt) (hQb : Q Bb) (hQ : ∀ k, k < B0 → Q k) (w : World) (hB0 : B0 ≤ w.heap.size) (kf : Bf < w.heap.size) (kt : Bt < w.heap.size) (kb : Bb < w.heap.size)
    (hBf : w.cell? ⟨Bf, 0, none⟩ = some (.int .i64 (fr : Int))) (hBt : w.cell? ⟨Bt, 0, none⟩ = some (.int .i64 (to : Int))) (hBb : w.cell? ⟨Bb, 1, none⟩ = some (.slice A (pack l).length c)) (hRd : Rd w B0 A (pack l)) :
    SeqStopsK F n Try.prog 88 #[.pointer (some ⟨Bf, 0, none⟩), .pointer (some ⟨Bt, 0, none⟩), .pointer (some ⟨Bb, 0, none⟩)] (fun x : Bool => #[Value.int .u8 (x.toNat : Int)]) (KeepQ Q) (fun ys => ys = (l.drop fr).take (to - fr)) (fun pre => pre <+: (l.drop fr).take (to - fr)) (to - fr) w :=
  fun lp J Jx W hW _ _ hY h0 =>
    bits1_in F n h54 hro hn lp Bf Bt Bb B0 c A Q l hl fr to hft hto J Jx hQt hQb hQ hY W ((hW.cell (p := ⟨Bf, 0, none⟩) kf).trans hBf) ((hW.cell (p := ⟨Bt, 0, none⟩) kt).trans hBt) ((hW.cell (p := ⟨Bb, 1, none⟩) kb).trans hBb) (hRd.below (hW.mono hB0) (Nat.le_refl _)) h0

set_option maxHeartbeats 1000000 in
/-- The maker of the visit: its three arguments are boxed. -/
theorem bitsOf_in (F : Fence) (n : Nat) (h40 : F.fn 66) (hro : F.round = none) (fr to : Int) (len : Int) (A : Option Addr) (m c : Nat) (w : World) :
    CallsIn F n Try.prog 66 #[.agg #[.int .i64 len, .slice A m c], .int .i64 fr, .int .i64 to] w fun e w' => e = .returned (.func (.func 88) #[] #[.pointer (some ⟨w.heap.size + 1, 0, none⟩), .pointer (some ⟨w.heap.size + 2, 0, none⟩), .pointer (some ⟨w.heap.size, 0, none⟩)]) ∧
      w' = ((w.alloc (.cells #[.int .i64 len, .slice A m c] 25)).alloc (.cells #[.int .i64 fr] 3)).alloc (.cells #[.int .i64 to] 3) := by
  refine callsIn_of_wp Try.func66 rfl h40 ?_ hro
  simp only [Try.ntmps66, List.size_toArray, List.length_cons, List.length_nil, Nat.reduceAdd, Nat.reduceSub, Array.replicate_succ, Array.replicate_zero, List.push_toArray, List.append_toArray, List.nil_append, List.cons_append]
  gi_wp2
  go_ret
  exact ⟨rfl, rfl⟩
end Go.Proofs.Ytgibbokhdfblmaa
