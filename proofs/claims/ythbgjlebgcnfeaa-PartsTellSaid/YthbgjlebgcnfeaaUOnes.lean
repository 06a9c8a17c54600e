/- The positions of the 1 bits of a sequence are visited, from one position on, whatever the visitor does that keeps the sequence. -/
import Derived.Test.YthbgjlebgcnfeaaUMany
namespace Go.Proofs.Ythbgjlebgcnfeaa
open Go.RowKit Go.Shelf

attribute [local go_sem] Oper.semAt_some

/-- The positions of the 1 bits, the first bit being at position o. -/
def pos : Nat → List Bool → List Nat
  | _, [] => []
  | o, true :: l => o :: pos (o + 1) l
  | o, false :: l => pos (o + 1) l
theorem pos_snoc (l : List Bool) (b : Bool) : ∀ o, pos o (l ++ [b]) = pos o l ++ (if b = true then [o + l.length] else []) := by
  induction l with
  | nil => intro o; cases b <;> simp [pos]
  | cons x l ih =>
    intro o
    cases x
    · simp only [List.cons_append, pos, ih, List.length_cons]; congr 2; rw [show o + 1 + l.length = o + (l.length + 1) from by omega]
    · simp only [List.cons_append, pos, ih, List.length_cons]; congr 3; rw [show o + 1 + l.length = o + (l.length + 1) from by omega]
theorem pos_length (l : List Bool) : ∀ o, (pos o l).length ≤ l.length := by
  induction l with
  | nil => intro o; simp [pos]
  | cons x l ih => intro o; cases x <;> simp [pos] <;> have := ih (o + 1) <;> omega
theorem pos_bound (l : List Bool) : ∀ o, ∀ x ∈ pos o l, o ≤ x ∧ x < o + l.length := by
  induction l with
  | nil => intro o x hx; simp [pos] at hx
  | cons b l ih =>
    intro o x hx
    cases b
    · have := ih (o + 1) x hx; simp; omega
    · rcases List.mem_cons.1 hx with rfl | h
      · simp
      · have := ih (o + 1) x h; simp; omega

theorem pos_append (a b : List Bool) : ∀ o, pos o (a ++ b) = pos o a ++ pos (o + a.length) b := by
  induction a with
  | nil => intro o; simp [pos]
  | cons x a ih =>
    intro o
    cases x <;> simp [pos, ih, Nat.add_assoc, Nat.add_comm 1]
theorem pos_prefix (o : Nat) (m a b : List Bool) (h : m = a ++ b) : pos o a <+: pos o m := by
  rw [h, pos_append]; exact List.prefix_append _ _

/-- A position that is told to a visitor. -/
def clamp (fr x : Nat) : Nat := max fr (min x 8191)
theorem clamp_of (fr x : Nat) (h : fr ≤ x) (h2 : x < 8192) : clamp fr x = x := by unfold clamp; omega

/-- One bit, as Get tells it. -/
theorem get_bit (l : List Bool) (hl : l.length ≤ 8192) (A : Option Addr) (c i : Nat) (hi : i < l.length) (w : World) (h : Rd w w.heap.size A (pack l)) :
    Calls Try.prog 62 #[.agg #[.int .i64 (l.length : Int), .slice A (pack l).length c], .int .i64 (i : Int), .int .i64 1] w fun e w' => e = .returned (.tuple #[.int .u64 ((l[i]?.getD false).toNat : Int), .int .i64 0]) ∧ Below w.heap.size w w' := by
  refine get_l l hl A c i 1 _ (by omega) (by omega) ?_ w h
  rw [List.take_one, List.head?_drop, List.getElem?_eq_getElem hi]
  simp [num]

set_option maxRecDepth 100000 in
set_option maxHeartbeats 1000000 in
theorem ones1_in (n : Nat) (hn : 2 ≤ n) (lp Bf Bb B0 c : Nat) (A : Option Addr) (Q : Nat → Prop) (l : List Bool) (hl : l.length ≤ 8192) (fr : Nat) (hfr : fr ≤ l.length) (J Jx : List Nat → World → Prop)
    (hQb : Q Bb) (hQ : ∀ k, k < B0 → Q k)
    (W : World) (hQW : ∀ k, Q k → k < W.heap.size) (hJa : AbidesFrom W.heap.size J)
    (hY : ∀ pre x W, J pre W → pre.length < l.length - fr → YieldAt Fence.wide (n - 1) Try.prog lp #[.int .i64 (clamp fr x : Int)] W fun e W' =>
      (e = .returned (.bool true) ∧ J (pre ++ [x]) W' ∧ (KeepQ Q W W' ∧ W.heap.size ≤ W'.heap.size)) ∨ (e = .returned (.bool false) ∧ Jx (pre ++ [x]) W'))
    (hBf : W.cell? ⟨Bf, 0, none⟩ = some (.int .i64 (fr : Int))) (hBb0 : W.cell? ⟨Bb, 0, none⟩ = some (.int .i64 (l.length : Int))) (hBb : W.cell? ⟨Bb, 1, none⟩ = some (.slice A (pack l).length c))
    (hRd : Rd W B0 A (pack l)) (hB0 : B0 ≤ W.heap.size) (h0 : J [] W) :
    CallsIn Fence.wide n Try.prog 103 #[.func (.yield lp) #[] #[], .pointer (some ⟨Bf, 0, none⟩), .pointer (some ⟨Bb, 0, none⟩)] W fun e W' => (∃ v, e = .returned v) ∧
      ((∃ ys, ys = pos fr (l.drop fr) ∧ J ys W') ∨ (∃ pre, pre <+: pos fr (l.drop fr) ∧ Jx pre W')) := by
  refine callsIn_of_wp Try.func103 rfl trivial ?_ rfl
  simp only [Try.ntmps103, List.size_toArray, List.length_cons, List.length_nil, Nat.reduceAdd, Nat.reduceSub, Array.replicate_succ, Array.replicate_zero, List.push_toArray, List.append_toArray, List.nil_append, List.cons_append]
  gi_wp2
  gi_loopw [4] (fun p wr => ∃ i : Nat, fr ≤ i ∧ i ≤ l.length ∧ p = .int .i64 (i : Int) ∧ KeepQ Q W wr ∧ W.heap.size ≤ wr.heap.size ∧ J (pos fr ((l.drop fr).take (i - fr))) wr)
    (fun p _ => l.length - (intOf p).toNat)
  case atStart =>
    exact ⟨fr, Nat.le_refl _, hfr, rfl, fun _ _ => rfl, Nat.le_refl _, by rw [Nat.sub_self, List.take_zero]; exact h0⟩
  case round =>
    obtain ⟨i, hi1, hi2, rfl, hk, hsz, hJ⟩ := hrel
    have cb0 : wr.cell? ⟨Bb, 0, none⟩ = some (.int .i64 (l.length : Int)) := (World.cell?_of_block (w := W) (a := ⟨Bb, 0, none⟩) (hk Bb hQb)).trans hBb0
    by_cases hlt : i < l.length
    · have cb : wr.cell? ⟨Bb, 1, none⟩ = some (.slice A (pack l).length c) := (World.cell?_of_block (w := W) (a := ⟨Bb, 1, none⟩) (hk Bb hQb)).trans hBb
      have HG := Lib.hid (get_bit l hl A c i hlt wr (hRd.keep (by omega) (fun k hk' => hk k (hQ k hk'))))
      have HT := Lib.hid (take_bits l fr i hlt hi1)
      have hJw := fun W' (hb : Below wr.heap.size wr W') => hJa _ wr W' none hJ (grown_of_below hb none) (fun r e => by cases e)
      have HK := Lib.hid (⟨hk, hsz⟩ : KeepQ Q W wr ∧ W.heap.size ≤ wr.heap.size)
      have HJW := Lib.hid hJw
      clear hk hsz hJw hJ
      cases hx : l[i]?.getD false
      · rw [hx] at HG HT
        clear hx
        gi_wp2_with fail
        refine ⟨trivial, fun _ => by omega, ?_⟩
        refine (callsIn_wide.2 HG.out).mono ?_
        rintro e w1 ⟨rfl, hb1⟩
        have HB1 := Lib.hid hb1; clear hb1
        gi_wp2
        refine ⟨fun _ h => (by cases h), ?_⟩
        gi_wp2
        go_roundw
        case rel =>
          refine ⟨i + 1, by omega, by omega, by go_num, fun k hq => (HB1.out.block k (by have := hQW k hq; have := HK.out.2; omega)).trans (HK.out.1 k hq), Nat.le_trans HK.out.2 HB1.out.size, ?_⟩
          rw [HT.out, pos_snoc, if_neg (by decide), List.append_nil]
          exact HJW.out _ HB1.out
        case measure => simp [intOf]; omega
      · rw [hx] at HG HT
        clear hx
        gi_wp2_with fail
        refine ⟨trivial, fun _ => by omega, ?_⟩
        refine (callsIn_wide.2 HG.out).mono ?_
        rintro e w1 ⟨rfl, hb1⟩
        have hx := clamp_of fr i hi1 (by omega)
        obtain ⟨fn, tmps, assign, body, hy, hR⟩ := hY _ i w1 (HJW.out _ hb1) (by
          have := pos_length ((l.drop fr).take (i - fr)) fr
          rw [List.length_take, List.length_drop] at this
          omega)
        rw [hx] at hy
        clear hx
        have HB1 := Lib.hid hb1; clear hb1
        have HP : Hid (pos fr ((l.drop fr).take (i + 1 - fr)) = pos fr ((l.drop fr).take (i - fr)) ++ [i]) := by
          show _ = _
          rw [HT.out, pos_snoc, if_pos rfl, List.length_take, List.length_drop]
          congr 2
          omega
        gi_wp2
        refine ⟨fun _ => by omega, hR.mono ?_⟩
        rintro e W3 (⟨rfl, hJ3, hk3, hs3⟩ | ⟨rfl, hJx3⟩)
        · gi_wp2
          go_roundw
          case rel =>
            refine ⟨i + 1, by omega, by omega, by go_num, fun k hq => (hk3 k hq).trans ((HB1.out.block k (by have := hQW k hq; have := HK.out.2; omega)).trans (HK.out.1 k hq)), Nat.le_trans HK.out.2 (Nat.le_trans HB1.out.size hs3), ?_⟩
            rw [HP.out]
            exact hJ3
          case measure => simp [intOf]; omega
        · gi_wp2
          refine bodyPost_ret (results_none rfl _ _ _) rfl ?_
          refine ⟨⟨_, rfl⟩, .inr ⟨_, ?_, hJx3⟩⟩
          rw [← HP.out]
          have e2 : l.drop fr = (l.drop fr).take (i + 1 - fr) ++ (l.drop fr).drop (i + 1 - fr) := (List.take_append_drop _ _).symm
          exact pos_prefix fr _ _ _ e2
    · have e : i = l.length := by omega
      have HJ : Hid (J (pos fr (l.drop fr)) wr) := by
        rw [e, List.take_of_length_le (by rw [List.length_drop]; omega)] at hJ
        exact hJ
      clear e hJ
      gi_wp2
      go_end0
      exact ⟨⟨_, rfl⟩, .inl ⟨_, rfl, HJ.out⟩⟩

/-- What a visit of the 1 bits wants kept. -/
def KeepS (Q : Nat → Prop) (W W' : World) : Prop := KeepQ Q W W' ∧ W.heap.size ≤ W'.heap.size
theorem keepS_t {Q : Nat → Prop} {A B C : World} (h : KeepS Q A B) (k : KeepS Q B C) : KeepS Q A C := ⟨keepQ_t h.1 k.1, Nat.le_trans h.2 k.2⟩
theorem keepS_b {Q : Nat → Prop} {w : World} (hn : ∀ k, Q k → k < w.heap.size) (W : World) (l : Nat) (o o' : Obj) (hl : w.heap.size ≤ l) (h : W.heap[l]? = some o) (h1 : o.isCells = false) (h2 : o.isWalk = false) : KeepS Q W (W.putObj l o') :=
  ⟨keepQ_b hn W l o o' hl h h1 h2, by simp⟩

/-- The visit, as a contract. -/
theorem ones_stops (n : Nat) (hn : 2 ≤ n) (Bf Bb B0 c : Nat) (A : Option Addr) (Q : Nat → Prop) (l : List Bool) (hl : l.length ≤ 8192) (fr : Nat) (hfr : fr ≤ l.length)
    (hQb : Q Bb) (hQ : ∀ k, k < B0 → Q k) (w : World) (hQw : ∀ k, Q k → k < w.heap.size) (hB0 : B0 ≤ w.heap.size) (kf : Bf < w.heap.size)
    (hBf : w.cell? ⟨Bf, 0, none⟩ = some (.int .i64 (fr : Int))) (hBb0 : w.cell? ⟨Bb, 0, none⟩ = some (.int .i64 (l.length : Int))) (hBb : w.cell? ⟨Bb, 1, none⟩ = some (.slice A (pack l).length c)) (hRd : Rd w B0 A (pack l)) :
    SeqStopsK Fence.wide n Try.prog 103 #[.pointer (some ⟨Bf, 0, none⟩), .pointer (some ⟨Bb, 0, none⟩)] (fun x : Nat => #[Value.int .i64 (clamp fr x : Int)]) (KeepS Q) (fun ys => ys = pos fr (l.drop fr)) (fun pre => pre <+: pos fr (l.drop fr)) (l.length - fr) w :=
  fun lp J Jx W hW hJ _ hY h0 =>
    ones1_in n hn lp Bf Bb B0 c A Q l hl fr hfr J Jx hQb hQ W (fun k hk => Nat.lt_of_lt_of_le (hQw k hk) hW.size) hJ hY ((hW.cell (p := ⟨Bf, 0, none⟩) kf).trans hBf) ((hW.cell (p := ⟨Bb, 0, none⟩) (hQw Bb hQb)).trans hBb0) ((hW.cell (p := ⟨Bb, 1, none⟩) (hQw Bb hQb)).trans hBb) (hRd.below (hW.mono hB0) (Nat.le_refl _)) (Nat.le_trans hB0 hW.size) h0

set_option maxHeartbeats 1000000 in
/-- The maker of the visit. -/
theorem ones_in (n : Nat) (fr : Int) (len : Int) (A : Option Addr) (m c : Nat) (w : World) :
    CallsIn Fence.wide n Try.prog 94 #[.agg #[.int .i64 len, .slice A m c], .int .i64 fr] w fun e w' => e = .returned (.func (.func 103) #[] #[.pointer (some ⟨w.heap.size + 1, 0, none⟩), .pointer (some ⟨w.heap.size, 0, none⟩)]) ∧
      w' = (w.alloc (.cells #[.int .i64 len, .slice A m c] 56)).alloc (.cells #[.int .i64 fr] 3) := by
  refine callsIn_of_wp Try.func94 rfl trivial ?_ rfl
  simp only [Try.ntmps94, List.size_toArray, List.length_cons, List.length_nil, Nat.reduceAdd, Nat.reduceSub, Array.replicate_succ, Array.replicate_zero, List.push_toArray, List.append_toArray, List.nil_append, List.cons_append]
  gi_wp2
  go_ret
  exact ⟨rfl, rfl⟩
end Go.Proofs.Ythbgjlebgcnfeaa
