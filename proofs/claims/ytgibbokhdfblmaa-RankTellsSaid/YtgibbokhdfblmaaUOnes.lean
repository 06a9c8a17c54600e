/- The positions of the bits of one value are visited, from one position up to another one, whatever the visitor does that keeps the sequence. -/
import Derived.Test.YtgibbokhdfblmaaUMany
namespace Go.Proofs.Ytgibbokhdfblmaa
open Go.RowKit Go.Shelf

attribute [local go_sem] Oper.semAt_some

/-- The positions of the 1 bits, the first bit being at position o. -/
def pos : Nat → List Bool → List Nat
  | _, [] => []
  | o, true :: l => o :: pos (o + 1) l
  | o, false :: l => pos (o + 1) l
theorem pos_snoc (l : List Bool) (b : Bool) : ∀ o, pos o (l ++ [b]) = pos o l ++ (if b = true then [o + l.length] else []) := by
  induction l with
  | nil => intro o; cases b <;> simp [pos]
  | cons x l ih =>
    intro o
    cases x
    · simp only [List.cons_append, pos, ih, List.length_cons]; congr 2; rw [show o + 1 + l.length = o + (l.length + 1) from by omega]
    · simp only [List.cons_append, pos, ih, List.length_cons]; congr 3; rw [show o + 1 + l.length = o + (l.length + 1) from by omega]
theorem pos_length (l : List Bool) : ∀ o, (pos o l).length ≤ l.length := by
  induction l with
  | nil => intro o; simp [pos]
  | cons x l ih => intro o; cases x <;> simp [pos] <;> have := ih (o + 1) <;> omega
theorem pos_bound (l : List Bool) : ∀ o, ∀ x ∈ pos o l, o ≤ x ∧ x < o + l.length := by
  induction l with
  | nil => intro o x hx; simp [pos] at hx
  | cons b l ih =>
    intro o x hx
    cases b
    · have := ih (o + 1) x hx; simp; omega
    · rcases List.mem_cons.1 hx with rfl | h
      · simp
      · have := ih (o + 1) x h; simp; omega

theorem pos_append (a b : List Bool) : ∀ o, pos o (a ++ b) = pos o a ++ pos (o + a.length) b := by
  induction a with
  | nil => intro o; simp [pos]
  | cons x a ih =>
    intro o
    cases x <;> simp [pos, ih, Nat.add_assoc, Nat.add_comm 1]
theorem pos_prefix (o : Nat) (m a b : List Bool) (h : m = a ++ b) : pos o a <+: pos o m := by
  rw [h, pos_append]; exact List.prefix_append _ _

/-- A position that is told to a visitor. -/
def clamp (fr x : Nat) : Nat := max fr (min x 8191)
theorem clamp_of (fr x : Nat) (h : fr ≤ x) (h2 : x < 8192) : clamp fr x = x := by unfold clamp; omega

/-- One bit, as Get tells it. -/
theorem get_bit (l : List Bool) (hl : l.length ≤ 8192) (A : Option Addr) (c i : Nat) (hi : i < l.length) (w : World) (h : Rd w w.heap.size A (pack l)) :
    Calls Try.prog 41 #[.agg #[.int .i64 (l.length : Int), .slice A (pack l).length c], .int .i64 (i : Int), .int .i64 1] w fun e w' => e = .returned (.tuple #[.int .u64 ((l[i]?.getD false).toNat : Int), .int .i64 0]) ∧ Below w.heap.size w w' := by
  refine get_l l hl A c i 1 _ (by omega) (by omega) ?_ w h
  rw [List.take_one, List.head?_drop, List.getElem?_eq_getElem hi]
  simp [num]

theorem six (w : World) (a b c d e f : Obj) : (((((((w.alloc a).alloc b).alloc c).alloc d).alloc e).alloc f).heap.size = w.heap.size + 6) ∧
    ((((((w.alloc a).alloc b).alloc c).alloc d).alloc e).alloc f).heap[w.heap.size]? = some a ∧ ((((((w.alloc a).alloc b).alloc c).alloc d).alloc e).alloc f).heap[w.heap.size + 1]? = some b ∧
    ((((((w.alloc a).alloc b).alloc c).alloc d).alloc e).alloc f).heap[w.heap.size + 2]? = some c ∧ ((((((w.alloc a).alloc b).alloc c).alloc d).alloc e).alloc f).heap[w.heap.size + 3]? = some d ∧
    ((((((w.alloc a).alloc b).alloc c).alloc d).alloc e).alloc f).heap[w.heap.size + 4]? = some e ∧ ((((((w.alloc a).alloc b).alloc c).alloc d).alloc e).alloc f).heap[w.heap.size + 5]? = some f := by
  obtain ⟨hz, h0, h1, h2, h3⟩ := four w a b c d
  generalize ((((w.alloc a).alloc b).alloc c).alloc d) = v at *
  have n4 := World.alloc_heap_new v e
  have n5 := World.alloc_heap_new (v.alloc e) f
  rw [World.size_alloc] at n5
  have low : ∀ k, k < v.heap.size → ((v.alloc e).alloc f).heap[k]? = v.heap[k]? := fun k hk => by
    rw [Below.heap_alloc _ _ _ (by rw [World.size_alloc]; omega), Below.heap_alloc _ _ _ hk]
  refine ⟨by simp only [World.size_alloc]; omega, ?_, ?_, ?_, ?_, ?_, ?_⟩
  · rw [low _ (by omega)]; exact h0
  · rw [low _ (by omega)]; exact h1
  · rw [low _ (by omega)]; exact h2
  · rw [low _ (by omega)]; exact h3
  · rw [Below.heap_alloc _ _ _ (by rw [World.size_alloc]; omega), ← hz]; exact n4
  · rw [show w.heap.size + 5 = v.heap.size + 1 by omega]; exact n5
/-- Which bits have that value. -/
def eqs (v : Bool) (l : List Bool) : List Bool := l.map fun b => b == v
theorem eqs_append (v : Bool) (a b : List Bool) : eqs v (a ++ b) = eqs v a ++ eqs v b := by simp [eqs]
theorem eqs_length (v : Bool) (l : List Bool) : (eqs v l).length = l.length := by simp [eqs]
theorem eqs_true (l : List Bool) : eqs true l = l := by
  unfold eqs
  induction l with
  | nil => rfl
  | cons b l ih => rw [List.map_cons, ih]; cases b <;> rfl
/-- The positions of the bits of value v, from fr up to to. -/
def vis (v : Bool) (l : List Bool) (fr to : Nat) : List Nat := pos fr (eqs v ((l.drop fr).take (to - fr)))
theorem vis_all (l : List Bool) (fr n : Nat) (h : n = l.length) : vis true l fr n = pos fr (l.drop fr) := by
  unfold vis
  rw [eqs_true, List.take_of_length_le (by rw [List.length_drop]; omega)]
theorem vis_at (v : Bool) (l : List Bool) (fr : Nat) : vis v l fr fr = [] := by unfold vis; rw [Nat.sub_self, List.take_zero]; rfl
theorem vis_succ (v : Bool) (l : List Bool) (fr i : Nat) (hi : i < l.length) (hf : fr ≤ i) : vis v l fr (i + 1) = vis v l fr i ++ (if (l[i]?.getD false == v) = true then [i] else []) := by
  unfold vis
  rw [take_bits l fr i hi hf, eqs_append, pos_append, eqs_length, List.length_take, List.length_drop, Nat.min_eq_left (by omega), show fr + (i - fr) = i from by omega]
  congr 1
  unfold eqs
  generalize l[i]?.getD false = x
  rw [List.map_cons, List.map_nil]
  generalize (x == v) = y
  cases y <;> rfl
theorem vis_length (v : Bool) (l : List Bool) (fr to : Nat) : (vis v l fr to).length ≤ to - fr := by
  unfold vis
  refine Nat.le_trans (pos_length _ _) ?_
  rw [eqs_length, List.length_take]; omega
theorem vis_bound (v : Bool) (l : List Bool) (fr to : Nat) (x : Nat) (h : x ∈ vis v l fr to) : fr ≤ x ∧ x < to ∧ x < l.length := by
  have := pos_bound _ _ x h
  rw [eqs_length, List.length_take, List.length_drop] at this
  omega
theorem vis_prefix (v : Bool) (l : List Bool) (fr i to : Nat) (h : i ≤ to) : vis v l fr i <+: vis v l fr to := by
  unfold vis
  have e : (l.drop fr).take (to - fr) = (l.drop fr).take (i - fr) ++ ((l.drop fr).take (to - fr)).drop (i - fr) := by
    conv => lhs; rw [← List.take_append_drop (i - fr) ((l.drop fr).take (to - fr))]
    rw [List.take_take, Nat.min_eq_left (by omega)]
  exact pos_prefix fr _ (eqs v ((l.drop fr).take (i - fr))) (eqs v (((l.drop fr).take (to - fr)).drop (i - fr))) (by rw [← eqs_append, ← e])
/-- The same, for a value of 64 bits. -/
theorem eq_cast (a b : Bool) : ((((a.toNat : Nat) : Int)) == (((b.toNat : Nat) : Int))) = (a == b) := by cases a <;> cases b <;> rfl

set_option maxRecDepth 100000 in
set_option maxHeartbeats 1000000 in
theorem of1_in (n : Nat) (hn : 2 ≤ n) (lp Bf Bt Bb Bv B0 c : Nat) (A : Option Addr) (Q : Nat → Prop) (l : List Bool) (hl : l.length ≤ 8192) (v : Bool) (fr to : Nat) (hft : fr ≤ to) (hto : to ≤ l.length) (J Jx : List Nat → World → Prop)
    (hQt : Q Bt) (hQb : Q Bb) (hQv : Q Bv) (hQ : ∀ k, k < B0 → Q k)
    (W : World) (hQW : ∀ k, Q k → k < W.heap.size) (hJa : AbidesFrom W.heap.size J)
    (hY : ∀ pre x W, J pre W → pre.length < to - fr → YieldAt Fence.wide (n - 1) Try.prog lp #[.int .i64 (clamp fr x : Int)] W fun e W' =>
      (e = .returned (.bool true) ∧ J (pre ++ [x]) W' ∧ (KeepQ Q W W' ∧ W.heap.size ≤ W'.heap.size)) ∨ (e = .returned (.bool false) ∧ Jx (pre ++ [x]) W'))
    (hBf : W.cell? ⟨Bf, 0, none⟩ = some (.int .i64 (fr : Int))) (hBt : W.cell? ⟨Bt, 0, none⟩ = some (.int .i64 (to : Int))) (hBv : W.cell? ⟨Bv, 0, none⟩ = some (.int .u64 (v.toNat : Int))) (hBb0 : W.cell? ⟨Bb, 0, none⟩ = some (.int .i64 (l.length : Int))) (hBb : W.cell? ⟨Bb, 1, none⟩ = some (.slice A (pack l).length c))
    (hRd : Rd W B0 A (pack l)) (hB0 : B0 ≤ W.heap.size) (h0 : J [] W) :
    CallsIn Fence.wide n Try.prog 83 #[.func (.yield lp) #[] #[], .pointer (some ⟨Bf, 0, none⟩), .pointer (some ⟨Bt, 0, none⟩), .pointer (some ⟨Bb, 0, none⟩), .pointer (some ⟨Bv, 0, none⟩)] W fun e W' => (∃ v, e = .returned v) ∧
      ((∃ ys, ys = vis v l fr to ∧ J ys W') ∨ (∃ pre, pre <+: vis v l fr to ∧ Jx pre W')) := by
  refine callsIn_of_wp Try.func83 rfl trivial ?_ rfl
  simp only [Try.ntmps83, List.size_toArray, List.length_cons, List.length_nil, Nat.reduceAdd, Nat.reduceSub, Array.replicate_succ, Array.replicate_zero, List.push_toArray, List.append_toArray, List.nil_append, List.cons_append]
  gi_wp2
  gi_loopw [6] (fun p wr => ∃ i : Nat, fr ≤ i ∧ i ≤ to ∧ p = .int .i64 (i : Int) ∧ KeepQ Q W wr ∧ W.heap.size ≤ wr.heap.size ∧ J (vis v l fr i) wr)
    (fun p _ => to - (intOf p).toNat)
  case atStart =>
    exact ⟨fr, Nat.le_refl _, hft, rfl, fun _ _ => rfl, Nat.le_refl _, by rw [vis_at]; exact h0⟩
  case round =>
    obtain ⟨i, hi1, hi2, rfl, hk, hsz, hJ⟩ := hrel
    have ct : wr.cell? ⟨Bt, 0, none⟩ = some (.int .i64 (to : Int)) := (World.cell?_of_block (w := W) (a := ⟨Bt, 0, none⟩) (hk Bt hQt)).trans hBt
    by_cases hlt : i < to
    · have cb0 : wr.cell? ⟨Bb, 0, none⟩ = some (.int .i64 (l.length : Int)) := (World.cell?_of_block (w := W) (a := ⟨Bb, 0, none⟩) (hk Bb hQb)).trans hBb0
      have cb : wr.cell? ⟨Bb, 1, none⟩ = some (.slice A (pack l).length c) := (World.cell?_of_block (w := W) (a := ⟨Bb, 1, none⟩) (hk Bb hQb)).trans hBb
      have HG := Lib.hid (get_bit l hl A c i (by omega) wr (hRd.keep (by omega) (fun k hk' => hk k (hQ k hk'))))
      have HT := Lib.hid (vis_succ v l fr i (by omega) hi1)
      have hJw := fun W' (hb : Below wr.heap.size wr W') => hJa _ wr W' none hJ (grown_of_below hb none) (fun r e => by cases e)
      have HK := Lib.hid (⟨hk, hsz⟩ : KeepQ Q W wr ∧ W.heap.size ≤ wr.heap.size)
      have HJW := Lib.hid hJw
      have hcv := fun w1 (hb : Below wr.heap.size wr w1) => (World.cell?_of_block (w := W) (w' := w1) (a := ⟨Bv, 0, none⟩) ((hb.block Bv (by have := hQW Bv hQv; omega)).trans (hk Bv hQv))).trans hBv
      have HCV := Lib.hid hcv
      clear hk hsz hJw hJ hcv
      by_cases hx : l[i]?.getD false = v
      · rw [hx] at HG
        have hbe : (v == v) = true := by simp
        replace HT : Hid (vis v l fr (i + 1) = vis v l fr i ++ [i]) := by
          have := HT.out
          rw [hx, hbe, if_pos rfl] at this
          exact this
        clear hx hbe
        gi_wp2_with fail
        refine ⟨trivial, fun _ => by omega, ?_⟩
        refine (callsIn_wide.2 HG.out).mono ?_
        rintro e w1 ⟨rfl, hb1⟩
        have cv := HCV.out _ hb1
        have hx := clamp_of fr i hi1 (by omega)
        obtain ⟨fn, tmps, assign, body, hy, hR⟩ := hY _ i w1 (HJW.out _ hb1) (by
          have := vis_length v l fr i
          omega)
        rw [hx] at hy
        clear hx
        have HB1 := Lib.hid hb1; clear hb1
        gi_wp2
        refine ⟨fun _ => by omega, hR.mono ?_⟩
        rintro e W3 (⟨rfl, hJ3, hk3, hs3⟩ | ⟨rfl, hJx3⟩)
        · gi_wp2
          go_roundw
          case rel =>
            refine ⟨i + 1, by omega, by omega, by go_num, fun k hq => (hk3 k hq).trans ((HB1.out.block k (by have := hQW k hq; have := HK.out.2; omega)).trans (HK.out.1 k hq)), Nat.le_trans HK.out.2 (Nat.le_trans HB1.out.size hs3), ?_⟩
            rw [HT.out]
            exact hJ3
          case measure => simp [intOf]; omega
        · gi_wp2
          refine bodyPost_ret (results_none rfl _ _ _) rfl ?_
          refine ⟨⟨_, rfl⟩, .inr ⟨_, ?_, hJx3⟩⟩
          rw [← HT.out]
          exact vis_prefix v l fr (i + 1) to (by omega)
      · have hbe : (l[i]?.getD false == v) = false := by simpa using hx
        have hne : ((((l[i]?.getD false).toNat : Nat) : Int) == ((v.toNat : Nat) : Int)) = false := by rw [eq_cast]; exact hbe
        replace HT : Hid (vis v l fr (i + 1) = vis v l fr i) := by
          have := HT.out
          rw [hbe, if_neg (by decide), List.append_nil] at this
          exact this
        clear hx hbe
        generalize l[i]?.getD false = x at *
        gi_wp2_with fail
        refine ⟨trivial, fun _ => by omega, ?_⟩
        refine (callsIn_wide.2 HG.out).mono ?_
        rintro e w1 ⟨rfl, hb1⟩
        have cv := HCV.out _ hb1
        have HB1 := Lib.hid hb1; clear hb1
        gi_wp2
        refine ⟨fun _ h => (by cases h), ?_⟩
        gi_wp2
        go_roundw
        case rel =>
          refine ⟨i + 1, by omega, by omega, by go_num, fun k hq => (HB1.out.block k (by have := hQW k hq; have := HK.out.2; omega)).trans (HK.out.1 k hq), Nat.le_trans HK.out.2 HB1.out.size, ?_⟩
          rw [HT.out]
          exact HJW.out _ HB1.out
        case measure => simp [intOf]; omega
    · have e : i = to := by omega
      have HJ : Hid (J (vis v l fr to) wr) := by
        rw [e] at hJ
        exact hJ
      clear e hJ
      gi_wp2
      go_end0
      exact ⟨⟨_, rfl⟩, .inl ⟨_, rfl, HJ.out⟩⟩

/-- What such a visit wants kept. -/
def KeepS (Q : Nat → Prop) (W W' : World) : Prop := KeepQ Q W W' ∧ W.heap.size ≤ W'.heap.size
theorem keepS_t {Q : Nat → Prop} {A B C : World} (h : KeepS Q A B) (k : KeepS Q B C) : KeepS Q A C := ⟨keepQ_t h.1 k.1, Nat.le_trans h.2 k.2⟩
theorem keepS_b {Q : Nat → Prop} {w : World} (hn : ∀ k, Q k → k < w.heap.size) (W : World) (l : Nat) (o o' : Obj) (hl : w.heap.size ≤ l) (h : W.heap[l]? = some o) (h1 : o.isCells = false) (h2 : o.isWalk = false) : KeepS Q W (W.putObj l o') :=
  ⟨keepQ_b hn W l o o' hl h h1 h2, by simp⟩

/-- The visit, as a contract. -/
theorem of_stops (n : Nat) (hn : 2 ≤ n) (Bf Bt Bb Bv B0 c : Nat) (A : Option Addr) (Q : Nat → Prop) (l : List Bool) (hl : l.length ≤ 8192) (v : Bool) (fr to : Nat) (hft : fr ≤ to) (hto : to ≤ l.length)
    (hQt : Q Bt) (hQb : Q Bb) (hQv : Q Bv) (hQ : ∀ k, k < B0 → Q k) (w : World) (hQw : ∀ k, Q k → k < w.heap.size) (hB0 : B0 ≤ w.heap.size) (kf : Bf < w.heap.size)
    (hBf : w.cell? ⟨Bf, 0, none⟩ = some (.int .i64 (fr : Int))) (hBt : w.cell? ⟨Bt, 0, none⟩ = some (.int .i64 (to : Int))) (hBv : w.cell? ⟨Bv, 0, none⟩ = some (.int .u64 (v.toNat : Int))) (hBb0 : w.cell? ⟨Bb, 0, none⟩ = some (.int .i64 (l.length : Int))) (hBb : w.cell? ⟨Bb, 1, none⟩ = some (.slice A (pack l).length c)) (hRd : Rd w B0 A (pack l)) :
    SeqStopsK Fence.wide n Try.prog 83 #[.pointer (some ⟨Bf, 0, none⟩), .pointer (some ⟨Bt, 0, none⟩), .pointer (some ⟨Bb, 0, none⟩), .pointer (some ⟨Bv, 0, none⟩)] (fun x : Nat => #[Value.int .i64 (clamp fr x : Int)]) (KeepS Q) (fun ys => ys = vis v l fr to) (fun pre => pre <+: vis v l fr to) (to - fr) w :=
  fun lp J Jx W hW hJ _ hY h0 =>
    of1_in n hn lp Bf Bt Bb Bv B0 c A Q l hl v fr to hft hto J Jx hQt hQb hQv hQ W (fun k hk => Nat.lt_of_lt_of_le (hQw k hk) hW.size) hJ hY ((hW.cell (p := ⟨Bf, 0, none⟩) kf).trans hBf) ((hW.cell (p := ⟨Bt, 0, none⟩) (hQw Bt hQt)).trans hBt) ((hW.cell (p := ⟨Bv, 0, none⟩) (hQw Bv hQv)).trans hBv) ((hW.cell (p := ⟨Bb, 0, none⟩) (hQw Bb hQb)).trans hBb0) ((hW.cell (p := ⟨Bb, 1, none⟩) (hQw Bb hQb)).trans hBb) (hRd.below (hW.mono hB0) (Nat.le_refl _)) (Nat.le_trans hB0 hW.size) h0

set_option maxHeartbeats 1000000 in
/-- The maker of the visit. -/
theorem of_in (n : Nat) (fr to : Int) (v : Int) (len : Int) (A : Option Addr) (m c : Nat) (w : World) :
    CallsIn Fence.wide n Try.prog 53 #[.agg #[.int .i64 len, .slice A m c], .int .u64 v, .int .i64 fr, .int .i64 to] w fun e w' => e = .returned (.func (.func 83) #[] #[.pointer (some ⟨w.heap.size + 2, 0, none⟩), .pointer (some ⟨w.heap.size + 3, 0, none⟩), .pointer (some ⟨w.heap.size, 0, none⟩), .pointer (some ⟨w.heap.size + 1, 0, none⟩)]) ∧
      w' = (((w.alloc (.cells #[.int .i64 len, .slice A m c] 25)).alloc (.cells #[.int .u64 v] 22)).alloc (.cells #[.int .i64 fr] 3)).alloc (.cells #[.int .i64 to] 3) := by
  refine callsIn_of_wp Try.func53 rfl trivial ?_ rfl
  simp only [Try.ntmps53, List.size_toArray, List.length_cons, List.length_nil, Nat.reduceAdd, Nat.reduceSub, Array.replicate_succ, Array.replicate_zero, List.push_toArray, List.append_toArray, List.nil_append, List.cons_append]
  gi_wp2
  go_ret
  exact ⟨rfl, rfl⟩
end Go.Proofs.Ytgibbokhdfblmaa
