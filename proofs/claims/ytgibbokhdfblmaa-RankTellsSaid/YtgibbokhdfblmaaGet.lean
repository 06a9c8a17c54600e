/- What Get answers, for whatever bits, position and width it is handed. -/
import Derived.Test.YtgibbokhdfblmaaAddBits
namespace Go.Proofs.Ytgibbokhdfblmaa
open Go.RowKit Go.Shelf

attribute [local go_sem] Oper.semAt_some

/-- Bits as a number, the first one the highest. -/
def num (l : List Bool) : Nat := l.foldl (fun n b => 2 * n + b.toNat) 0
theorem num_snoc (l : List Bool) (b : Bool) : num (l ++ [b]) = 2 * num l + b.toNat := by simp [num]
theorem fold_lt (l : List Bool) : ∀ a : Nat, l.foldl (fun n b => 2 * n + b.toNat) a < (a + 1) * 2 ^ l.length := by
  induction l with
  | nil => intro a; simp
  | cons b l ih =>
    intro a
    rw [List.foldl_cons, List.length_cons]
    refine Nat.lt_of_lt_of_le (ih _) ?_
    have := Bool.toNat_le b
    rw [Nat.pow_succ, Nat.mul_comm (2 ^ l.length) 2, ← Nat.mul_assoc]
    exact Nat.mul_le_mul_right _ (by omega)
theorem num_lt (l : List Bool) : num l < 2 ^ l.length := by
  have := fold_lt l 0
  rwa [Nat.zero_add, Nat.one_mul] at this

/-- A number and an error come back. -/
def Got (w : World) (n : Nat) (err : Int) (e : Ending) (w' : World) : Prop := e = .returned (.tuple #[.int .u64 (n : Int), .int .i64 err]) ∧ Below w.heap.size w w'

theorem check_one (len : Int) (A : Option Addr) (c : Nat) (bs : List Nat) (w : World) (hb : ∀ b ∈ bs, b < 256) (h : Rd w w.heap.size A bs) :
    Calls Try.prog 43 #[.agg #[.int .i64 len, .slice A bs.length c]] (w.alloc (.cells #[.int .i64 len, .slice A bs.length c] 25)) fun e w' => e = .returned (.int .i64 (chk len bs)) ∧ Below (w.heap.size + 1) (w.alloc (.cells #[.int .i64 len, .slice A bs.length c] 25)) w' := by
  have := check_any len A c bs (w.alloc (.cells #[.int .i64 len, .slice A bs.length c] 25)) hb (h.below ((Below.refl _ w).alloc (Nat.le_refl _) _) (by simp))
  rwa [World.size_alloc] at this

theorem one_below (w : World) (o : Obj) : Below w.heap.size w (w.alloc o) := (Below.refl _ w).alloc (Nat.le_refl _) _

set_option maxHeartbeats 400000 in
theorem get_bad (len : Int) (A : Option Addr) (c : Nat) (bs : List Nat) (at_ width : Int) (w : World) (hb : ∀ b ∈ bs, b < 256) (h : Rd w w.heap.size A bs) (hc : chk len bs ≠ 0) :
    Calls Try.prog 41 #[.agg #[.int .i64 len, .slice A bs.length c], .int .i64 at_, .int .i64 width] w (Got w 0 (chk len bs)) := by
  have HC := Lib.hid (check_one len A c bs w hb h)
  have hcb : (chk len bs != 0) = true := by simpa using hc
  clear hc hb h
  have HB := Lib.hid (one_below w (.cells #[.int .i64 len, .slice A bs.length c] 25))
  generalize chk len bs = e0 at *
  generalize bs.length = nn at *
  go_enter Try.func41, Try.ntmps41
  go_wp2_with (go_at_call 43; refine HC.out.mono ?_; rintro e w1 ⟨rfl, hq⟩; obtain ⟨hc1, hf1⟩ := old_cells hq)
  go_ret2
  exact ⟨rfl, HB.out.trans (hq.mono (by omega))⟩

set_option maxHeartbeats 400000 in
theorem get_range (l : List Bool) (hl : l.length ≤ 8192) (A : Option Addr) (c : Nat) (at_ width : Int) (w : World) (h : Rd w w.heap.size A (pack l)) (hw : width < 0 ∨ 64 < width ∨ at_ < 0 ∨ (l.length : Int) < at_) :
    Calls Try.prog 41 #[.agg #[.int .i64 (l.length : Int), .slice A (pack l).length c], .int .i64 at_, .int .i64 width] w (Got w 0 3) := by
  have hc0 := check_one (l.length : Int) A c (pack l) w (pack_lt l) h
  rw [chk_pack l hl] at hc0
  have HC := Lib.hid hc0; clear hc0
  clear h
  have HB := Lib.hid (one_below w (.cells #[.int .i64 (l.length : Int), .slice A (pack l).length c] 25))
  generalize (pack l).length = nn at *
  generalize l.length = ln at *
  have hw3 : width < 0 ∨ 64 < width ∨ (0 ≤ width ∧ width ≤ 64 ∧ at_ < 0) ∨ (0 ≤ width ∧ width ≤ 64 ∧ 0 ≤ at_ ∧ (ln : Int) < at_) := by omega
  clear hw
  rcases hw3 with hw | hw | ⟨g1, g2, hw⟩ | ⟨g1, g2, g3, hw⟩
  · have t1 : decide (width < 0) = true := by simp; omega
    go_enter Try.func41, Try.ntmps41
    go_wp2_with (go_at_call 43; refine HC.out.mono ?_; rintro e w1 ⟨rfl, hq⟩; obtain ⟨hc1, hf1⟩ := old_cells hq)
    go_ret2
    exact ⟨rfl, HB.out.trans (hq.mono (by omega))⟩
  · have t1 : decide (width < 0) = false := by simp; omega
    have t2 : decide (64 < width) = true := by simp; omega
    go_enter Try.func41, Try.ntmps41
    go_wp2_with (go_at_call 43; refine HC.out.mono ?_; rintro e w1 ⟨rfl, hq⟩; obtain ⟨hc1, hf1⟩ := old_cells hq)
    go_ret2
    exact ⟨rfl, HB.out.trans (hq.mono (by omega))⟩
  · have t1 : decide (width < 0) = false := by simp; omega
    have t2 : decide (64 < width) = false := by simp; omega
    have t3 : decide (at_ < 0) = true := by simp; omega
    go_enter Try.func41, Try.ntmps41
    go_wp2_with (go_at_call 43; refine HC.out.mono ?_; rintro e w1 ⟨rfl, hq⟩; obtain ⟨hc1, hf1⟩ := old_cells hq)
    go_ret2
    exact ⟨rfl, HB.out.trans (hq.mono (by omega))⟩
  · have t1 : decide (width < 0) = false := by simp; omega
    have t2 : decide (64 < width) = false := by simp; omega
    have t3 : decide (at_ < 0) = false := by simp; omega
    have t4 : decide ((ln : Int) < at_) = true := by simp; omega
    go_enter Try.func41, Try.ntmps41
    go_wp2_with (go_at_call 43; refine HC.out.mono ?_; rintro e w1 ⟨rfl, hq⟩; obtain ⟨hc1, hf1⟩ := old_cells hq)
    go_ret2
    exact ⟨rfl, HB.out.trans (hq.mono (by omega))⟩

set_option maxHeartbeats 400000 in
theorem get_short (l : List Bool) (hl : l.length ≤ 8192) (A : Option Addr) (c : Nat) (at_ width : Int) (w : World) (h : Rd w w.heap.size A (pack l)) (h1 : 0 ≤ width) (h2 : width ≤ 64) (h3 : 0 ≤ at_) (h4 : at_ ≤ (l.length : Int)) (hs : (l.length : Int) - at_ < width) :
    Calls Try.prog 41 #[.agg #[.int .i64 (l.length : Int), .slice A (pack l).length c], .int .i64 at_, .int .i64 width] w (Got w 0 7) := by
  have hc0 := check_one (l.length : Int) A c (pack l) w (pack_lt l) h
  rw [chk_pack l hl] at hc0
  have HC := Lib.hid hc0; clear hc0
  clear h
  have HB := Lib.hid (one_below w (.cells #[.int .i64 (l.length : Int), .slice A (pack l).length c] 25))
  generalize (pack l).length = nn at *
  generalize l.length = ln at *
  have t1 : decide (width < 0) = false := by simp; omega
  have t2 : decide (64 < width) = false := by simp; omega
  have t3 : decide (at_ < 0) = false := by simp; omega
  have t4 : decide ((ln : Int) < at_) = false := by simp; omega
  go_enter Try.func41, Try.ntmps41
  go_wp2_with (go_at_call 43; refine HC.out.mono ?_; rintro e w1 ⟨rfl, hq⟩; obtain ⟨hc1, hf1⟩ := old_cells hq)
  go_ret2
  exact ⟨rfl, HB.out.trans (hq.mono (by omega))⟩

theorem or_last (m : Nat) (b : Bool) : (2 * m) ||| b.toNat = 2 * m + b.toNat := by
  cases b
  · simp
  · have h := Nat.two_pow_add_eq_or_of_lt (i := 1) (b := 1) (by decide) m
    simpa using h.symm

theorem shl_or (m : Nat) (b : Bool) (hm : m < 2 ^ 63) : bits .or .u64 ((m : Int) * 2) (b.toNat : Int) = ((2 * m + b.toNat : Nat) : Int) := by
  have hb := Bool.toNat_le b
  have e : (m : Int) * 2 = ((2 * m : Nat) : Int) := by omega
  rw [e, u64_or_nat (2 * m) b.toNat (by omega) (by omega), or_last]

theorem box_own {β : Type} (B : Nat) (t : TypeId) (f : β → Value) : Own (fun (s : β) X => Boxed X B t (f s)) := by
  rintro s X Y row h hgr hrow
  refine h.kept hgr (fun e => ?_)
  obtain ⟨o, h1, h2⟩ := hrow B e.symm
  rw [show X.heap[B]? = _ from h] at h1; cases h1; cases h2

theorem four (w : World) (a b c d : Obj) : (((((w.alloc a).alloc b).alloc c).alloc d).heap.size = w.heap.size + 4) ∧
    ((((w.alloc a).alloc b).alloc c).alloc d).heap[w.heap.size]? = some a ∧ ((((w.alloc a).alloc b).alloc c).alloc d).heap[w.heap.size + 1]? = some b ∧
    ((((w.alloc a).alloc b).alloc c).alloc d).heap[w.heap.size + 2]? = some c ∧ ((((w.alloc a).alloc b).alloc c).alloc d).heap[w.heap.size + 3]? = some d := by
  have n0 := World.alloc_heap_new w a
  have n1 := World.alloc_heap_new (w.alloc a) b
  have n2 := World.alloc_heap_new ((w.alloc a).alloc b) c
  have n3 := World.alloc_heap_new (((w.alloc a).alloc b).alloc c) d
  simp only [World.size_alloc] at n1 n2 n3
  refine ⟨by simp only [World.size_alloc], ?_, ?_, ?_, n3⟩
  · rw [Below.heap_alloc _ _ _ (by simp only [World.size_alloc]; omega), Below.heap_alloc _ _ _ (by simp only [World.size_alloc]; omega), Below.heap_alloc _ _ _ (by simp only [World.size_alloc]; omega)]; exact n0
  · rw [Below.heap_alloc _ _ _ (by simp only [World.size_alloc]; omega), Below.heap_alloc _ _ _ (by simp only [World.size_alloc]; omega)]; exact n1
  · rw [Below.heap_alloc _ _ _ (by simp only [World.size_alloc]; omega)]; exact n2

/-- The blocks that Get's visit wants kept. -/
def kept (B N : Nat) (k : Nat) : Prop := k < B ∨ k = N + 1 ∨ k = N + 2 ∨ k = N + 3

set_option maxRecDepth 100000 in
set_option maxHeartbeats 2000000 in
theorem get_ok (l : List Bool) (hl : l.length ≤ 8192) (A : Option Addr) (c : Nat) (p k : Nat) (w : World) (h : Rd w w.heap.size A (pack l)) (h1 : k ≤ 64) (h2 : p + k ≤ l.length) :
    Calls Try.prog 41 #[.agg #[.int .i64 (l.length : Int), .slice A (pack l).length c], .int .i64 (p : Int), .int .i64 (k : Int)] w (Got w (num ((l.drop p).take k)) 0) := by
  have hc0 := check_one (l.length : Int) A c (pack l) w (pack_lt l) h
  rw [chk_pack l hl] at hc0
  have HC := Lib.hid hc0; clear hc0
  have HR := Lib.hid h; clear h
  have HB := Lib.hid (one_below w (.cells #[.int .i64 (l.length : Int), .slice A (pack l).length c] 25))
  have t1 : decide ((k : Int) < 0) = false := by simp
  have t2 : decide (64 < (k : Int)) = false := by simp; omega
  have t3 : decide ((p : Int) < 0) = false := by simp
  have t4 : decide ((l.length : Int) < (p : Int)) = false := by simp; omega
  have t5 : decide ((l.length : Int) - (p : Int) < (k : Int)) = false := by simp; omega
  refine (callsIn_wide (n := 3)).1 ?_
  refine callsIn_of_wp_marks Try.func41 rfl trivial ?_ rfl
  simp only [Try.ntmps41, List.size_toArray, List.length_cons, List.length_nil, Nat.reduceAdd, Nat.reduceSub, Array.replicate_succ, Array.replicate_zero, List.push_toArray, List.append_toArray, List.nil_append, List.cons_append]
  gi_wp2_with (first | (refine ⟨trivial, ?_⟩; gi_at_call 66; refine (bitsOf_in Fence.wide 2 trivial rfl _ _ _ _ _ _ _).mono ?_; rintro e w' ⟨rfl, rfl⟩) | (refine ⟨trivial, ?_⟩; gi_at_call 43; refine (callsIn_wide.2 HC.out).mono ?_; rintro e w1 ⟨rfl, hq⟩; obtain ⟨hc1, hf1⟩ := old_cells hq; have hs1 : w.heap.size < w1.heap.size := (by have := hq.size; rw [World.size_alloc] at this; omega)))
  simp only [Nat.add_assoc, Nat.reduceAdd]
  have hpk : ((p : Int) + (k : Int)) = ((p + k : Nat) : Int) := by omega
  rw [hpk]
  clear hpk
  obtain ⟨hz, b0, b1, b2, b3⟩ := four w1 (.cells #[.int .u64 0] 22) (.cells #[.int .i64 (l.length : Int), .slice A (pack l).length c] 25) (.cells #[.int .i64 (p : Int)] 3) (.cells #[.int .i64 ((p + k : Nat) : Int)] 3)
  have hlow0 : Below w1.heap.size w1 ((((w1.alloc (.cells #[.int .u64 0] 22)).alloc (.cells #[.int .i64 (l.length : Int), .slice A (pack l).length c] 25)).alloc (.cells #[.int .i64 (p : Int)] 3)).alloc (.cells #[.int .i64 ((p + k : Nat) : Int)] 3)) :=
    ((((Below.refl _ w1).alloc (Nat.le_refl _) _).alloc (by simp) _).alloc (by simp only [World.size_alloc]; omega) _).alloc (by simp only [World.size_alloc]; omega) _
  generalize ((((w1.alloc (.cells #[.int .u64 0] 22)).alloc (.cells #[.int .i64 (l.length : Int), .slice A (pack l).length c] 25)).alloc (.cells #[.int .i64 (p : Int)] 3)).alloc (.cells #[.int .i64 ((p + k : Nat) : Int)] 3)) = w5 at *
  have hlow : Below w.heap.size w w5 := (HB.out.trans (hq.mono (by omega))).trans (hlow0.mono (by omega))
  have hvis : ∀ j, kept w.heap.size w1.heap.size j → j < w5.heap.size := by
    rintro j (h | h | h | h) <;> omega
  refine wpIn_rangeFunc_ownG rfl (by decide) (gf := 88) (lb := #[.pointer (some ⟨w1.heap.size + 2, 0, none⟩), .pointer (some ⟨w1.heap.size + 3, 0, none⟩), .pointer (some ⟨w1.heap.size + 1, 0, none⟩)]) rfl trivial (enters_of Try.func88 (by kernel_rfl) rfl)
    (bits_stops Fence.wide 2 trivial rfl (by decide) (w1.heap.size + 2) (w1.heap.size + 3) (w1.heap.size + 1) w.heap.size c A (kept w.heap.size w1.heap.size) l hl p (p + k) (by omega) h2 (.inr (.inr (.inr rfl))) (.inr (.inl rfl)) (fun j hj => .inl hj) w5 (by omega) (by omega) (by omega) (by omega)
      (box_cell b2) (box_cell b3) (blk_cells b1).2.1 (HR.out.below hlow (Nat.le_refl _)))
    (fun h k => keepQ_t h k) (keepQ_b hvis) (Below.refl _ _) (fun _ => rfl)
    (fun pre X => Boxed X w1.heap.size 22 (.int .u64 (num pre : Int)) ∧ (Fr (kept w.heap.size w1.heap.size) w5 X ∧ w5.heap.size ≤ X.heap.size))
    (fun _ _ _ => False)
    (OwnFrom.and (Own.from (box_own w1.heap.size 22 (fun pre => .int .u64 (num pre : Int))) _) (fr_own _ w5 w5.heap.size (Nat.le_refl _) hvis))
    (fun _ _ _ _ _ hs _ _ => hs)
    ⟨b0, Fr.refl _ _, Nat.le_refl _⟩
    ?a1 ?assign ?body ?done ?stop
  case assign =>
    intro lp x X K hK
    gi_wp2
    exact hK
  case body =>
    rintro lp pre x X ⟨hbx, hfr, hzz⟩ hlt
    have hcn := hbx.cell
    have hfn := hbx.frozen
    have hnl : num pre < 2 ^ 63 := Nat.lt_of_lt_of_le (num_lt pre) (Nat.pow_le_pow_right (by omega) (by omega))
    have HO := Lib.hid (shl_or (num pre) x hnl)
    have HSn := Lib.hid (num_snoc pre x)
    have hb1 := Bool.toNat_le x
    gi_wp2
    rw [HO.out, ← HSn.out]
    have hnk : ¬ kept w.heap.size w1.heap.size w1.heap.size := by rintro (h | h | h | h) <;> omega
    exact ⟨(KeepsOthers.setCell _ _ _).from _, fun j hj => Below.heap_setCell _ _ _ _ (fun e => by have e' : j = w1.heap.size := e; subst e'; exact hnk hj), hbx.set _, hfr.setCell (p := ⟨w1.heap.size, 0, none⟩) hnk _, by simpa [World.setCell] using hzz⟩
  case done =>
    rintro D ys X hD rfl ⟨hbx, hfr, hzz⟩ hK
    rw [Nat.add_sub_cancel_left] at hbx
    have hcn := hbx.cell
    have HF : Hid (Below w.heap.size w (X.putObj D (.deferred none))) := (hlow.trans (hfr.below (fun j hj => .inl hj))).trans (belowK_b (w := w) (Nat.le_refl _) X D _ _ (by have := hlow.size; omega) hK rfl rfl)
    generalize num (List.take k (List.drop p l)) = m at *
    gi_wp2
    refine ⟨by simp, .inl ⟨_, _, rfl, run_takeDeferred hK, ?_⟩⟩
    refine ⟨.tuple #[.int .u64 (m : Int), .int .i64 0], ?_, rfl, HF.out⟩
    simp [results, Try.results41, go_sem]
  case stop =>
    rintro D c pre W _ _ h _
    exact h.elim

/-- What Get answers. -/
def getE (len : Int) (bs : List Nat) (p width : Int) : Int := if chk len bs ≠ 0 then chk len bs else if width < 0 ∨ 64 < width ∨ p < 0 ∨ len < p then 3 else if len - p < width then 7 else 0
def getN (len : Int) (bs : List Nat) (p width : Int) : Nat := if getE len bs p width = 0 then num (((unpack len.toNat bs).drop p.toNat).take width.toNat) else 0

theorem get_any (len : Int) (A : Option Addr) (c : Nat) (bs : List Nat) (p width : Int) (w : World) (hb : ∀ b ∈ bs, b < 256) (h : Rd w w.heap.size A bs) :
    Calls Try.prog 41 #[.agg #[.int .i64 len, .slice A bs.length c], .int .i64 p, .int .i64 width] w (Got w (getN len bs p width) (getE len bs p width)) := by
  unfold getN
  by_cases hc : chk len bs = 0
  · obtain ⟨l, rfl, hl, rfl⟩ := chk_zero len bs hb hc
    by_cases hw : width < 0 ∨ 64 < width ∨ p < 0 ∨ (l.length : Int) < p
    · have e : getE (l.length : Int) (pack l) p width = 3 := by unfold getE; rw [if_neg (by omega), if_pos hw]
      rw [e, if_neg (by decide)]
      exact get_range l hl A c p width w h hw
    · by_cases hs : (l.length : Int) - p < width
      · have e : getE (l.length : Int) (pack l) p width = 7 := by unfold getE; rw [if_neg (by omega), if_neg hw, if_pos hs]
        rw [e, if_neg (by decide)]
        exact get_short l hl A c p width w h (by omega) (by omega) (by omega) (by omega) hs
      · have e : getE (l.length : Int) (pack l) p width = 0 := by unfold getE; rw [if_neg (by omega), if_neg hw, if_neg hs]
        rw [e, if_pos rfl]
        obtain ⟨q, rfl⟩ := Int.eq_ofNat_of_zero_le (show 0 ≤ p by omega)
        obtain ⟨k, rfl⟩ := Int.eq_ofNat_of_zero_le (show 0 ≤ width by omega)
        rw [Int.toNat_natCast, Int.toNat_natCast, Int.toNat_natCast, unpack_pack]
        exact get_ok l hl A c q k w h (by omega) (by omega)
  · have e : getE len bs p width = chk len bs := by unfold getE; rw [if_pos hc]
    rw [e, if_neg hc]
    exact get_bad len A c bs p width w hb h hc
end Go.Proofs.Ytgibbokhdfblmaa
