/- What All of unary answers, for whatever bits and however many it is asked for. -/
import Derived.Test.YtdjhcegkcjglcaaURead
namespace Go.Proofs.Ytdjhcegkcjglcaa
open Go.RowKit Go.Shelf

attribute [local go_sem] Oper.semAt_some

/-- How far it is from the position after the last code to a 1 bit, as a number of 64 bits. -/
def gap (a x : Nat) : Nat := if a ≤ x then x - a else 18446744073709551616 - (a - x)
/-- The position after the last one. -/
def aft (pre : List Nat) : Nat := match pre.getLast? with | none => 0 | some x => clamp 0 x + 1
def gaps : Nat → List Nat → List Nat
  | _, [] => []
  | a, x :: xs => gap a (clamp 0 x) :: gaps (clamp 0 x + 1) xs
theorem gaps_length : ∀ (xs : List Nat) (a : Nat), (gaps a xs).length = xs.length
  | [], _ => rfl
  | x :: xs, a => by simp [gaps, gaps_length xs]
theorem aft_snoc (pre : List Nat) (x : Nat) : aft (pre ++ [x]) = clamp 0 x + 1 := by simp [aft]
theorem gaps_snoc (xs : List Nat) (x : Nat) : ∀ a, gaps a (xs ++ [x]) = gaps a xs ++ [gap (match xs.getLast? with | none => a | some y => clamp 0 y + 1) (clamp 0 x)] := by
  induction xs with
  | nil => intro a; simp [gaps]
  | cons y ys ih =>
    intro a
    simp only [List.cons_append, gaps, ih]
    congr 3
    cases ys with
    | nil => simp
    | cons z zs =>
      rw [List.getLast?_cons_cons]
      cases hq : (z :: zs).getLast? with
      | none => simp at hq
      | some q => rfl
theorem gaps_snoc0 (xs : List Nat) (x : Nat) : gaps 0 (xs ++ [x]) = gaps 0 xs ++ [gap (aft xs) (clamp 0 x)] := by rw [gaps_snoc]; rfl
theorem aft_le (xs : List Nat) : aft xs ≤ 8192 := by
  unfold aft
  split
  · omega
  · unfold clamp; omega
theorem clamp0_le (x : Nat) : clamp 0 x ≤ 8191 := by unfold clamp; omega

/-- Numbers, a position and an error come back. -/
def AllP (w : World) (ns : List Nat) (to : Nat) (err : Int) (e : Ending) (w' : World) : Prop :=
  ∃ A c, e = .returned (.tuple #[.slice A ns.length c, .int .i64 (to : Int), .int .i64 err]) ∧ RdV w' w'.heap.size A (nc ns) ∧ Below w.heap.size w w'

theorem check_two (len : Int) (A : Option Addr) (c : Nat) (bs : List Nat) (p : Int) (w : World) (hb : ∀ b ∈ bs, b < 256) (h : Rd w w.heap.size A bs) :
    Calls Try.prog 66 #[.agg #[.int .i64 len, .slice A bs.length c]] ((w.alloc (.cells #[.int .i64 len, .slice A bs.length c] 25)).alloc (.cells #[.int .i64 p] 3)) fun e w' => e = .returned (.int .i64 (chk len bs)) ∧ Below (w.heap.size + 2) ((w.alloc (.cells #[.int .i64 len, .slice A bs.length c] 25)).alloc (.cells #[.int .i64 p] 3)) w' := by
  have hu := up2 w (.cells #[.int .i64 len, .slice A bs.length c] 25) (.cells #[.int .i64 p] 3)
  have hz : ((w.alloc (.cells #[.int .i64 len, .slice A bs.length c] 25)).alloc (.cells #[.int .i64 p] 3)).heap.size = w.heap.size + 2 := two_size w _ _
  have := check_any len A c bs _ hb (h.below hu hu.size)
  rwa [hz] at this

set_option maxHeartbeats 400000 in
theorem all_bad (len : Int) (A : Option Addr) (c : Nat) (bs : List Nat) (p : Int) (w : World) (hb : ∀ b ∈ bs, b < 256) (h : Rd w w.heap.size A bs) (hc : chk len bs ≠ 0) :
    Calls Try.prog 71 #[.agg #[.int .i64 len, .slice A bs.length c], .int .i64 p] w (AllP w [] 0 (chk len bs)) := by
  have HC := Lib.hid (check_two len A c bs p w hb h)
  have HU := Lib.hid (up2 w (.cells #[.int .i64 len, .slice A bs.length c] 25) (.cells #[.int .i64 p] 3))
  have hcb : (chk len bs != 0) = true := by simpa using hc
  clear hc hb h
  generalize chk len bs = e0 at *
  generalize bs.length = nn at *
  go_enter Try.func71, Try.ntmps71
  go_wp2_with (go_at_call 66; refine HC.out.mono ?_; rintro e w1 ⟨rfl, hq⟩; obtain ⟨hc1, hf1⟩ := old_cells hq)
  go_ret3
  exact ⟨none, 0, rfl, .inl rfl, HU.out.trans (hq.mono (by omega))⟩

set_option maxHeartbeats 400000 in
theorem all_range (l : List Bool) (hl : l.length ≤ 8192) (A : Option Addr) (c : Nat) (p : Int) (w : World) (h : Rd w w.heap.size A (pack l)) (hp : p < 0 ∨ 8192 < p) :
    Calls Try.prog 71 #[.agg #[.int .i64 (l.length : Int), .slice A (pack l).length c], .int .i64 p] w (AllP w [] 0 3) := by
  have hc0 := check_two (l.length : Int) A c (pack l) p w (pack_lt l) h
  rw [chk_pack l hl] at hc0
  have HC := Lib.hid hc0; clear hc0 h
  have HU := Lib.hid (up2 w (.cells #[.int .i64 (l.length : Int), .slice A (pack l).length c] 25) (.cells #[.int .i64 p] 3))
  generalize (pack l).length = nn at *
  generalize l.length = ln at *
  have hp2 : p < 0 ∨ (0 ≤ p ∧ 8192 < p) := by omega
  clear hp
  rcases hp2 with hp | ⟨hp0, hp⟩
  · have t1 : decide (p < 0) = true := by simp; omega
    go_enter Try.func71, Try.ntmps71
    go_wp2_with (go_at_call 66; refine HC.out.mono ?_; rintro e w1 ⟨rfl, hq⟩; obtain ⟨hc1, hf1⟩ := old_cells hq)
    go_ret3
    exact ⟨none, 0, rfl, .inl rfl, HU.out.trans (hq.mono (by omega))⟩
  · have t1 : decide (p < 0) = false := by simp; omega
    have t2 : decide (8192 < p) = true := by simp; omega
    go_enter Try.func71, Try.ntmps71
    go_wp2_with (go_at_call 66; refine HC.out.mono ?_; rintro e w1 ⟨rfl, hq⟩; obtain ⟨hc1, hf1⟩ := old_cells hq)
    go_ret3
    exact ⟨none, 0, rfl, .inl rfl, HU.out.trans (hq.mono (by omega))⟩

theorem own_slice25 {w : World} {base : Nat} {v : Value} {n : Nat} {xs : List Value} (h : w.ownsRow base 22 1 v n xs) : ∃ A c, v = .slice A n c := by
  rcases h.2 with ⟨rfl, rfl⟩ | ⟨g, cap, cur, rfl, _⟩
  · exact ⟨none, 0, rfl⟩
  · exact ⟨_, cap, rfl⟩

theorem info25 : (Try.prog.info? 22).map (fun i => (i.zero, i.size, i.bytes)) = some (some (.int .u64 0), 1, 8) := by kernel_rfl

/-- The blocks that All's visit keeps: s: the heap's size where All began; N: where it laid its own boxes. -/
def akept (N : Nat) (k : Nat) : Prop := k < N ∨ k = N + 2 ∨ k = N + 3

/-- The list so far, in its box. -/
def ARow (X : World) (N : Nat) (pre : List Nat) : Prop :=
  ∃ v, Boxed X N 86 v ∧ X.ownsRow N 22 1 v pre.length (nc (gaps 0 pre))
theorem aRow_own (N : Nat) : Own (fun (pre : List Nat) X => ARow X N pre) := by
  rintro pre X Y row ⟨v, hb, ho⟩ hg hr
  refine ⟨v, box_own N 86 (fun _ : Unit => v) () X Y row hb hg hr, ho.kept hg ?_⟩
  rcases ho.2 with ⟨rfl, _⟩ | ⟨g, cap, cur, rfl, _, hgb, _⟩
  · exact .inl rfl
  · refine .inr fun e' => ?_
    obtain ⟨o, h1, h2⟩ := hr g (by simpa [Value.ownBlock] using e'.symm)
    rw [hgb] at h1; cases h1; cases h2

theorem own_rdv {w : World} {base : Nat} {e : TypeId} {A : Option Addr} {n c : Nat} {vs : List Value} (h : w.ownsRow base e 1 (.slice A n c) n vs) : RdV w w.heap.size A vs := by
  rcases h.2 with ⟨_, h0⟩ | ⟨g, cap, cur, he, _, hg, _⟩
  · have := h.1
    rw [h0] at this
    exact .inl (List.eq_nil_of_length_eq_zero (by omega))
  · simp only [Value.slice.injEq] at he
    obtain ⟨rfl, _, _⟩ := he
    refine .inr ⟨g, 0, rfl, (Array.getElem?_eq_some_iff.1 hg).1, fun i v hi => ?_⟩
    have hh := h.cells (g := g) rfl i v hi
    have ha : (⟨g, 0, none⟩ : Addr).add i = ⟨g, 0 + i, none⟩ := by unfold Addr.add; split <;> simp_all
    rw [ha] at hh
    exact hh

theorem gap_wrap (pa cx : Nat) (h1 : pa ≤ 8192) (h2 : cx ≤ 8191) : ∃ g : Nat, IntKind.u64.wrap ((cx : Int) - (pa : Int)) = (g : Int) ∧ gap pa cx = g := by
  refine ⟨gap pa cx, ?_, rfl⟩
  rw [IntKind.wrap_u64]
  unfold gap
  split <;> omega

theorem row_ne25 {w : World} {W : Nat} {t : TypeId} {cs : Array Value} {base : Nat} (hW : w.heap[W]? = some (.cells cs t (0, 0))) (ht : t ≠ 22) {v : Value} {n : Nat} {xs : List Value} (h : w.ownsRow base 22 1 v n xs) : ∀ g, v.ownBlock = some g → g ≠ W := by
  rintro g hg rfl
  rcases h.2 with ⟨rfl, _⟩ | ⟨g', cap, cur, rfl, _, hh, _⟩
  · simp [Value.ownBlock] at hg
  · have : g' = g := by simpa [Value.ownBlock] using hg
    subst this
    rw [hW] at hh
    simp at hh
    exact ht hh.2

/-- One number more: behind the append, and behind the two stores. -/
theorem all_step {X w3 w5 : World} {N k g' cap' cx : Nat} {Av : Option Addr} {cv : Nat} {xs ys : List Value} {tmp : Obj} {b0 : Int}
    (hbv : Boxed X N 86 (.slice Av k cv)) (hba : Boxed X (N + 1) 3 (.int .i64 b0)) (hrow : X.ownsRow N 22 1 (.slice Av k cv) k xs)
    (hgrow : (X.alloc tmp).grownBy w3 (Value.slice Av k cv).ownBlock) (hown' : w3.ownsRow N 22 1 (.slice (some ⟨g', 0, none⟩) (k + 1) cap') (k + 1) ys)
    (h2 : ∃ cs, w5.heap[N + 2]? = some (.cells cs 25 (0, 0))) (h3 : ∃ cs, w5.heap[N + 3]? = some (.cells cs 3 (0, 0)))
    (hfr : Fr (akept N) w5 X) (hXs : N ≤ X.heap.size) (hz : N + 4 ≤ w5.heap.size) (hzz : w5.heap.size ≤ X.heap.size) :
    w3.cell? ⟨N, 0, none⟩ = some (.slice Av k cv) ∧ w3.frozen? ⟨N, 0, none⟩ = false ∧ w3.cell? ⟨N + 1, 0, none⟩ = some (.int .i64 b0) ∧ w3.frozen? ⟨N + 1, 0, none⟩ = false ∧
    Hid (Boxed ((w3.setCell ⟨N, 0, none⟩ (.slice (some ⟨g', 0, none⟩) (k + 1) cap')).setCell ⟨N + 1, 0, none⟩ (.int .i64 ((cx : Int) + 1))) N 86 (.slice (some ⟨g', 0, none⟩) (k + 1) cap') ∧
      ((w3.setCell ⟨N, 0, none⟩ (.slice (some ⟨g', 0, none⟩) (k + 1) cap')).setCell ⟨N + 1, 0, none⟩ (.int .i64 ((cx : Int) + 1))).ownsRow N 22 1 (.slice (some ⟨g', 0, none⟩) (k + 1) cap') (k + 1) ys ∧
      Boxed ((w3.setCell ⟨N, 0, none⟩ (.slice (some ⟨g', 0, none⟩) (k + 1) cap')).setCell ⟨N + 1, 0, none⟩ (.int .i64 ((cx : Int) + 1))) (N + 1) 3 (.int .i64 ((cx : Int) + 1)) ∧
      Fr (akept N) X ((w3.setCell ⟨N, 0, none⟩ (.slice (some ⟨g', 0, none⟩) (k + 1) cap')).setCell ⟨N + 1, 0, none⟩ (.int .i64 ((cx : Int) + 1)))) := by
  have hv1 : Boxed w3 N 86 (.slice Av k cv) := (hbv.alloc tmp).kept hgrow (hbv.not_row (by decide) hrow)
  have ha1 : Boxed w3 (N + 1) 3 (.int .i64 b0) := (hba.alloc tmp).kept hgrow (hba.not_row (by decide) hrow)
  have hne : some N ≠ (Value.slice (some ⟨g', 0, none⟩) (k + 1) cap').ownBlock := hv1.not_row (by decide) hown'
  have hne2 : some (N + 1) ≠ (Value.slice (some ⟨g', 0, none⟩) (k + 1) cap').ownBlock := ha1.not_row (by decide) hown'
  refine ⟨hv1.cell, hv1.frozen, ha1.cell, ha1.frozen, (hv1.set _).other (by omega) _, ?_, ((ha1.other (by omega) _).set _), ?_⟩
  · exact (hown'.kept (grownBy_setCell' w3 N _) (.inr hne.symm)).kept (grownBy_setCell' _ (N + 1) _) (.inr hne2.symm)
  · have nN : ¬ akept N N := by rintro (h | h | h) <;> omega
    have nN1 : ¬ akept N (N + 1) := by rintro (h | h | h) <;> omega
    refine ((((Fr.refl (akept N) X).alloc ?_ tmp).grown hgrow ?_ ?_ ?_).setCell (p := ⟨N, 0, none⟩) nN _).setCell (p := ⟨N + 1, 0, none⟩) nN1 _
    · rintro j (h | h | h) <;> omega
    · rintro j (h | h | h) <;> simp <;> omega
    · intro j hj hk
      rcases hk with h | h | h
      · have := (hrow.lt j hj).1; omega
      · obtain ⟨cs, hcs⟩ := h2
        exact row_ne25 ((hfr.block (N + 2) (.inr (.inl rfl))).trans hcs) (by decide) hrow j hj h
      · obtain ⟨cs, hcs⟩ := h3
        exact row_ne25 ((hfr.block (N + 3) (.inr (.inr rfl))).trans hcs) (by decide) hrow j hj h
    · intro j o hj ho
      exact own_cells (hrow.alloc tmp) j o hj ho

set_option maxRecDepth 100000 in
set_option maxHeartbeats 2000000 in
theorem all_in (l : List Bool) (hl : l.length ≤ 8192) (A : Option Addr) (c : Nat) (m : Nat) (w : World) (h : Rd w w.heap.size A (pack l)) (hm : m ≤ 8192) (rn : List Nat) (rt : Nat) (re : Int)
    (hr : ((pos 0 l).length < m ∧ rn = [] ∧ rt = 0 ∧ re = 7) ∨ (m ≤ (pos 0 l).length ∧ rn = gaps 0 ((pos 0 l).take m) ∧ rt = aft ((pos 0 l).take m) ∧ re = 0)) :
    Calls Try.prog 71 #[.agg #[.int .i64 (l.length : Int), .slice A (pack l).length c], .int .i64 (m : Int)] w (AllP w rn rt re) := by
  have hc0 := check_two (l.length : Int) A c (pack l) (m : Int) w (pack_lt l) h
  rw [chk_pack l hl] at hc0
  have HC := Lib.hid hc0; clear hc0
  have HU := Lib.hid (up2 w (.cells #[.int .i64 (l.length : Int), .slice A (pack l).length c] 25) (.cells #[.int .i64 (m : Int)] 3))
  have HM : Hid (((w.alloc (.cells #[.int .i64 (l.length : Int), .slice A (pack l).length c] 25)).alloc (.cells #[.int .i64 (m : Int)] 3)).heap[w.heap.size + 1]? = some (.cells #[.int .i64 (m : Int)] 3)) := two_new w _ _
  have HR := Lib.hid h; clear h
  have HP := Lib.hid hr; clear hr
  obtain ⟨i0, hi, hz0, hz1, hz2⟩ := info_parts info25
  have t1 : decide ((m : Int) < 0) = false := by simp
  have t2 : decide (8192 < (m : Int)) = false := by simp; omega
  refine (callsIn_wide (n := 4)).1 ?_
  refine callsIn_of_wp_marks Try.func71 rfl trivial ?_ rfl
  simp only [Try.ntmps71, List.size_toArray, List.length_cons, List.length_nil, Nat.reduceAdd, Nat.reduceSub, Array.replicate_succ, Array.replicate_zero, List.push_toArray, List.append_toArray, List.nil_append, List.cons_append]
  gi_wp2_with (first | (refine ⟨trivial, ?_⟩; gi_at_call 73; refine (ones_in 3 _ _ _ _ _ _).mono ?_; rintro e w' ⟨rfl, rfl⟩) | (refine ⟨trivial, ?_⟩; gi_at_call 66; refine (callsIn_wide.2 HC.out).mono ?_; rintro e w1 ⟨rfl, hq⟩; obtain ⟨hc1, hf1⟩ := old_cells hq; have hs1 : w.heap.size + 2 ≤ w1.heap.size := (by have := hq.size; rw [show ((w.alloc _).alloc _).heap.size = w.heap.size + 2 from two_size w _ _] at this; exact this); have hs2 : w.heap.size + 1 < w1.heap.size := (by omega); have hs3 : w.heap.size < w1.heap.size := (by omega)))
  simp only [Nat.add_assoc, Nat.reduceAdd]
  have hw0 : Below w.heap.size w w1 := HU.out.trans (hq.mono (by omega))
  have bm := (hq.block (w.heap.size + 1) (by omega)).trans HM.out
  clear hc1 hf1 HU HM hq
  obtain ⟨hz, a0, a1, a2, a3⟩ := four w1 (.cells #[.slice none 0 0] 86) (.cells #[.int .i64 0] 3) (.cells #[.int .i64 (l.length : Int), .slice A (pack l).length c] 25) (.cells #[.int .i64 0] 3)
  have hup : Below w1.heap.size w1 ((((w1.alloc (.cells #[.slice none 0 0] 86)).alloc (.cells #[.int .i64 0] 3)).alloc (.cells #[.int .i64 (l.length : Int), .slice A (pack l).length c] 25)).alloc (.cells #[.int .i64 0] 3)) := ((up2 w1 _ _).alloc (by simp only [World.size_alloc]; omega) _).alloc (by simp only [World.size_alloc]; omega) _
  generalize ((((w1.alloc (.cells #[.slice none 0 0] 86)).alloc (.cells #[.int .i64 0] 3)).alloc (.cells #[.int .i64 (l.length : Int), .slice A (pack l).length c] 25)).alloc (.cells #[.int .i64 0] 3)) = w5 at *
  replace bm := (hup.block _ (by omega)).trans bm
  have hlow : Below w.heap.size w w5 := hw0.trans (hup.mono (by omega))
  clear hup hw0
  have hvis : ∀ k, akept w1.heap.size k → k < w5.heap.size := by rintro k (h | h | h) <;> omega
  refine wpIn_rangeFunc_ownG rfl (by decide) (gf := 91) (lb := #[.pointer (some ⟨w1.heap.size + 3, 0, none⟩), .pointer (some ⟨w1.heap.size + 2, 0, none⟩)]) rfl trivial (enters_of Try.func91 (by kernel_rfl) rfl)
    (ones_stops 3 (by decide) (w1.heap.size + 3) (w1.heap.size + 2) w.heap.size c A (akept w1.heap.size) l hl 0 (by omega) (.inr (.inl rfl)) (fun k hk => .inl (by omega)) w5 hvis (by omega) (by omega)
      (box_cell a3) (blk_cells a2).1 (blk_cells a2).2.1 (HR.out.below hlow (Nat.le_refl _)))
    (fun h k => keepS_t h k) (keepS_b hvis) (Below.refl _ _) (fun _ => rfl)
    (fun pre X => (pre.length ≤ m ∧ ARow X w1.heap.size pre ∧ Boxed X (w1.heap.size + 1) 3 (.int .i64 (aft pre : Int))) ∧ (Fr (akept w1.heap.size) w5 X ∧ w5.heap.size ≤ X.heap.size))
    (fun cd pre X => (cd = .exit 0 ∧ ∃ p0 x, pre = p0 ++ [x] ∧ p0.length = m ∧ ARow X w1.heap.size p0 ∧ Boxed X (w1.heap.size + 1) 3 (.int .i64 (aft p0 : Int))) ∧ (Fr (akept w1.heap.size) w5 X ∧ w5.heap.size ≤ X.heap.size))
    (OwnFrom.and (Own.from (fun s X Y row hs hg hr => ⟨hs.1, aRow_own _ s X Y row hs.2.1 hg hr, box_own _ 3 (fun s : List Nat => .int .i64 (aft s : Int)) s X Y row hs.2.2 hg hr⟩) _) (fr_own _ w5 w5.heap.size (Nat.le_refl _) hvis))
    (fun cd => OwnFrom.and (Own.from (fun s X Y row hs hg hr => by
      obtain ⟨h1, p0, x, h2, h3, h4, h5⟩ := hs
      exact ⟨h1, p0, x, h2, h3, aRow_own _ p0 X Y row h4 hg hr, box_own _ 3 (fun s : List Nat => .int .i64 (aft s : Int)) p0 X Y row h5 hg hr⟩) _) (fr_own _ w5 w5.heap.size (Nat.le_refl _) hvis))
    ⟨⟨Nat.zero_le _, ⟨.slice none 0 0, a0, ⟨rfl, .inl ⟨rfl, rfl⟩⟩⟩, a1⟩, Fr.refl _ _, Nat.le_refl _⟩
    ?a1 ?assign ?body ?done ?stop
  case assign =>
    intro lp x X K hK
    gi_wp2
    exact hK
  case body =>
    rintro lp pre x X ⟨⟨hpm, ⟨v, hbv, hrow⟩, hba⟩, hfr, hzz⟩ hlt
    obtain ⟨Av, cv, rfl⟩ := own_slice25 hrow
    have cm : X.cell? ⟨w.heap.size + 1, 0, none⟩ = some (.int .i64 (m : Int)) := box_cell ((hfr.block _ (.inl (by omega))).trans bm)
    have cv1 := hbv.cell
    have fv1 := hbv.frozen
    have ca1 := hba.cell
    have fa1 := hba.frozen
    have hal := aft_le pre
    have hcl := clamp0_le x
    by_cases hfull : pre.length = m
    · have t3 : ((pre.length : Int) == (m : Int)) = true := by simp; omega
      have HFU := Lib.hid hfull; clear hfull
      gi_wp2
      exact ⟨KeepsFrom.refl _ _, ⟨rfl, pre, x, rfl, HFU.out, ⟨_, hbv, hrow⟩, hba⟩, hfr, hzz⟩
    · have t3 : ((pre.length : Int) == (m : Int)) = false := by simp; omega
      have hlm : pre.length < m := by omega
      clear hfull
      have HSN := Lib.hid (gaps_snoc0 pre x)
      have HAS := Lib.hid (aft_snoc pre x)
      generalize hcx : clamp 0 x = cx at *
      generalize hpa : aft pre = pa at *
      have HCX := Lib.hid hcx; clear hcx
      have HPA := Lib.hid hpa; clear hpa
      obtain ⟨g, hgw, hgg⟩ := gap_wrap pa cx hal hcl
      have HGG := Lib.hid hgg; clear hgg
      have hXs : w1.heap.size ≤ X.heap.size := by omega
      gi_wp2_with (gi_at_builtin; refine wpListIn_append_own _ rfl _ _ 86 rfl w1.heap.size 22 i0 (.int .u64 0) 1 8 Try.underlying86 hi hz0 hz1 hz2 rfl (by decide) _ _ _ rfl (hrow.alloc _) ⟨X.heap.size, 0, none⟩ 1 1 [.int .u64 (g : Int)] rfl rfl (cell_one_new _ _ _) (by simp [Value.oneCell']) (by unfold maxLen; omega) (by omega) (by simp; omega) ?_; intro v' w3 hown' hgrow _; obtain ⟨g', cap', rfl⟩ := ownsRow_succ hown'; obtain ⟨e1, e2, e3, e4, HE⟩ := all_step (cx := cx) hbv hba hrow hgrow hown' ⟨_, a2⟩ ⟨_, a3⟩ hfr hXs (by omega) hzz; clear hgrow)
      obtain ⟨E1, E2, E3, E4⟩ := HE.out
      refine ⟨E4.others.from _, ⟨E4.block, E4.size⟩, ⟨by simp; omega, ⟨_, E1, ?_⟩, ?_⟩, hfr.trans E4, Nat.le_trans hzz E4.size⟩
      · rw [HSN.out, HGG.out, nc_append, List.length_append]
        exact E2
      · rw [HAS.out]
        exact E3
  case done =>
    rintro D ys X hD rfl ⟨⟨hpm, ⟨v, hbv, hrow⟩, hba⟩, hfr, hzz⟩ hK
    rw [List.drop_zero] at hpm hrow hba
    obtain ⟨Av, cv, rfl⟩ := own_slice25 hrow
    have HR3 : Hid (RdV (X.putObj D (.deferred none)) (X.putObj D (.deferred none)).heap.size Av (nc (gaps 0 (pos 0 l)))) := own_rdv (ownsRow_putObj hrow _ hK rfl)
    have HL : Hid (Below w.heap.size w (X.putObj D (.deferred none))) := (hlow.trans (hfr.below (fun j hj => .inl (by omega)))).trans (belowK_b (w := w) (Nat.le_refl _) _ D _ _ (by omega) hK rfl rfl)
    have cm : X.cell? ⟨w.heap.size + 1, 0, none⟩ = some (.int .i64 (m : Int)) := box_cell ((hfr.block _ (.inl (by omega))).trans bm)
    have cv1 := hbv.cell
    have ca1 := hba.cell
    rcases HP.out with ⟨h, rfl, rfl, rfl⟩ | ⟨h, rfl, rfl, rfl⟩
    · have t3 : decide (((pos 0 l).length : Int) < (m : Int)) = true := by simp; omega
      clear hpm hrow
      gi_wp2
      refine ⟨by simp, .inl ⟨_, _, rfl, run_takeDeferred hK, ?_⟩⟩
      refine ⟨.tuple #[.slice none 0 0, .int .i64 0, .int .i64 7], ?_, none, 0, rfl, .inl rfl, HL.out⟩
      simp [results, Try.results71, go_sem]
    · have t3 : decide (((pos 0 l).length : Int) < (m : Int)) = false := by simp; omega
      have HTK : Hid ((pos 0 l).take m = pos 0 l) := List.take_of_length_le (by omega)
      have hgl := gaps_length (pos 0 l) 0
      have HGL := Lib.hid hgl; clear hgl hpm hrow
      gi_wp2
      gi_region
      gi_wp2
      refine ⟨by simp, .inl ⟨_, _, rfl, run_takeDeferred (w := X.drew) hK, ?_⟩⟩
      rw [HTK.out]
      refine ⟨.tuple #[.slice Av (gaps 0 (pos 0 l)).length cv, .int .i64 (aft (pos 0 l) : Int), .int .i64 0], ?_, Av, cv, rfl, HR3.out, ⟨HL.out.os, HL.out.tape, HL.out.output, HL.out.size, HL.out.block⟩⟩
      rw [HGL.out]
      simp [results, Try.results71, go_sem]
  case stop =>
    rintro D cd pre X hD hpre ⟨⟨rfl, p0, x, rfl, hp0, ⟨v, hbv, hrow⟩, hba⟩, hfr, hzz⟩ hK
    rw [List.drop_zero] at hpre
    have hp1 : p0 <+: pos 0 l := (List.prefix_append p0 [x]).trans hpre
    have hpe : p0 = (pos 0 l).take m := by rw [List.prefix_iff_eq_take.1 hp1, hp0]
    have hpl : m ≤ (pos 0 l).length := by rw [← hp0]; exact hp1.length_le
    obtain ⟨Av, cv, rfl⟩ := own_slice25 hrow
    have HR3 : Hid (RdV (X.putObj D (.deferred none)) (X.putObj D (.deferred none)).heap.size Av (nc (gaps 0 p0))) := own_rdv (ownsRow_putObj hrow _ hK rfl)
    have HL : Hid (Below w.heap.size w (X.putObj D (.deferred none))) := (hlow.trans (hfr.below (fun j hj => .inl (by omega)))).trans (belowK_b (w := w) (Nat.le_refl _) _ D _ _ (by omega) hK rfl rfl)
    have cm : X.cell? ⟨w.heap.size + 1, 0, none⟩ = some (.int .i64 (m : Int)) := box_cell ((hfr.block _ (.inl (by omega))).trans bm)
    have cv1 := hbv.cell
    have ca1 := hba.cell
    rcases HP.out with ⟨h, _⟩ | ⟨h, rfl, rfl, rfl⟩
    · omega
    · have t3 : decide ((p0.length : Int) < (m : Int)) = false := by simp; omega
      have HPE := Lib.hid hpe
      have hgl := gaps_length p0 0
      have hge : m ≤ p0.length := by omega
      have HGL := Lib.hid hgl; clear hgl hpe hpl hp1 hpre hrow hp0
      gi_wp2
      gi_region
      gi_wp2
      refine ⟨by simp, .inl ⟨_, _, rfl, run_takeDeferred (w := X.drew) hK, ?_⟩⟩
      rw [← HPE.out]
      refine ⟨.tuple #[.slice Av (gaps 0 p0).length cv, .int .i64 (aft p0 : Int), .int .i64 0], ?_, Av, cv, rfl, HR3.out, ⟨HL.out.os, HL.out.tape, HL.out.output, HL.out.size, HL.out.block⟩⟩
      rw [HGL.out]
      simp [results, Try.results71, go_sem]
end Go.Proofs.Ytdjhcegkcjglcaa
