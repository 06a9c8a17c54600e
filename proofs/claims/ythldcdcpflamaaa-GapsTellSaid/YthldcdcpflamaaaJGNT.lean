/- The document's own answer on rising lists, gaps, and gaps as bits; for whatever they are handed, each with its conditions. -/
import Derived.Test.YthldcdcpflamaaaJGNBegun
import Derived.Deep.RegionHeld3
import Derived.Test.YthldcdcpflamaaaJGNRefs
namespace Go.Proofs.Ythldcdcpflamaaa
section
set_option maxRecDepth 100000
set_option linter.unusedVariables false
open Go.RowKit Go.Shelf

theorem below_drewN' {B : Nat} {w X : World} (h : Below B w X) (k : Nat) : Below B w (X.drewN k) := ⟨h.os, h.tape, h.output, h.size, h.block⟩
theorem rck_cons (v x : Int) (t : List Int) : rck v (x :: t) = if x < 0 ∨ 1048576 < x then 3 else if x ≤ v then 4 else rck x t := rfl
/-- The number ahead. -/
def ahd (xs : List Int) (i : Nat) : Int := if i = 0 then -1 else xs[i - 1]?.getD 0
theorem ahd_succ (xs : List Int) (i : Nat) : ahd xs (i + 1) = xs[i]?.getD 0 := by unfold ahd; rw [if_neg (by omega)]; rfl
def RcRel (xs : List Int) (w : World) (p : Value) (wr : World) : Prop :=
  ∃ i : Nat, i ≤ xs.length ∧ p = .int .i64 (i : Int) ∧ rck (-1) xs = rck (ahd xs i) (xs.drop i) ∧ Below w.heap.size w wr
set_option maxHeartbeats 2000000 in
theorem rising_any (xs : List Int) (n : Nat) (hn : xs.length = n) (hn2 : n ≤ 9223372036854775807) (A : Option Addr) (c : Nat) (w : World) (h : RdV w w.heap.size A (zc xs)) :
    Calls Try.prog 18 #[.slice A n c] w fun e w' => e = .returned (.int .i64 (rchk xs)) ∧ Below w.heap.size w w' := by
  by_cases h300 : 300 < n
  · have er : rchk xs = 2 := by unfold rchk; rw [if_pos (by omega)]
    rw [er]
    have t0 : decide ((300 : Int) < (n : Int)) = true := by simp; omega
    have t1 : decide (300 < n) = true := by simpa using h300
    go_enter Try.func18, Try.ntmps18
    go_wp2
    go_ret
    exact ⟨rfl, Below.refl _ _⟩
  · have er : rchk xs = rck (-1) xs := by unfold rchk; rw [if_neg (by omega)]
    rw [er]
    obtain ⟨r, hr⟩ : ∃ r, rck (-1) xs = r := ⟨_, rfl⟩
    rw [hr]
    have HRr := Lib.hid hr
    have HX := Lib.hid h; have HN := Lib.hid hn
    have t0 : decide ((300 : Int) < (n : Int)) = false := by simp; omega
    have t1 : decide (300 < n) = false := by simpa using h300
    have hn3 : n ≤ 300 := by omega
    clear h hn hr er
    go_enter Try.func18, Try.ntmps18
    go_wp2
    clear t0 t1
    go_loopw [3] (fun p wr => RcRel xs w p wr) (fun p _ => n - (intOf p).toNat)
    case atStart => exact ⟨0, Nat.zero_le _, rfl, rfl, Below.refl _ _⟩
    case round =>
      obtain ⟨i, hi, rfl, hck, hbel⟩ := hrel
      rw [HN.out] at hi
      by_cases hlt : i < n
      · have hin : i < xs.length := by rw [HN.out]; exact hlt
        obtain ⟨b, off, rfl, hb, hc1⟩ := (HX.out.on hbel).at_ (zc_get xs i hin)
        rw [drop_at xs i hin, rck_cons] at hck
        have hsu := ahd_succ xs i
        have t1 : decide ((i : Int) < (n : Int)) = true := by simp; omega
        have t2 : decide (i < n) = true := by simpa using hlt
        have t3 : (0 : Int) ≤ (i : Int) := by omega
        have t4 : (i : Int) < (n : Int) := by omega
        by_cases hr1 : xs[i]?.getD 0 < 0 ∨ 1048576 < xs[i]?.getD 0
        · rw [if_pos hr1] at hck
          obtain rfl : r = 3 := by rw [← HRr.out, hck]
          have hbt := between_no (xs[i]?.getD 0) 0 1048576 (by omega)
          have HBt := Lib.hid hbt
          have HB := Lib.hid hbel
          clear hck hsu hr1 hbt hbel HRr
          generalize xs[i]?.getD 0 = x at *
          go_wp2_with fail
          refine (HBt.out _).mono ?_
          rintro e _ ⟨rfl, rfl⟩
          go_wp2
          go_ret
          exact ⟨rfl, HB.out⟩
        · rw [if_neg hr1] at hck
          have hbt := between_yes (xs[i]?.getD 0) 0 1048576 (by omega)
          have HBt := Lib.hid hbt
          have HB := Lib.hid hbel
          clear hbt
          by_cases hi0 : i = 0
          · subst hi0
            have hne : ¬ xs[0]?.getD 0 ≤ ahd xs 0 := by unfold ahd; rw [if_pos rfl]; omega
            rw [if_neg hne, ← hsu] at hck
            have HCk := Lib.hid hck
            clear hck hsu hr1 hbel hne
            have hc0 : wr.cell? ⟨b, off, none⟩ = some (.int .i64 (xs[0]?.getD 0)) := by simpa using hc1
            generalize xs[0]?.getD 0 = x at *
            go_wp2_with fail
            refine (HBt.out _).mono ?_
            rintro e _ ⟨rfl, rfl⟩
            go_wp2
            go_quiet (fail)
            go_wp2
            go_roundw
            case rel => exact ⟨1, by rw [HN.out]; omega, by go_num, HCk.out, below_drewN' HB.out _⟩
            case measure => simp [intOf]; omega
          · obtain ⟨b2, off2, hA2, hb2, hc0⟩ := (HX.out.on hbel).at_ (zc_get xs (i - 1) (by omega))
            simp only [Option.some.injEq, Addr.mk.injEq, and_true] at hA2
            obtain ⟨rfl, rfl⟩ := hA2
            have hah : ahd xs i = xs[i - 1]?.getD 0 := by unfold ahd; rw [if_neg hi0]
            rw [hah] at hck
            have t5 : (0 : Int) ≤ (i : Int) - 1 := by omega
            have t6 : (i : Int) - 1 < (n : Int) := by omega
            have t7 : ((i : Int) - 1).toNat = i - 1 := by omega
            have t8 : (1 : Int) ≤ (i : Int) := by omega
            have t9 : (i : Int) < (n : Int) + 1 := by omega
            have t10 : (i : Int) ≤ (n : Int) := by omega
            have t11 : i - 1 < n := by omega
            have t12 : decide ((0 : Int) < (i : Int)) = true := by simp; omega
            have t13 : decide (0 < i) = true := by simp; omega
            have ts : IntKind.i64.wrap ((i : Int) - 1) = (i : Int) - 1 := IntWalk.i64_in _ (by omega)
            by_cases hle : xs[i]?.getD 0 ≤ xs[i - 1]?.getD 0
            · rw [if_pos hle] at hck
              obtain rfl : r = 4 := by rw [← HRr.out, hck]
              have te : decide (xs[i]?.getD 0 ≤ xs[i - 1]?.getD 0) = true := by simpa using hle
              clear hck hsu hr1 hbel hle hah HRr
              generalize xs[i]?.getD 0 = x at *
              generalize xs[i - 1]?.getD 0 = y at *
              go_wp2_with fail
              refine (HBt.out _).mono ?_
              rintro e _ ⟨rfl, rfl⟩
              go_wp2
              go_quiet (fail)
              go_wp2
              go_ret
              exact ⟨rfl, below_drewN' HB.out _⟩
            · rw [if_neg hle, ← hsu] at hck
              have HCk := Lib.hid hck
              have te : decide (xs[i]?.getD 0 ≤ xs[i - 1]?.getD 0) = false := by simpa using hle
              clear hck hsu hr1 hbel hle hah
              generalize xs[i]?.getD 0 = x at *
              generalize xs[i - 1]?.getD 0 = y at *
              go_wp2_with fail
              refine (HBt.out _).mono ?_
              rintro e _ ⟨rfl, rfl⟩
              go_wp2
              go_quiet (fail)
              go_wp2
              go_roundw
              case rel => exact ⟨i + 1, by rw [HN.out]; omega, by go_num, HCk.out, below_drewN' HB.out _⟩
              case measure => simp [intOf]; omega
      · rw [List.drop_of_length_le (by rw [HN.out]; omega)] at hck
        obtain rfl : r = 0 := by rw [← HRr.out, hck]; rfl
        have HB := Lib.hid hbel
        clear hck hbel HRr
        have t1 : decide ((i : Int) < (n : Int)) = false := by simp; omega
        have t2 : decide (i < n) = false := by simpa using hlt
        go_wp2
        go_ret
        exact ⟨rfl, HB.out⟩

/-- What a gap tells, as the document has it. -/
def gnx (g : Nat) (a : Int) (f : Bool) : Int := if 4194304 < g then -1 else if 0 ≤ (if f then a + unfold_ g else a + g + 1) ∧ (if f then a + unfold_ g else a + g + 1) ≤ 1048576 then (if f then a + unfold_ g else a + g + 1) else -1
theorem gnx_t (g : Nat) (a : Int) : gnx g a true = if 4194304 < g then -1 else if 0 ≤ a + unfold_ g ∧ a + unfold_ g ≤ 1048576 then a + unfold_ g else -1 := by unfold gnx; rfl
theorem gnx_f (g : Nat) (a : Int) : gnx g a false = if 4194304 < g then -1 else if 0 ≤ a + g + 1 ∧ a + g + 1 ≤ 1048576 then a + g + 1 else -1 := by unfold gnx; simp
set_option maxHeartbeats 1000000 in
theorem gnext_w (g : Nat) (a : Nat) (hg : g ≤ 4194304) (ha : a ≤ 1048576) (f : Bool) (x : Int) (hx : x = if f then (a : Int) + unfold_ g else (a : Int) + g + 1) (ok : Bool) (r : Int) (hok : decide (0 ≤ x ∧ x ≤ 1048576) = ok) (hr : r = if ok then x else -1) (w : World) :
    Calls Try.prog 47 #[.int .u64 (g : Int), .int .i64 (a : Int), .bool f] w fun e w' => e = .returned (.int .i64 r) ∧ w = w' := by
  have HB := Lib.hid (between_any x 0 1048576)
  rw [hok] at HB
  have t0 : decide ((4194304 : Int) < (g : Int)) = false := by simp; omega
  have t1 : decide (4194304 < g) = false := by simp; omega
  have hu : unfold_ g = if g % 2 = 1 then -((g : Int) / 2) - 1 else (g : Int) / 2 := rfl
  rw [hu] at hx
  clear hok hu
  cases f with
  | false =>
    simp only [Bool.false_eq_true, if_false] at hx
    subst hx
    cases ok with
    | false =>
      simp only [Bool.false_eq_true, if_false] at hr
      subst hr
      go_enter Try.func47, Try.ntmps47
      go_wp2_with fail
      refine (HB.out _).mono ?_
      rintro e _ ⟨rfl, rfl⟩
      go_wp2
      go_ret
      exact ⟨rfl, rfl⟩
    | true =>
      simp only [if_true] at hr
      subst hr
      go_enter Try.func47, Try.ntmps47
      go_wp2_with fail
      refine (HB.out _).mono ?_
      rintro e _ ⟨rfl, rfl⟩
      go_wp2
      go_ret
      exact ⟨rfl, rfl⟩
  | true =>
    simp only [if_true] at hx
    by_cases hm : g % 2 = 1
    · rw [if_pos hm] at hx
      have t2 : ((g : Int) % 2 == 1) = true := by simp; omega
      have hx2 : (a : Int) - (g : Int) / 2 - 1 = x := by omega
      subst hx2
      clear hm hx
      cases ok with
      | false =>
        simp only [Bool.false_eq_true, if_false] at hr
        subst hr
        go_enter Try.func47, Try.ntmps47
        go_wp2_with fail
        refine (HB.out _).mono ?_
        rintro e _ ⟨rfl, rfl⟩
        go_wp2
        go_ret
        exact ⟨rfl, rfl⟩
      | true =>
        simp only [if_true] at hr
        subst hr
        go_enter Try.func47, Try.ntmps47
        go_wp2_with fail
        refine (HB.out _).mono ?_
        rintro e _ ⟨rfl, rfl⟩
        go_wp2
        go_ret
        exact ⟨rfl, rfl⟩
    · rw [if_neg hm] at hx
      have t2 : ((g : Int) % 2 == 1) = false := by simp; omega
      subst hx
      clear hm
      cases ok with
      | false =>
        simp only [Bool.false_eq_true, if_false] at hr
        subst hr
        go_enter Try.func47, Try.ntmps47
        go_wp2_with fail
        refine (HB.out _).mono ?_
        rintro e _ ⟨rfl, rfl⟩
        go_wp2
        go_ret
        exact ⟨rfl, rfl⟩
      | true =>
        simp only [if_true] at hr
        subst hr
        go_enter Try.func47, Try.ntmps47
        go_wp2_with fail
        refine (HB.out _).mono ?_
        rintro e _ ⟨rfl, rfl⟩
        go_wp2
        go_ret
        exact ⟨rfl, rfl⟩
set_option maxHeartbeats 400000 in
theorem gnext_any (g : Nat) (hg : g < 18446744073709551616) (a : Nat) (ha : a ≤ 1048576) (f : Bool) (w : World) :
    Calls Try.prog 47 #[.int .u64 (g : Int), .int .i64 (a : Int), .bool f] w fun e w' => e = .returned (.int .i64 (gnx g (a : Int) f)) ∧ w = w' := by
  by_cases h : 4194304 < g
  · have e1 : gnx g (a : Int) f = -1 := by unfold gnx; rw [if_pos h]
    rw [e1]
    have t0 : decide ((4194304 : Int) < (g : Int)) = true := by simp; omega
    have t1 : decide (4194304 < g) = true := by simpa using h
    go_enter Try.func47, Try.ntmps47
    go_wp2
    go_ret
    exact ⟨rfl, rfl⟩
  · refine gnext_w g a (by omega) ha f _ rfl _ _ rfl ?_ w
    unfold gnx
    rw [if_neg h]
    by_cases hh : 0 ≤ (if f then (a : Int) + unfold_ g else (a : Int) + g + 1) ∧ (if f then (a : Int) + unfold_ g else (a : Int) + g + 1) ≤ 1048576
    · rw [if_pos hh, decide_eq_true hh, if_pos rfl]
    · rw [if_neg hh, decide_eq_false hh]; rfl
/-- Where the last number is. -/
def lastOr (l : List Nat) (a : Nat) : Nat := if l = [] then a else l.getLast?.getD 0
theorem gnx_el (l : List Nat) (g a : Nat) (ha : a ≤ 1048576) : gnx g ((lastOr l a : Nat) : Int) (decide (l = [])) = if elE l g a = 0 then el l g a else -1 := by
  by_cases hl : l = []
  · subst hl
    have e0 : lastOr [] a = a := rfl
    have e1 : el [] g a = (a : Int) + unfold_ g := by unfold el; rw [if_pos rfl]
    rw [e0, show (decide (([] : List Nat) = [])) = true from rfl, gnx_t]
    unfold elE
    rw [e1]
    have hu : unfold_ g = if g % 2 = 1 then -((g : Int) / 2) - 1 else (g : Int) / 2 := rfl
    rw [hu]
    split <;> split <;> split <;> (try split) <;> omega
  · have e0 : lastOr l a = l.getLast?.getD 0 := by unfold lastOr; rw [if_neg hl]
    have e1 : el l g a = ((l.getLast?.getD 0 : Nat) : Int) + 1 + (g : Int) := by unfold el; rw [if_neg hl]
    rw [e0, decide_eq_false hl, gnx_f]
    unfold elE
    rw [e1]
    split <;> split <;> (try split) <;> omega
theorem lastOr_snoc (l : List Nat) (x a : Nat) : lastOr (l ++ [x]) a = x := by unfold lastOr; rw [if_neg (by simp)]; simp
theorem lastOr_le (l : List Nat) (a : Nat) (ha : a ≤ 1048576) (hl : ∀ x ∈ l, x ≤ 1048576) : lastOr l a ≤ 1048576 := by
  unfold lastOr
  split
  · exact ha
  · rename_i h
    rw [last_at l l.length rfl]
    exact hl _ (at_mem l _ (by have := List.length_pos_iff.2 h; omega))
end

section
set_option maxRecDepth 100000
set_option linter.unusedVariables false
open Go.RowKit Go.Shelf

/-- The append of a number at a step of a region that draws its order. -/
theorem app8s {w : World} {ops : Array Oper} {o : Oper} {a : Act} {K : Act → World → Prop} {Q : Exit → Act → World → Prop} {E : Prop} (hgd : o.guard = none) (s x : Operand)
    (ho : o.op = .call { callee := .builtin .append, args := #[s, x], argTypes := #[23, 23] }) (base : Nat)
    (v : Value) (n : Nat) (xs : List Value) (hs : a.eval s = v) (hown : w.ownsRow base 48 1 v n xs)
    (A : Option Addr) (m c : Nat) (news : List Value) (hx : a.eval x = .slice A m c) (hr : RdV w w.heap.size A news) (hlen : news.length = m) (h1 : ∀ u ∈ news, u.oneCell' = true) (hc : A = none → c = 0)
    (hb : (n + m) * 8 ≤ 140737488355328) (hbase : base ≤ w.heap.size)
    (h : ∀ v' w', w'.ownsRow base 48 1 v' (n + m) (xs ++ news) → w.grownBy w' v.ownBlock → K (a.put o.dst v') w') : if Region.wanted o (yielded ops a.tmps) = true then Oper.wp Try.prog o a w K Q else E := by
  have hw : Region.wanted o (yielded ops a.tmps) = true := by simp [Region.wanted, hgd]
  rw [if_pos hw]
  obtain ⟨i0, hi, hz0, hz1, hz2⟩ := info_parts info25
  have key : ∃ v' w', (Builtin.append_ #[23, 23] o.type #[v, .slice A m c]).run Try.prog w = .ok v' w' ∧ w'.ownsRow base 48 1 v' (n + m) (xs ++ news) ∧ w.grownBy w' v.ownBlock := by
    rcases A with _ | ad
    · obtain rfl : news = [] := by
        rcases hr with h | ⟨b, off, h, _⟩
        · exact h
        · cases h
      obtain rfl : m = 0 := by simpa using hlen.symm
      obtain rfl := hc rfl
      exact ⟨v, w, run_append_owned_none (P := Try.prog) (w := w) base 23 o.type 48 i0 1 Try.underlying23 hi v n xs hown, by simpa using hown, World.grownBy.refl w _⟩
    · have hcells : ∀ j u, news[j]? = some u → w.cell? (ad.add j) = some u := by
        rcases hr with rfl | ⟨b, off, e, _, hcell⟩
        · intro j u hu; simp at hu
        · cases e
          intro j u hu
          have ha : (⟨b, off, none⟩ : Addr).add j = ⟨b, off + j, none⟩ := by unfold Addr.add; split <;> simp_all
          rw [ha]
          exact hcell j u hu
      obtain ⟨v', w', hrun, h2, h3, _⟩ := run_append_own (P := Try.prog) w base 23 o.type 48 i0 (.int .u64 0) 1 8 Try.underlying23 hi hz0 hz1 hz2 rfl (by decide) v n xs hown ad m c news (by omega) hcells h1 (by unfold maxLen; omega) hb hbase
      exact ⟨v', w', hrun, h2, h3⟩
  obtain ⟨v', w', hrun, h2, h3⟩ := key
  unfold Oper.wp execOp
  simp only [ho, resolve, invoke, builtin, Sem.run_bind, Sem.run_pure, Result.andThen_ok, List.map_toArray, List.map_cons, List.map_nil, hs, hx, hrun]
  exact h v' w' h2 h3


def RbRel (gs : List Nat) (a : Nat) (w : World) (q v p : Value) (wr : World) : Prop :=
  ∃ (i : Nat) (l : List Nat), i ≤ gs.length ∧ p = .int .i64 (i : Int) ∧ q = .int .i64 ((lastOr l a : Nat) : Int) ∧ bk a [] (gs.take i) = some l ∧ wr.ownsRow w.heap.size 3 1 v i (zc (ns l)) ∧ Below w.heap.size w wr
set_option maxHeartbeats 400000 in
theorem rback_many (n : Nat) (h : 300 < n) (a : Int) (A : Option Addr) (c : Nat) (w : World) :
    Calls Try.prog 20 #[.slice A n c, .int .i64 a] w (IntsP w [] 2) := by
  have t0 : decide ((300 : Int) < (n : Int)) = true := by simp; omega
  have t1 : decide (300 < n) = true := by simp; omega
  go_enter Try.func20, Try.ntmps20
  go_wp2
  go_ret2
  exact ⟨none, 0, rfl, Nat.le_refl _, fun _ => rfl, .inl rfl, Below.refl _ _⟩
set_option maxHeartbeats 400000 in
theorem rback_at (n : Nat) (h : n ≤ 300) (a : Int) (ha : okN a = false) (A : Option Addr) (c : Nat) (w : World) :
    Calls Try.prog 20 #[.slice A n c, .int .i64 a] w (IntsP w [] 3) := by
  have t0 : decide ((300 : Int) < (n : Int)) = false := by simp; omega
  have t1 : decide (300 < n) = false := by simp; omega
  have hn0 := between_any a 0 1048576
  rw [show decide (0 ≤ a ∧ a ≤ 1048576) = false from ha] at hn0
  have HN := Lib.hid hn0; clear hn0
  go_enter Try.func20, Try.ntmps20
  go_wp2_with fail
  refine (HN.out _).mono ?_
  rintro e _ ⟨rfl, rfl⟩
  go_wp2
  go_ret2
  exact ⟨none, 0, rfl, Nat.le_refl _, fun _ => rfl, .inl rfl, Below.refl _ _⟩
set_option maxHeartbeats 2000000 in
theorem rback_in (gs : List Nat) (n : Nat) (hn : gs.length = n) (h300 : n ≤ 300) (hg : ∀ g ∈ gs, g < 18446744073709551616) (a : Nat) (ha : a ≤ 1048576) (R : List Nat) (e0 : Int) (hR : R = (bk a [] gs).getD []) (he0 : e0 = if bk a [] gs = none then 3 else 0) (A : Option Addr) (c : Nat) (w : World) (h : RdV w w.heap.size A (nc gs)) :
    Calls Try.prog 20 #[.slice A n c, .int .i64 (a : Int)] w (IntsP w R e0) := by
  have HRR := Lib.hid hR; clear hR
  have HE0 := Lib.hid he0; clear he0
  have t0 : decide ((300 : Int) < (n : Int)) = false := by simp; omega
  have t1 : decide (300 < n) = false := by simp; omega
  have HN := Lib.hid (between_yes (a : Int) 0 1048576 (by omega))
  obtain ⟨i0, hi, hz0, hz1, hz2⟩ := info_parts info3
  have HX := Lib.hid h; clear h
  have HL := Lib.hid hn; clear hn
  have HGs := Lib.hid hg; clear hg
  go_enter Try.func20, Try.ntmps20
  go_wp2_with fail
  refine (HN.out _).mono ?_
  rintro e _ ⟨rfl, rfl⟩
  clear t0 t1
  go_wp2
  go_loopw [1, 6, 7] (fun q v p wr => RbRel gs a w q v p wr) (fun _ _ p _ => n - (intOf p).toNat)
  case atStart => exact ⟨0, [], Nat.zero_le _, rfl, rfl, rfl, ⟨rfl, .inl ⟨rfl, rfl⟩⟩, Below.refl _ _⟩
  case round =>
    obtain ⟨i, l, hi', rfl, rfl, hbk, hrow, hbel⟩ := hrel
    rw [HL.out] at hi'
    by_cases hlt : i < n
    · have hin : i < gs.length := by rw [HL.out]; exact hlt
      obtain ⟨b, off, rfl, hb, hcx⟩ := (HX.out.on hbel).at_ (nc_get gs i hin)
      have hg0 := HGs.out _ (at_mem gs i hin)
      have htk := take_snoc gs i hin
      have hsn := bk_snoc a (gs.take i) [] (gs[i]?.getD 0)
      rw [← htk, hbk, Option.bind_some] at hsn
      have hpre := fun h => bk_pre a (gs.take (i + 1)) [] (gs.drop (i + 1)) h
      rw [List.take_append_drop] at hpre
      have hll := bk_length a _ _ _ hbk
      rw [List.length_take, Nat.min_eq_left (by omega)] at hll
      have hle := bk_le a _ _ _ hbk (by simp)
      have HB := Lib.hid hbel
      have hge := gnx_el l (gs[i]?.getD 0) a ha
      have hlo := lastOr_le l a ha hle
      have hdl : decide (l = []) = decide (i = 0) := by
        simp only [List.length_nil, Nat.zero_add] at hll
        by_cases hi0 : i = 0
        · rw [decide_eq_true hi0, decide_eq_true (List.eq_nil_of_length_eq_zero (by omega))]
        · rw [decide_eq_false hi0, decide_eq_false (by rintro rfl; simp at hll; omega)]
      have hE := gnext_any (gs[i]?.getD 0) hg0 (lastOr l a) hlo (decide (l = []))
      rw [hge, hdl] at hE
      have hsn2 := fun x => lastOr_snoc l x a
      clear htk hbel hge hdl
      generalize gs[i]?.getD 0 = g at *
      generalize lastOr l a = lo at *
      obtain ⟨Av, cv, rfl⟩ := own_slice3 hrow
      obtain ⟨bf, hbf⟩ : ∃ bf : Bool, decide (i = 0) = bf := ⟨_, rfl⟩
      have tf : ((i : Int) == 0) = bf := by rw [← hbf]; by_cases h : i = 0 <;> simp [h]
      rw [hbf] at hE
      clear hbf
      by_cases h0 : elE l g a = 0
      · rw [if_pos h0] at hE
        rw [if_pos h0] at hsn
        have HE := Lib.hid hE
        have hel : ∃ x : Nat, el l g a = (x : Int) := by
          unfold elE at h0
          split at h0
          · omega
          · exact ⟨(el l g a).toNat, by omega⟩
        obtain ⟨x, hx⟩ := hel
        rw [hx] at HE
        rw [hx, Int.toNat_natCast] at hsn
        have HSn := Lib.hid hsn
        have HS2 := Lib.hid (hsn2 x)
        have tx : decide ((x : Int) < 0) = false := by simp
        clear hsn hpre hE hx h0 hbk hle hll hsn2
        go_wp2_with fail
        refine (HE.out _).mono ?_
        rintro e _ ⟨rfl, rfl⟩
        go_wp2_with (at_builtin; refine wpList_append_own _ rfl _ _ 22 rfl w.heap.size 3 i0 (.int .i64 0) 1 8 Try.underlying22 hi hz0 hz1 hz2 rfl (by decide) _ _ _ rfl (hrow.alloc _) ⟨wr.heap.size, 0, none⟩ 1 1 [.int .i64 (x : Int)] rfl rfl (news_row wr [.int .i64 (x : Int)] _) (by simp [Value.oneCell']) (by unfold maxLen; omega) (by omega) (by have := HB.out.size; simp; omega) ?_; intro v' w3 hown' hgrow _)
        have hzz : zc (ns l) ++ [Value.int .i64 (x : Int)] = zc (ns (l ++ [x])) := by rw [ns_append, zc_append]; rfl
        rw [hzz] at hown'
        have HO3 := Lib.hid hown'
        have HB3 : Hid (Below w.heap.size w w3) := HB.out.trans (((Below.refl w.heap.size wr).alloc HB.out.size _).trans (grown_low hgrow (hrow.alloc _) (by have := HB.out.size; simp; omega)))
        clear hown' hgrow hrow hzz
        go_roundw
        case rel => exact ⟨i + 1, l ++ [x], by rw [HL.out]; omega, by go_num, by rw [HS2.out], HSn.out, HO3.out, HB3.out⟩
        case measure => simp [intOf]; omega
      · have h3 : elE l g a = 3 := by rcases elE_or l g a with h | h <;> omega
        rw [if_neg h0] at hE
        rw [if_neg h0] at hsn
        have HNo := Lib.hid (hpre hsn)
        have HE := Lib.hid hE
        clear hsn hpre hE h0 h3 hbk hle hll hsn2
        obtain rfl : R = [] := by rw [HRR.out, HNo.out]; rfl
        obtain rfl : e0 = 3 := by rw [HE0.out, HNo.out]; rfl
        clear HRR HE0 HNo
        go_wp2_with fail
        refine (HE.out _).mono ?_
        rintro e _ ⟨rfl, rfl⟩
        go_wp2
        go_ret2
        exact ⟨none, 0, rfl, Nat.le_refl _, fun _ => rfl, .inl rfl, HB.out⟩
    · have e : gs.take i = gs := List.take_of_length_le (by rw [HL.out]; omega)
      rw [e] at hbk
      obtain rfl : i = n := by omega
      obtain ⟨Av, cv, rfl⟩ := own_slice3 hrow
      have hll := bk_length a _ _ _ hbk
      have HO := Lib.hid hrow
      have HB := Lib.hid hbel
      have HBk := Lib.hid hbk
      have HLl : Hid (l.length = i) := by show _ = _; rw [hll, HL.out]; simp
      obtain rfl : R = l := by rw [HRR.out, hbk]; rfl
      obtain rfl : e0 = 0 := by rw [HE0.out, hbk]; rfl
      clear hrow hbel e hbk hll HRR HE0
      go_wp2
      go_ret2
      exact ⟨Av, cv, (by rw [HLl.out]; rfl), by rw [HLl.out]; exact own_cap HO.out, own_none HO.out, own_rdv HO.out, HB.out⟩
theorem rback_any (gs : List Nat) (n : Nat) (hn : gs.length = n) (hg : ∀ g ∈ gs, g < 18446744073709551616) (a : Int) (A : Option Addr) (c : Nat) (w : World) (h : RdV w w.heap.size A (nc gs)) :
    Calls Try.prog 20 #[.slice A n c, .int .i64 a] w (IntsP w (bkL gs a) (bkE gs a)) := by
  unfold bkL bkE
  rw [hn]
  by_cases h1 : 300 < n
  · rw [if_pos h1, if_pos h1]
    exact rback_many n h1 a A c w
  · rw [if_neg h1, if_neg h1]
    by_cases h2 : okN a = true
    · rw [if_pos h2, if_pos h2]
      obtain ⟨m, rfl, hm⟩ := okN_true h2
      rw [Int.toNat_natCast]
      exact rback_in gs n hn (by omega) hg m hm _ _ rfl rfl A c w h
    · rw [if_neg h2, if_neg h2]
      exact rback_at n (by omega) a (by simpa using h2) A c w

def GoRel (l : List Nat) (a : Nat) (w : World) (v p : Value) (wr : World) : Prop :=
  ∃ i : Nat, i ≤ l.length ∧ p = .int .i64 (i : Int) ∧ wr.ownsRow w.heap.size 48 1 v i (nc ((gps (a : Int) l).take i)) ∧ Below w.heap.size w wr
set_option maxHeartbeats 4000000 in
theorem gapsOf_in (l : List Nat) (hl : Rising l) (n : Nat) (hn : l.length = n) (a : Nat) (ha : a ≤ 1048576) (A : Option Addr) (c : Nat) (w : World) (h : RdV w w.heap.size A (zc (ns l))) :
    Calls Try.prog 19 #[.slice A n c, .int .i64 (a : Int)] w fun e w' => ∃ A2 c2, e = .returned (.slice A2 n c2) ∧ n ≤ c2 ∧ (A2 = none → c2 = 0) ∧ RdV w' w'.heap.size A2 (nc (gps (a : Int) l)) ∧ Below w.heap.size w w' := by
  have h300 : n ≤ 300 := by have := hl.1; omega
  obtain ⟨i0, hi, hz0, hz1, hz2⟩ := info_parts info25
  have HX := Lib.hid h; clear h
  have HL := Lib.hid hn; clear hn
  have HRis := Lib.hid hl; clear hl
  have HG : Hid ((gps (a : Int) l).length = n) := by show _ = _; rw [gps_length, HL.out]
  go_enter Try.func19, Try.ntmps19
  go_wp2
  go_loopw [5, 6] (fun v p wr => GoRel l a w v p wr) (fun _ p _ => n - (intOf p).toNat)
  case atStart => exact ⟨0, Nat.zero_le _, rfl, ⟨rfl, .inl ⟨rfl, rfl⟩⟩, Below.refl _ _⟩
  case round =>
    obtain ⟨i, hi', rfl, hrow, hbel⟩ := hrel
    rw [HL.out] at hi'
    by_cases hlt : i < n
    · have hin : i < l.length := by rw [HL.out]; exact hlt
      obtain ⟨b, off, rfl, hb0, hcw⟩ := HX.out.at_ (ns_get l i hin)
      have hb : b < wr.heap.size := Nat.lt_of_lt_of_le hb0 hbel.size
      have hcx := (hbel.cell (p := ⟨b, off + i, none⟩) hb0).trans hcw
      have hx := ris_le l _ HRis.out.2 _ (at_mem l i hin)
      have hga := gps_at (a : Int) l i hin
      have htk := take_snoc (gps (a : Int) l) i (by rw [HG.out]; exact hlt)
      have HB := Lib.hid hbel
      have hnc : ∀ q : Nat, nc ((gps (a : Int) l).take i) ++ [Value.int .u64 (q : Int)] = nc ((gps (a : Int) l).take i ++ [q]) := fun q => by rw [nc_append]; rfl
      obtain ⟨Av, cv, rfl⟩ := own_slice25 hrow
      by_cases hi0 : i = 0
      · subst hi0
        rw [if_pos rfl] at hga
        rw [hga] at htk
        have hlt0 := fold_u64 ((l[0]?.getD 0 : Nat) - (a : Int)) (by omega) (by omega)
        have HF := Lib.hid (foldOf_any ((l[0]?.getD 0 : Nat) - (a : Int)) (by omega) (by omega))
        have hNC := hnc (fold ((l[0]?.getD 0 : Nat) - (a : Int)))
        rw [← htk] at hNC
        have HNC := Lib.hid hNC
        clear hga htk hnc hbel hNC
        generalize fold ((l[0]?.getD 0 : Nat) - (a : Int)) = q at *
        generalize l[0]?.getD 0 = x at *
        have hx2 := hx.2
        have hcx0 : wr.cell? ⟨b, off, none⟩ = some (.int .i64 (x : Int)) := by simpa using hcx
        clear hx
        go_wp2_with fail
        refine (HF.out _).mono ?_
        rintro e _ ⟨rfl, rfl⟩
        go_wp2_with (at_builtin; refine wpList_append_own _ rfl _ _ 23 rfl w.heap.size 48 i0 (.int .u64 0) 1 8 Try.underlying23 hi hz0 hz1 hz2 rfl (by decide) _ _ _ rfl (hrow.alloc _) ⟨wr.heap.size, 0, none⟩ 1 1 [.int .u64 (q : Int)] rfl rfl (news_row wr [.int .u64 (q : Int)] _) (by simp [Value.oneCell']) (by unfold maxLen; omega) (by omega) (by have := HB.out.size; simp; omega) ?_; intro v' w3 hown' hgrow _)
        rw [HNC.out] at hown'
        have HO3 := Lib.hid hown'
        have HB3 : Hid (Below w.heap.size w w3) := HB.out.trans (((Below.refl w.heap.size wr).alloc HB.out.size _).trans (grown_low hgrow (hrow.alloc _) (by have := HB.out.size; simp; omega)))
        clear hown' hgrow hrow
        go_roundw
        case rel => exact ⟨1, by rw [HL.out]; omega, by go_num, HO3.out, HB3.out⟩
        case measure => simp [intOf]; omega
      · rw [if_neg hi0] at hga
        rw [hga] at htk
        obtain ⟨b2, off2, hA2, hb2, hcv⟩ := HX.out.at_ (ns_get l (i - 1) (by omega))
        simp only [Option.some.injEq, Addr.mk.injEq, and_true] at hA2
        obtain ⟨rfl, rfl⟩ := hA2
        have hcy := (hbel.cell (p := ⟨b, off + (i - 1), none⟩) hb0).trans hcv
        have hrs := ris_at l _ HRis.out.2 (i - 1) (by omega)
        rw [show i - 1 + 1 = i by omega] at hrs
        have hNC := hnc (l[i]?.getD 0 - l[i - 1]?.getD 0 - 1)
        rw [← htk] at hNC
        have HNC := Lib.hid hNC
        clear hga htk hnc hbel hNC
        generalize l[i]?.getD 0 = x at *
        generalize l[i - 1]?.getD 0 = y at *
        have hx2 := hx.2
        clear hx
        have hq : (x : Int) - (y : Int) - 1 = ((x - y - 1 : Nat) : Int) := by omega
        generalize x - y - 1 = q at *
        have ti : ((i : Int) == 0) = false := by simpa using hi0
        have t3 : (0 : Int) ≤ (i : Int) := by omega
        have t4 : (i : Int) < (n : Int) := by omega
        have t5 : (0 : Int) ≤ (i : Int) - 1 := by omega
        have t6 : (i : Int) - 1 < (n : Int) := by omega
        have t7 : ((i : Int) - 1).toNat = i - 1 := by omega
        have t8 : (1 : Int) ≤ (i : Int) := by omega
        have t9 : (i : Int) < (n : Int) + 1 := by omega
        have t10 : (i : Int) ≤ (n : Int) := by omega
        have t11 : i - 1 < n := by omega
        have ts : IntKind.i64.wrap ((i : Int) - 1) = (i : Int) - 1 := IntWalk.i64_in _ (by omega)
        have tw1 : IntKind.i64.wrap ((x : Int) - (y : Int)) = (x : Int) - (y : Int) := IntWalk.i64_in _ (by omega)
        have tw2 : IntKind.i64.wrap ((x : Int) - (y : Int) - 1) = (q : Int) := by rw [IntWalk.i64_in _ (by omega)]; omega
        have tw3 : IntKind.u64.wrap (q : Int) = (q : Int) := by rw [IntKind.wrap_u64]; omega
        have HQ := Lib.hid hq
        have hsz := HB.out.size
        clear hq
        go_wp2
        go_region_held3 (fun w' => w'.cell? ⟨b, off + i, none⟩ = some (.int .i64 (x : Int)) ∧ w'.cell? ⟨b, off + (i - 1), none⟩ = some (.int .i64 (y : Int))) ((first | exact ⟨hcx, hcy⟩ | exact ⟨((one_below _ _).cell (p := ⟨b, off + i, none⟩) hb).trans hcx, ((one_below _ _).cell (p := ⟨b, off + (i - 1), none⟩) hb).trans hcy⟩ | exact ⟨(HB3.out.cell (p := ⟨b, off + i, none⟩) hb0).trans hcw, (HB3.out.cell (p := ⟨b, off + (i - 1), none⟩) hb0).trans hcv⟩))
          ((refine app8s (by rfl) _ _ (by rfl) w.heap.size (.slice Av i cv) i (nc ((gps (a : Int) l).take i)) (by rfl) (hrow.alloc _) (some ⟨wr.heap.size, 0, none⟩) 1 1 [.int .u64 (q : Int)] (by rfl) (rdv_drew (rdv_new wr [q])) (by rfl) (by simp [Value.oneCell']) (fun h => by cases h) (by omega) (by simp; omega) ?_; intro v' w3 hown' hgrow; have HO3 := Lib.hid hown'; have HB3 : Hid (Below w.heap.size w w3) := HB.out.trans ((((Below.refl w.heap.size wr).alloc HB.out.size _).drew).trans (grown_low hgrow (own_drew (hrow.alloc _)) (by simp; omega))); clear hgrow hown'))
        have hown' := HO3.out
        rw [HNC.out] at hown'
        have HO4 := Lib.hid hown'
        clear hown' hrow HO3 hcx hcy hcw hcv
        go_wp2
        go_roundw
        case rel => exact ⟨i + 1, by rw [HL.out]; omega, by go_num, HO4.out, HB3.out⟩
        case measure => simp [intOf]; omega
    · have e : (gps (a : Int) l).take i = gps (a : Int) l := List.take_of_length_le (by rw [HG.out]; omega)
      rw [e] at hrow
      obtain rfl : i = n := by omega
      obtain ⟨Av, cv, rfl⟩ := own_slice25 hrow
      have HO := Lib.hid hrow
      have HB := Lib.hid hbel
      clear hrow hbel e
      go_wp2
      go_ret
      exact ⟨Av, cv, rfl, own_cap HO.out, own_none HO.out, own_rdv HO.out, HB.out⟩
end

section
set_option maxRecDepth 100000
set_option linter.unusedVariables false
open Go.RowKit Go.Shelf

theorem ic_app (a b : List Bool) : ic (a ++ b) = ic a ++ ic b := by simp [ic]
theorem ic_ones (l : List Bool) : ∀ u ∈ ic l, u.oneCell' = true := by
  intro u hu
  simp only [ic, List.mem_map] at hu
  obtain ⟨x, _, rfl⟩ := hu
  rfl
theorem zets_bd (k : Nat) (hk : 1 ≤ k) (hk2 : k ≤ 16) : ∀ gs : List Nat, (∀ g ∈ gs, g ≤ 2097152) → (zets k gs).length ≤ gs.length * 8192
  | [], _ => by simp [zets]
  | g :: gs, h => by
    have := zets_bd k hk hk2 gs (fun x hx => h x (by simp [hx]))
    have := zet_len g k hk hk2 (h g (by simp))
    rw [zets_cons, List.length_append, List.length_cons, Nat.add_mul]; omega
def ZlRel (gs : List Nat) (k : Nat) (w : World) (v p : Value) (wr : World) : Prop :=
  ∃ i : Nat, i ≤ gs.length ∧ p = .int .i64 (i : Int) ∧ wr.ownsRow w.heap.size 3 1 v (zets k (gs.take i)).length (ic (zets k (gs.take i))) ∧ Below w.heap.size w wr
set_option maxHeartbeats 2000000 in
theorem zetaLists_in (gs : List Nat) (n : Nat) (hn : gs.length = n) (h300 : n ≤ 300) (hg : ∀ g ∈ gs, g ≤ 2097152) (k : Nat) (hk : 1 ≤ k) (hk2 : k ≤ 16) (Z : List Bool) (hZ : Z = zets k gs) (A : Option Addr) (c : Nat) (w : World) (h : RdV w w.heap.size A (nc gs)) :
    Calls Try.prog 48 #[.slice A n c, .int .i64 (k : Int)] w (Listed w Z) := by
  have HX := Lib.hid h; have HL := Lib.hid hn; have HGs := Lib.hid hg; have HZ := Lib.hid hZ
  clear h hn hg hZ
  go_enter Try.func48, Try.ntmps48
  go_wp2
  go_loopw [5, 6] (fun v p wr => ZlRel gs k w v p wr) (fun _ p _ => n - (intOf p).toNat)
  case atStart => exact ⟨0, Nat.zero_le _, rfl, ⟨rfl, .inl ⟨rfl, rfl⟩⟩, Below.refl _ _⟩
  case round =>
    obtain ⟨i, hi', rfl, hrow, hbel⟩ := hrel
    rw [HL.out] at hi'
    by_cases hlt : i < n
    · have hin : i < gs.length := by rw [HL.out]; exact hlt
      obtain ⟨b, off, rfl, hb, hcx⟩ := (HX.out.on hbel).at_ (nc_get gs i hin)
      have hg0 := HGs.out _ (at_mem gs i hin)
      have htk := take_snoc gs i hin
      have hsn := zets_snoc k (gs.take i) (gs[i]?.getD 0)
      rw [← htk] at hsn
      have hbd := zets_bd k hk hk2 (gs.take i) (fun g hg => HGs.out g (List.mem_of_mem_take hg))
      rw [List.length_take, Nat.min_eq_left (by omega)] at hbd
      have hbd2 := zet_len (gs[i]?.getD 0) k hk hk2 hg0
      have HZl := Lib.hid (zetaList_any (gs[i]?.getD 0) k hk hk2 (by omega) (zet (gs[i]?.getD 0) k) rfl)
      have HB := Lib.hid hbel
      have HSn := Lib.hid hsn
      clear htk hsn hbel
      generalize gs[i]?.getD 0 = g at *
      generalize zet g k = C at *
      generalize hP : zets k (gs.take i) = P at *
      have HP := Lib.hid hP
      have hCl : (ic C).length = C.length := by simp [ic]
      have HCl := Lib.hid hCl
      clear hP hCl
      have HRow := Lib.hid hrow
      obtain ⟨Av, cv, rfl⟩ := own_slice3 hrow
      go_wp2_with fail
      refine (HZl.out _).mono ?_
      rintro e w3 ⟨A3, c3, rfl, o3, B3⟩
      have HRow3 := Lib.hid (own_below HRow.out B3)
      have HO3 := Lib.hid o3
      have HB3 := Lib.hid (HB.out.trans (B3.mono HB.out.size))
      clear B3 o3 hrow
      go_wp2_with (at_builtin; refine app3 (by first | rfl | simp) _ _ rfl w.heap.size (.slice Av P.length cv) P.length (ic P) rfl HRow3.out A3 C.length c3 (ic C) rfl (own_rdv HO3.out) HCl.out (ic_ones C) (own_none HO3.out) (by omega) HB3.out.size ?_; intro v4 w4 hown4 hgrow4; have hB4 : Below w.heap.size w w4 := HB3.out.trans (grown_low hgrow4 HRow3.out HB3.out.size); rw [← ic_app, ← List.length_append, ← HSn.out] at hown4; have HO4 := Lib.hid hown4; have HB4 := Lib.hid hB4; clear hown4 hgrow4 hB4)
      go_roundw
      case rel => exact ⟨i + 1, by rw [HL.out]; omega, by go_num, HO4.out, HB4.out⟩
      case measure => simp [intOf]; omega
    · have e : gs.take i = gs := List.take_of_length_le (by rw [HL.out]; omega)
      rw [e, ← HZ.out] at hrow
      obtain ⟨Av, cv, rfl⟩ := own_slice3 hrow
      have HO := Lib.hid hrow
      have HB := Lib.hid hbel
      clear hrow hbel e
      go_wp2
      go_ret
      exact ⟨Av, cv, rfl, HO.out, HB.out⟩

theorem betw_K (k : Int) : decide (1 ≤ k ∧ k ≤ 16) = okK k := rfl
theorem betw_N (a : Int) : decide (0 ≤ a ∧ a ≤ 1048576) = okN a := rfl
set_option maxHeartbeats 1000000 in
theorem rwrite_e (xs : List Int) (n : Nat) (hn : xs.length = n) (hn2 : n ≤ 9223372036854775807) (a k : Int) (e0 : Int) (he : wE xs a k = e0) (h0 : e0 ≠ 0) (A : Option Addr) (c : Nat) (w : World) (h : RdV w w.heap.size A (zc xs)) :
    Calls Try.prog 21 #[.slice A n c, .int .i64 a, .int .i64 k] w (Gv w 0 0 (pack []) e0) := by
  have HC : Hid (∀ V, Below w.heap.size w V → Calls Try.prog 18 #[.slice A n c] V fun e w' => e = .returned (.int .i64 (rchk xs)) ∧ Below V.heap.size V w') := fun V hV => rising_any xs n hn hn2 A c V (h.on hV)
  have HN := Lib.hid (between_any a 0 1048576)
  have HK := Lib.hid (between_any k 1 16)
  rw [betw_N] at HN
  rw [betw_K] at HK
  rw [wE_eq, gE_eq] at he
  have t0 : (e0 != 0) = true := by simpa using h0
  clear h hn
  generalize okN a = on at *
  generalize okK k = ok at *
  by_cases h1 : rchk xs = 0
  · rw [h1] at HC he
    rw [if_neg (show ¬ ((0 : Int) ≠ 0) by simp)] at he
    cases on with
    | false =>
      obtain rfl : e0 = 3 := by rw [← he]; simp
      clear he h0 h1
      go_enter Try.func21, Try.ntmps21
      go_wp2_with fail
      refine (HC.out _ (one_below w _)).mono ?_
      rintro e w1 ⟨rfl, B1⟩
      obtain ⟨hr, hb, hz⟩ := res_at B1
      clear B1
      obtain ⟨⟨d0, d1, g0, g1⟩, HG2⟩ := gv_store2 (w := w) (w1 := w1) (len := 0) (n := 0) (A := none) (c := 0) (Rd.nil w1 _ none) (Nat.le_refl _) hr hb 3
      clear hr hb hz
      go_wp2_with fail
      refine (HN.out _).mono ?_
      rintro e _ ⟨rfl, rfl⟩
      go_wp2
      exact bodyPost_ret (v := .tuple #[.agg #[.int .i64 0, .slice none 0 0], .int .i64 3]) (by simp [results, Try.results21, go_sem, d0, d1]) rfl HG2.out
    | true =>
      cases ok with
      | true => exact absurd (by rw [← he]; simp) h0
      | false =>
        obtain rfl : e0 = 3 := by rw [← he]; simp
        clear he h0 h1
        go_enter Try.func21, Try.ntmps21
        go_wp2_with fail
        refine (HC.out _ (one_below w _)).mono ?_
        rintro e w1 ⟨rfl, B1⟩
        obtain ⟨hr, hb, hz⟩ := res_at B1
        clear B1
        obtain ⟨⟨d0, d1, g0, g1⟩, HG2⟩ := gv_store2 (w := w) (w1 := w1) (len := 0) (n := 0) (A := none) (c := 0) (Rd.nil w1 _ none) (Nat.le_refl _) hr hb 3
        clear hr hb hz
        go_wp2_with fail
        refine (HN.out _).mono ?_
        rintro e _ ⟨rfl, rfl⟩
        go_wp2_with fail
        refine (HK.out _).mono ?_
        rintro e _ ⟨rfl, rfl⟩
        go_wp2
        exact bodyPost_ret (v := .tuple #[.agg #[.int .i64 0, .slice none 0 0], .int .i64 3]) (by simp [results, Try.results21, go_sem, d0, d1]) rfl HG2.out
  · have he2 : rchk xs = e0 := by rw [← he]; simp [h1]
    rw [he2] at HC
    have t1 : (e0 == 0) = false := by simpa using h0
    clear he h0 h1 he2
    go_enter Try.func21, Try.ntmps21
    go_wp2_with fail
    refine (HC.out _ (one_below w _)).mono ?_
    rintro e w1 ⟨rfl, B1⟩
    obtain ⟨hr, hb, hz⟩ := res_at B1
    clear B1
    obtain ⟨⟨d0, d1, g0, g1⟩, HG2⟩ := gv_store2 (w := w) (w1 := w1) (len := 0) (n := 0) (A := none) (c := 0) (Rd.nil w1 _ none) (Nat.le_refl _) hr hb e0
    clear hr hb hz
    go_wp2
    exact bodyPost_ret (v := .tuple #[.agg #[.int .i64 0, .slice none 0 0], .int .i64 e0]) (by simp [results, Try.results21, go_sem, d0, d1]) rfl HG2.out

set_option maxHeartbeats 2000000 in
theorem rwrite_in (l : List Nat) (hl : Rising l) (n : Nat) (hn : l.length = n) (a : Nat) (ha : a ≤ 1048576) (k : Nat) (hk : 1 ≤ k) (hk2 : k ≤ 16) (gs : List Nat) (hgs : gps (a : Int) l = gs) (R : List Bool) (e0 : Int)
    (hR1 : (zets k gs).length ≤ 8192 → R = zets k gs ∧ e0 = 0) (hR2 : 8192 < (zets k gs).length → R = [] ∧ e0 = 8) (A : Option Addr) (c : Nat) (w : World) (h : RdV w w.heap.size A (zc (ns l))) :
    Calls Try.prog 21 #[.slice A n c, .int .i64 (a : Int), .int .i64 (k : Int)] w (Gave w R e0) := by
  have h300 : n ≤ 300 := by have := hl.1; omega
  have HC : Hid (∀ V, Below w.heap.size w V → Calls Try.prog 18 #[.slice A n c] V fun e w' => e = .returned (.int .i64 0) ∧ Below V.heap.size V w') := fun V hV => by
    have := rising_any (ns l) n (by rw [ns_length]; exact hn) (by omega) A c V (h.on hV)
    rwa [rchk_ok l hl] at this
  have HN := Lib.hid (between_yes (a : Int) 0 1048576 (by omega))
  have HK := Lib.hid (between_yes (k : Int) 1 16 (by omega))
  have hgl : gs.length = n := by rw [← hgs, gps_length, hn]
  have hgle : ∀ g ∈ gs, g ≤ 2097152 := by rw [← hgs]; exact gps_le a ha l hl
  have HG : Hid (∀ V, Below w.heap.size w V → Calls Try.prog 19 #[.slice A n c, .int .i64 (a : Int)] V fun e w' => ∃ A2 c2, e = .returned (.slice A2 n c2) ∧ n ≤ c2 ∧ (A2 = none → c2 = 0) ∧ RdV w' w'.heap.size A2 (nc gs) ∧ Below V.heap.size V w') := fun V hV => by
    have := gapsOf_in l hl n hn a ha A c V (h.on hV)
    rwa [hgs] at this
  have HZ : Hid (∀ A2 c2 V, RdV V V.heap.size A2 (nc gs) → Calls Try.prog 48 #[.slice A2 n c2, .int .i64 (k : Int)] V (Listed V (zets k gs))) := fun A2 c2 V hV => zetaLists_in gs n hgl h300 hgle k hk hk2 _ rfl A2 c2 V hV
  have H1 := Lib.hid hR1; have H2 := Lib.hid hR2
  clear h hn hl hgs hR1 hR2 hgl hgle ha
  generalize zets k gs = Z at *
  by_cases hfit : Z.length ≤ 8192
  · obtain ⟨rfl, rfl⟩ := H1.out hfit
    have HP : Hid (∀ A3 c3 V, RdV V V.heap.size A3 (ic R) → Calls Try.prog 49 #[.slice A3 R.length c3] V (PkP V R)) := fun A3 c3 V hV => packBits_any R _ rfl hfit A3 c3 V hV
    have t1 : decide ((8192 : Int) < (R.length : Int)) = false := by simp; omega
    have t2 : decide (8192 < R.length) = false := by simp; omega
    clear H1 H2 hfit
    go_enter Try.func21, Try.ntmps21
    go_wp2_with fail
    refine (HC.out _ (one_below w _)).mono ?_
    rintro e w1 ⟨rfl, B1⟩
    have HA := Lib.hid (res_at B1)
    clear B1
    go_wp2_with fail
    refine (HN.out _).mono ?_
    rintro e _ ⟨rfl, rfl⟩
    go_wp2_with fail
    refine (HK.out _).mono ?_
    rintro e _ ⟨rfl, rfl⟩
    go_wp2_with fail
    refine (HG.out _ HA.out.2.1).mono ?_
    rintro e w2 ⟨A2, c2, rfl, -, -, X2, B2⟩
    have HX2 := Lib.hid X2; have HB2 := Lib.hid B2
    clear X2 B2
    go_wp2_with fail
    refine (HZ.out A2 c2 _ HX2.out).mono ?_
    rintro e w3 ⟨A3, c3, rfl, O3, B3⟩
    have HO3 := Lib.hid O3; have HB3 := Lib.hid (HB2.out.trans (B3.mono HB2.out.size))
    clear O3 B3
    go_wp2_with fail
    refine (HP.out A3 c3 _ (own_rdv HO3.out)).mono ?_
    rintro e w4 ⟨A4, c4, rfl, R4, B4⟩
    have hB4 : Below w1.heap.size w1 w4 := HB3.out.trans (B4.mono HB3.out.size)
    obtain ⟨hr, hb, hz⟩ := HA.out
    obtain ⟨⟨d0, d1, g0, g1⟩, HG2⟩ := gv_store (w := w) (w1 := w4) (L := R) (A := A4) (c := c4) (r := w.heap.size) R4 (Nat.le_refl _) ((hB4.block _ hz).trans hr) (hb.trans (hB4.mono hb.size))
    clear hr hb hz hB4 R4 B4
    go_wp2
    exact bodyPost_ret (v := .tuple #[.agg #[.int .i64 (R.length : Int), .slice A4 (pack R).length c4], .int .i64 0]) (by simp [results, Try.results21, go_sem, d0, d1]) rfl HG2.out
  · obtain ⟨rfl, rfl⟩ := H2.out (by omega)
    have t1 : decide ((8192 : Int) < (Z.length : Int)) = true := by simp; omega
    have t2 : decide (8192 < Z.length) = true := by simp; omega
    clear H1 H2 hfit
    go_enter Try.func21, Try.ntmps21
    go_wp2_with fail
    refine (HC.out _ (one_below w _)).mono ?_
    rintro e w1 ⟨rfl, B1⟩
    have HA := Lib.hid (res_at B1)
    clear B1
    go_wp2_with fail
    refine (HN.out _).mono ?_
    rintro e _ ⟨rfl, rfl⟩
    go_wp2_with fail
    refine (HK.out _).mono ?_
    rintro e _ ⟨rfl, rfl⟩
    go_wp2_with fail
    refine (HG.out _ HA.out.2.1).mono ?_
    rintro e w2 ⟨A2, c2, rfl, -, -, X2, B2⟩
    have HX2 := Lib.hid X2; have HB2 := Lib.hid B2
    clear X2 B2
    go_wp2_with fail
    refine (HZ.out A2 c2 _ HX2.out).mono ?_
    rintro e w3 ⟨A3, c3, rfl, O3, B3⟩
    have hB3 : Below w1.heap.size w1 w3 := HB2.out.trans (B3.mono HB2.out.size)
    obtain ⟨hr, hb, hz⟩ := HA.out
    obtain ⟨⟨d0, d1, g0, g1⟩, HG2⟩ := gv_store2 (w := w) (w1 := w3) (len := 0) (n := 0) (bs := []) (A := none) (c := 0) (r := w.heap.size) (Rd.nil w3 _ none) (Nat.le_refl _) ((hB3.block _ hz).trans hr) (hb.trans (hB3.mono hb.size)) 8
    clear hr hb hz hB3 O3 B3
    go_wp2
    exact bodyPost_ret (v := .tuple #[.agg #[.int .i64 0, .slice none 0 0], .int .i64 8]) (by simp [results, Try.results21, go_sem, d0, d1]) rfl HG2.out
end
end Go.Proofs.Ythldcdcpflamaaa
