/- The run in which a number lies, and what a list is split into, number by number; the document's own answer on runs: HasInt, RunsSplit; each with its conditions. -/
import Derived.Test.YthldcdcpflamaaaJGRNPure
import Derived.Test.YthldcdcpflamaaaJGRLaw
namespace Go.Proofs.Ythldcdcpflamaaa
section
set_option linter.unusedVariables false

/-- The run of a number. -/
def rof : List Rn → Nat → Rn
  | [], _ => (0, 0)
  | p :: R, x => if x < p.1 + p.2 then p else rof R x
theorem rof_spec : ∀ (R : List Rn) (v : Int), Sep v R → ∀ x ∈ flatR R, rof R x ∈ R ∧ (rof R x).1 ≤ x ∧ x < (rof R x).1 + (rof R x).2
  | [], _, _, x, hx => by simp [flatR] at hx
  | p :: R, v, ⟨h1, h2, h3⟩, x, hx => by
    unfold rof
    rw [flatR_cons] at hx
    by_cases h : x < p.1 + p.2
    · rw [if_pos h]
      refine ⟨by simp, ?_, h⟩
      rcases List.mem_append.1 hx with q | q
      · exact ((nums_mem p x).1 q).1
      · have := (sep_flat_lt R _ h3).1 x q; omega
    · rw [if_neg h]
      rcases List.mem_append.1 hx with q | q
      · exact absurd ((nums_mem p x).1 q).2 h
      · obtain ⟨a, b, c⟩ := rof_spec R _ h3 x q
        exact ⟨by simp [a], b, c⟩
/-- Neither the number ahead of a run nor the one behind it is there. -/
theorem run_ends : ∀ (R : List Rn) (v : Int), Sep v R → ∀ p ∈ R, (∀ x ∈ flatR R, (x : Int) ≠ (p.1 : Int) - 1 ∧ x ≠ p.1 + p.2)
  | [], _, _, p, hp, _, _ => by simp at hp
  | q :: R, v, ⟨h1, h2, h3⟩, p, hp, x, hx => by
    have hs := (sep_flat_lt R _ h3).1
    have hpr := (sep_pairs R _).1 h3
    rw [flatR_cons] at hx
    rcases List.mem_cons.1 hp with rfl | hp
    · rcases List.mem_append.1 hx with a | a
      · have := (nums_mem _ x).1 a; omega
      · have := hs x a; omega
    · have hb := (hpr.1 p hp).1
      have hc := (hpr.1 p hp).2
      rcases List.mem_append.1 hx with a | a
      · have := (nums_mem _ x).1 a; omega
      · exact run_ends R _ h3 p hp x a
theorem run_mem (R : List Rn) (p : Rn) (hp : p ∈ R) (x : Nat) (h1 : p.1 ≤ x) (h2 : x < p.1 + p.2) : x ∈ flatR R := (flatR_mem R x).2 ⟨p, hp, h1, h2⟩
/-- Number by number: those of short runs; the runs that begin with a number and are long. -/
def shs (R : List Rn) (k : Nat) (l : List Nat) : List Nat := l.filter (fun x => decide ((rof R x).2 < k))
def los (R : List Rn) (k : Nat) (l : List Nat) : List Rn := (l.filter (fun x => decide (k ≤ (rof R x).2 ∧ (rof R x).1 = x))).map (rof R)
theorem shs_snoc (R : List Rn) (k : Nat) (l : List Nat) (x : Nat) : shs R k (l ++ [x]) = shs R k l ++ (if (rof R x).2 < k then [x] else []) := by
  unfold shs; rw [List.filter_append]; congr 1
  by_cases h : (rof R x).2 < k <;> simp [h]
theorem los_snoc (R : List Rn) (k : Nat) (l : List Nat) (x : Nat) : los R k (l ++ [x]) = los R k l ++ (if k ≤ (rof R x).2 ∧ (rof R x).1 = x then [rof R x] else []) := by
  unfold los; rw [List.filter_append, List.map_append]; congr 1
  by_cases h : k ≤ (rof R x).2 ∧ (rof R x).1 = x
  · rw [if_pos h, List.filter_cons, if_pos (by simpa using h)]; simp
  · rw [if_neg h, List.filter_cons, if_neg (by simpa using h)]; simp
theorem rof_cons (p : Rn) (R : List Rn) (x : Nat) : rof (p :: R) x = if x < p.1 + p.2 then p else rof R x := rfl
theorem rof_head (p : Rn) (R : List Rn) (x : Nat) (h : x ∈ nums p) : rof (p :: R) x = p := by
  rw [rof_cons, if_pos ((nums_mem p x).1 h).2]
theorem rof_tail (p : Rn) (R : List Rn) (v : Int) (hs : Sep v (p :: R)) (x : Nat) (h : x ∈ flatR R) : rof (p :: R) x = rof R x := by
  rw [rof_cons, if_neg (by have := (sep_flat_lt R _ hs.2.2).1 x h; omega)]
theorem shs_all (k : Nat) : ∀ (R : List Rn) (v : Int), Sep v R → shs R k (flatR R) = flatR (sht k R)
  | [], _, _ => rfl
  | p :: R, v, hs => by
    have ih := shs_all k R _ hs.2.2
    unfold shs sht at *
    rw [flatR_cons, List.filter_append, List.filter_cons]
    have e2 : (flatR R).filter (fun x => decide ((rof (p :: R) x).2 < k)) = (flatR R).filter (fun x => decide ((rof R x).2 < k)) := List.filter_congr fun x hx => by rw [rof_tail p R v hs x hx]
    rw [e2, ih]
    by_cases h : p.2 < k
    · rw [if_pos (by simpa using h), flatR_cons]
      congr 1
      rw [List.filter_eq_self]
      intro x hx
      rw [rof_head p R x hx]; simpa using h
    · rw [if_neg (by simpa using h)]
      have : (nums p).filter (fun x => decide ((rof (p :: R) x).2 < k)) = [] := by
        rw [List.filter_eq_nil_iff]
        intro x hx
        rw [rof_head p R x hx]; simpa using h
      rw [this, List.nil_append]
theorem los_all (k : Nat) : ∀ (R : List Rn) (v : Int), Sep v R → los R k (flatR R) = lng k R
  | [], _, _ => rfl
  | p :: R, v, hs => by
    have ih := los_all k R _ hs.2.2
    unfold los lng at *
    rw [flatR_cons, List.filter_append, List.map_append, List.filter_cons]
    have e2 : (flatR R).filter (fun x => decide (k ≤ (rof (p :: R) x).2 ∧ (rof (p :: R) x).1 = x)) = (flatR R).filter (fun x => decide (k ≤ (rof R x).2 ∧ (rof R x).1 = x)) := List.filter_congr fun x hx => by rw [rof_tail p R v hs x hx]
    have e3 : ((flatR R).filter (fun x => decide (k ≤ (rof R x).2 ∧ (rof R x).1 = x))).map (rof (p :: R)) = ((flatR R).filter (fun x => decide (k ≤ (rof R x).2 ∧ (rof R x).1 = x))).map (rof R) :=
      List.map_congr_left fun x hx => rof_tail p R v hs x (List.mem_filter.1 hx).1
    rw [e2, e3, ih]
    have e1 : (nums p).filter (fun x => decide (k ≤ (rof (p :: R) x).2 ∧ (rof (p :: R) x).1 = x)) = if k ≤ p.2 then [p.1] else [] := by
      have hc : (nums p).filter (fun x => decide (k ≤ (rof (p :: R) x).2 ∧ (rof (p :: R) x).1 = x)) = (nums p).filter (fun x => decide (k ≤ p.2 ∧ p.1 = x)) := List.filter_congr fun x hx => by rw [rof_head p R x hx]
      rw [hc]
      have h1 := hs.2.1
      obtain ⟨f, m⟩ := p
      obtain ⟨m, rfl⟩ : ∃ m', m = m' + 1 := ⟨m - 1, by simp only at h1; omega⟩
      unfold nums
      simp only
      rw [List.range'_succ, List.filter_cons]
      have hz : (List.range' (f + 1) m).filter (fun x => decide (k ≤ m + 1 ∧ f = x)) = [] := by
        rw [List.filter_eq_nil_iff]
        intro x hx
        have := (List.mem_range'_1.1 hx).1
        simp; omega
      rw [hz]
      by_cases h : k ≤ m + 1 <;> simp [h]
    rw [e1]
    by_cases h : k ≤ p.2
    · rw [if_pos h, if_pos (by simpa using h)]
      have hr : rof (p :: R) p.1 = p := rof_head p R p.1 ((nums_mem p p.1).2 ⟨Nat.le_refl _, by have := hs.2.1; omega⟩)
      simp [hr]
    · rw [if_neg h, if_neg (by simpa using h)]; simp
end

section
set_option maxRecDepth 100000
set_option linter.unusedVariables false
open Go.RowKit Go.Shelf

def HiRel (xs : List Int) (z : Int) (w : World) (p : Value) (wr : World) : Prop := ∃ i : Nat, i ≤ xs.length ∧ p = .int .i64 (i : Int) ∧ (∀ j, j < i → xs[j]?.getD 0 ≠ z) ∧ wr = w
set_option maxHeartbeats 1000000 in
theorem hasInt_any (xs : List Int) (n : Nat) (hn : xs.length = n) (hn2 : n ≤ 9223372036854775807) (z : Int) (r : Bool) (hr : (r = true ∧ z ∈ xs) ∨ (r = false ∧ z ∉ xs)) (A : Option Addr) (c : Nat) (w : World) (h : RdV w w.heap.size A (zc xs)) :
    Calls Try.prog 38 #[.slice A n c, .int .i64 z] w fun e w' => e = .returned (.bool r) ∧ w' = w := by
  have HX := Lib.hid h; have HN := Lib.hid hn; have HR := Lib.hid hr
  clear h hn hr
  go_enter Try.func38, Try.ntmps38
  go_wp2
  go_loopw [5] (fun p wr => HiRel xs z w p wr) (fun p _ => n - (intOf p).toNat)
  case atStart => exact ⟨0, Nat.zero_le _, rfl, fun j hj => absurd hj (Nat.not_lt_zero _), rfl⟩
  case round =>
    obtain ⟨i, hi, rfl, hno, rfl⟩ := hrel
    rw [HN.out] at hi
    by_cases hlt : i < n
    · have hin : i < xs.length := by rw [HN.out]; exact hlt
      obtain ⟨b, off, rfl, hb, hc⟩ := HX.out.at_ (zc_get xs i hin)
      have hmem : xs[i]?.getD 0 ∈ xs := by rw [List.getElem?_eq_getElem hin]; exact List.getElem_mem hin
      have HNo := Lib.hid hno
      have hstep : xs[i]?.getD 0 ≠ z → ∀ j, j < i + 1 → xs[j]?.getD 0 ≠ z := fun hne j hj => by
        rcases Nat.lt_or_ge j i with h | h
        · exact HNo.out j h
        · obtain rfl : j = i := by omega
          exact hne
      clear hno HNo
      generalize xs[i]?.getD 0 = x at *
      by_cases hx : x = z
      · have hr : r = true := by
          rcases HR.out with ⟨h, _⟩ | ⟨_, h⟩
          · exact h
          · exact absurd (hx ▸ hmem) h
        have t1 : (x == z) = true := by simpa using hx
        have HRr := Lib.hid hr
        clear hr hstep hmem hx HR
        go_wp2
        go_ret
        exact ⟨by rw [HRr.out]; rfl, rfl⟩
      · have HSt := Lib.hid (hstep hx)
        have t1 : (x == z) = false := by simpa using hx
        clear hstep hmem hx
        go_wp2
        go_roundw
        case rel => exact ⟨i + 1, by rw [HN.out]; omega, by go_num, HSt.out, rfl⟩
        case measure => simp [intOf]; omega
    · have hr : r = false := by
        rcases HR.out with ⟨_, h⟩ | ⟨h, _⟩
        · obtain ⟨j, hj, he⟩ := List.getElem_of_mem h
          exact absurd (by rw [List.getElem?_eq_getElem hj]; exact he) (hno j (by rw [HN.out] at hj; omega))
        · exact h
      have HRr := Lib.hid hr
      clear hr hno HR
      go_wp2
      go_ret
      exact ⟨by rw [HRr.out]; rfl, rfl⟩
theorem mem_ns (l : List Nat) (z : Int) : z ∈ ns l ↔ ∃ x ∈ l, (x : Int) = z := by simp [ns]

/-- Runs and numbers come back. -/
def SrP (w : World) (R : List Ri) (l : List Nat) (n1 n2 : Nat) (e : Ending) (w' : World) : Prop :=
  ∃ A1 c1 A2 c2, e = .returned (.tuple #[.slice A1 n1 c1, .slice A2 n2 c2]) ∧ RdV w' w'.heap.size A1 (rcs R) ∧ RdV w' w'.heap.size A2 (zc (ns l)) ∧ Below w.heap.size w w'
theorem grown_other {X w3 : World} {base : Nat} {e1 e2 : TypeId} {s1 s2 n1 n2 : Nat} {v1 v2 : Value} {xs1 xs2 : List Value} {tmp : Obj} (hne : e1 ≠ e2) (r1 : X.ownsRow base e1 s1 v1 n1 xs1) (r2 : X.ownsRow base e2 s2 v2 n2 xs2) (hg : (X.alloc tmp).grownBy w3 v1.ownBlock) : w3.ownsRow base e2 s2 v2 n2 xs2 :=
  own_same r2 (fun q hq => by
    have hlt := (own_ltb r2 q hq).2
    refine (hg.block q (by simp; omega) (fun e => ?_)).trans (Below.heap_alloc _ _ _ hlt)
    obtain ⟨cs, a1, _⟩ := own_type r1 q e.symm
    obtain ⟨cs2, a2, _⟩ := own_type r2 q hq
    rw [a1] at a2
    simp only [Option.some.injEq, Obj.cells.injEq] at a2
    exact hne a2.2.1)
/-- At each round's head: what the first i numbers give. -/
def SpRel (R : List Rn) (k : Nat) (l : List Nat) (w : World) (a b p : Value) (wr : World) : Prop :=
  ∃ i : Nat, i ≤ l.length ∧ p = .int .i64 (i : Int) ∧ wr.ownsRow w.heap.size 60 2 a (los R k (l.take i)).length (rcs (rz (los R k (l.take i)))) ∧ wr.ownsRow w.heap.size 3 1 b (shs R k (l.take i)).length (zc (ns (shs R k (l.take i)))) ∧ Below w.heap.size w wr
theorem los_len (R : List Rn) (k : Nat) (l : List Nat) : (los R k l).length ≤ l.length := by unfold los; rw [List.length_map]; exact List.length_filter_le _ _
theorem shs_len (R : List Rn) (k : Nat) (l : List Nat) : (shs R k l).length ≤ l.length := List.length_filter_le _ _
def UpRel (f x : Nat) (W : World) (p : Value) (w' : World) : Prop := ∃ y : Nat, f ≤ y ∧ y ≤ x ∧ p = .int .i64 (y : Int) ∧ w'.heap = W.heap ∧ Below W.heap.size W w'
def ToRel (x t : Nat) (W : World) (p : Value) (w' : World) : Prop := ∃ z : Nat, x ≤ z ∧ z < t ∧ p = .int .i64 (z : Int) ∧ w'.heap = W.heap ∧ Below W.heap.size W w'
theorem below_refl_drewN (W : World) (k : Nat) : Below W.heap.size W (W.drewN k) := ⟨rfl, rfl, rfl, Nat.le_refl _, fun _ _ => rfl⟩

set_option maxHeartbeats 4000000 in
theorem rsplit_in (l : List Nat) (hl : Rising l) (n : Nat) (hn : l.length = n) (k : Nat) (hk : 2 ≤ k) (hk2 : k ≤ 300) (n1 n2 : Nat) (hn1 : (lng k (rs l)).length = n1) (hn2 : (flatR (sht k (rs l))).length = n2) (A : Option Addr) (c : Nat) (w : World) (h : RdV w w.heap.size A (zc (ns l))) :
    Calls Try.prog 34 #[.slice A n c, .int .i64 (k : Int)] w (SrP w (rz (lng k (rs l))) (flatR (sht k (rs l))) n1 n2) := by
  have hsep := rs_sep l (-1) hl.2
  have hfl := rs_flat l
  have hl300 : n ≤ 300 := by have := hl.1; omega
  have HSpec : Hid (∀ x ∈ l, (rof (rs l) x) ∈ rs l ∧ (rof (rs l) x).1 ≤ x ∧ x < (rof (rs l) x).1 + (rof (rs l) x).2) := fun x hx => rof_spec (rs l) _ hsep x (by rw [hfl]; exact hx)
  have HEnds : Hid (∀ p ∈ rs l, ∀ x ∈ l, (x : Int) ≠ (p.1 : Int) - 1 ∧ x ≠ p.1 + p.2) := fun p hp x hx => run_ends (rs l) _ hsep p hp x (by rw [hfl]; exact hx)
  have HIn : Hid (∀ p ∈ rs l, ∀ x, p.1 ≤ x → x < p.1 + p.2 → x ∈ l) := fun p hp x h1 h2 => by have := run_mem (rs l) p hp x h1 h2; rwa [hfl] at this
  have HBd : Hid (∀ p ∈ rs l, p.2 ≤ 300 ∧ p.1 + p.2 ≤ 1048577) := (rs_okR l hl).2.2
  have HS1 : Hid (shs (rs l) k l = flatR (sht k (rs l))) := by show _ = _; have := shs_all k (rs l) _ hsep; rwa [hfl] at this
  have HS2 : Hid (los (rs l) k l = lng k (rs l)) := by show _ = _; have := los_all k (rs l) _ hsep; rwa [hfl] at this
  have HLe : Hid (∀ x ∈ l, x ≤ 1048576) := fun x hx => (ris_le l _ hl.2 x hx).2
  rw [← HS2.out] at hn1 ⊢
  rw [← HS1.out] at hn2 ⊢
  clear HS1 HS2 hsep hfl hl
  generalize rs l = R at *
  obtain ⟨i0, hi, hz0, hz1, hz2⟩ := info_parts info3
  obtain ⟨j0, hj, hw0, hw1, hw2⟩ := info_parts info_run
  have HX := Lib.hid h; have HN := Lib.hid hn; have HN1 := Lib.hid hn1; have HN2 := Lib.hid hn2
  have HH : Hid (∀ (z : Int) (r : Bool) (V : World), RdV V V.heap.size A (zc (ns l)) → ((r = true ∧ z ∈ ns l) ∨ (r = false ∧ z ∉ ns l)) → Calls Try.prog 38 #[.slice A n c, .int .i64 z] V fun e w' => e = .returned (.bool r) ∧ w' = V) := fun z r V hV hr => hasInt_any (ns l) n (by rw [ns_length]; exact hn) (by omega) z r hr A c V hV
  clear h hn hn1 hn2
  go_enter Try.func34, Try.ntmps34
  go_wp2
  go_loopw [6, 7, 8] (fun a b p wr => SpRel R k l w a b p wr) (fun _ _ p _ => n - (intOf p).toNat)
  case atStart => exact ⟨0, Nat.zero_le _, rfl, ⟨rfl, .inl ⟨rfl, rfl⟩⟩, ⟨rfl, .inl ⟨rfl, rfl⟩⟩, Below.refl _ _⟩
  case round =>
    obtain ⟨i, hi', rfl, hrow1, hrow2, hbel⟩ := hrel
    rw [HN.out] at hi'
    by_cases hlt : i < n
    · have hin : i < l.length := by rw [HN.out]; exact hlt
      obtain ⟨b, off, rfl, hb, hcx0⟩ := HX.out.at_ (ns_get l i hin)
      have hcx := (hbel.cell (p := ⟨b, off + i, none⟩) hb).trans hcx0
      have hmem := at_mem l i hin
      have htk := take_snoc l i hin
      generalize l[i]?.getD 0 = x at *
      obtain ⟨hp, hp1, hp2⟩ := HSpec.out x hmem
      have hx := HLe.out x hmem
      have hpb := HBd.out _ hp
      have hends := HEnds.out _ hp
      have hinn := HIn.out _ hp
      have HT1 : Hid (los R k (l.take (i + 1)) = los R k (l.take i) ++ (if k ≤ (rof R x).2 ∧ (rof R x).1 = x then [rof R x] else [])) := by show _ = _; rw [htk, los_snoc]
      have HT2 : Hid (shs R k (l.take (i + 1)) = shs R k (l.take i) ++ (if (rof R x).2 < k then [x] else [])) := by show _ = _; rw [htk, shs_snoc]
      have hln1 := los_len R k (l.take i)
      have hln2 := shs_len R k (l.take i)
      rw [List.length_take] at hln1 hln2
      obtain ⟨A1, c1, rfl⟩ := own_sliceT hrow1
      obtain ⟨A2, c2, rfl⟩ := own_slice3 hrow2
      generalize rof R x = q at *
      obtain ⟨f, m⟩ := q
      simp only at hp1 hp2 hpb hends hinn HT1 HT2
      have HEn := Lib.hid hends; have HInn := Lib.hid hinn
      have HBb := Lib.hid hb; have HCx := Lib.hid hcx0
      clear hcx0
      generalize hL1 : (los R k (l.take i)).length = L1 at *
      generalize hL2 : (shs R k (l.take i)).length = L2 at *
      have HL1 := Lib.hid hL1; have HL2 := Lib.hid hL2
      have HB := Lib.hid hbel
      have HR1 := Lib.hid hrow1; have HR2 := Lib.hid hrow2
      clear hL1 hL2 hends hinn htk hp hmem hbel hrow1 hrow2
      have t7 : (0 : Int) ≤ (i : Int) := by omega
      have t8 : (i : Int) < (n : Int) := by omega
      go_wp2
      go_quiet (fail)
      go_wp2
      go_loopw [9] (fun p w' => UpRel f x wr p w') (fun p _ => (intOf p).toNat)
      case atStart => exact ⟨x, hp1, Nat.le_refl _, rfl, rfl, below_refl_drewN wr _⟩
      case round =>
        obtain ⟨y, hy1, hy2, rfl, hhe, hbel⟩ := hrel
        have hV := HX.out.on (HB.out.trans (hbel.mono HB.out.size))
        have tw : IntKind.i64.wrap ((y : Int) - 1) = (y : Int) - 1 := IntWalk.i64_in _ (by omega)
        by_cases hyf : f < y
        · have HC := Lib.hid (HH.out ((y : Int) - 1) true _ hV (.inl ⟨rfl, (mem_ns l _).2 ⟨y - 1, HInn.out (y - 1) (by omega) (by omega), by omega⟩⟩))
          have HHe := Lib.hid hhe; have HBe := Lib.hid hbel
          clear hV hhe hbel
          go_wp2_with fail
          refine HC.out.mono ?_
          rintro e wq ⟨rfl, rfl⟩
          go_wp2
          go_roundw
          case rel => exact ⟨y - 1, by omega, by omega, by rw [show ((y - 1 : Nat) : Int) = (y : Int) - 1 by omega], HHe.out, HBe.out⟩
          case measure => simp [intOf]; omega
        · obtain rfl : y = f := by omega
          have HC := Lib.hid (HH.out ((y : Int) - 1) false _ hV (.inr ⟨rfl, fun q => by obtain ⟨u, hu, he⟩ := (mem_ns l _).1 q; exact (HEn.out u hu).1 he⟩))
          have HHe := Lib.hid hhe; have HBe := Lib.hid hbel
          clear hV hhe hbel tw
          go_wp2_with fail
          refine HC.out.mono ?_
          rintro e wq ⟨rfl, rfl⟩
          go_wp2
          replace HR1 := Lib.hid (own_same HR1.out (W' := wq) (fun g _ => by rw [HHe.out]))
          replace HR2 := Lib.hid (own_same HR2.out (W' := wq) (fun g _ => by rw [HHe.out]))
          replace HB := Lib.hid (HB.out.trans (HBe.out.mono HB.out.size))
          clear HHe HBe HC
          go_loopw [10] (fun p w' => ToRel x (y + m) wq p w') (fun p _ => y + m - (intOf p).toNat)
          case atStart => exact ⟨x, Nat.le_refl _, by omega, rfl, rfl, Below.refl _ _⟩
          case round =>
            obtain ⟨z, hz1', hz2', rfl, hhe, hbel⟩ := hrel
            have hV := HX.out.on (HB.out.trans (hbel.mono HB.out.size))
            have tw : IntKind.i64.wrap ((z : Int) + 1) = (z : Int) + 1 := IntWalk.i64_in _ (by omega)
            by_cases hyf2 : z + 1 < y + m
            · have HC := Lib.hid (HH.out ((z : Int) + 1) true _ hV (.inl ⟨rfl, (mem_ns l _).2 ⟨z + 1, HInn.out (z + 1) (by omega) (by omega), by omega⟩⟩))
              have HHe := Lib.hid hhe; have HBe := Lib.hid hbel
              clear hV hhe hbel
              go_wp2_with fail
              refine HC.out.mono ?_
              rintro e wq ⟨rfl, rfl⟩
              go_wp2
              go_roundw
              case rel => exact ⟨z + 1, by omega, by omega, by rw [show ((z + 1 : Nat) : Int) = (z : Int) + 1 by omega], HHe.out, HBe.out⟩
              case measure => simp [intOf]; omega
            · have HC := Lib.hid (HH.out ((z : Int) + 1) false _ hV (.inr ⟨rfl, fun q => by obtain ⟨u, hu, he⟩ := (mem_ns l _).1 q; exact (HEn.out u hu).2 (by omega)⟩))
              have r1 := own_same HR1.out (W' := wr) (fun g _ => by rw [hhe])
              have r2 := own_same HR2.out (W' := wr) (fun g _ => by rw [hhe])
              replace HB := Lib.hid (HB.out.trans (hbel.mono HB.out.size))
              have kx : wr.cell? ⟨b, off + i, none⟩ = some (.int .i64 (x : Int)) := (HB.out.cell (p := ⟨b, off + i, none⟩) HBb.out).trans HCx.out
              have tz1 : IntKind.i64.wrap ((z : Int) - (y : Int)) = (m : Int) - 1 := by rw [show (z : Int) - (y : Int) = (m : Int) - 1 by omega]; exact IntWalk.i64_in _ (by omega)
              have tz2 : IntKind.i64.wrap ((m : Int) - 1 + 1) = (m : Int) := by rw [show (m : Int) - 1 + 1 = (m : Int) by omega]; exact IntWalk.i64_in _ (by omega)
              clear hV hhe hbel HR1 HR2
              by_cases hmk : m < k
              · have t1 : decide ((m : Int) < (k : Int)) = true := by simp; omega
                have t2 : decide (m < k) = true := by simpa using hmk
                rw [if_neg (by omega), List.append_nil] at HT1
                rw [if_pos hmk] at HT2
                clear hmk tw
                go_wp2_with fail
                refine HC.out.mono ?_
                rintro e wq ⟨rfl, rfl⟩
                go_wp2_with (at_builtin; refine wpList_append_own _ rfl _ _ 22 rfl w.heap.size 3 i0 (.int .i64 0) 1 8 Try.underlying22 hi hz0 hz1 hz2 rfl (by decide) _ _ _ rfl (r2.alloc _) ⟨wq.heap.size, 0, none⟩ 1 1 [.int .i64 (x : Int)] rfl rfl (news_row wq [.int .i64 (x : Int)] _) (by simp [Value.oneCell']) (by unfold maxLen; omega) (by omega) (by have := HB.out.size; simp; omega) ?_; intro v' w3 hown' hgrow _)
                have HO2 := Lib.hid hown'
                have HO1 := Lib.hid (grown_other (by decide) r2 r1 hgrow)
                have HB3 : Hid (Below w.heap.size w w3) := HB.out.trans (((Below.refl w.heap.size wq).alloc HB.out.size _).trans (grown_low hgrow (r2.alloc _) (by have := HB.out.size; simp; omega)))
                clear hown' hgrow r1 r2
                go_roundw
                case rel =>
                  refine ⟨i + 1, by rw [HN.out]; omega, by go_num, ?_, ?_, HB3.out⟩
                  · rw [HT1.out, HL1.out]; exact HO1.out
                  · rw [HT2.out, List.length_append, HL2.out, ns_append, zc_append]; exact HO2.out
                case measure => simp [intOf]; omega
              · have t1 : decide ((m : Int) < (k : Int)) = false := by simp; omega
                have t2 : decide (m < k) = false := by simpa using hmk
                rw [if_neg hmk, List.append_nil] at HT2
                by_cases hyx : y = x
                · have t3 : ((y : Int) == (x : Int)) = true := by simp; omega
                  have HT1' : Hid ((los R k (l.take (i + 1))).length = (los R k (l.take i)).length + 1 ∧ rcs (rz (los R k (l.take (i + 1)))) = rcs (rz (los R k (l.take i))) ++ [.int .i64 (y : Int), .int .i64 (m : Int)]) := by
                    have := HT1.out
                    rw [if_pos ⟨by omega, hyx⟩] at this
                    rw [this]
                    exact ⟨by simp, by rw [rz_snoc, rcs_append]; rfl⟩
                  clear hmk tw hyx
                  go_wp2_with fail
                  refine HC.out.mono ?_
                  rintro e wq ⟨rfl, rfl⟩
                  go_wp2_with (at_builtin; refine wpList_append_own _ rfl _ _ 49 rfl w.heap.size 60 j0 (.agg #[.int .i64 0, .int .i64 0]) 2 16 Try.underlying49 hj hw0 hw1 hw2 rfl (by decide) _ _ _ rfl (r1.alloc _) ⟨wq.heap.size, 0, none⟩ 1 1 [.int .i64 (y : Int), .int .i64 (m : Int)] rfl rfl (news_row wq [.int .i64 (y : Int), .int .i64 (m : Int)] _) (by simp [Value.oneCell']) (by unfold maxLen; omega) (by omega) (by have := HB.out.size; simp; omega) ?_; intro v' w3 hown' hgrow _)
                  have HO1 := Lib.hid hown'
                  have HO2 := Lib.hid (grown_other (by decide) r1 r2 hgrow)
                  have HB3 : Hid (Below w.heap.size w w3) := HB.out.trans (((Below.refl w.heap.size wq).alloc HB.out.size _).trans (grown_low hgrow (r1.alloc _) (by have := HB.out.size; simp; omega)))
                  clear hown' hgrow r1 r2
                  go_roundw
                  case rel =>
                    refine ⟨i + 1, by rw [HN.out]; omega, by go_num, ?_, ?_, HB3.out⟩
                    · rw [HT1'.out.1, HT1'.out.2, HL1.out]; exact HO1.out
                    · rw [HT2.out, HL2.out]; exact HO2.out
                  case measure => simp [intOf]; omega
                · have t3 : ((y : Int) == (x : Int)) = false := by simp; omega
                  rw [if_neg (fun h => hyx h.2), List.append_nil] at HT1
                  clear hmk tw hyx
                  go_wp2_with fail
                  refine HC.out.mono ?_
                  rintro e wq ⟨rfl, rfl⟩
                  have HO1 := Lib.hid r1
                  have HO2 := Lib.hid r2
                  clear r1 r2
                  go_wp2
                  go_roundw
                  case rel =>
                    refine ⟨i + 1, by rw [HN.out]; omega, by go_num, ?_, ?_, HB.out⟩
                    · rw [HT1.out, HL1.out]; exact HO1.out
                    · rw [HT2.out, HL2.out]; exact HO2.out
                  case measure => simp [intOf]; omega
    · have e : l.take i = l := List.take_of_length_le (by rw [HN.out]; omega)
      rw [e] at hrow1 hrow2
      rw [HN1.out] at hrow1
      rw [HN2.out] at hrow2
      obtain ⟨A1, c1, rfl⟩ := own_sliceT hrow1
      obtain ⟨A2, c2, rfl⟩ := own_slice3 hrow2
      have HR1 := Lib.hid (own_rdvT hrow1)
      have HR2 := Lib.hid (own_rdv hrow2)
      have HB := Lib.hid hbel
      clear hrow1 hrow2 hbel e
      go_wp2
      go_ret2
      exact ⟨A1, c1, A2, c2, rfl, HR1.out, HR2.out, HB.out⟩
end
end Go.Proofs.Ythldcdcpflamaaa
