/- The document's own UnaryAll answers what All answers, for whatever it is handed. -/
import Derived.Test.YtkbelhclcpepaaaRefUMany
import Derived.Test.YtkbelhclcpepaaaRefGet
namespace Go.Proofs.Ytkbelhclcpepaaa
open Go.RowKit

theorem head_pos (l : List Bool) : ∀ (z o n : Nat) (t : List Nat), prs z l = n :: t → z ≤ n ∧ ∃ xs, pos o l = (o + (n - z)) :: xs := by
  induction l with
  | nil => intro z o n t h; cases h
  | cons b l ih =>
    intro z o n t h
    cases b
    · obtain ⟨h1, xs, h2⟩ := ih (z + 1) (o + 1) n t h
      refine ⟨by omega, xs, ?_⟩
      show pos (o + 1) l = _
      rw [h2]
      congr 1; omega
    · have e : z = n := by simpa [prs] using (List.cons.inj h).1
      subst e
      exact ⟨Nat.le_refl _, pos (o + 1) l, by rw [Nat.sub_self]; rfl⟩
/-- Behind j codes stand the rest. -/
theorem prs_rest (l : List Bool) (j : Nat) (hj : j ≤ (prs 0 l).length) : prs 0 (l.drop (ucs ((prs 0 l).take j)).length) = (prs 0 l).drop j := by
  obtain ⟨h1, _⟩ := parse_take l j
  have e : l = ucs ((prs 0 l).take j) ++ l.drop (ucs ((prs 0 l).take j)).length := by
    conv => lhs; rw [← List.take_append_drop (ucs ((prs 0 l).take j)).length l]
    rw [h1]
  have e2 := prs_ucs ((prs 0 l).take j) (l.drop (ucs ((prs 0 l).take j)).length)
  rw [← e] at e2
  have e3 : ((prs 0 l).take j ++ prs 0 (l.drop (ucs ((prs 0 l).take j)).length)).drop j = prs 0 (l.drop (ucs ((prs 0 l).take j)).length) := List.drop_left' (by rw [List.length_take]; omega)
  rw [← e2] at e3
  exact e3.symm
/-- What reading on answers. -/
theorem read_on (l : List Bool) (j : Nat) (hj : j < (prs 0 l).length) (q : Nat) (hq : q = (ucs ((prs 0 l).take j)).length) :
    ∃ xs, pos q (l.drop q) = (q + (prs 0 l)[j]?.getD 0) :: xs ∧ (ucs ((prs 0 l).take (j + 1))).length = q + (prs 0 l)[j]?.getD 0 + 1 ∧ (prs 0 l).take (j + 1) = (prs 0 l).take j ++ [(prs 0 l)[j]?.getD 0] := by
  have h := prs_rest l j (by omega)
  rw [← hq, List.drop_eq_getElem_cons hj] at h
  obtain ⟨_, xs, h2⟩ := head_pos _ 0 q _ _ h
  rw [List.getElem?_eq_getElem hj]
  refine ⟨xs, h2, ?_, ?_⟩
  · rw [List.take_succ_eq_append_getElem hj, ucs_snoc, List.length_append, uc_length, hq]; rfl
  · rw [List.take_succ_eq_append_getElem hj]; rfl
theorem read_end (l : List Bool) (q : Nat) (hq : q = (ucs ((prs 0 l).take (prs 0 l).length)).length) : pos q (l.drop q) = [] := by
  have h := prs_rest l (prs 0 l).length (Nat.le_refl _)
  rw [← hq, List.drop_of_length_le (Nat.le_refl _)] at h
  have := pos_prs_length (l.drop q) q 0
  rw [h] at this
  simpa using this

/-- A slice's length. -/
def slLen : Value → Nat
  | .slice _ n _ => n
  | _ => 0
/-- At each round's head: j numbers are read. -/
def RARel (w : World) (l : List Bool) (m : Nat) (a v : Value) (wr : World) : Prop :=
  ∃ j : Nat, j ≤ m ∧ j ≤ (prs 0 l).length ∧ a = .int .i64 ((ucs ((prs 0 l).take j)).length : Int) ∧ wr.ownsRow w.heap.size 22 1 v j (nc ((prs 0 l).take j)) ∧ Below w.heap.size w wr

set_option maxRecDepth 100000 in
set_option maxHeartbeats 1000000 in
theorem rall_bad (len : Int) (A : Option Addr) (c : Nat) (bs : List Nat) (p : Int) (w : World) (hb : ∀ b ∈ bs, b < 256) (h : Rd w w.heap.size A bs) (e0 : Int) (he0 : chk len bs = e0) (h0 : e0 ≠ 0) :
    Calls Try.prog 28 #[.agg #[.int .i64 len, .slice A bs.length c], .int .i64 p] w (AllP w [] 0 e0) := by
  have HC := Lib.hid (rcheck_one len A c bs w hb h e0 he0)
  have t1 : (e0 == 0) = false := by simpa using h0
  have t2 : (e0 != 0) = true := by simpa using h0
  clear h0 he0 hb h
  have HB := Lib.hid (one_below w (.cells #[.int .i64 len, .slice A bs.length c] 25))
  generalize bs.length = nn at *
  go_enter Try.func28, Try.ntmps28
  go_wp2_with fail
  refine HC.out.mono ?_
  rintro e w1 ⟨rfl, hq⟩
  obtain ⟨hc1, hf1⟩ := old_cells hq
  go_wp2
  go_ret3
  exact ⟨none, 0, rfl, .inl rfl, HB.out.trans (hq.mono (by omega))⟩

set_option maxRecDepth 100000 in
set_option maxHeartbeats 1000000 in
theorem rall_range (l : List Bool) (hl : l.length ≤ 8192) (A : Option Addr) (c : Nat) (p : Int) (w : World) (h : Rd w w.heap.size A (pack l)) (hp : p < 0 ∨ 8192 < p) :
    Calls Try.prog 28 #[.agg #[.int .i64 (l.length : Int), .slice A (pack l).length c], .int .i64 p] w (AllP w [] 0 3) := by
  have HC := Lib.hid (rcheck_one (l.length : Int) A c (pack l) w (pack_lt l) h 0 (chk_pack l hl))
  have HP := Lib.hid (between_no p 0 8192 (by omega))
  clear hp h
  have HB := Lib.hid (one_below w (.cells #[.int .i64 (l.length : Int), .slice A (pack l).length c] 25))
  generalize (pack l).length = nn at *
  go_enter Try.func28, Try.ntmps28
  go_wp2_with fail
  refine HC.out.mono ?_
  rintro e w1 ⟨rfl, hq⟩
  obtain ⟨hc1, hf1⟩ := old_cells hq
  go_wp2_with fail
  refine (HP.out _).mono ?_
  rintro e w2 ⟨rfl, rfl⟩
  go_wp2
  go_ret3
  exact ⟨none, 0, rfl, .inl rfl, HB.out.trans (hq.mono (by omega))⟩

set_option maxRecDepth 100000 in
set_option maxHeartbeats 2000000 in
theorem rall_in (l : List Bool) (hl : l.length ≤ 8192) (A : Option Addr) (c : Nat) (m : Nat) (hm : m ≤ 8192) (w : World) (h : Rd w w.heap.size A (pack l)) (rn : List Nat) (rt : Nat) (re : Int)
    (hr : ((prs 0 l).length < m → rn = [] ∧ rt = 0 ∧ re = 7) ∧ (m ≤ (prs 0 l).length → rn = (prs 0 l).take m ∧ rt = (ucs rn).length ∧ re = 0)) :
    Calls Try.prog 28 #[.agg #[.int .i64 (l.length : Int), .slice A (pack l).length c], .int .i64 (m : Int)] w (AllP w rn rt re) := by
  obtain ⟨i0, hi, hz0, hz1, hz2⟩ := info_parts info25
  have HC := Lib.hid (rcheck_one (l.length : Int) A c (pack l) w (pack_lt l) h 0 (chk_pack l hl))
  have HP := Lib.hid (between_yes (m : Int) 0 8192 (by omega))
  have HB := Lib.hid (one_below w (.cells #[.int .i64 (l.length : Int), .slice A (pack l).length c] 25))
  have HBL : Hid (∀ w1, Below w.heap.size w w1 → Calls Try.prog 26 #[.agg #[.int .i64 (l.length : Int), .slice A (pack l).length c]] w1 (Listed w1 l)) := fun w1 hq =>
    bitList_any l.length (by omega) A (pack l).length c (pack l) rfl (by rw [pack_length]; omega) (pack_lt l) w1 (h.below hq hq.size) l (unpack_pack l).symm
  have HA := Lib.hid hr; clear hr h
  go_enter Try.func28, Try.ntmps28
  go_wp2_with fail
  refine HC.out.mono ?_
  rintro e w1 ⟨rfl, hq⟩
  obtain ⟨hc1, hf1⟩ := old_cells hq
  have HQ1 : Hid (Below w.heap.size w w1) := HB.out.trans (hq.mono (by omega))
  go_wp2_with fail
  refine (HP.out _).mono ?_
  rintro e w2 ⟨rfl, rfl⟩
  go_wp2_with fail
  refine (HBL.out _ HQ1.out).mono ?_
  rintro e w2 ⟨A1, c1, rfl, ho1, hb1⟩
  have HR1 := Lib.hid (own_rdv ho1); clear ho1
  have HLow : Hid (Below w.heap.size w w2) := HQ1.out.trans (hb1.mono HQ1.out.size)
  clear hb1 hc1 hf1 hq
  clear HC HP HB HBL HQ1
  go_wp2
  go_loopw [9, 10] (fun a v wr => RARel w2 l m a v wr) (fun _ v _ => m - slLen v)
  case atStart => exact ⟨0, Nat.zero_le _, Nat.zero_le _, rfl, ⟨rfl, .inl ⟨rfl, rfl⟩⟩, Below.refl _ _⟩
  case round =>
    obtain ⟨j, hjm, hjl, rfl, hrow, hbel⟩ := hrel
    obtain ⟨Av, cv, rfl⟩ := own_slice25 hrow
    have HBel := Lib.hid hbel; clear hbel
    have HRow := Lib.hid hrow; clear hrow
    have HRl : Hid (RdV wr wr.heap.size A1 (ic l)) := HR1.out.on HBel.out
    have hql := (parse_take l j).2
    by_cases hlt : j < m
    · by_cases hjj : j < (prs 0 l).length
      · obtain ⟨xs, h1, h2, h3⟩ := read_on l j hjj _ rfl
        generalize hq : (ucs ((prs 0 l).take j)).length = q at *
        clear hq
        have HNx := Lib.hid h2; have HTk := Lib.hid h3
        have hnx := (parse_take l (j + 1)).2
        rw [h2] at hnx
        generalize (prs 0 l)[j]?.getD 0 = x at *
        have HC := Lib.hid (uRead_any l l.length rfl hl A1 c1 q hql x ((q : Int) + (x : Int) + 1) ⟨fun h => (by rw [h1] at h; cases h), fun y ys h => (by rw [h1] at h; obtain ⟨rfl, _⟩ := List.cons.inj h; exact ⟨by omega, by omega⟩)⟩ wr HRl.out)
        clear h1 h2 h3
        go_wp2_with fail
        refine HC.out.mono ?_
        rintro e w3 ⟨rfl, rfl⟩
        have t : ¬ (q : Int) + (x : Int) + 1 < 0 := by omega
        clear HC
        go_wp2_with (at_builtin; refine wpList_append_own _ rfl _ _ 26 rfl w2.heap.size 22 i0 (.int .u64 0) 1 8 Try.underlying26 hi hz0 hz1 hz2 rfl (by decide) _ _ _ rfl (HRow.out.alloc _) ⟨wr.heap.size, 0, none⟩ 1 1 [.int .u64 (x : Int)] rfl rfl (cell_one_new _ _ _) (by simp [Value.oneCell']) (by unfold maxLen; omega) (by omega) (by have := HBel.out.size; simp; omega) ?_; intro v' w3 hown' hgrow _; obtain ⟨g', cap', rfl⟩ := ownsRow_succ hown')
        have HGr := Lib.hid hgrow; clear hgrow
        have HOw := Lib.hid hown'; clear hown'
        go_roundw
        case rel =>
          refine ⟨j + 1, by omega, by omega, by rw [HNx.out]; go_num, ?_, (HBel.out.alloc HBel.out.size _).grown HGr.out (by have := HBel.out.size; simp; omega) (fun k hk => (HRow.out.lt k hk).1)⟩
          rw [HTk.out, nc_append]
          exact HOw.out
        case measure => simp [slLen]; omega
      · have e : j = (prs 0 l).length := by omega
        have h1 := read_end l (ucs ((prs 0 l).take j)).length (by rw [e])
        have HQ := Lib.hid (HA.out.1 (by omega))
        generalize hq : (ucs ((prs 0 l).take j)).length = q at *
        clear hq
        have HC := Lib.hid (uRead_any l l.length rfl hl A1 c1 q hql 0 (-1) ⟨fun _ => ⟨rfl, rfl⟩, fun y ys h => (by rw [h1] at h; cases h)⟩ wr HRl.out)
        clear h1 HRow
        go_wp2_with fail
        refine HC.out.mono ?_
        rintro e w3 ⟨rfl, rfl⟩
        clear HC
        go_wp2
        go_ret3
        obtain ⟨rfl, rfl, rfl⟩ := HQ.out
        exact ⟨none, 0, rfl, .inl rfl, HLow.out.trans (HBel.out.mono HLow.out.size)⟩
    · have e : j = m := by omega
      subst e
      have hQ := HA.out.2 hjl
      have HF : Hid (AllP w rn rt re (.returned (.tuple #[.slice Av j cv, .int .i64 ((ucs ((prs 0 l).take j)).length : Int), .int .i64 0])) wr) := by
        obtain ⟨rfl, rfl, rfl⟩ := hQ
        have hl2 : ((prs 0 l).take j).length = j := by rw [List.length_take]; omega
        refine ⟨Av, cv, by rw [hl2], own_rdv HRow.out, HLow.out.trans (HBel.out.mono HLow.out.size)⟩
      clear hQ
      generalize (ucs ((prs 0 l).take j)).length = q at *
      clear HRow
      go_wp2
      go_ret3
      exact HF.out
end Go.Proofs.Ytkbelhclcpepaaa
