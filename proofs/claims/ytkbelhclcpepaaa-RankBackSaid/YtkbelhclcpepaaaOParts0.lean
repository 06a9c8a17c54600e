/- What Select, Rank and Get answer together at whatever bits; no condition but those that each fact names. -/
import Derived.Test.YtkbelhclcpepaaaOLEnds
namespace Go.Proofs.Ytkbelhclcpepaaa
set_option maxRecDepth 100000
set_option linter.unusedVariables false
open Go.RowKit Go.Shelf

theorem selP1 (w : World) (len : Int) (A : Option Addr) (c : Nat) (bs : List Nat) (hb : ∀ b ∈ bs, b < 256) (h : Rd w w.heap.size A bs) (i : Int) :
    (∃ e : Int, (e == 0) = false ∧ Hid (∀ V, Below w.heap.size w V → Calls Try.prog 36 #[.agg #[.int .i64 len, .slice A bs.length c], .int .i64 1, .int .i64 i] V (RkP V 0 e))) ∨
    (∃ z q n : Nat, i = (q : Int) ∧ Hid (∀ V, Below w.heap.size w V → Calls Try.prog 36 #[.agg #[.int .i64 len, .slice A bs.length c], .int .i64 1, .int .i64 i] V (RkP V z 0)) ∧
      Hid (∀ V, Below w.heap.size w V → Calls Try.prog 35 #[.agg #[.int .i64 len, .slice A bs.length c], .int .i64 (z : Int)] V (RkP V n 0)) ∧ n = q ∧
      Hid (∀ V, Below w.heap.size w V → Calls Try.prog 47 #[.agg #[.int .i64 len, .slice A bs.length c], .int .i64 (z : Int), .int .i64 1] V fun e w' => e = .returned (.tuple #[.int .u64 1, .int .i64 0]) ∧ Below V.heap.size V w')) := by
  by_cases h0 : slE len bs 1 i = 0
  · obtain ⟨h3, h4⟩ := rgE_zero h0
    obtain ⟨l, rfl, hl, rfl⟩ := chk_zero len bs hb h3
    simp at h4
    obtain ⟨q, rfl⟩ := Int.eq_ofNat_of_zero_le h4
    cases hs : sel true l q with
    | none => exact .inl ⟨5, rfl, fun V hV => sel_ok1 l hl A c q 0 5 (.inl ⟨hs, rfl, rfl⟩) V (h.on hV)⟩
    | some z =>
      obtain ⟨g1, g2⟩ := (sel_some true l q z).1 hs
      have hz : z < l.length := by
        rcases Nat.lt_or_ge z l.length with h | h
        · exact h
        · rw [List.getElem?_eq_none h] at g1; cases g1
      refine .inr ⟨z, q, cnt (l.take z), rfl, fun V hV => sel_ok1 l hl A c q z 0 (.inr ⟨hs, rfl⟩) V (h.on hV), fun V hV => rank_ok l hl A c z (by omega) _ rfl V (h.on hV), ?_, fun V hV => by
        have := get_bit l hl A c z hz V (h.on hV)
        rw [g1] at this; exact this⟩
      rw [ahd_true] at g2; exact g2
  · exact .inl ⟨slE len bs 1 i, by simpa using h0, fun V hV => sel_any len A c bs hb 1 i V (h.on hV) 0 _ (.inl ⟨rfl, h0, rfl⟩)⟩
theorem selP0 (w : World) (len : Int) (A : Option Addr) (c : Nat) (bs : List Nat) (hb : ∀ b ∈ bs, b < 256) (h : Rd w w.heap.size A bs) (i : Int) :
    (∃ e : Int, (e == 0) = false ∧ Hid (∀ V, Below w.heap.size w V → Calls Try.prog 36 #[.agg #[.int .i64 len, .slice A bs.length c], .int .i64 0, .int .i64 i] V (RkP V 0 e))) ∨
    (∃ z q n : Nat, i = (q : Int) ∧ Hid (∀ V, Below w.heap.size w V → Calls Try.prog 36 #[.agg #[.int .i64 len, .slice A bs.length c], .int .i64 0, .int .i64 i] V (RkP V z 0)) ∧
      Hid (∀ V, Below w.heap.size w V → Calls Try.prog 35 #[.agg #[.int .i64 len, .slice A bs.length c], .int .i64 (z : Int)] V (RkP V n 0)) ∧ (z : Int) - (n : Int) = (q : Int) ∧
      Hid (∀ V, Below w.heap.size w V → Calls Try.prog 47 #[.agg #[.int .i64 len, .slice A bs.length c], .int .i64 (z : Int), .int .i64 1] V fun e w' => e = .returned (.tuple #[.int .u64 0, .int .i64 0]) ∧ Below V.heap.size V w')) := by
  by_cases h0 : slE len bs 0 i = 0
  · obtain ⟨h3, h4⟩ := rgE_zero h0
    obtain ⟨l, rfl, hl, rfl⟩ := chk_zero len bs hb h3
    simp at h4
    obtain ⟨q, rfl⟩ := Int.eq_ofNat_of_zero_le h4
    cases hs : sel false l q with
    | none => exact .inl ⟨5, rfl, fun V hV => sel_ok0 l hl A c q 0 5 (.inl ⟨hs, rfl, rfl⟩) V (h.on hV)⟩
    | some z =>
      obtain ⟨g1, g2⟩ := (sel_some false l q z).1 hs
      have hz : z < l.length := by
        rcases Nat.lt_or_ge z l.length with h | h
        · exact h
        · rw [List.getElem?_eq_none h] at g1; cases g1
      refine .inr ⟨z, q, cnt (l.take z), rfl, fun V hV => sel_ok0 l hl A c q z 0 (.inr ⟨hs, rfl⟩) V (h.on hV), fun V hV => rank_ok l hl A c z (by omega) _ rfl V (h.on hV), ?_, fun V hV => by
        have := get_bit l hl A c z hz V (h.on hV)
        rw [g1] at this; exact this⟩
      have := ahd_false l z (by omega); omega
  · exact .inl ⟨slE len bs 0 i, by simpa using h0, fun V hV => sel_any len A c bs hb 0 i V (h.on hV) 0 _ (.inl ⟨rfl, h0, rfl⟩)⟩
theorem atP (w : World) (len : Int) (A : Option Addr) (c : Nat) (bs : List Nat) (hb : ∀ b ∈ bs, b < 256) (h : Rd w w.heap.size A bs) (p : Int) :
    (∃ (eg : Int) (bn : Nat) (eh : Int), (eg != 0) = true ∧ Hid (∀ V, Below w.heap.size w V → Calls Try.prog 35 #[.agg #[.int .i64 len, .slice A bs.length c], .int .i64 p] V (RkP V 0 eg)) ∧
      Hid (∀ V, Below w.heap.size w V → Calls Try.prog 47 #[.agg #[.int .i64 len, .slice A bs.length c], .int .i64 p, .int .i64 1] V fun e w' => e = .returned (.tuple #[.int .u64 (bn : Int), .int .i64 eh]) ∧ Below V.heap.size V w')) ∨
    (∃ (n bn : Nat) (eh : Int), (eh != 0) = true ∧ Hid (∀ V, Below w.heap.size w V → Calls Try.prog 35 #[.agg #[.int .i64 len, .slice A bs.length c], .int .i64 p] V (RkP V n 0)) ∧
      Hid (∀ V, Below w.heap.size w V → Calls Try.prog 47 #[.agg #[.int .i64 len, .slice A bs.length c], .int .i64 p, .int .i64 1] V fun e w' => e = .returned (.tuple #[.int .u64 (bn : Int), .int .i64 eh]) ∧ Below V.heap.size V w')) ∨
    (∃ n pn : Nat, (pn : Int) = p ∧ Hid (∀ V, Below w.heap.size w V → Calls Try.prog 35 #[.agg #[.int .i64 len, .slice A bs.length c], .int .i64 p] V (RkP V n 0)) ∧
      Hid (∀ V, Below w.heap.size w V → Calls Try.prog 47 #[.agg #[.int .i64 len, .slice A bs.length c], .int .i64 p, .int .i64 1] V fun e w' => e = .returned (.tuple #[.int .u64 1, .int .i64 0]) ∧ Below V.heap.size V w') ∧
      Hid (∀ V, Below w.heap.size w V → Calls Try.prog 36 #[.agg #[.int .i64 len, .slice A bs.length c], .int .i64 1, .int .i64 (n : Int)] V (RkP V pn 0))) ∨
    (∃ n pn d : Nat, (pn : Int) = p ∧ p - (n : Int) = (d : Int) ∧ IntKind.i64.wrap (d : Int) = (d : Int) ∧ Hid (∀ V, Below w.heap.size w V → Calls Try.prog 35 #[.agg #[.int .i64 len, .slice A bs.length c], .int .i64 p] V (RkP V n 0)) ∧
      Hid (∀ V, Below w.heap.size w V → Calls Try.prog 47 #[.agg #[.int .i64 len, .slice A bs.length c], .int .i64 p, .int .i64 1] V fun e w' => e = .returned (.tuple #[.int .u64 0, .int .i64 0]) ∧ Below V.heap.size V w') ∧
      Hid (∀ V, Below w.heap.size w V → Calls Try.prog 36 #[.agg #[.int .i64 len, .slice A bs.length c], .int .i64 0, .int .i64 (d : Int)] V (RkP V pn 0))) := by
  by_cases h0 : rkE len bs p = 0
  · obtain ⟨l, rfl, hl, rfl, q, rfl, hq⟩ := rkE_zero hb h0
    by_cases hlt : q < l.length
    · have hgb := fun V (hV : Below w.heap.size w V) => get_bit l hl A c q hlt V (h.on hV)
      have hat : l[q]? = some (l[q]?.getD false) := by rw [List.getElem?_eq_getElem hlt]; rfl
      cases hx : l[q]?.getD false
      · rw [hx] at hgb hat
        have h1 := ahd_false l q hq
        refine .inr (.inr (.inr ⟨cnt (l.take q), q, ahd false l q, rfl, by omega, by rw [IntKind.wrap_i64]; omega, fun V hV => rank_ok l hl A c q hq _ rfl V (h.on hV), hgb, fun V hV => sel_ok0 l hl A c _ q 0 (.inr ⟨(sel_some false l _ q).2 ⟨hat, rfl⟩, rfl⟩) V (h.on hV)⟩))
      · rw [hx] at hgb hat
        refine .inr (.inr (.inl ⟨cnt (l.take q), q, rfl, fun V hV => rank_ok l hl A c q hq _ rfl V (h.on hV), hgb, fun V hV => sel_ok1 l hl A c _ q 0 (.inr ⟨(sel_some true l _ q).2 ⟨hat, ahd_true l q⟩, rfl⟩) V (h.on hV)⟩))
    · exact .inr (.inl ⟨cnt (l.take q), 0, 7, rfl, fun V hV => rank_ok l hl A c q hq _ rfl V (h.on hV), fun V hV => get_short l hl A c (q : Int) 1 V (h.on hV) (by omega) (by omega) (by omega) (by omega) (by omega)⟩)
  · refine .inl ⟨rkE len bs p, getN len bs p 1, getE len bs p 1, by simpa using h0, fun V hV => ?_, fun V hV => get_any len A c bs p 1 V hb (h.on hV)⟩
    exact rank_e len A c bs hb p _ rfl h0 V (h.on hV)
end Go.Proofs.Ytkbelhclcpepaaa
