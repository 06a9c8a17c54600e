/- The document's own codes for lengths where there are none: KraftCodes' errors; for whatever lengths. -/
import Derived.Test.YthfjfkbolfnkkaaKRefA
import Derived.Test.YthfjfkbolfnkkaaKCd
import Derived.Test.YthfjfkbolfnkkaaRefGen
import Derived.Test.YthfjfkbolfnkkaaKRefP
import Derived.Test.YthfjfkbolfnkkaaKSign
namespace Go.Proofs.Ythfjfkbolfnkkaa

section
set_option maxRecDepth 100000
set_option linter.unusedVariables false
open Go.RowKit Go.Shelf

set_option maxHeartbeats 1000000 in
theorem refcodes_e (xs : List Int) (n : Nat) (hn : xs.length = n) (hn2 : n ≤ 9223372036854775807) (r : Int) (hr : kchk xs = r) (h0 : r ≠ 0) (A : Option Addr) (c : Nat) (w : World) (h : RdV w w.heap.size A (zc xs)) :
    Calls Try.prog 18 #[.slice A n c] w fun e w' => e = .returned (.tuple #[.slice none 0 0, .int .i64 r]) ∧ Below w.heap.size w w' := by
  have HC0 := refchk_any xs n hn hn2 A c w h
  rw [hr] at HC0
  have HC := Lib.hid HC0
  have t0 : (r == 0) = false := by simpa using h0
  have t1 : (r != 0) = true := by simpa using h0
  clear HC0 h hn hr h0
  go_enter Try.func18, Try.ntmps18
  go_wp2_with fail
  refine HC.out.mono ?_
  rintro e w1 ⟨rfl, b1⟩
  have HB1 := Lib.hid b1
  clear b1
  go_wp2
  go_ret2
  exact ⟨rfl, HB1.out⟩
set_option maxHeartbeats 1000000 in
theorem refcodes_full (l : List Nat) (n : Nat) (hn : l.length = n) (h64 : n ≤ 64) (h24 : ∀ x ∈ l, x ≤ 24) (hr : 16777216 < tkn l) (A : Option Addr) (c : Nat) (w : World) (h : RdV w w.heap.size A (zc (ns l))) :
    Calls Try.prog 18 #[.slice A n c] w fun e w' => e = .returned (.tuple #[.slice none 0 0, .int .i64 8]) ∧ Below w.heap.size w w' := by
  have HC0 := refchk_any (ns l) n (by rw [ns_length]; exact hn) (by omega) A c w h
  rw [show kchk (ns l) = 0 from kchk_ok l (by omega) h24] at HC0
  have HC := Lib.hid HC0
  have HRm : Hid (∀ V, Below w.heap.size w V → Calls Try.prog 17 #[.slice A n c] V fun e w' => e = .returned (.int .i64 (16777216 - (tkn l : Int))) ∧ Below V.heap.size V w') := fun V hV => refroom_ok l n hn h64 h24 A c V (h.on hV)
  have tr : decide (16777216 - (tkn l : Int) < 0) = true := by simp; omega
  generalize (16777216 - (tkn l : Int)) = rm at *
  clear HC0 h hr h24
  go_enter Try.func18, Try.ntmps18
  go_wp2_with fail
  refine HC.out.mono ?_
  rintro e w1 ⟨rfl, b1⟩
  have HB1 := Lib.hid b1
  clear b1
  go_wp2_with fail
  refine (HRm.out w1 HB1.out).mono ?_
  rintro e w2 ⟨rfl, b2⟩
  have HB : Hid (Below w.heap.size w w2) := HB1.out.trans (b2.mono HB1.out.size)
  clear b2
  go_wp2
  go_ret2
  exact ⟨rfl, HB.out⟩
end

section
set_option maxRecDepth 100000
set_option linter.unusedVariables false

theorem word_of (l : List Nat) (h24 : ∀ w ∈ l, w ≤ 24) (t : Nat) (ht : t < l.length) (hne : codOf (words l) t ≠ []) : ∃ y ∈ words l, y.1 = t ∧ code y = codOf (words l) t := by
  have hW := words_ok l h24
  have hls : l[t]? = some (l[t]?.getD 0) := by rw [List.getElem?_eq_getElem ht]; rfl
  by_cases h0 : l[t]?.getD 0 = 0
  · exact absurd (codOf_none hW (fun w hw => by rw [hw] at h0; exact h0)) hne
  · obtain ⟨m, hm⟩ := hW.has t _ hls h0
    exact ⟨_, hm, rfl, (codOf_mem hW hm).symm⟩
theorem word_at (l : List Nat) (h24 : ∀ w ∈ l, w ≤ 24) {x : Wn} (hx : x ∈ words l) : x.1 < l.length ∧ codOf (words l) x.1 = code x ∧ code x ≠ [] := by
  have hW := words_ok l h24
  have hm := hW.mem x hx
  refine ⟨(List.getElem?_eq_some_iff.1 hm.1).1, codOf_mem hW hx, fun e => ?_⟩
  have := code_length x
  rw [e] at this
  simp at this; omega
theorem sign_three (l : List Nat) (h24 : ∀ w ∈ l, w ≤ 24) (hr : tkn l ≤ 2 ^ 24) (left : List Bool) :
    (∃ s0, s0 < l.length ∧ codOf (words l) s0 ≠ [] ∧ codOf (words l) s0 <+: left ∧ (∀ t, t < l.length → codOf (words l) t ≠ [] → codOf (words l) t <+: left → t = s0) ∧ sgn left (words l) = (s0, (codOf (words l) s0).length, 0)) ∨
    ((∀ t, t < l.length → codOf (words l) t ≠ [] → ¬ codOf (words l) t <+: left) ∧ (∃ t, t < l.length ∧ left.length < (codOf (words l) t).length ∧ left <+: codOf (words l) t) ∧ sgn left (words l) = (0, 0, 7)) ∨
    ((∀ t, t < l.length → codOf (words l) t ≠ [] → ¬ codOf (words l) t <+: left) ∧ (∀ t, t < l.length → ¬ (left.length < (codOf (words l) t).length ∧ left <+: codOf (words l) t)) ∧ sgn left (words l) = (0, 0, 5)) := by
  have hW := words_ok l h24
  rcases sgn_cases hW hr left (words l) (fun y hy => hy) with ⟨x, hx, hp, hs⟩ | ⟨x, hx, hp, hlt, hs⟩ | ⟨hno, hs⟩
  · obtain ⟨h1, h2, h3⟩ := word_at l h24 hx
    refine .inl ⟨x.1, h1, by rw [h2]; exact h3, by rw [h2]; exact hp, fun t ht hne hpt => ?_, by rw [hs, h2, code_length]⟩
    obtain ⟨y, hy, rfl, hc⟩ := word_of l h24 t ht hne
    rw [← hc] at hpt
    by_cases hxy : y = x
    · rw [hxy]
    · exfalso
      have hpf := words_row hW hr hy hx hxy
      rcases Nat.le_total (code y).length (code x).length with q | q
      · exact hpf.1 (List.prefix_of_prefix_length_le hpt hp q)
      · exact hpf.2 (List.prefix_of_prefix_length_le hp hpt q)
  · obtain ⟨h1, h2, h3⟩ := word_at l h24 hx
    refine .inr (.inl ⟨fun t ht hne hpt => ?_, ⟨x.1, h1, by rw [h2, code_length]; exact hlt, by rw [h2]; exact hp⟩, hs⟩)
    obtain ⟨y, hy, rfl, hc⟩ := word_of l h24 t ht hne
    rw [← hc] at hpt
    have hyx := hpt.trans hp
    by_cases hxy : y = x
    · subst hxy
      have := hpt.length_le
      rw [code_length] at this; omega
    · exact (words_row hW hr hy hx hxy).1 hyx
  · refine .inr (.inr ⟨fun t ht hne hpt => ?_, fun t ht ⟨hlt, hp⟩ => ?_, hs⟩)
    · obtain ⟨y, hy, rfl, hc⟩ := word_of l h24 t ht hne
      exact hno y hy (.inl (by rw [hc]; exact hpt))
    · have hne : codOf (words l) t ≠ [] := fun e => by rw [e] at hlt; simp at hlt
      obtain ⟨y, hy, rfl, hc⟩ := word_of l h24 t ht hne
      exact hno y hy (.inr (by rw [hc]; exact hp))
end

section
set_option maxRecDepth 100000
set_option linter.unusedVariables false
open Go.RowKit

/-- What is wrong with bits, and a place. -/
def rdE (len : Int) (bs : List Nat) (p : Int) : Int := if chk len bs ≠ 0 then chk len bs else if p < 0 ∨ len < p then 3 else 0

set_option maxRecDepth 100000 in
set_option maxHeartbeats 1000000 in
theorem readErr_any (len : Int) (A : Option Addr) (c : Nat) (bs : List Nat) (p : Int) (w : World) (hb : ∀ b ∈ bs, b < 256) (h : Rd w w.heap.size A bs) (e0 : Int) (he0 : rdE len bs p = e0) :
    Calls Try.prog 55 #[.agg #[.int .i64 len, .slice A bs.length c], .int .i64 p] w fun e w' => e = .returned (.int .i64 e0) ∧ Below w.heap.size w w' := by
  have hC := rcheck_any len A c bs hb (w.alloc (.cells #[.int .i64 len, .slice A bs.length c] 26)) (h.on (one_below w _))
  rw [World.size_alloc] at hC
  have HC := Lib.hid hC; clear hC
  have HB := Lib.hid (one_below w (.cells #[.int .i64 len, .slice A bs.length c] 26))
  unfold rdE at he0
  clear h
  generalize chk len bs = k at *
  generalize bs.length = nn at *
  by_cases hc : k = 0
  · subst hc
    rw [if_neg (by simp)] at he0
    by_cases hp : p < 0 ∨ len < p
    · rw [if_pos hp] at he0
      subst he0
      have HP := Lib.hid (between_no p 0 len (by omega))
      clear hp
      go_enter Try.func55, Try.ntmps55
      go_wp2_with fail
      refine HC.out.mono ?_
      rintro e w1 ⟨rfl, hq⟩
      obtain ⟨hc1, hf1⟩ := old_cells hq
      go_wp2_with fail
      refine (HP.out _).mono ?_
      rintro e w2 ⟨rfl, rfl⟩
      go_wp2
      go_ret
      exact ⟨rfl, HB.out.trans (hq.mono (by omega))⟩
    · rw [if_neg hp] at he0
      subst he0
      have HP := Lib.hid (between_yes p 0 len (by omega))
      clear hp
      go_enter Try.func55, Try.ntmps55
      go_wp2_with fail
      refine HC.out.mono ?_
      rintro e w1 ⟨rfl, hq⟩
      obtain ⟨hc1, hf1⟩ := old_cells hq
      go_wp2_with fail
      refine (HP.out _).mono ?_
      rintro e w2 ⟨rfl, rfl⟩
      go_wp2
      go_ret
      exact ⟨rfl, HB.out.trans (hq.mono (by omega))⟩
  · rw [if_pos hc] at he0
    subst he0
    have t1 : (k == 0) = false := by simpa using hc
    clear hc
    go_enter Try.func55, Try.ntmps55
    go_wp2_with fail
    refine HC.out.mono ?_
    rintro e w1 ⟨rfl, hq⟩
    obtain ⟨hc1, hf1⟩ := old_cells hq
    go_wp2
    go_ret
    exact ⟨rfl, HB.out.trans (hq.mono (by omega))⟩
end

section
set_option maxRecDepth 100000
set_option linter.unusedVariables false
open Go.RowKit Go.Shelf Go.Sort

def SgQ (w : World) (s to err : Int) (e : Ending) (w' : World) : Prop := e = .returned (.tuple #[.int .i64 s, .int .i64 to, .int .i64 err]) ∧ Below w.heap.size w w'
set_option maxHeartbeats 1000000 in
theorem refsign_c (A1 : Option Addr) (n1 c1 : Nat) (len : Int) (A2 : Option Addr) (N c2 : Nat) (p : Int) (w : World) (e0 : Int) (h0 : e0 ≠ 0)
    (hC : ∀ V, Below w.heap.size w V → Calls Try.prog 18 #[.slice A1 n1 c1] V fun e w' => e = .returned (.tuple #[.slice none 0 0, .int .i64 e0]) ∧ Below V.heap.size V w') :
    Calls Try.prog 20 #[.slice A1 n1 c1, .agg #[.int .i64 len, .slice A2 N c2], .int .i64 p] w (SgQ w 0 0 e0) := by
  have HC := Lib.hid hC
  have t0 : (e0 == 0) = false := by simpa using h0
  have t1 : (e0 != 0) = true := by simpa using h0
  clear hC h0
  go_enter Try.func20, Try.ntmps20
  go_wp2_with fail
  generalize hV : w.alloc (.cells #[.int .i64 len, .slice A2 N c2] 26) = V0
  have HV : Hid (Below w.heap.size w V0) := hV ▸ one_below _ _
  clear hV
  refine (HC.out V0 HV.out).mono ?_
  rintro e w2 ⟨rfl, b2⟩
  have B1 := Lib.hid b2; clear b2
  go_wp2
  go_ret3
  exact ⟨rfl, HV.out.trans (B1.out.mono HV.out.size)⟩
set_option maxHeartbeats 1000000 in
theorem refsign_r (A1 : Option Addr) (n1 c1 : Nat) (len : Int) (A2 : Option Addr) (bs : List Nat) (hb : ∀ b ∈ bs, b < 256) (c2 : Nat) (p : Int) (w : World) (hA : Rd w w.heap.size A2 bs) (e0 : Int) (he : rdE len bs p = e0) (h0 : e0 ≠ 0) (ls : List (List Bool))
    (hC : ∀ V, Below w.heap.size w V → Calls Try.prog 18 #[.slice A1 n1 c1] V (GotC V ls)) :
    Calls Try.prog 20 #[.slice A1 n1 c1, .agg #[.int .i64 len, .slice A2 bs.length c2], .int .i64 p] w (SgQ w 0 0 e0) := by
  have HC := Lib.hid hC
  have HE : Hid (∀ V, Below w.heap.size w V → Calls Try.prog 55 #[.agg #[.int .i64 len, .slice A2 bs.length c2], .int .i64 p] V fun e w' => e = .returned (.int .i64 e0) ∧ Below V.heap.size V w') := fun V hV => readErr_any len A2 c2 bs p V hb (hA.on hV) e0 he
  have t0 : (e0 == 0) = false := by simpa using h0
  have t1 : (e0 != 0) = true := by simpa using h0
  clear hC h0 he hb hA
  generalize bs.length = N at *
  generalize ls.length = m at *
  go_enter Try.func20, Try.ntmps20
  go_wp2_with fail
  generalize hV : w.alloc (.cells #[.int .i64 len, .slice A2 N c2] 26) = V0
  have HV : Hid (Below w.heap.size w V0) := hV ▸ one_below _ _
  have HVs : Hid (w.heap.size + 1 = V0.heap.size) := by show _ = _; rw [← hV, World.size_alloc]
  have HK : Hid (∀ w' : World, Below V0.heap.size V0 w' → w'.cell? ⟨w.heap.size, 0, none⟩ = some (.int .i64 len) ∧ w'.cell? ⟨w.heap.size, 1, none⟩ = some (.slice A2 N c2)) := by
    subst hV
    exact fun w' h => box_at (by rwa [World.size_alloc] at h)
  clear hV
  refine (HC.out V0 HV.out).mono ?_
  rintro e w2 ⟨Ac, cc, bs2, rfl, -, -, b2⟩
  have B1 := Lib.hid b2
  obtain ⟨k0, k1⟩ := HK.out w2 b2
  clear b2
  have HB2 : Hid (Below w.heap.size w w2) := HV.out.trans (B1.out.mono HV.out.size)
  go_wp2_with fail
  refine (HE.out w2 HB2.out).mono ?_
  rintro e w3 ⟨rfl, b3⟩
  have HB3 : Hid (Below w.heap.size w w3) := HB2.out.trans (b3.mono HB2.out.size)
  clear b3 k0 k1
  go_wp2
  go_ret3
  exact ⟨rfl, HB3.out⟩

/-- At each round's head: no code of the first i stands there; is one of them longer than what is left, and begins with it? -/
def SqRel (C : Nat → List Bool) (left : List Bool) (n : Nat) (w : World) (v p : Value) (wr : World) : Prop :=
  ∃ (i : Nat) (b : Bool), i ≤ n ∧ p = .int .i64 (i : Int) ∧ v = .bool b ∧ (∀ t, t < i → C t ≠ [] → ¬ C t <+: left) ∧ (b = true ↔ ∃ t, t < i ∧ left.length < (C t).length ∧ left <+: C t) ∧ Below w.heap.size w wr
theorem ex_succ {P : Nat → Prop} (i : Nat) : (∃ t, t < i + 1 ∧ P t) ↔ (∃ t, t < i ∧ P t) ∨ P i := by
  constructor
  · rintro ⟨t, ht, hp⟩
    by_cases h : t = i
    · subst h; exact .inr hp
    · exact .inl ⟨t, by omega, hp⟩
  · rintro (⟨t, ht, hp⟩ | hp)
    · exact ⟨t, by omega, hp⟩
    · exact ⟨i, by omega, hp⟩

set_option maxHeartbeats 4000000 in
theorem refsign_ok (l : List Nat) (n1 : Nat) (hn : l.length = n1) (h64 : n1 ≤ 64) (h24 : ∀ x ∈ l, x ≤ 24) (hr : tkn l ≤ 16777216) (A1 : Option Addr) (c1 : Nat) (w : World)
    (lb : List Bool) (hlb : lb.length ≤ 8192) (A2 : Option Addr) (c2 : Nat) (hA : Rd w w.heap.size A2 (pack lb)) (p : Nat) (hp : p ≤ lb.length) (s to : Nat) (e0 : Int) (hres : sgA p (sgn (lb.drop p) (words l)) = (s, to, e0))
    (hC : ∀ V, Below w.heap.size w V → Calls Try.prog 18 #[.slice A1 n1 c1] V (GotC V (codes l))) :
    Calls Try.prog 20 #[.slice A1 n1 c1, .agg #[.int .i64 (lb.length : Int), .slice A2 (pack lb).length c2], .int .i64 (p : Int)] w (SgQ w s to e0) := by
  have HC := Lib.hid hC
  have HE : Hid (∀ V, Below w.heap.size w V → Calls Try.prog 55 #[.agg #[.int .i64 (lb.length : Int), .slice A2 (pack lb).length c2], .int .i64 (p : Int)] V fun e w' => e = .returned (.int .i64 0) ∧ Below V.heap.size V w') := fun V hV => readErr_any _ A2 c2 _ _ V (pack_lt lb) (hA.on hV) 0 (by unfold rdE; rw [chk_pack lb hlb, if_neg (by simp), if_neg (by omega)])
  have HBL : Hid (∀ V, Below w.heap.size w V → Calls Try.prog 54 #[.agg #[.int .i64 (lb.length : Int), .slice A2 (pack lb).length c2]] V (ListN V lb.length lb)) := fun V hV => bitList_n lb hlb _ _ rfl rfl A2 c2 V (hA.on hV)
  have H3 := Lib.hid (sign_three l h24 hr (lb.drop p))
  have HCl : Hid ((codes l).length = n1) := by show _ = _; rw [codes_length, hn]
  have hdl : (lb.drop p).length = lb.length - p := List.length_drop
  have HDl := Lib.hid hdl
  have HRes := Lib.hid hres
  have HN := Lib.hid hn
  have HCs : Hid (∀ t, t < n1 → (codes l)[t]?.getD [] = codOf (words l) t) := fun t ht => codes_get l (by omega)
  have HC24 : Hid (∀ t, t < n1 → (codOf (words l) t).length ≤ 24) := fun t ht => by
    rw [codOf_len (words_ok l h24) (by omega)]
    rw [List.getElem?_eq_getElem (show t < l.length by omega)]; exact h24 _ (List.getElem_mem _)
  have HTrue : Hid (∀ t, t < n1 → codOf (words l) t ≠ [] → codOf (words l) t <+: lb.drop p → s = t ∧ to = p + (codOf (words l) t).length ∧ e0 = 0) := fun t ht hne hpt => by
    have hr := HRes.out
    rcases H3.out with ⟨s0, h1, h2, h3, h4, h5⟩ | ⟨h1, h2, h3⟩ | ⟨h1, h2, h3⟩
    · have := h4 t (by omega) hne hpt
      subst this
      rw [h5] at hr
      unfold sgA at hr
      simp only [if_pos] at hr
      simp only [Prod.mk.injEq] at hr
      exact ⟨hr.1.symm, hr.2.1.symm, hr.2.2.symm⟩
    · exact absurd hpt (h1 t (by omega) hne)
    · exact absurd hpt (h1 t (by omega) hne)
  have HEnd : Hid ((∀ t, t < n1 → codOf (words l) t ≠ [] → ¬ codOf (words l) t <+: lb.drop p) → ((∃ t, t < n1 ∧ (lb.drop p).length < (codOf (words l) t).length ∧ lb.drop p <+: codOf (words l) t) → s = 0 ∧ to = 0 ∧ e0 = 7) ∧ (¬ (∃ t, t < n1 ∧ (lb.drop p).length < (codOf (words l) t).length ∧ lb.drop p <+: codOf (words l) t) → s = 0 ∧ to = 0 ∧ e0 = 5)) := fun hno => by
    have hr := HRes.out
    rcases H3.out with ⟨s0, h1, h2, h3, h4, h5⟩ | ⟨h1, ⟨t, ht, h2⟩, h3⟩ | ⟨h1, h2, h3⟩
    · exact absurd h3 (hno s0 (by omega) h2)
    · rw [h3] at hr
      simp [sgA] at hr
      exact ⟨fun _ => ⟨hr.1.symm, hr.2.1.symm, hr.2.2.symm⟩, fun q => absurd ⟨t, by omega, h2⟩ q⟩
    · rw [h3] at hr
      simp [sgA] at hr
      exact ⟨fun ⟨t, ht, q⟩ => absurd q (h2 t (by omega)), fun _ => ⟨hr.1.symm, hr.2.1.symm, hr.2.2.symm⟩⟩
  clear hC hA hn hres hdl h24 hr
  generalize (pack lb).length = N at *
  generalize hlbn : lb.length = M at *
  go_enter Try.func20, Try.ntmps20
  go_wp2_with fail
  generalize hV : w.alloc (.cells #[.int .i64 (M : Int), .slice A2 N c2] 26) = V0
  have HV : Hid (Below w.heap.size w V0) := hV ▸ one_below _ _
  have HVs : Hid (w.heap.size + 1 = V0.heap.size) := by show _ = _; rw [← hV, World.size_alloc]
  have HK : Hid (∀ w' : World, Below V0.heap.size V0 w' → w'.cell? ⟨w.heap.size, 0, none⟩ = some (.int .i64 (M : Int)) ∧ w'.cell? ⟨w.heap.size, 1, none⟩ = some (.slice A2 N c2)) := by
    subst hV
    exact fun w' h => box_at (by rwa [World.size_alloc] at h)
  clear hV
  refine (HC.out V0 HV.out).mono ?_
  rintro e w2 ⟨Ac, cc, bs, rfl, hbs, hrr, b2⟩
  have B1 := Lib.hid b2
  have HRR := Lib.hid hrr
  have HBs := Lib.hid hbs
  obtain ⟨k0, k1⟩ := HK.out w2 b2
  have HB2 : Hid (Below w.heap.size w w2) := HV.out.trans (B1.out.mono HV.out.size)
  rw [HCl.out]
  clear b2 hrr hbs
  go_wp2_with fail
  refine (HE.out w2 HB2.out).mono ?_
  rintro e w3 ⟨rfl, b3⟩
  have HB3 : Hid (Below w.heap.size w w3) := HB2.out.trans (b3.mono HB2.out.size)
  have B3 : Hid (Below V0.heap.size V0 w3) := B1.out.trans (b3.mono B1.out.size)
  obtain ⟨j0, j1⟩ := HK.out w3 B3.out
  have HRR3 := Lib.hid (HRR.out.below b3 b3.size)
  clear b3 k0 k1 HRR
  have t5 : (0 : Int) ≤ (p : Int) := by omega
  have t6 : (p : Int) ≤ (M : Int) := by omega
  go_wp2_with fail
  refine (HBL.out w3 HB3.out).mono ?_
  rintro e w4 ⟨A5, c5, rfl, hc5, r5, b4⟩
  have HB4 : Hid (Below w.heap.size w w4) := HB3.out.trans (b4.mono HB3.out.size)
  have HRR4 := Lib.hid (HRR3.out.below b4 b4.size)
  have t7 : (p : Int) ≤ (c5 : Int) := by omega
  have HR5 := Lib.hid r5
  clear b4 r5 j0 j1 B3 HRR3
  by_cases hcp : c5 = p
  · have HcE : Hid (c5 = p) := hcp
    have hz : (c5 = p) = True := eq_true hcp
    have hz2 : (p = c5) = True := eq_true hcp.symm
    clear hcp
    go_wp2
    have HLq : Hid ((lb.drop p).length = M - p) := by show _ = _; rw [HDl.out]
    have HXi : Hid (∀ i, i < n1 → (bs.map rx)[i]? = some (rx (bAt bs i))) := fun i hi => by
      have hb : bs.length = n1 := by have := congrArg List.length HBs.out; rw [List.length_map, HCl.out] at this; exact this
      rw [List.getElem?_map]; unfold bAt; rw [List.getElem?_eq_getElem (by omega)]; rfl
    have HBa : Hid (∀ i, i < n1 → (bAt bs i).1 = codOf (words l) i) := fun i hi => by
      rw [← HCs.out i hi, ← HBs.out, List.getElem?_map]; unfold bAt; cases bs[i]? <;> rfl
    have hqc : M - p ≤ c5 - p := by omega
    have hq8 : M - p ≤ 8192 := by omega
    have hM8 : M ≤ 8192 := hlb
    have HXr : Hid (RdV w4 w4.heap.size A5 (ic (lb.drop p))) := by
      have : (lb.drop p).length = 0 := by rw [HLq.out]; have := HcE.out; omega
      rw [List.length_eq_zero_iff.1 this]; exact .inl rfl
    clear HC HE HBL H3 HDl HRes HCs HN HK
    generalize codOf (words l) = C at *
    generalize lb.drop p = left at *
    generalize M - p = q at *
    generalize c5 - p = cq at *
    generalize A5 = X at *
    go_loopw [12, 13] (fun v p wr => SqRel C left n1 w4 v p wr) (fun _ p _ => n1 - (intOf p).toNat)
    case atStart => exact ⟨0, false, Nat.zero_le _, rfl, rfl, fun t h => absurd h (Nat.not_lt_zero _), by simp, Below.refl _ _⟩
    case round =>
      obtain ⟨i, sh, hi, rfl, rfl, hno, hsh, hbel⟩ := hrel
      have HNo := Lib.hid hno
      have HSh := Lib.hid hsh
      have HB5 := Lib.hid hbel
      clear hno hsh
      by_cases hlt : i < n1
      · have hxi := HXi.out i hlt
        obtain ⟨b, off, rfl, hbl, c0, c1', c2'⟩ := (HRR4.out.below hbel hbel.size).at_ hxi
        have HCi : Hid ((bAt bs i).1 = C i) := HBa.out i hlt
        have h24i : (C i).length ≤ 24 := HC24.out i hlt
        have HTr := Lib.hid (HTrue.out i hlt)
        obtain ⟨⟨cl, Aq, cq'⟩, hx⟩ : ∃ x, bAt bs i = x := ⟨_, rfl⟩
        rw [hx] at c0 c1' c2' HCi
        simp only [rx] at c0 c1' c2' HCi
        have hcl : cl = C i := HCi.out
        subst hcl
        have HBLi := Lib.hid (bitList_n (C i) (by omega) _ _ rfl rfl Aq cq' wr c2')
        have HNx : Hid (¬ (C i ≠ [] ∧ C i <+: left) → ∀ t, t < i + 1 → C t ≠ [] → ¬ C t <+: left) := fun hq t ht h1 h2 => by
          by_cases h : t = i
          · subst h; exact hq ⟨h1, h2⟩
          · exact HNo.out t (by omega) h1 h2
        have HSx : Hid (∀ b' : Bool, (b' = true ↔ sh = true ∨ (q < (C i).length ∧ left <+: C i)) → (b' = true ↔ ∃ t, t < i + 1 ∧ left.length < (C t).length ∧ left <+: C t)) := fun b' h => by
          rw [h, HSh.out, ← HLq.out]; exact (ex_succ i).symm
        have hc0 : C i = [] ↔ (C i).length = 0 := List.length_eq_zero_iff.symm
        have HS1 : Hid (∀ (A6 : Option Addr) (c6 : Nat) (V : World), RdV V V.heap.size X (ic left) → RdV V V.heap.size A6 (ic (C i)) → Calls Try.prog 53 #[.slice X q cq, .slice A6 (C i).length c6] V fun e w' => e = .returned (.bool (decide (C i <+: left))) ∧ Below V.heap.size V w') := fun A6 c6 V h1 h2 => starts_any left (C i) q _ HLq.out rfl (by omega) (by omega) X A6 cq c6 hqc V h1 h2
        have HS2 : Hid (∀ (A6 : Option Addr) (c6 : Nat) (V : World), (C i).length ≤ c6 → RdV V V.heap.size X (ic left) → RdV V V.heap.size A6 (ic (C i)) → Calls Try.prog 53 #[.slice A6 (C i).length c6, .slice X q cq] V fun e w' => e = .returned (.bool (decide (left <+: C i))) ∧ Below V.heap.size V w') := fun A6 c6 V h0 h1 h2 => starts_any (C i) left _ q rfl HLq.out (by omega) (by omega) A6 X c6 cq h0 V h2 h1
        have t1 : decide ((i : Int) < (n1 : Int)) = true := by simp; omega
        have t2 : decide (i < n1) = true := by simpa using hlt
        have t3 : (0 : Int) ≤ (i : Int) := by omega
        have t4 : (i : Int) < (n1 : Int) := by omega
        have hK9 : (C i).length ≤ 24 := h24i
        clear c2' hx HCi hxi h24i
        generalize hP : (pack (C i)).length = P at *
        clear hP
        generalize hK : (C i).length = K at *
        have HKl := Lib.hid hK
        clear hK
        by_cases z1 : K = 0
        · have d1 : decide ((0 : Int) < (K : Int)) = false := by simp; omega
          have d2 : decide (0 < K) = false := by simp; omega
          have d3 : decide ((q : Int) < (K : Int)) = false := by simp; omega
          have d4 : decide (q < K) = false := by simp; omega
          have hemp : C i = [] := hc0.2 (by rw [← z1])
          have HN2 := Lib.hid (HNx.out (fun h => h.1 hemp))
          have HS3 := Lib.hid (HSx.out sh ⟨fun h => .inl h, fun h => by rcases h with h | h; exact h; exact absurd h.1 (by omega)⟩)
          clear hc0 hemp z1 HTr HNx HSx hlt hbel
          go_wp2_with fail
          refine HBLi.out.mono ?_
          rintro e w5 ⟨A6, c6, rfl, hc6, r6, b6⟩
          have HB6 : Hid (Below w4.heap.size w4 w5) := HB5.out.trans (b6.mono HB5.out.size)
          clear b6 r6 c0 c1'
          cases sh with
          | false =>
            go_wp2
            go_roundw
            case rel => exact ⟨i + 1, false, by omega, by go_num, rfl, HN2.out, (by simpa using HS3.out), HB6.out⟩
            case measure => simp [intOf]; omega
          | true =>
            go_wp2
            go_roundw
            case rel => exact ⟨i + 1, true, by omega, by go_num, rfl, HN2.out, (by simpa using HS3.out), HB6.out⟩
            case measure => simp [intOf]; omega
        · have d1 : decide ((0 : Int) < (K : Int)) = true := by simp; omega
          have d2 : decide (0 < K) = true := by simp; omega
          have hne : C i ≠ [] := fun h => z1 (hc0.1 h)
          by_cases hpl : C i <+: left
          · obtain ⟨e1, e2, e3⟩ := HTr.out hne hpl
            subst e1 e2 e3
            rw [show decide (C s <+: left) = true by simpa using hpl] at HS1
            clear HTr HNx HSx hc0 hne hpl z1 hlt
            go_wp2_with fail
            refine HBLi.out.mono ?_
            rintro e w5 ⟨A6, c6, rfl, hc6, r6, b6⟩
            have HB6 : Hid (Below w4.heap.size w4 w5) := HB5.out.trans (b6.mono HB5.out.size)
            have HR6 := Lib.hid r6
            have HX6 := Lib.hid (HXr.out.on HB6.out)
            clear b6 r6 c0 c1'
            go_wp2_with fail
            refine (HS1.out A6 c6 w5 HX6.out HR6.out).mono ?_
            rintro e w6 ⟨rfl, b7⟩
            have HB7 : Hid (Below w4.heap.size w4 w6) := HB6.out.trans (b7.mono HB6.out.size)
            clear b7
            have tw : IntKind.i64.wrap ((p : Int) + (K : Int)) = (p : Int) + (K : Int) := IntWalk.i64_in _ (by omega)
            go_wp2
            go_ret3
            exact ⟨by rw [show ((p + K : Nat) : Int) = (p : Int) + (K : Int) by omega]; rfl, HB4.out.trans (HB7.out.mono HB4.out.size)⟩
          · rw [show decide (C i <+: left) = false by simpa using hpl] at HS1
            have HN2 := Lib.hid (HNx.out (fun h => hpl h.2))
            clear HTr HNx hc0 hne hpl z1 hbel
            go_wp2_with fail
            refine HBLi.out.mono ?_
            rintro e w5 ⟨A6, c6, rfl, hc6, r6, b6⟩
            have HB6 : Hid (Below w4.heap.size w4 w5) := HB5.out.trans (b6.mono HB5.out.size)
            have HR6 := Lib.hid r6
            have HX6 := Lib.hid (HXr.out.on HB6.out)
            clear b6 r6 c0 c1'
            go_wp2_with fail
            refine (HS1.out A6 c6 w5 HX6.out HR6.out).mono ?_
            rintro e w6 ⟨rfl, b7⟩
            have HB7 : Hid (Below w4.heap.size w4 w6) := HB6.out.trans (b7.mono HB6.out.size)
            have HR7 := Lib.hid (HR6.out.on b7)
            have HX7 := Lib.hid (HX6.out.on b7)
            clear b7 HR6 HX6
            cases sh with
            | true =>
              have HS3 := Lib.hid (HSx.out true ⟨fun h => .inl h, fun _ => rfl⟩)
              clear HSx
              go_wp2
              go_roundw
              case rel => exact ⟨i + 1, true, by omega, by go_num, rfl, HN2.out, (by simpa using HS3.out), HB7.out⟩
              case measure => simp [intOf]; omega
            | false =>
              by_cases z3 : q < K
              · have d3 : decide ((q : Int) < (K : Int)) = true := by simp; omega
                have d4 : decide (q < K) = true := by simpa using z3
                have HS3 := Lib.hid (HSx.out (decide (left <+: C i)) ⟨fun h => .inr ⟨z3, by simpa using h⟩, fun h => by rcases h with h | h; exact absurd h (by simp); simpa using h.2⟩)
                clear HSx z3
                generalize decide (left <+: C i) = b9 at *
                go_wp2_with fail
                refine (HS2.out A6 c6 w6 hc6 HX7.out HR7.out).mono ?_
                rintro e w7 ⟨rfl, b8⟩
                have HB8 : Hid (Below w4.heap.size w4 w7) := HB7.out.trans (b8.mono HB7.out.size)
                clear b8
                go_wp2
                go_roundw
                case rel => exact ⟨i + 1, b9, by omega, by go_num, rfl, HN2.out, HS3.out, HB8.out⟩
                case measure => simp [intOf]; omega
              · have d3 : decide ((q : Int) < (K : Int)) = false := by simp; omega
                have d4 : decide (q < K) = false := by simpa using z3
                have HS3 := Lib.hid (HSx.out false ⟨fun h => .inl h, fun h => by rcases h with h | h; exact h; exact absurd h.1 z3⟩)
                clear HSx z3
                go_wp2
                go_roundw
                case rel => exact ⟨i + 1, false, by omega, by go_num, rfl, HN2.out, (by simpa using HS3.out), HB7.out⟩
                case measure => simp [intOf]; omega
      · obtain rfl : i = n1 := by omega
        have t1 : decide ((i : Int) < (i : Int)) = false := by simp
        have t2 : decide (i < i) = false := by simp
        have HE9 := HEnd.out HNo.out
        cases sh with
        | true =>
          obtain ⟨rfl, rfl, rfl⟩ := HE9.1 (HSh.out.1 rfl)
          clear HE9 hbel
          go_wp2
          go_ret3
          exact ⟨rfl, HB4.out.trans (HB5.out.mono HB4.out.size)⟩
        | false =>
          obtain ⟨rfl, rfl, rfl⟩ := HE9.2 (fun h => absurd (HSh.out.2 h) (by simp))
          clear HE9 hbel
          go_wp2
          go_ret3
          exact ⟨rfl, HB4.out.trans (HB5.out.mono HB4.out.size)⟩
  · have hz : (c5 = p) = False := eq_false hcp
    have hz2 : (p = c5) = False := eq_false (fun h => hcp h.symm)
    go_wp2
    have HLq : Hid ((lb.drop p).length = M - p) := by show _ = _; rw [HDl.out]
    have HXi : Hid (∀ i, i < n1 → (bs.map rx)[i]? = some (rx (bAt bs i))) := fun i hi => by
      have hb : bs.length = n1 := by have := congrArg List.length HBs.out; rw [List.length_map, HCl.out] at this; exact this
      rw [List.getElem?_map]; unfold bAt; rw [List.getElem?_eq_getElem (by omega)]; rfl
    have HBa : Hid (∀ i, i < n1 → (bAt bs i).1 = codOf (words l) i) := fun i hi => by
      rw [← HCs.out i hi, ← HBs.out, List.getElem?_map]; unfold bAt; cases bs[i]? <;> rfl
    have hqc : M - p ≤ c5 - p := by omega
    have hq8 : M - p ≤ 8192 := by omega
    have hM8 : M ≤ 8192 := hlb
    have HXr : Hid (RdV w4 w4.heap.size (Option.map (fun x => x.add p) A5) (ic (lb.drop p))) := by
      have h := HR5.out.cut p (M - p)
      rw [← ic_cut, List.take_of_length_le (by rw [HLq.out]; omega)] at h
      exact h
    clear HC HE HBL H3 HDl HRes HCs HN HK
    generalize codOf (words l) = C at *
    generalize lb.drop p = left at *
    generalize M - p = q at *
    generalize c5 - p = cq at *
    generalize Option.map (fun x => Addr.add x p) A5 = X at *
    go_loopw [12, 13] (fun v p wr => SqRel C left n1 w4 v p wr) (fun _ p _ => n1 - (intOf p).toNat)
    case atStart => exact ⟨0, false, Nat.zero_le _, rfl, rfl, fun t h => absurd h (Nat.not_lt_zero _), by simp, Below.refl _ _⟩
    case round =>
      obtain ⟨i, sh, hi, rfl, rfl, hno, hsh, hbel⟩ := hrel
      have HNo := Lib.hid hno
      have HSh := Lib.hid hsh
      have HB5 := Lib.hid hbel
      clear hno hsh
      by_cases hlt : i < n1
      · have hxi := HXi.out i hlt
        obtain ⟨b, off, rfl, hbl, c0, c1', c2'⟩ := (HRR4.out.below hbel hbel.size).at_ hxi
        have HCi : Hid ((bAt bs i).1 = C i) := HBa.out i hlt
        have h24i : (C i).length ≤ 24 := HC24.out i hlt
        have HTr := Lib.hid (HTrue.out i hlt)
        obtain ⟨⟨cl, Aq, cq'⟩, hx⟩ : ∃ x, bAt bs i = x := ⟨_, rfl⟩
        rw [hx] at c0 c1' c2' HCi
        simp only [rx] at c0 c1' c2' HCi
        have hcl : cl = C i := HCi.out
        subst hcl
        have HBLi := Lib.hid (bitList_n (C i) (by omega) _ _ rfl rfl Aq cq' wr c2')
        have HNx : Hid (¬ (C i ≠ [] ∧ C i <+: left) → ∀ t, t < i + 1 → C t ≠ [] → ¬ C t <+: left) := fun hq t ht h1 h2 => by
          by_cases h : t = i
          · subst h; exact hq ⟨h1, h2⟩
          · exact HNo.out t (by omega) h1 h2
        have HSx : Hid (∀ b' : Bool, (b' = true ↔ sh = true ∨ (q < (C i).length ∧ left <+: C i)) → (b' = true ↔ ∃ t, t < i + 1 ∧ left.length < (C t).length ∧ left <+: C t)) := fun b' h => by
          rw [h, HSh.out, ← HLq.out]; exact (ex_succ i).symm
        have hc0 : C i = [] ↔ (C i).length = 0 := List.length_eq_zero_iff.symm
        have HS1 : Hid (∀ (A6 : Option Addr) (c6 : Nat) (V : World), RdV V V.heap.size X (ic left) → RdV V V.heap.size A6 (ic (C i)) → Calls Try.prog 53 #[.slice X q cq, .slice A6 (C i).length c6] V fun e w' => e = .returned (.bool (decide (C i <+: left))) ∧ Below V.heap.size V w') := fun A6 c6 V h1 h2 => starts_any left (C i) q _ HLq.out rfl (by omega) (by omega) X A6 cq c6 hqc V h1 h2
        have HS2 : Hid (∀ (A6 : Option Addr) (c6 : Nat) (V : World), (C i).length ≤ c6 → RdV V V.heap.size X (ic left) → RdV V V.heap.size A6 (ic (C i)) → Calls Try.prog 53 #[.slice A6 (C i).length c6, .slice X q cq] V fun e w' => e = .returned (.bool (decide (left <+: C i))) ∧ Below V.heap.size V w') := fun A6 c6 V h0 h1 h2 => starts_any (C i) left _ q rfl HLq.out (by omega) (by omega) A6 X c6 cq h0 V h2 h1
        have t1 : decide ((i : Int) < (n1 : Int)) = true := by simp; omega
        have t2 : decide (i < n1) = true := by simpa using hlt
        have t3 : (0 : Int) ≤ (i : Int) := by omega
        have t4 : (i : Int) < (n1 : Int) := by omega
        have hK9 : (C i).length ≤ 24 := h24i
        clear c2' hx HCi hxi h24i
        generalize hP : (pack (C i)).length = P at *
        clear hP
        generalize hK : (C i).length = K at *
        have HKl := Lib.hid hK
        clear hK
        by_cases z1 : K = 0
        · have d1 : decide ((0 : Int) < (K : Int)) = false := by simp; omega
          have d2 : decide (0 < K) = false := by simp; omega
          have d3 : decide ((q : Int) < (K : Int)) = false := by simp; omega
          have d4 : decide (q < K) = false := by simp; omega
          have hemp : C i = [] := hc0.2 (by rw [← z1])
          have HN2 := Lib.hid (HNx.out (fun h => h.1 hemp))
          have HS3 := Lib.hid (HSx.out sh ⟨fun h => .inl h, fun h => by rcases h with h | h; exact h; exact absurd h.1 (by omega)⟩)
          clear hc0 hemp z1 HTr HNx HSx hlt hbel
          go_wp2_with fail
          refine HBLi.out.mono ?_
          rintro e w5 ⟨A6, c6, rfl, hc6, r6, b6⟩
          have HB6 : Hid (Below w4.heap.size w4 w5) := HB5.out.trans (b6.mono HB5.out.size)
          clear b6 r6 c0 c1'
          cases sh with
          | false =>
            go_wp2
            go_roundw
            case rel => exact ⟨i + 1, false, by omega, by go_num, rfl, HN2.out, (by simpa using HS3.out), HB6.out⟩
            case measure => simp [intOf]; omega
          | true =>
            go_wp2
            go_roundw
            case rel => exact ⟨i + 1, true, by omega, by go_num, rfl, HN2.out, (by simpa using HS3.out), HB6.out⟩
            case measure => simp [intOf]; omega
        · have d1 : decide ((0 : Int) < (K : Int)) = true := by simp; omega
          have d2 : decide (0 < K) = true := by simp; omega
          have hne : C i ≠ [] := fun h => z1 (hc0.1 h)
          by_cases hpl : C i <+: left
          · obtain ⟨e1, e2, e3⟩ := HTr.out hne hpl
            subst e1 e2 e3
            rw [show decide (C s <+: left) = true by simpa using hpl] at HS1
            clear HTr HNx HSx hc0 hne hpl z1 hlt
            go_wp2_with fail
            refine HBLi.out.mono ?_
            rintro e w5 ⟨A6, c6, rfl, hc6, r6, b6⟩
            have HB6 : Hid (Below w4.heap.size w4 w5) := HB5.out.trans (b6.mono HB5.out.size)
            have HR6 := Lib.hid r6
            have HX6 := Lib.hid (HXr.out.on HB6.out)
            clear b6 r6 c0 c1'
            go_wp2_with fail
            refine (HS1.out A6 c6 w5 HX6.out HR6.out).mono ?_
            rintro e w6 ⟨rfl, b7⟩
            have HB7 : Hid (Below w4.heap.size w4 w6) := HB6.out.trans (b7.mono HB6.out.size)
            clear b7
            have tw : IntKind.i64.wrap ((p : Int) + (K : Int)) = (p : Int) + (K : Int) := IntWalk.i64_in _ (by omega)
            go_wp2
            go_ret3
            exact ⟨by rw [show ((p + K : Nat) : Int) = (p : Int) + (K : Int) by omega]; rfl, HB4.out.trans (HB7.out.mono HB4.out.size)⟩
          · rw [show decide (C i <+: left) = false by simpa using hpl] at HS1
            have HN2 := Lib.hid (HNx.out (fun h => hpl h.2))
            clear HTr HNx hc0 hne hpl z1 hbel
            go_wp2_with fail
            refine HBLi.out.mono ?_
            rintro e w5 ⟨A6, c6, rfl, hc6, r6, b6⟩
            have HB6 : Hid (Below w4.heap.size w4 w5) := HB5.out.trans (b6.mono HB5.out.size)
            have HR6 := Lib.hid r6
            have HX6 := Lib.hid (HXr.out.on HB6.out)
            clear b6 r6 c0 c1'
            go_wp2_with fail
            refine (HS1.out A6 c6 w5 HX6.out HR6.out).mono ?_
            rintro e w6 ⟨rfl, b7⟩
            have HB7 : Hid (Below w4.heap.size w4 w6) := HB6.out.trans (b7.mono HB6.out.size)
            have HR7 := Lib.hid (HR6.out.on b7)
            have HX7 := Lib.hid (HX6.out.on b7)
            clear b7 HR6 HX6
            cases sh with
            | true =>
              have HS3 := Lib.hid (HSx.out true ⟨fun h => .inl h, fun _ => rfl⟩)
              clear HSx
              go_wp2
              go_roundw
              case rel => exact ⟨i + 1, true, by omega, by go_num, rfl, HN2.out, (by simpa using HS3.out), HB7.out⟩
              case measure => simp [intOf]; omega
            | false =>
              by_cases z3 : q < K
              · have d3 : decide ((q : Int) < (K : Int)) = true := by simp; omega
                have d4 : decide (q < K) = true := by simpa using z3
                have HS3 := Lib.hid (HSx.out (decide (left <+: C i)) ⟨fun h => .inr ⟨z3, by simpa using h⟩, fun h => by rcases h with h | h; exact absurd h (by simp); simpa using h.2⟩)
                clear HSx z3
                generalize decide (left <+: C i) = b9 at *
                go_wp2_with fail
                refine (HS2.out A6 c6 w6 hc6 HX7.out HR7.out).mono ?_
                rintro e w7 ⟨rfl, b8⟩
                have HB8 : Hid (Below w4.heap.size w4 w7) := HB7.out.trans (b8.mono HB7.out.size)
                clear b8
                go_wp2
                go_roundw
                case rel => exact ⟨i + 1, b9, by omega, by go_num, rfl, HN2.out, HS3.out, HB8.out⟩
                case measure => simp [intOf]; omega
              · have d3 : decide ((q : Int) < (K : Int)) = false := by simp; omega
                have d4 : decide (q < K) = false := by simpa using z3
                have HS3 := Lib.hid (HSx.out false ⟨fun h => .inl h, fun h => by rcases h with h | h; exact h; exact absurd h.1 z3⟩)
                clear HSx z3
                go_wp2
                go_roundw
                case rel => exact ⟨i + 1, false, by omega, by go_num, rfl, HN2.out, (by simpa using HS3.out), HB7.out⟩
                case measure => simp [intOf]; omega
      · obtain rfl : i = n1 := by omega
        have t1 : decide ((i : Int) < (i : Int)) = false := by simp
        have t2 : decide (i < i) = false := by simp
        have HE9 := HEnd.out HNo.out
        cases sh with
        | true =>
          obtain ⟨rfl, rfl, rfl⟩ := HE9.1 (HSh.out.1 rfl)
          clear HE9 hbel
          go_wp2
          go_ret3
          exact ⟨rfl, HB4.out.trans (HB5.out.mono HB4.out.size)⟩
        | false =>
          obtain ⟨rfl, rfl, rfl⟩ := HE9.2 (fun h => absurd (HSh.out.2 h) (by simp))
          clear HE9 hbel
          go_wp2
          go_ret3
          exact ⟨rfl, HB4.out.trans (HB5.out.mono HB4.out.size)⟩
end
end Go.Proofs.Ythfjfkbolfnkkaa
