/- What is asked in any case of codes by their lengths: it answers true, in whatever world. -/
import Derived.Test.YthfjfkbolfnkkaaKSign
import Derived.Test.YthfjfkbolfnkkaaKApart
namespace Go.Proofs.Ythfjfkbolfnkkaa
set_option maxRecDepth 100000
set_option linter.unusedVariables false
open Go.RowKit Go.Shelf Go.Sort

/-- Codes that answers an error. -/
def CoP (w : World) (e0 : Int) (e : Ending) (w' : World) : Prop := e = .returned (.tuple #[.slice none 0 0, .int .i64 e0]) ∧ Below w.heap.size w w'
set_option maxHeartbeats 1000000 in
theorem codes_w (A : Option Addr) (n c : Nat) (w : World) (e0 : Int) (h0 : e0 ≠ 0) (hW : Calls Try.prog 36 #[.slice A n c] w fun e w' => e = .returned (.tuple #[.slice none 0 0, .int .i64 e0]) ∧ Below w.heap.size w w') :
    Calls Try.prog 13 #[.slice A n c] w (CoP w e0) := by
  have HC := Lib.hid hW; clear hW
  have t0 : (e0 == 0) = false := by simpa using h0
  clear h0
  go_enter Try.func13, Try.ntmps13
  go_wp2_with fail
  refine HC.out.mono ?_
  rintro e w1 ⟨rfl, b1⟩
  go_wp2
  go_ret2
  exact ⟨rfl, b1⟩
/-- What the words answer where there are none. -/
def woE (xs : List Int) : Int := if kchk xs ≠ 0 then kchk xs else if 16777216 < tkn (xs.map Int.toNat) then 8 else 0
theorem ns_nat (l : List Nat) : (ns l).map Int.toNat = l := by
  simp [ns, List.map_map, Function.comp_def]
theorem wordsOf_no (xs : List Int) (n : Nat) (hn : xs.length = n) (hn2 : n ≤ 9223372036854775807) (e0 : Int) (he : woE xs = e0) (h0 : e0 ≠ 0) (A : Option Addr) (c : Nat) (w : World) (h : RdV w w.heap.size A (zc xs)) :
    Calls Try.prog 36 #[.slice A n c] w fun e w' => e = .returned (.tuple #[.slice none 0 0, .int .i64 e0]) ∧ Below w.heap.size w w' := by
  unfold woE at he
  by_cases hk : kchk xs = 0
  · rw [if_neg (by omega)] at he
    obtain ⟨l, rfl, h64, h24⟩ := kchk_zero xs hk
    have e1 : (l.map (fun (x : Nat) => (x : Int))).map Int.toNat = l := ns_nat l
    rw [e1] at he
    by_cases hr : 16777216 < tkn l
    · rw [if_pos hr] at he
      subst he
      exact wordsOf_full l n (by simpa using hn) (by simp at hn; omega) h24 hr A c w h
    · rw [if_neg hr] at he; exact absurd he.symm h0
  · rw [if_pos hk] at he
    exact wordsOf_e xs n hn hn2 e0 he h0 A c w h
theorem woE_zero (xs : List Int) (h : woE xs = 0) : ∃ l : List Nat, xs = ns l ∧ l.length ≤ 64 ∧ (∀ x ∈ l, x ≤ 24) ∧ tkn l ≤ 16777216 := by
  unfold woE at h
  by_cases hk : kchk xs = 0
  · rw [if_neg (by omega)] at h
    obtain ⟨l, rfl, h64, h24⟩ := kchk_zero xs hk
    have e1 : (l.map (fun (x : Nat) => (x : Int))).map Int.toNat = l := ns_nat l
    rw [e1] at h
    refine ⟨l, rfl, h64, h24, ?_⟩
    by_cases hr : 16777216 < tkn l
    · rw [if_pos hr] at h; omega
    · omega
  · rw [if_pos hk] at h; exact absurd h hk
theorem woE_cases (xs : List Int) : woE xs = 0 ∨ woE xs = 2 ∨ woE xs = 3 ∨ woE xs = 8 := by
  have hk : kchk xs = 0 ∨ kchk xs = 2 ∨ kchk xs = 3 := by
    unfold kchk
    split
    · simp
    · have : ∀ l : List Int, eachE (rg 24) l = 0 ∨ eachE (rg 24) l = 3 := by
        intro l
        induction l with
        | nil => simp [eachE]
        | cons x t ih =>
          unfold eachE
          split
          · exact ih
          · exact rg_or 24 x
      rcases this xs with h | h <;> simp [h]
  unfold woE
  split
  · omega
  · split <;> simp
/-- Codes begin with no other one. -/
theorem codes_apart (l : List Nat) (h24 : ∀ w ∈ l, w ≤ 24) (hr : tkn l ≤ 16777216) : apart (codes l) := by
  have h := words_ok l h24
  unfold apart codes
  rw [List.pairwise_filter, List.pairwise_map]
  have nd : (List.range l.length).Pairwise (· ≠ ·) := List.nodup_range
  refine List.Pairwise.imp_of_mem ?_ nd
  intro s t hs ht hne h1 h2
  have key : ∀ s, s ∈ List.range l.length → (!(codOf (words l) s).isEmpty) = true → ∃ x ∈ words l, x.1 = s ∧ codOf (words l) s = code x := by
    intro s hs hc
    have hsl := List.mem_range.1 hs
    have e : l[s]? = some l[s] := List.getElem?_eq_getElem hsl
    by_cases h0 : l[s] = 0
    · rw [codOf_none h (fun w hw => by rw [e] at hw; cases hw; exact h0)] at hc
      simp at hc
    · obtain ⟨n, hn⟩ := h.has s _ e h0
      exact ⟨_, hn, rfl, codOf_mem h hn⟩
  obtain ⟨x, hx, hx1, hx2⟩ := key s hs h1
  obtain ⟨y, hy, hy1, hy2⟩ := key t ht h2
  rw [hx2, hy2]
  exact words_row h hr hx hy (fun e => hne (by rw [← hx1, ← hy1, e]))
/-- Numbers, newly laid. -/
theorem rdv_row (w : World) (vs : List Value) (T : TypeId) : RdV (w.alloc (.cells vs.toArray T)) (w.alloc (.cells vs.toArray T)).heap.size (some ⟨w.heap.size, 0, none⟩) vs := by
  refine .inr ⟨w.heap.size, 0, rfl, by simp, fun i v hi => ?_⟩
  rw [cell_at (World.alloc_heap_new w (.cells vs.toArray T)), Nat.zero_add]
  simpa using hi
theorem rd_row1 (w : World) (x : Nat) : Rd (w.alloc (.cells #[.int .u8 (x : Int)] 5)) (w.alloc (.cells #[.int .u8 (x : Int)] 5)).heap.size (some ⟨w.heap.size, 0, none⟩) [x] := rd_lit1 w x

theorem kb_codes : codes [2, 0, 1, 3, 3] = [[true, false], [], [false], [true, true, false], [true, true, true]] := by decide
theorem kb_tkn : tkn [2, 0, 1, 3, 3] = 16777216 := by decide
theorem kb_pack1 : pack [false, true, true, false] = [96] := by decide
theorem kb_pack2 : pack [true] = [128] := by decide
theorem kb_sgn1 : sgA 1 (sgn ([false, true, true, false].drop 1) (words [2, 0, 1, 3, 3])) = (3, 4, 0) := by decide
theorem kb_sgn2 : sgA 0 (sgn ([true].drop 0) (words [2])) = (0, 0, 5) := by decide
theorem kb_full : woE [1, 1, 1] = 8 := by decide
theorem kb_p0 : pack [true, false] = [128] := by decide
theorem kb_p2 : pack [false] = [0] := by decide
theorem kb_p4 : pack [true, true, true] = [224] := by decide
end Go.Proofs.Ythfjfkbolfnkkaa
