/- Texts of this proof, one behind the other; each fact names its conditions. -/
import Derived.Test.YtbddcokjkdoaaaaGreatSO2
import Derived.Test.YtbddcokjkdoaaaaGreatSO7
import Derived.Deep.Matrix
import Derived.Deep.SlicePairs
import Derived.SizedLaws
import Derived.Test.YtbddcokjkdoaaaaGreatSO34
namespace Go.Proofs.YtbddcokjkdoaaaaGreat
section
open Go.ChangeShapes Go.WideShapes Go.ChangeAt Go.RowKit Go.Joins Go.Deep
theorem cellsPd : Tryz.prog.cellsOf 44 = 6 := by kernel_rfl
theorem cellsBt : Tryz.prog.cellsOf 27 = 2 := by kernel_rfl
theorem cellsI1 : Tryz.prog.cellsOf 3 = 1 := by kernel_rfl
set_option maxRecDepth 100000 in
/-- Bits in two cells. -/
theorem bits_two {H : Type} {enc : TypeId × Value → H} {W : World} {n : Nat} {v0 v1 : Value} {y : DataW H × List MemPlace}
    (h : DataW.trod enc Tryz.prog W 0 (fun _ => true) true n 27 [v0, v1] = some y) :
    ∃ (len : Int) (A : Option Addr) (c : Nat) (bs : List Nat), v0 = .int .i64 len ∧ v1 = .slice A bs.length c ∧ Rd W W.heap.size A bs ∧ (∀ b ∈ bs, b < 256) ∧ (Lit.int .i64 len).wf = true := by
  obtain ⟨y0, y1, m, _, _, hy0, hy1⟩ := trod_struct2 Tryz.underlying27 h
  have hy0' : DataW.trod enc Tryz.prog W 0 (fun _ => true) true m 3 [v0] = some y0 := hy0
  have hy1' : DataW.trod enc Tryz.prog W 0 (fun _ => true) true m 25 [v1] = some y1 := hy1
  obtain ⟨a, e0, _, wa⟩ := DataW.trod_int Tryz.underlying3 hy0'
  simp at e0
  subst e0
  rcases open_ints Tryz.underlying25 Tryz.underlying5 cells5 hy1' with ⟨hcs, _⟩ | ⟨x, l, c, zs, hcs, _, hl, hm, hz, _, hcell, hwz⟩
  · simp at hcs
    subst hcs
    exact ⟨a, none, 0, [], rfl, rfl, .inl rfl, by simp, wa⟩
  · simp at hcs
    subst hcs
    have hzc : zs.length = c := by simpa using hz
    refine ⟨a, some x, c, (zs.take l).map Int.toNat, rfl, ?_, ?_, ?_, wa⟩
    · have : ((zs.take l).map Int.toNat).length = l := by rw [List.length_map, List.length_take]; omega
      rw [this]
    · rcases Nat.eq_zero_or_pos l with h0 | h0
      · left; rw [h0]; rfl
      · obtain ⟨b, off, rfl, hc⟩ := ints_at hcell (by omega)
        refine .inr ⟨b, off, rfl, ?_, fun i hi => ?_⟩
        · exact lt_of_cell (hc 0 (by omega))
        · have hil : i < l := by rw [List.length_map, List.length_take] at hi; omega
          rw [hc i (by omega)]
          have hz0 : zs.getD i 0 = zs[i]'(by omega) := by rw [List.getD_eq_getElem?_getD, List.getElem?_eq_getElem (by omega)]; rfl
          have hw := bounds_u8 (hwz _ (List.getElem_mem (show i < zs.length by omega)))
          have e1 : ((zs.take l).map Int.toNat)[i]?.getD 0 = (zs[i]'(by omega)).toNat := by
            rw [List.getElem?_map, List.getElem?_take_of_lt hil, List.getElem?_eq_getElem (by omega)]; rfl
          rw [e1, hz0]
          congr 2
          omega
    · intro b hb
      simp only [List.mem_map] at hb
      obtain ⟨z, hz1, rfl⟩ := hb
      have hw := bounds_u8 (hwz z (List.mem_of_mem_take hz1))
      omega
theorem how_three {H : Type} {enc : TypeId × Value → H} {W : World} {n : Nat} {v0 v1 v2 : Value} {y : DataW H × List MemPlace}
    (h : DataW.trod enc Tryz.prog W 0 (fun _ => true) true n 24 [v0, v1, v2] = some y) :
    ∃ (b s k : Int), v0 = .int .i64 b ∧ v1 = .int .i64 s ∧ v2 = .int .i64 k := by
  obtain ⟨xs, m, _, _, _, hlen, hall⟩ := DataW.trod_struct Tryz.underlying24 h
  match xs, hlen with
  | [y0, y1, y2], _ =>
    have h0 : DataW.trod enc Tryz.prog W 0 (fun _ => true) true m 3 [v0] = some y0 := by simpa [cellsI1, Value.cells] using hall 0 _ rfl
    have h1 : DataW.trod enc Tryz.prog W 0 (fun _ => true) true m 3 [v1] = some y1 := by simpa [cellsI1, Value.cells] using hall 1 _ rfl
    have h2 : DataW.trod enc Tryz.prog W 0 (fun _ => true) true m 3 [v2] = some y2 := by simpa [cellsI1, Value.cells] using hall 2 _ rfl
    obtain ⟨a, e0, _, wa⟩ := DataW.trod_int Tryz.underlying3 h0
    obtain ⟨b, e1, _, wb⟩ := DataW.trod_int Tryz.underlying3 h1
    obtain ⟨c, e2, _, wc⟩ := DataW.trod_int Tryz.underlying3 h2
    simp at e0 e1 e2
    exact ⟨a, b, c, e0, e1, e2⟩
end
section
open Go.ChangeShapes Go.WideShapes Go.ChangeAt Go.RowKit Go.Joins
theorem cellsSh : Tryz.prog.cellsOf 67 = 13 := by kernel_rfl
theorem cellsF7 : Tryz.prog.cellsOf 65 = 7 := by kernel_rfl
theorem array13 {α : Type} {cs : Array α} (h : cs.size = 13) : ∃ v0 v1 v2 v3 v4 v5 v6 v7 v8 v9 v10 v11 v12, cs = #[v0, v1, v2, v3, v4, v5, v6, v7, v8, v9, v10, v11, v12] := by
  obtain ⟨l⟩ := cs
  match l, h with
  | [v0, v1, v2, v3, v4, v5, v6, v7, v8, v9, v10, v11, v12], _ => exact ⟨v0, v1, v2, v3, v4, v5, v6, v7, v8, v9, v10, v11, v12, rfl⟩
set_option maxRecDepth 100000 in
theorem trod_pk {H : Type} {enc : TypeId × Value → H} {W : World} {n : Nat} {v0 v1 v2 v3 v4 v5 : Value} {y : DataW H × List MemPlace}
    (h : DataW.trod enc Tryz.prog W 0 (fun _ => true) true n 44 [v0, v1, v2, v3, v4, v5] = some y) :
    ∃ (N B ls k len : Int) (A : Option Addr) (c : Nat) (bs : List Nat), v0 = .int .i64 N ∧ v1 = .int .i64 B ∧ v2 = .int .i64 ls ∧ v3 = .int .i64 k ∧ v4 = .int .i64 len ∧ v5 = .slice A bs.length c ∧ Rd W W.heap.size A bs ∧ (∀ b ∈ bs, b < 256) := by
  obtain ⟨xs, n, _, _, _, hlen, hall⟩ := DataW.trod_struct Tryz.underlying44 h
  match xs, hlen with
  | [y0, y1, y2], _ =>
    have h0 : DataW.trod enc Tryz.prog W 0 (fun _ => true) true n 3 [v0] = some y0 := by simpa [cellsI1, cellsBt, cellsHow, Value.cells] using hall 0 _ rfl
    have h1 : DataW.trod enc Tryz.prog W 0 (fun _ => true) true n 24 [v1, v2, v3] = some y1 := by simpa [cellsI1, cellsBt, cellsHow, Value.cells] using hall 1 _ rfl
    have h2 : DataW.trod enc Tryz.prog W 0 (fun _ => true) true n 27 [v4, v5] = some y2 := by simpa [cellsI1, cellsBt, cellsHow, Value.cells] using hall 2 _ rfl
    obtain ⟨a, e0, _, wa⟩ := DataW.trod_int Tryz.underlying3 h0
    obtain ⟨b, s, k, rfl, rfl, rfl⟩ := how_three h1
    obtain ⟨ll, A1, c1, bs1, rfl, rfl, r1, b1, _⟩ := bits_two h2
    simp at e0
    subst e0
    exact ⟨a, b, s, k, ll, A1, c1, bs1, rfl, rfl, rfl, rfl, rfl, rfl, r1, b1⟩
set_option maxRecDepth 100000 in
theorem trod_fn {H : Type} {enc : TypeId × Value → H} {W : World} {n : Nat} {v0 v1 v2 v3 v4 v5 v6 : Value} {y : DataW H × List MemPlace}
    (h : DataW.trod enc Tryz.prog W 0 (fun _ => true) true n 65 [v0, v1, v2, v3, v4, v5, v6] = some y) :
    ∃ (N T k ll : Int) (A1 : Option Addr) (c1 : Nat) (bs1 : List Nat) (lh : Int) (A2 : Option Addr) (c2 : Nat) (bs2 : List Nat), v0 = .int .i64 N ∧ v1 = .int .i64 T ∧ v2 = .int .i64 k ∧ v3 = .int .i64 ll ∧ v4 = .slice A1 bs1.length c1 ∧ v5 = .int .i64 lh ∧ v6 = .slice A2 bs2.length c2 ∧
      Rd W W.heap.size A1 bs1 ∧ (∀ b ∈ bs1, b < 256) ∧ Rd W W.heap.size A2 bs2 ∧ (∀ b ∈ bs2, b < 256) := by
  obtain ⟨xs, n, _, _, _, hlen, hall⟩ := DataW.trod_struct Tryz.underlying65 h
  match xs, hlen with
  | [y0, y1, y2, y3, y4], _ =>
    have h0 : DataW.trod enc Tryz.prog W 0 (fun _ => true) true n 3 [v0] = some y0 := by simpa [cellsI1, cellsBt, Value.cells] using hall 0 _ rfl
    have h1 : DataW.trod enc Tryz.prog W 0 (fun _ => true) true n 3 [v1] = some y1 := by simpa [cellsI1, cellsBt, Value.cells] using hall 1 _ rfl
    have h2 : DataW.trod enc Tryz.prog W 0 (fun _ => true) true n 3 [v2] = some y2 := by simpa [cellsI1, cellsBt, Value.cells] using hall 2 _ rfl
    have h3 : DataW.trod enc Tryz.prog W 0 (fun _ => true) true n 27 [v3, v4] = some y3 := by simpa [cellsI1, cellsBt, Value.cells] using hall 3 _ rfl
    have h4 : DataW.trod enc Tryz.prog W 0 (fun _ => true) true n 27 [v5, v6] = some y4 := by simpa [cellsI1, cellsBt, Value.cells] using hall 4 _ rfl
    obtain ⟨a, e0, _, wa⟩ := DataW.trod_int Tryz.underlying3 h0
    obtain ⟨b, e1, _, wb⟩ := DataW.trod_int Tryz.underlying3 h1
    obtain ⟨c, e2, _, wc⟩ := DataW.trod_int Tryz.underlying3 h2
    obtain ⟨ll, A1, c1, bs1, rfl, rfl, r1, b1, _⟩ := bits_two h3
    obtain ⟨lh, A2, c2, bs2, rfl, rfl, r2, b2, _⟩ := bits_two h4
    simp at e0 e1 e2
    subst e0; subst e1; subst e2
    exact ⟨a, b, c, ll, A1, c1, bs1, lh, A2, c2, bs2, rfl, rfl, rfl, rfl, rfl, rfl, rfl, r1, b1, r2, b2⟩
set_option maxRecDepth 100000 in
theorem open_shelf {H : Type} {enc : TypeId × Value → H} {W : World} {base : Nat} {v : Value} {d : DataW H} {p : List MemPlace}
    (hv : Value.okWide Tryz.prog W .any base 67 v) (h : DataW.Trod enc Tryz.prog W 0 (fun _ => true) true 67 v d p) :
    ∃ (N B ls k len fN fT fk fl fh : Int) (A A1 A2 : Option Addr) (c c1 c2 : Nat) (bs b1 b2 : List Nat), v = .agg #[.int .i64 N, .int .i64 B, .int .i64 ls, .int .i64 k, .int .i64 len, .slice A bs.length c, .int .i64 fN, .int .i64 fT, .int .i64 fk, .int .i64 fl, .slice A1 b1.length c1, .int .i64 fh, .slice A2 b2.length c2] ∧
      (∀ b ∈ bs, b < 256) ∧ (∀ b ∈ b1, b < 256) ∧ (∀ b ∈ b2, b < 256) ∧ Rd W W.heap.size A bs ∧ Rd W W.heap.size A1 b1 ∧ Rd W W.heap.size A2 b2 := by
  obtain ⟨cs, rfl, hsz⟩ := okWide_struct Tryz.underlying67 hv
  obtain ⟨v0, v1, v2, v3, v4, v5, v6, v7, v8, v9, v10, v11, v12, rfl⟩ := array13 (hsz.trans cellsSh)
  obtain ⟨fuel, hf⟩ := h
  obtain ⟨xs, n, _, _, _, hlen, hall⟩ := DataW.trod_struct Tryz.underlying67 hf
  match xs, hlen with
  | [y0, y1], _ =>
    have h0 : DataW.trod enc Tryz.prog W 0 (fun _ => true) true n 44 [v0, v1, v2, v3, v4, v5] = some y0 := by simpa [cellsPd, cellsF7, Value.cells] using hall 0 _ rfl
    have h1 : DataW.trod enc Tryz.prog W 0 (fun _ => true) true n 65 [v6, v7, v8, v9, v10, v11, v12] = some y1 := by simpa [cellsPd, cellsF7, Value.cells] using hall 1 _ rfl
    obtain ⟨N, B, ls, k, len, A, c, bs, rfl, rfl, rfl, rfl, rfl, rfl, r0, t0⟩ := trod_pk h0
    obtain ⟨fN, fT, fk, fl, A1, c1, b1, fh, A2, c2, b2, rfl, rfl, rfl, rfl, rfl, rfl, rfl, r1, t1, r2, t2⟩ := trod_fn h1
    exact ⟨N, B, ls, k, len, fN, fT, fk, fl, fh, A, A1, A2, c, c1, c2, bs, b1, b2, rfl, t0, t1, t2, r0, r1, r2⟩
end
end Go.Proofs.YtbddcokjkdoaaaaGreat
