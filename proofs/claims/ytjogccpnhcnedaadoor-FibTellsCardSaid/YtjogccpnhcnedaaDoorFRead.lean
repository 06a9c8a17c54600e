/- A number is read from its code: what readIndices and Read answer, for whatever they are handed; each fact names its conditions. -/
import Derived.Test.YtjogccpnhcnedaaDoorFSplit
namespace Go.Proofs.YtjogccpnhcnedaaDoor
set_option maxRecDepth 100000
set_option linter.unusedVariables false
open Go.RowKit Go.Shelf

/-- What comes back of places. -/
def IdxP (w : World) (r : Option (List Nat × Nat)) (s : Nat) (e : Ending) (w' : World) : Prop :=
  match r with
  | none => ∃ A c, e = .returned (.tuple #[.slice A 0 c, .int .i64 0, .int .i64 7]) ∧ Below w.heap.size w w'
  | some (d, k) => ∃ A c, e = .returned (.tuple #[.slice A d.length c, .int .i64 ((s + k : Nat) : Int), .int .i64 0]) ∧ RdV w' w'.heap.size A (zc (ints d.reverse)) ∧ Below w.heap.size w w'
/-- One bit, as Get tells it. -/
theorem f_get_bit (l : List Bool) (hl : l.length ≤ 8192) (A : Option Addr) (c i : Nat) (hi : i < l.length) (w : World) (h : Rd w w.heap.size A (pack l)) :
    Calls Tryd.prog 27 #[.agg #[.int .i64 (l.length : Int), .slice A (pack l).length c], .int .i64 (i : Int), .int .i64 1] w fun e w' => e = .returned (.tuple #[.int .u64 ((l[i]?.getD false).toNat : Int), .int .i64 0]) ∧ Below w.heap.size w w' := by
  refine get_l l hl A c i 1 _ (by omega) (by omega) ?_ w h
  rw [List.take_one, List.head?_drop, List.getElem?_eq_getElem hi]
  simp [num]
theorem ri_at (l : List Bool) (i k : Nat) (b : Bool) (d : List Nat) (h : i < l.length) : ri (l.drop i) k b d = if b = true ∧ l[i]?.getD false = true then some (d, k + 1) else ri (l.drop (i + 1)) (k + 1) (l[i]?.getD false) (if l[i]?.getD false = true then k :: d else d) := by
  rw [List.drop_eq_getElem_cons h, List.getElem?_eq_getElem h, ri]
  rfl
/-- At each round's head. -/
def RiRel (w1 : World) (l : List Bool) (s : Nat) (v q p : Value) (wr : World) : Prop :=
  ∃ (k : Nat) (b : Bool) (d : List Nat), p = .int .i64 ((s + k : Nat) : Int) ∧ q = .int .u64 (b.toNat : Int) ∧ s + k ≤ l.length ∧ d.length ≤ k ∧ ri (l.drop (s + k)) k b d = ri (l.drop s) 0 false [] ∧ wr.ownsRow w1.heap.size 3 1 v d.length (zc (ints d.reverse)) ∧ Below w1.heap.size w1 wr
theorem ints_snoc (d : List Nat) (k : Nat) : zc (ints (k :: d).reverse) = zc (ints d.reverse) ++ [.int .i64 (k : Int)] := by
  rw [List.reverse_cons, ints_append, zc_append]; rfl

set_option maxHeartbeats 4000000 in
theorem idx_any (l : List Bool) (hl : l.length ≤ 8192) (A : Option Addr) (c : Nat) (s : Nat) (hs : s ≤ l.length) (w : World) (h : Rd w w.heap.size A (pack l)) :
    Calls Tryd.prog 34 #[.agg #[.int .i64 (l.length : Int), .slice A (pack l).length c], .int .i64 (s : Int)] w (IdxP w (ri (l.drop s) 0 false []) s) := by
  have HR := Lib.hid h; clear h
  obtain ⟨w1, hw1⟩ : ∃ w1, w1 = w.alloc (.cells #[.int .i64 (l.length : Int), .slice A (pack l).length c] 26) := ⟨_, rfl⟩
  have HB1 : Hid (Below w.heap.size w w1) := hw1 ▸ one_below _ _
  have HBox : Hid (w1.heap[w.heap.size]? = some (.cells #[.int .i64 (l.length : Int), .slice A (pack l).length c] 26 (0, 0))) := hw1 ▸ World.alloc_heap_new w _
  have HLt : Hid (w.heap.size < w1.heap.size) := by show _ < _; rw [hw1, World.size_alloc]; omega
  have HGet := Lib.hid (fun i hi V (hV : Below w1.heap.size w1 V) => f_get_bit l hl A c i hi V (HR.out.on (HB1.out.trans (hV.mono HB1.out.size))))
  have HRi := Lib.hid (fun i k b d => ri_at l i k b d)
  have HEnd : Hid (∀ i k b d, l.length ≤ i → ri (l.drop i) k b d = none) := fun i k b d hi => by rw [List.drop_of_length_le hi]; rfl
  obtain ⟨i0, hi, hz0, hz1, hz2⟩ := info_parts info3
  have hpl : (pack l).length ≤ 1024 := by rw [pack_length]; omega
  generalize hr : ri (l.drop s) 0 false [] = r at *
  have HRr := Lib.hid hr; clear hr
  generalize hpn : (pack l).length = pn at *
  generalize hln : l.length = ln at *
  have HLn := Lib.hid hln
  clear hpn hln
  go_enter Tryd.func34, Tryd.ntmps34
  go_wp2
  rw [← hw1]
  clear hw1
  go_loopw [7, 8, 9] (fun v q p wr => RiRel w1 l s v q p wr) (fun _ _ p _ => ln - (intOf p).toNat)
  case atStart => exact ⟨0, false, [], rfl, rfl, by rw [HLn.out]; exact hs, Nat.le_refl _, by rw [HRr.out]; exact HRr.out, ⟨rfl, .inl ⟨rfl, rfl⟩⟩, Below.refl _ _⟩
  case round =>
    obtain ⟨k, b, d, rfl, rfl, hk, hdl, hri, hrow, hbel⟩ := hrel
    rw [HLn.out] at hk
    rw [HRr.out] at hri
    obtain ⟨Av, cv, rfl⟩ := own_slice3 hrow
    have HO := Lib.hid hrow
    have HBl := Lib.hid hbel
    have HI := Lib.hid hri
    have hbx := (hbel.block w.heap.size HLt.out).trans HBox.out
    have c0 := (blk_cells hbx).1
    have c1 := (blk_cells hbx).2.1
    clear hrow hbel hri hbx
    generalize hq : s + k = q at *
    have HQ := Lib.hid hq
    by_cases hlt : q < ln
    · have HG := Lib.hid (HGet.out q hlt wr HBl.out)
      have hat := HRi.out q k b d hlt
      rw [HI.out] at hat
      generalize l[q]?.getD false = bt at *
      have HA := Lib.hid hat
      clear hat
      cases bt
      · have HN : Hid (ri (l.drop (q + 1)) (k + 1) false d = r) := by
          show _ = _
          rw [HA.out, if_neg (by simp)]
          rfl
        clear HA
        cases b
        · go_wp2_with fail
          refine HG.out.mono ?_
          rintro e w2 ⟨rfl, B2⟩
          have HB2 := Lib.hid (HBl.out.trans (B2.mono HBl.out.size))
          have HO2 := Lib.hid (HO.out.kept (grown_of_below B2 none) (by
            rcases HO.out.2 with ⟨h, _⟩ | ⟨g, cap, cur, h, _⟩
            · left; rw [h]; rfl
            · right; rw [h]; simp [Value.ownBlock]))
          clear B2
          go_wp2
          go_roundw
          case rel => exact ⟨k + 1, false, d, by rw [show ((s + (k + 1) : Nat) : Int) = (q : Int) + 1 from by have := HQ.out; omega], rfl, by rw [HLn.out]; have := HQ.out; omega, by omega, by rw [show s + (k + 1) = q + 1 from by have := HQ.out; omega, HN.out, HRr.out], HO2.out, HB2.out⟩
          case measure => simp [intOf]; omega
        · go_wp2_with fail
          refine HG.out.mono ?_
          rintro e w2 ⟨rfl, B2⟩
          have HB2 := Lib.hid (HBl.out.trans (B2.mono HBl.out.size))
          have HO2 := Lib.hid (HO.out.kept (grown_of_below B2 none) (by
            rcases HO.out.2 with ⟨h, _⟩ | ⟨g, cap, cur, h, _⟩
            · left; rw [h]; rfl
            · right; rw [h]; simp [Value.ownBlock]))
          clear B2
          go_wp2
          go_roundw
          case rel => exact ⟨k + 1, false, d, by rw [show ((s + (k + 1) : Nat) : Int) = (q : Int) + 1 from by have := HQ.out; omega], rfl, by rw [HLn.out]; have := HQ.out; omega, by omega, by rw [show s + (k + 1) = q + 1 from by have := HQ.out; omega, HN.out, HRr.out], HO2.out, HB2.out⟩
          case measure => simp [intOf]; omega
      · cases b
        · have HN : Hid (ri (l.drop (q + 1)) (k + 1) true (k :: d) = r) := by
            show _ = _
            rw [HA.out, if_neg (by simp)]
            rfl
          have HKs : Hid ((q : Int) - (s : Int) = (k : Int)) := by show _ = _; omega
          have HLk : Hid ((k :: d).length = d.length + 1) := rfl
          have hk82 : d.length ≤ 8192 := by omega
          clear HA
          generalize hdk : d.length = dk at *
          have HDK := Lib.hid hdk; clear hdk
          go_wp2_with fail
          refine HG.out.mono ?_
          rintro e w2 ⟨rfl, B2⟩
          have HB2 := Lib.hid (HBl.out.trans (B2.mono HBl.out.size))
          have HO2 := Lib.hid (HO.out.kept (grown_of_below B2 none) (by
            rcases HO.out.2 with ⟨h, _⟩ | ⟨g, cap, cur, h, _⟩
            · left; rw [h]; rfl
            · right; rw [h]; simp [Value.ownBlock]))
          clear B2
          go_wp2_with (at_builtin; refine wpList_append_own _ rfl _ _ 23 rfl w1.heap.size 3 i0 (.int .i64 0) 1 8 Tryd.underlying23 hi hz0 hz1 hz2 rfl (by decide) _ _ _ rfl (HO2.out.alloc _) ⟨w2.heap.size, 0, none⟩ 1 1 [.int .i64 ((q : Int) - (s : Int))] rfl rfl (cell_one_new _ _ _) (by simp [Value.oneCell']) (by unfold maxLen; omega) (by omega) (by have := HB2.out.size; simp; omega) ?_; intro v' w3 hown' hgrow _)
          go_roundw
          case rel =>
            refine ⟨k + 1, true, k :: d, by rw [show ((s + (k + 1) : Nat) : Int) = (q : Int) + 1 from by have := HQ.out; omega], rfl, by rw [HLn.out]; have := HQ.out; omega, by rw [HLk.out]; omega, by rw [show s + (k + 1) = q + 1 from by have := HQ.out; omega, HN.out, HRr.out], ?_, HB2.out.trans (((Below.refl w1.heap.size w2).alloc HB2.out.size _).trans (grown_belowT hgrow (HO2.out.alloc _) (by have := HB2.out.size; simp; omega)))⟩
            rw [HLk.out, ints_snoc, ← HKs.out]
            exact hown'
          case measure => simp [intOf]; omega
        · have HN : Hid (some (d, k + 1) = r) := by
            show _ = _
            rw [HA.out, if_pos (by simp)]
          clear HA
          go_wp2_with fail
          refine HG.out.mono ?_
          rintro e w2 ⟨rfl, B2⟩
          have HB2 := Lib.hid (HBl.out.trans (B2.mono HBl.out.size))
          have HO2 := Lib.hid (HO.out.kept (grown_of_below B2 none) (by
            rcases HO.out.2 with ⟨h, _⟩ | ⟨g, cap, cur, h, _⟩
            · left; rw [h]; rfl
            · right; rw [h]; simp [Value.ownBlock]))
          clear B2
          go_wp2
          go_ret3
          rw [← HN.out]
          have HRv := own_rdv HO2.out
          exact ⟨Av, cv, by rw [show ((s + (k + 1) : Nat) : Int) = (q : Int) + 1 from by have := HQ.out; omega]; rfl, HRv, HB1.out.trans (HB2.out.mono HB1.out.size)⟩
    · have HN : Hid ((none : Option (List Nat × Nat)) = r) := by
        show _ = _
        rw [← HI.out, HEnd.out q k b d (by omega)]
      go_wp2
      go_ret3
      rw [← HN.out]
      exact ⟨none, 0, rfl, HB1.out.trans (HBl.out.mono HB1.out.size)⟩
end Go.Proofs.YtjogccpnhcnedaaDoor
