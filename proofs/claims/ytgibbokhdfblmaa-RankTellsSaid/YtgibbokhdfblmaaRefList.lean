/- The document's own lists of bits: BitList, for whatever bytes are enough. -/
import Derived.Test.YtgibbokhdfblmaaUAll
import Derived.Test.YtgibbokhdfblmaaUAllA
namespace Go.Proofs.Ytgibbokhdfblmaa
open Go.RowKit

/-- Cells of bits, as ints. -/
def ic (l : List Bool) : List Value := l.map fun b => Value.int .i64 (b.toNat : Int)
theorem ic_length (l : List Bool) : (ic l).length = l.length := by simp [ic]
theorem ic_append (a b : List Bool) : ic (a ++ b) = ic a ++ ic b := by simp [ic]
theorem ic_get (l : List Bool) (i : Nat) (h : i < l.length) : (ic l)[i]? = some (.int .i64 ((l[i]?.getD false).toNat : Int)) := by
  simp [ic, List.getElem?_map, List.getElem?_eq_getElem h]
theorem ic_one (l : List Bool) : ∀ u ∈ ic l, u.oneCell' = true := by
  intro u hu
  simp only [ic, List.mem_map] at hu
  obtain ⟨x, _, rfl⟩ := hu
  rfl

theorem info3 : (Try.prog.info? 3).map (fun i => (i.zero, i.size, i.bytes)) = some (some (.int .i64 0), 1, 8) := by kernel_rfl
theorem own_slice3 {w : World} {base : Nat} {v : Value} {n : Nat} {xs : List Value} (h : w.ownsRow base 3 1 v n xs) : ∃ A c, v = .slice A n c := by
  rcases h.2 with ⟨rfl, rfl⟩ | ⟨g, cap, cur, rfl, _⟩
  · exact ⟨none, 0, rfl⟩
  · exact ⟨_, cap, rfl⟩

theorem own_base {w : World} {base base' : Nat} {e : TypeId} {size n : Nat} {v : Value} {xs : List Value} (h : w.ownsRow base e size v n xs) (hb : base' ≤ base) : w.ownsRow base' e size v n xs := by
  refine ⟨h.1, ?_⟩
  rcases h.2 with h | ⟨g, cap, cur, h1, h2, h3⟩
  · exact .inl h
  · exact .inr ⟨g, cap, cur, h1, by omega, h3⟩

/-- The bit at a position, of bytes. -/
def bitAt (bs : List Nat) (i : Nat) : Bool := bs[i / 8]?.getD 0 / 2 ^ (7 - i % 8) % 2 == 1
theorem unpack_take_succ (n : Nat) (bs : List Nat) (i : Nat) (h : i < n) : (unpack n bs).take (i + 1) = (unpack n bs).take i ++ [bitAt bs i] := by
  rw [List.take_succ_eq_append_getElem (by rw [unpack_length]; exact h)]
  simp [unpack, bitAt]

/-- At each outer round's head: i bits are told, in a row of the call's own. -/
def BLRel (w1 : World) (m : Nat) (bs : List Nat) (v p : Value) (wr : World) : Prop :=
  ∃ i : Nat, i ≤ m ∧ p = .int .i64 (i : Int) ∧ wr.ownsRow w1.heap.size 3 1 v i (ic ((unpack m bs).take i)) ∧ Below w1.heap.size w1 wr

/-- At each inner round's head: the byte has been halved k times. -/
def HalfRel (x s : Nat) (v p : Value) : Prop := ∃ k : Nat, k ≤ s ∧ p = .int .i64 (k : Int) ∧ v = .int .i64 ((x / 2 ^ k : Nat) : Int)

/-- What comes back: a row of the call's own. -/
def Listed (w : World) (l : List Bool) (e : Ending) (w' : World) : Prop :=
  ∃ A c, e = .returned (.slice A l.length c) ∧ w'.ownsRow w.heap.size 3 1 (.slice A l.length c) l.length (ic l) ∧ Below w.heap.size w w'

set_option maxRecDepth 100000 in
set_option maxHeartbeats 2000000 in
theorem bitList_any (m : Nat) (hm : m ≤ 8192) (A : Option Addr) (n c : Nat) (bs : List Nat) (hn : bs.length = n) (hmb : m ≤ 8 * n) (hb : ∀ b ∈ bs, b < 256) (w : World) (h : Rd w w.heap.size A bs) (L : List Bool) (hL : L = unpack m bs) :
    Calls Try.prog 22 #[.agg #[.int .i64 (m : Int), .slice A n c]] w (Listed w L) := by
  obtain ⟨i0, hi, hz0, hz1, hz2⟩ := info_parts info3
  have HR := Lib.hid h; clear h
  have HN := Lib.hid hn; clear hn
  have HL := Lib.hid hL; clear hL
  have HBy := Lib.hid hb; clear hb
  obtain ⟨w1, hw1⟩ : ∃ w1, w1 = w.alloc (.cells #[.int .i64 (m : Int), .slice A n c] 25) := ⟨_, rfl⟩
  have HW1 : Hid (w1.heap.size = w.heap.size + 1 ∧ Below w.heap.size w w1 ∧ w1.heap[w.heap.size]? = some (.cells #[.int .i64 (m : Int), .slice A n c] 25)) := by
    rw [hw1]; exact ⟨World.size_alloc _ _, one_below w _, World.alloc_heap_new w _⟩
  have HE := Lib.hid hw1; clear hw1
  go_enter Try.func22, Try.ntmps22
  go_wp2
  rw [← HE.out]
  go_loopw [3, 4] (fun v p wr => BLRel w1 m bs v p wr) (fun _ p _ => m - (intOf p).toNat)
  case atStart => exact ⟨0, Nat.zero_le _, rfl, ⟨rfl, .inl ⟨rfl, rfl⟩⟩, Below.refl _ _⟩
  case round =>
    obtain ⟨i, him, rfl, hrow, hbel⟩ := hrel
    obtain ⟨Av, cv, rfl⟩ := own_slice3 hrow
    obtain ⟨hz, hlow, hbx⟩ := HW1.out
    obtain ⟨d0, d1, _, _⟩ := blk_cells ((hbel.block _ (by omega)).trans hbx)
    by_cases hlt : i < m
    · obtain ⟨b, off, rfl, hbb, hc⟩ : ∃ b off, A = some ⟨b, off, none⟩ ∧ b < w.heap.size ∧ ∀ i, i < bs.length → w.cell? ⟨b, off + i, none⟩ = some (.int .u8 ((bs[i]?.getD 0 : Nat) : Int)) := by
        rcases HR.out with h | h
        · exfalso; have := HN.out; rw [h] at this; simp at this; omega
        · exact h
      have cx : wr.cell? ⟨b, off + i / 8, none⟩ = some (.int .u8 ((bs[i / 8]?.getD 0 : Nat) : Int)) :=
        ((hlow.trans (hbel.mono (by omega))).cell (p := ⟨b, off + i / 8, none⟩) hbb).trans (hc (i / 8) (by rw [HN.out]; omega))
      have hx := getD_lt bs HBy.out (i / 8)
      have HU := Lib.hid (unpack_take_succ m bs i hlt)
      have HBt : Hid (bitAt bs i = (bs[i / 8]?.getD 0 / 2 ^ (7 - i % 8) % 2 == 1)) := rfl
      generalize bitAt bs i = bt at *
      generalize bs[i / 8]?.getD 0 = x at *
      have i0' : (0 : Int) ≤ (i : Int) / 8 := by omega
      have i1' : (i : Int) / 8 < (n : Int) := by omega
      have i2' : ((i : Int) / 8).toNat = i / 8 := by omega
      clear hc
      have HBel := Lib.hid hbel; clear hbel
      have HZ := Lib.hid (⟨hz, hlow, hbx⟩ : _ ∧ _ ∧ _); clear hz hlow hbx
      go_wp2
      go_loop [5, 6] (fun v p => HalfRel x (7 - i % 8) v p) (fun _ p => (7 - i % 8) - (intOf p).toNat)
      case atStart => exact ⟨0, Nat.zero_le _, rfl, by rw [Nat.pow_zero, Nat.div_one]⟩
      case round =>
        obtain ⟨k, hk, rfl, rfl⟩ := hrel
        have hxk : x / 2 ^ k ≤ x := Nat.div_le_self _ _
        have HH : Hid (x / 2 ^ (k + 1) = x / 2 ^ k / 2) := by show _ = _; rw [Nat.pow_succ, Nat.div_div_eq_div_mul]
        by_cases hks : k < 7 - i % 8
        · have t1 : (k : Int) < 7 - (i : Int) % 8 := by omega
          generalize x / 2 ^ k = y at *
          go_wp2
          go_round
          case rel => exact ⟨k + 1, by omega, by go_num, by rw [HH.out]; go_num⟩
          case measure => simp [intOf]; omega
        · have t1 : ¬ (k : Int) < 7 - (i : Int) % 8 := by omega
          have e : k = 7 - i % 8 := by omega
          have HV : Hid (((bt.toNat : Nat) : Int) = ((x / 2 ^ k : Nat) : Int) % 2) := by
            show _ = _
            rw [HBt.out, e]
            generalize x / 2 ^ (7 - i % 8) = y
            rcases (show y % 2 = 0 ∨ y % 2 = 1 by omega) with h | h
            · rw [h]; simp; omega
            · rw [h]; simp; omega
          clear e HH
          generalize x / 2 ^ k = y at *
          go_wp2_with (at_builtin; refine wpList_append_own _ rfl _ _ 38 rfl w1.heap.size 3 i0 (.int .i64 0) 1 8 Try.underlying38 hi hz0 hz1 hz2 rfl (by decide) _ _ _ rfl (hrow.alloc _) ⟨wr.heap.size, 0, none⟩ 1 1 [.int .i64 ((y : Int) % 2)] rfl rfl (cell_one_new _ _ _) (by simp [Value.oneCell']) (by unfold maxLen; omega) (by omega) (by have := HBel.out.size; simp; omega) ?_; intro v' w3 hown' hgrow _; obtain ⟨g', cap', rfl⟩ := ownsRow_succ hown')
          have HGr := Lib.hid hgrow; clear hgrow
          have HOw := Lib.hid hown'; clear hown'
          go_roundw
          case rel =>
            refine ⟨i + 1, by omega, by go_num, ?_, (HBel.out.alloc HBel.out.size _).grown HGr.out (by have := HBel.out.size; simp; omega) (fun k hk => (hrow.lt k hk).1)⟩
            rw [HU.out, ic_append]
            have e1 : ic [bt] = [.int .i64 ((y : Int) % 2)] := by simp only [ic, List.map_cons, List.map_nil]; rw [HV.out]
            rw [e1]
            exact HOw.out
          case measure => simp [intOf]; omega
    · have e : i = m := by omega
      subst e
      rw [List.take_of_length_le (by rw [unpack_length]; omega), ← HL.out] at hrow
      have hLl : L.length = i := by rw [HL.out, unpack_length]
      have HF : Hid (Listed w L (.returned (.slice Av i cv)) wr) := by
        refine ⟨Av, cv, by rw [hLl], ?_, hlow.trans (hbel.mono (by omega))⟩
        rw [hLl]
        exact own_base hrow (by omega)
      clear hrow hLl hbx
      go_wp2
      go_ret
      exact HF.out
end Go.Proofs.Ytgibbokhdfblmaa
