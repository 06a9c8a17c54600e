/- One bit is added to a writer, on every writer whose bits are fewer than the document's most. -/
import Derived.Test.YtgibbokhdfblmaaMem
import Derived.WalkLawsBesides
import Derived.Deep.QuietTactic
import Derived.BigQuiet
import Derived.BigRegion
import Derived.Lib.Hide
import Derived.Deep.AppendLies
import Derived.IntWalk
namespace Go.Proofs.Ytgibbokhdfblmaa
open Go.RowKit

theorem info5 : (Try.prog.info? 5).map (fun i => (i.zero, i.size, i.bytes)) = some (some (.int .u8 0), 1, 1) := by kernel_rfl

theorem wr_cells {w : World} {W : Nat} {a v : Value} (hW : w.heap[W]? = some (.cells #[a, v] 100 (0, 0))) :
    w.cell? ⟨W, 0, none⟩ = some a ∧ w.cell? ⟨W, 1, none⟩ = some v ∧ w.frozen? ⟨W, 0, none⟩ = false ∧ w.frozen? ⟨W, 1, none⟩ = false := by
  simp [World.cell?, World.frozen?, hW]

theorem or_byte (x s : Nat) (b : Bool) (hx : x < 256) (hs : s < 8) (hz : x % 2 ^ (s + 1) = 0) : x ||| (b.toNat * 2 ^ s) = x + b.toNat * 2 ^ s := lor_low ⟨x, hx⟩ ⟨s, hs⟩ b hz

theorem orv (x s bn : Nat) (hx : x < 256) (hs : s < 8) (hb : bn ≤ 1) (hor : x ||| bn * 2 ^ s = x + bn * 2 ^ s) :
    bits .or .u8 (x : Int) ((bn : Int) * 2 ^ s % 256) = ((x + bn * 2 ^ s : Nat) : Int) := by
  have h2 : bn * 2 ^ s < 256 := by
    have h3 : 2 ^ s ≤ 2 ^ 7 := Nat.pow_le_pow_right (by omega) (by omega)
    rcases Nat.le_one_iff_eq_zero_or_eq_one.1 hb with rfl | rfl <;> omega
  have e0 : ((bn : Int) * 2 ^ s) = ((bn * 2 ^ s : Nat) : Int) := by simp
  rw [e0, Int.emod_eq_of_lt (by omega) (by omega), u8_or_nat _ _ hx h2, hor]

set_option maxHeartbeats 1000000 in
theorem addBit_in (w : World) (S : Nat → Prop) (W g cap : Nat) (l : List Bool) (b : Bool) (hl : l.length < 8192) (hm : l.length % 8 ≠ 0)
    (hW : w.heap[W]? = some (.cells #[.int .i64 (l.length : Int), .slice (some ⟨g, 0, none⟩) (l.length / 8 + 1) cap] 100 (0, 0)))
    (ho : w.ownsRow 0 5 1 (.slice (some ⟨g, 0, none⟩) (l.length / 8 + 1) cap) (pad l).length (bc (pad l))) (hS : ¬ S W) (hg : ¬ S g) :
    Calls Try.prog 87 #[.pointer (some ⟨W, 0, none⟩), .int .u8 (b.toNat : Int)] w fun e w' => e = .returned (.tuple #[]) ∧ Wr w' S W (l ++ [b]) ∧ Fr S w w' := by
  have hst := @Wr.step w S W g cap l b _ hW ho hS hg rfl
  have hfr := ((Fr.refl S w).setCell (p := ⟨g, l.length / 8, none⟩) hg (.int .u8 ((byteAt l (l.length / 8) + b.toNat * 2 ^ (7 - l.length % 8) : Nat) : Int))).setCell (p := ⟨W, 0, none⟩) hS (.int .i64 ((l.length : Int) + 1))
  obtain ⟨c0, c1, f0, f1⟩ := wr_cells hW
  have hne : g ≠ W := row_ne hW (by decide) ho g rfl
  have hcb : w.cell? ⟨g, l.length / 8, none⟩ = some (.int .u8 (byteAt l (l.length / 8) : Int)) := by
    have := ho.cells (g := g) rfl (l.length / 8) _ (bc_get (pad l) (l.length / 8) (by rw [pad_length]; omega))
    rw [pad_get] at this
    have ha : (⟨g, 0, none⟩ : Addr).add (l.length / 8) = ⟨g, l.length / 8, none⟩ := by unfold Addr.add; split <;> simp_all
    rw [ha] at this
    exact this
  have hfb : w.frozen? ⟨g, l.length / 8, none⟩ = false := by
    rcases ho.2 with ⟨h, _⟩ | ⟨g', cap', cur, hv, _, hh, _⟩
    · cases h
    · simp only [Value.slice.injEq, Option.some.injEq, Addr.mk.injEq, and_true] at hv
      obtain ⟨rfl, _⟩ := hv
      simp [World.frozen?, hh]
  have hor := or_byte (byteAt l (l.length / 8)) (7 - l.length % 8) b (byteAt_lt _ _) (by omega) (by
    have := byteAt_low l
    rw [show 7 - l.length % 8 + 1 = 8 - l.length % 8 from by omega]; exact this)
  have hx := byteAt_lt l (l.length / 8)
  have hb : b.toNat ≤ 1 := Bool.toNat_le b
  generalize byteAt l (l.length / 8) = x at *
  generalize hbt : b.toNat = bn at *
  have HST := Lib.hid hst; clear hst
  have HFR := Lib.hid hfr; clear hfr
  have HOR := Lib.hid hor; clear hor hbt hW ho
  generalize l.length = n at *
  have hmb : ((n : Int) % 8 == 0) = false := by simp; omega
  have hi0 : (0 : Int) ≤ (n : Int) / 8 := by omega
  have hi1 : (n : Int) / 8 < (n / 8 + 1 : Nat) := by omega
  have hcn : ((n : Int) / 8).toNat = n / 8 := by omega
  clear hm
  go_enter Try.func87, Try.ntmps87
  go_wp2
  go_region
  go_wp2
  rw [orv x (7 - n % 8) bn hx (by omega) hb HOR.out]
  go_end0
  exact ⟨rfl, HST.out, HFR.out.drew⟩

theorem orv0 (n : Nat) (b : Bool) (hm : (n : Int) % 8 = 0) : bits .or .u8 0 ((b.toNat : Int) * 2 ^ (7 - n % 8) % 256) = ((0 + b.toNat * 2 ^ 7 : Nat) : Int) := by
  have h : n % 8 = 0 := by omega
  rw [h]
  exact orv 0 7 b.toNat (by omega) (by omega) (Bool.toNat_le b) (by simp)

/-- Behind the append: the writer as it was, and a new row with room for one bit more. -/
theorem app_facts {w w1 : World} {S : Nat → Prop} (hSl : ∀ k, S k → k < w.heap.size) {W : Nat} {l : List Bool} {b : Bool} {A : Option Addr} {cap g' cap' : Nat} (hm : l.length % 8 = 0)
    (hW : w.heap[W]? = some (.cells #[.int .i64 (l.length : Int), .slice A (l.length / 8) cap] 100 (0, 0)))
    (ho : w.ownsRow 0 5 1 (.slice A (l.length / 8) cap) (l.length / 8) (bc (pack l))) (hS : ¬ S W) (hg : ∀ g, (Value.slice A (l.length / 8) cap).ownBlock = some g → ¬ S g)
    (hgr : (w.alloc (.cells #[.int .u8 0] 5)).grownBy w1 (Value.slice A (l.length / 8) cap).ownBlock) (hg' : ¬ S g')
    (ho' : w1.ownsRow 0 5 1 (.slice (some ⟨g', 0, none⟩) (l.length / 8 + 1) cap') (l.length / 8 + 1) (bc (pack l) ++ [.int .u8 0])) :
    (w1.cell? ⟨W, 0, none⟩ = some (.int .i64 (l.length : Int)) ∧ w1.cell? ⟨W, 1, none⟩ = some (.slice A (l.length / 8) cap) ∧ w1.frozen? ⟨W, 0, none⟩ = false ∧ w1.frozen? ⟨W, 1, none⟩ = false) ∧
    g' ≠ W ∧ w1.cell? ⟨g', l.length / 8, none⟩ = some (.int .u8 0) ∧ w1.frozen? ⟨g', l.length / 8, none⟩ = false ∧
    Hid (Wr (((w1.setCell ⟨W, 1, none⟩ (.slice (some ⟨g', 0, none⟩) (l.length / 8 + 1) cap')).setCell ⟨g', l.length / 8, none⟩ (.int .u8 ((0 + b.toNat * 2 ^ 7 : Nat) : Int))).setCell ⟨W, 0, none⟩ (.int .i64 ((l.length : Int) + 1))) S W (l ++ [b]) ∧
      Fr S w (((w1.setCell ⟨W, 1, none⟩ (.slice (some ⟨g', 0, none⟩) (l.length / 8 + 1) cap')).setCell ⟨g', l.length / 8, none⟩ (.int .u8 ((0 + b.toNat * 2 ^ 7 : Nat) : Int))).setCell ⟨W, 0, none⟩ (.int .i64 ((l.length : Int) + 1)))) := by
  have hlt : W < w.heap.size := (Array.getElem?_eq_some_iff.1 hW).1
  have hWrow : some W ≠ (Value.slice A (l.length / 8) cap).ownBlock := fun e => row_ne hW (by decide) ho W e.symm rfl
  have hW1 : w1.heap[W]? = some (.cells #[.int .i64 (l.length : Int), .slice A (l.length / 8) cap] 100 (0, 0)) :=
    (hgr.block W (by simp; omega) hWrow).trans ((Below.heap_alloc w _ W hlt).trans hW)
  have hne : g' ≠ W := row_ne hW1 (by decide) ho' g' rfl
  have hpl : (pack l).length = l.length / 8 := by rw [pack_length]; omega
  have hbcp : bc (pack l) ++ [.int .u8 0] = bc (pad l) := by unfold pad; rw [if_pos hm, bc_append]; rfl
  have hz : byteAt l (l.length / 8) = 0 := byteAt_beyond l _ (by omega)
  have hc : w1.cell? ⟨g', l.length / 8, none⟩ = some (.int .u8 0) := by
    have hh := ho'.cells (g := g') rfl (l.length / 8) (.int .u8 0) (by rw [List.getElem?_append_right (by rw [bc_length, hpl]; omega)]; simp [bc_length, hpl])
    have ha : (⟨g', 0, none⟩ : Addr).add (l.length / 8) = ⟨g', l.length / 8, none⟩ := by unfold Addr.add; split <;> simp_all
    rw [ha] at hh
    exact hh
  have hf : w1.frozen? ⟨g', l.length / 8, none⟩ = false := by
    rcases ho'.2 with ⟨h, _⟩ | ⟨g2, cap2, cur, hv, _, hh, _⟩
    · cases h
    · simp only [Value.slice.injEq, Option.some.injEq, Addr.mk.injEq, and_true] at hv
      obtain ⟨rfl, _⟩ := hv
      simp [World.frozen?, hh]
  have hW2 : (w1.setCell ⟨W, 1, none⟩ (.slice (some ⟨g', 0, none⟩) (l.length / 8 + 1) cap')).heap[W]? = some (.cells #[.int .i64 (l.length : Int), .slice (some ⟨g', 0, none⟩) (l.length / 8 + 1) cap'] 100 (0, 0)) := by
    rw [heap_set_same _ _ _ _ 100 _ hW1]; simp
  have ho2 : (w1.setCell ⟨W, 1, none⟩ (.slice (some ⟨g', 0, none⟩) (l.length / 8 + 1) cap')).ownsRow 0 5 1 (.slice (some ⟨g', 0, none⟩) (l.length / 8 + 1) cap') (pad l).length (bc (pad l)) := by
    rw [pad_length, ← hbcp]
    refine ho'.kept (row := some W) ⟨rfl, rfl, rfl, by simp [World.setCell], fun k _ hk => Below.heap_setCell _ _ _ _ (fun e => hk (by rw [e]))⟩ (.inr ?_)
    simp [Value.ownBlock, hne]
  refine ⟨wr_cells hW1, hne, hc, hf, ?_, ?_⟩
  · refine Wr.step hW2 ho2 hS hg' ?_
    rw [hz, hm]
  · refine (((((Fr.refl S w).alloc hSl _).grown hgr (fun k hk => by have := hSl k hk; simp; omega) hg ?_).setCell (p := ⟨W, 1, none⟩) hS _).setCell (p := ⟨g', l.length / 8, none⟩) hg' _).setCell (p := ⟨W, 0, none⟩) hS _
    intro j o hj ho2
    exact own_cells (ho.alloc _) j o hj ho2

set_option maxHeartbeats 1000000 in
theorem addBit_app (w : World) (S : Nat → Prop) (hSl : ∀ k, S k → k < w.heap.size) (W : Nat) (l : List Bool) (b : Bool) (hl : l.length < 8192) (hm : l.length % 8 = 0) (A : Option Addr) (cap : Nat)
    (hW : w.heap[W]? = some (.cells #[.int .i64 (l.length : Int), .slice A (l.length / 8) cap] 100 (0, 0)))
    (ho : w.ownsRow 0 5 1 (.slice A (l.length / 8) cap) (l.length / 8) (bc (pack l))) (hS : ¬ S W) (hg : ∀ g, (Value.slice A (l.length / 8) cap).ownBlock = some g → ¬ S g) :
    Calls Try.prog 87 #[.pointer (some ⟨W, 0, none⟩), .int .u8 (b.toNat : Int)] w fun e w' => e = .returned (.tuple #[]) ∧ Wr w' S W (l ++ [b]) ∧ Fr S w w' := by
  obtain ⟨i0, hi, hz0, hz1, hz2⟩ := info_parts info5
  obtain ⟨c0, c1, f0, f1⟩ := wr_cells hW
  have HF := fun w1 g' cap' => @app_facts w w1 S hSl W l b A cap g' cap' hm hW ho hS hg
  have HF' := Lib.hid HF; clear HF
  have HN : Hid (∀ g, (Value.slice A (l.length / 8) cap).ownBlock = some g ∨ g = w.heap.size + 1 → ¬ S g) := fun g h => by
    rcases h with h | h
    · exact hg g h
    · intro hs; have := hSl g hs; omega
  clear hW hg
  have hmb : ((l.length : Int) % 8 == 0) = true := by simp; omega
  have hm8 : (l.length : Int) % 8 = 0 := by omega
  have HM8 := Lib.hid hm8; clear hm8
  have hi0 : (0 : Int) ≤ (l.length : Int) / 8 := by omega
  have hi1 : (l.length : Int) / 8 < (l.length / 8 + 1 : Nat) := by omega
  have hcn : ((l.length : Int) / 8).toNat = l.length / 8 := by omega
  have hb : b.toNat ≤ 1 := Bool.toNat_le b
  clear hm
  go_enter Try.func87, Try.ntmps87
  go_wp2_with (at_builtin; refine wpList_append_lies _ rfl _ _ 23 rfl 0 5 i0 (.int .u8 0) 1 1 Try.underlying23 hi hz0 hz1 hz2 rfl (by decide) _ _ _ rfl (ho.alloc _) ⟨w.heap.size, 0, none⟩ 1 1 [.int .u8 0] rfl rfl (cell_one_new _ _ _) (by simp [Value.oneCell']) (by omega) (by unfold maxLen; omega) (by omega) (by omega) (w.heap.size + 1) (by simp) ?_; intro g' cap' w1 hown' hgrow hlies _; obtain ⟨⟨d0, d1, e0, e1⟩, hne, hcb, hfb, HR⟩ := HF'.out w1 g' cap' hgrow (HN.out g' hlies) hown'; clear hgrow hown' hlies c0 c1 f0 f1)
  go_region
  go_wp2
  rw [orv0 (l.length) b HM8.out]
  go_end0
  exact ⟨rfl, HR.out.1, HR.out.2.drew⟩

/-- One bit is added to whatever writer. -/
theorem addBit_any (w : World) (S : Nat → Prop) (hSl : ∀ k, S k → k < w.heap.size) (W : Nat) (l : List Bool) (b : Bool) (hl : l.length < 8192) (h : Wr w S W l) :
    Calls Try.prog 87 #[.pointer (some ⟨W, 0, none⟩), .int .u8 (b.toNat : Int)] w fun e w' => e = .returned (.tuple #[]) ∧ Wr w' S W (l ++ [b]) ∧ Fr S w w' := by
  obtain ⟨v, hW, ho, hS, hg⟩ := h
  have hp := pack_length l
  by_cases hm : l.length % 8 = 0
  · have e : (pack l).length = l.length / 8 := by omega
    rw [e] at ho
    rcases ho.2 with ⟨rfl, h0⟩ | ⟨g, cap, cur, rfl, _⟩
    · have e0 : l.length / 8 = 0 := h0
      refine addBit_app w S hSl W l b hl hm none 0 ?_ ?_ hS ?_
      · rw [e0]; exact hW
      · rw [e0] at ho ⊢; exact ho
      · rw [e0]; exact hg
    · exact addBit_app w S hSl W l b hl hm (some ⟨g, 0, none⟩) cap hW ho hS hg
  · have e : (pack l).length = l.length / 8 + 1 := by omega
    have ep : pad l = pack l := by unfold pad; rw [if_neg hm]
    rcases ho.2 with ⟨_, h0⟩ | ⟨g, cap, cur, rfl, _⟩
    · omega
    · rw [e] at ho hW hg
      refine addBit_in w S W g cap l b hl hm hW ?_ hS (hg g rfl)
      rw [ep, e]
      exact ho
end Go.Proofs.Ytgibbokhdfblmaa
