/- The document's own UnaryList, ReadErr and UnaryRead, for whatever they are handed. -/
import Derived.Test.YtgibbokhdfblmaaRefGen
import Derived.Test.YtgibbokhdfblmaaUPure
import Derived.Test.YtgibbokhdfblmaaUPureA
namespace Go.Proofs.Ytgibbokhdfblmaa
set_option maxRecDepth 100000
set_option linter.unusedVariables false
open Go.RowKit

/-- At each round's head: i noughts. -/
def ULRel (w : World) (n : Nat) (v p : Value) (wr : World) : Prop :=
  ∃ i : Nat, i ≤ n ∧ p = .int .u64 (i : Int) ∧ wr.ownsRow w.heap.size 3 1 v i (ic (List.replicate i false)) ∧ Below w.heap.size w wr

set_option maxRecDepth 100000 in
set_option maxHeartbeats 1000000 in
theorem uList_any (n : Nat) (hn : n ≤ 8191) (L : List Bool) (hL : L = uc n) (w : World) :
    Calls Try.prog 58 #[.int .u64 (n : Int)] w (Listed w L) := by
  obtain ⟨i0, hi, hz0, hz1, hz2⟩ := info_parts info3
  have HL := Lib.hid hL; clear hL
  go_enter Try.func58, Try.ntmps58
  go_wp2
  go_loopw [3, 4] (fun v p wr => ULRel w n v p wr) (fun _ p _ => n - (intOf p).toNat)
  case atStart => exact ⟨0, Nat.zero_le _, rfl, ⟨rfl, .inl ⟨rfl, rfl⟩⟩, Below.refl _ _⟩
  case round =>
    obtain ⟨i, him, rfl, hrow, hbel⟩ := hrel
    obtain ⟨Av, cv, rfl⟩ := own_slice3 hrow
    have HBel := Lib.hid hbel; clear hbel
    by_cases hlt : i < n
    · go_wp2_with (at_builtin; refine wpList_append_own _ rfl _ _ 38 rfl w.heap.size 3 i0 (.int .i64 0) 1 8 Try.underlying38 hi hz0 hz1 hz2 rfl (by decide) _ _ _ rfl (hrow.alloc _) ⟨wr.heap.size, 0, none⟩ 1 1 [.int .i64 0] rfl rfl (cell_one_new _ _ _) (by simp [Value.oneCell']) (by unfold maxLen; omega) (by omega) (by have := HBel.out.size; simp; omega) ?_; intro v' w3 hown' hgrow _; obtain ⟨g', cap', rfl⟩ := ownsRow_succ hown')
      have HGr := Lib.hid hgrow; clear hgrow
      have HOw := Lib.hid hown'; clear hown'
      go_roundw
      case rel =>
        refine ⟨i + 1, by omega, by go_num, ?_, (HBel.out.alloc HBel.out.size _).grown HGr.out (by have := HBel.out.size; simp; omega) (fun k hk => (hrow.lt k hk).1)⟩
        rw [List.replicate_succ', ic_append]
        exact HOw.out
      case measure => simp [intOf]; omega
    · have e : i = n := by omega
      subst e
      go_wp2_with (at_builtin; refine wpList_append_own _ rfl _ _ 38 rfl w.heap.size 3 i0 (.int .i64 0) 1 8 Try.underlying38 hi hz0 hz1 hz2 rfl (by decide) _ _ _ rfl (hrow.alloc _) ⟨wr.heap.size, 0, none⟩ 1 1 [.int .i64 1] rfl rfl (cell_one_new _ _ _) (by simp [Value.oneCell']) (by unfold maxLen; omega) (by omega) (by have := HBel.out.size; simp; omega) ?_; intro v' w3 hown' hgrow _; obtain ⟨g', cap', rfl⟩ := ownsRow_succ hown')
      have hb : Below w.heap.size w w3 := (HBel.out.alloc HBel.out.size _).grown hgrow (by have := HBel.out.size; simp; omega) (fun k hk => (hrow.lt k hk).1)
      have HF : Hid (Listed w L (.returned (.slice (some ⟨g', 0, none⟩) (i + 1) cap')) w3) := by
        have hl : L.length = i + 1 := by rw [HL.out, uc_length]
        refine ⟨_, cap', by rw [hl], ?_, hb⟩
        rw [hl, HL.out]
        unfold uc
        rw [ic_append]
        exact hown'
      clear hb hown' hgrow
      go_ret
      exact HF.out

/-- What is wrong with bits, and a place. -/
def rdE (len : Int) (bs : List Nat) (p : Int) : Int := if chk len bs ≠ 0 then chk len bs else if p < 0 ∨ len < p then 3 else 0

set_option maxRecDepth 100000 in
set_option maxHeartbeats 1000000 in
theorem readErr_any (len : Int) (A : Option Addr) (c : Nat) (bs : List Nat) (p : Int) (w : World) (hb : ∀ b ∈ bs, b < 256) (h : Rd w w.heap.size A bs) (e0 : Int) (he0 : rdE len bs p = e0) :
    Calls Try.prog 20 #[.agg #[.int .i64 len, .slice A bs.length c], .int .i64 p] w fun e w' => e = .returned (.int .i64 e0) ∧ Below w.heap.size w w' := by
  have hC := rcheck_any len A c bs hb (w.alloc (.cells #[.int .i64 len, .slice A bs.length c] 25)) (h.on (one_below w _))
  rw [World.size_alloc] at hC
  have HC := Lib.hid hC; clear hC
  have HB := Lib.hid (one_below w (.cells #[.int .i64 len, .slice A bs.length c] 25))
  unfold rdE at he0
  clear h
  generalize chk len bs = k at *
  generalize bs.length = nn at *
  by_cases hc : k = 0
  · subst hc
    rw [if_neg (by simp)] at he0
    by_cases hp : p < 0 ∨ len < p
    · rw [if_pos hp] at he0
      subst he0
      have HP := Lib.hid (between_no p 0 len (by omega))
      clear hp
      go_enter Try.func20, Try.ntmps20
      go_wp2_with fail
      refine HC.out.mono ?_
      rintro e w1 ⟨rfl, hq⟩
      obtain ⟨hc1, hf1⟩ := old_cells hq
      go_wp2_with fail
      refine (HP.out _).mono ?_
      rintro e w2 ⟨rfl, rfl⟩
      go_wp2
      go_ret
      exact ⟨rfl, HB.out.trans (hq.mono (by omega))⟩
    · rw [if_neg hp] at he0
      subst he0
      have HP := Lib.hid (between_yes p 0 len (by omega))
      clear hp
      go_enter Try.func20, Try.ntmps20
      go_wp2_with fail
      refine HC.out.mono ?_
      rintro e w1 ⟨rfl, hq⟩
      obtain ⟨hc1, hf1⟩ := old_cells hq
      go_wp2_with fail
      refine (HP.out _).mono ?_
      rintro e w2 ⟨rfl, rfl⟩
      go_wp2
      go_ret
      exact ⟨rfl, HB.out.trans (hq.mono (by omega))⟩
  · rw [if_pos hc] at he0
    subst he0
    have t1 : (k == 0) = false := by simpa using hc
    clear hc
    go_enter Try.func20, Try.ntmps20
    go_wp2_with fail
    refine HC.out.mono ?_
    rintro e w1 ⟨rfl, hq⟩
    obtain ⟨hc1, hf1⟩ := old_cells hq
    go_wp2
    go_ret
    exact ⟨rfl, HB.out.trans (hq.mono (by omega))⟩

/-- At each round's head: no 1 bit has come. -/
def URRel (l : List Bool) (s : Nat) (v p : Value) : Prop :=
  ∃ i : Nat, s ≤ i ∧ i ≤ l.length ∧ p = .int .i64 (i : Int) ∧ v = .int .u64 ((i - s : Nat) : Int) ∧ pos s (l.drop s) = pos i (l.drop i)
theorem drop_at (l : List Bool) (i : Nat) (h : i < l.length) : l.drop i = l[i]?.getD false :: l.drop (i + 1) := by
  rw [List.drop_eq_getElem_cons h, List.getElem?_eq_getElem h]; rfl

set_option maxRecDepth 100000 in
set_option maxHeartbeats 1000000 in
theorem uRead_any (l : List Bool) (n : Nat) (hn : l.length = n) (hl : n ≤ 8192) (A : Option Addr) (c s : Nat) (hs : s ≤ n) (rn : Nat) (rt : Int)
    (hr : (pos s (l.drop s) = [] → rn = 0 ∧ rt = -1) ∧ ∀ x xs, pos s (l.drop s) = x :: xs → rn = x - s ∧ rt = (x : Int) + 1) (w : World) (h : RdV w w.heap.size A (ic l)) :
    Calls Try.prog 21 #[.slice A n c, .int .i64 (s : Int)] w fun e w' => e = .returned (.tuple #[.int .u64 (rn : Int), .int .i64 rt]) ∧ w = w' := by
  have HR := Lib.hid h; clear h
  have HN := Lib.hid hn; clear hn
  have HA := Lib.hid hr; clear hr
  go_enter Try.func21, Try.ntmps21
  go_wp2
  go_loop [6, 7] (fun v p => URRel l s v p) (fun _ p => n - (intOf p).toNat)
  case atStart => exact ⟨s, Nat.le_refl _, by rw [HN.out]; exact hs, rfl, by rw [Nat.sub_self]; rfl, rfl⟩
  case round =>
    obtain ⟨i, hsi, hi, rfl, rfl, hpos⟩ := hrel
    rw [HN.out] at hi
    by_cases hlt : i < n
    · have hil : i < l.length := by rw [HN.out]; exact hlt
      obtain ⟨b, off, rfl, hb, hc⟩ := HR.out.at_ (ic_get l i hil)
      have HD := Lib.hid (drop_at l i hil)
      have HP := Lib.hid hpos; clear hpos
      generalize l[i]?.getD false = bt at *
      cases bt
      · have HQ : Hid (pos s (l.drop s) = pos (i + 1) (l.drop (i + 1))) := by show _ = _; rw [HP.out, HD.out]; rfl
        simp only [Bool.toNat_false] at hc
        go_wp2
        go_round
        case rel => exact ⟨i + 1, by omega, by rw [HN.out]; omega, by go_num, by rw [show i + 1 - s = i - s + 1 by omega]; go_num, HQ.out⟩
        case measure => simp [intOf]; omega
      · have HQ : Hid (rn = i - s ∧ rt = (i : Int) + 1) := HA.out.2 i _ (by rw [HP.out, HD.out]; rfl)
        simp only [Bool.toNat_true] at hc
        go_wp2
        go_ret2
        obtain ⟨q1, q2⟩ := HQ.out
        exact ⟨by rw [q1, q2]; rfl, rfl⟩
    · have e : i = n := by omega
      have HQ : Hid (rn = 0 ∧ rt = -1) := HA.out.1 (by rw [hpos, List.drop_of_length_le (by rw [HN.out]; omega)]; rfl)
      clear hpos
      go_wp2
      go_ret2
      obtain ⟨q1, q2⟩ := HQ.out
      exact ⟨by rw [q1, q2]; rfl, rfl⟩
end Go.Proofs.Ytgibbokhdfblmaa
