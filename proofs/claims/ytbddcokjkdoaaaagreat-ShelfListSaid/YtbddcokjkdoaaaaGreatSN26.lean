/- Texts of this proof, one behind the other; each fact names its conditions. -/
import Derived.Test.YtbddcokjkdoaaaaGreatSN2
import Derived.Test.YtbddcokjkdoaaaaGreatSN4
import Derived.Deep.RegionHeld3
namespace Go.Proofs.YtbddcokjkdoaaaaGreat
set_option maxRecDepth 100000
set_option linter.unusedVariables false
open Go.RowKit Go.Shelf
def rkE (len : Int) (bs : List Nat) (p : Int) : Int := rgE (chk len bs) [decide (0 ≤ p), decide (p ≤ len)]
def RkP (w : World) (n : Nat) (err : Int) (e : Ending) (w' : World) : Prop := e = .returned (.tuple #[.int .i64 (n : Int), .int .i64 err]) ∧ Below w.heap.size w w'
theorem rgE_zero {e : Int} {bs : List Bool} (h : rgE e bs = 0) : e = 0 ∧ bs.contains false = false := by
  unfold rgE at h
  by_cases h1 : e = 0 ∧ bs.contains false = true
  · rw [if_pos h1] at h; cases h
  · rw [if_neg h1] at h
    refine ⟨h, ?_⟩
    cases hb : bs.contains false
    · rfl
    · exact absurd ⟨h, hb⟩ h1
theorem rkE_zero {len : Int} {bs : List Nat} {p : Int} (hb : ∀ b ∈ bs, b < 256) (h : rkE len bs p = 0) : ∃ l : List Bool, len = (l.length : Int) ∧ l.length ≤ 8192 ∧ bs = pack l ∧ ∃ q : Nat, p = (q : Int) ∧ q ≤ l.length := by
  obtain ⟨h1, h2⟩ := rgE_zero h
  obtain ⟨l, rfl, hl, rfl⟩ := chk_zero len bs hb h1
  simp at h2
  obtain ⟨q, rfl⟩ := Int.eq_ofNat_of_zero_le h2.1
  exact ⟨l, rfl, hl, rfl, q, rfl, by omega⟩
theorem rdr_drew {w : World} {A : Option Addr} {vs : List Value} (h : RdV w w.heap.size A vs) : RdV w.drew w.drew.heap.size A vs := h
def rkN (len : Int) (bs : List Nat) (p : Int) : Nat := if rkE len bs p = 0 then cnt ((unpack len.toNat bs).take p.toNat) else 0
set_option maxHeartbeats 4000000 in
theorem rank_e (len : Int) (A : Option Addr) (c : Nat) (bs : List Nat) (hb : ∀ b ∈ bs, b < 256) (p e0 : Int) (he : rkE len bs p = e0) (h0 : e0 ≠ 0) (w : World) (h : Rd w w.heap.size A bs) :
    Calls Tryz.prog 236 #[.agg #[.int .i64 len, .slice A bs.length c], .int .i64 p] w (RkP w 0 e0) := by
  have HC : Hid (∀ V, Below w.heap.size w V → Calls Tryz.prog 53 #[.agg #[.int .i64 len, .slice A bs.length c]] V fun e w' => e = .returned (.int .i64 (chk len bs)) ∧ Below V.heap.size V w') := fun V hV => check_any len A c bs V hb (h.on hV)
  unfold rkE at he
  have t0 : (e0 != 0) = true := by simpa using h0
  clear h h0 hb
  generalize chk len bs = ec at *
  generalize bs.length = N at *
  have HR := Lib.hid (range2 ec (decide (0 ≤ p)) (decide (p ≤ len)) e0 he)
  have HE : Hid (rgE ec [decide (0 ≤ p), decide (p ≤ len)] = e0) := he
  clear he
  go_enter Tryz.func236, Tryz.ntmps236
  go_wp2_with fail
  generalize hV : w.alloc (.cells #[.int .i64 len, .slice A N c] 27) = V0
  have HV : Hid (Below w.heap.size w V0) := hV ▸ one_below _ _
  have HK : Hid (∀ w' : World, Below V0.heap.size V0 w' → w'.cell? ⟨w.heap.size, 0, none⟩ = some (.int .i64 len) ∧ w'.cell? ⟨w.heap.size, 1, none⟩ = some (.slice A N c)) := by
    subst hV
    exact fun w' h => box_at (by rwa [World.size_alloc] at h)
  clear hV
  go_region_held3 (fun w' => w'.cell? ⟨w.heap.size, 0, none⟩ = some (.int .i64 len) ∧ w'.cell? ⟨w.heap.size, 1, none⟩ = some (.slice A N c))
    ((refine HK.out _ ?_; first | exact hk2.out | exact hk1.out.trans ((one_below _ _).mono hk1.out.size) | exact hk1.out | exact (one_below _ _).drew | exact (Below.refl _ _).drew))
    (first
      | (go_at_call 48; have hx := hsl.out; refine (range_any ec [(decide (0 ≤ p)), (decide (p ≤ len))] 2 rfl (by decide) _ _ w5 hx).mono ?_; rintro e w6 ⟨rfl, hw⟩; have hk2 : Hid (Below V0.heap.size V0 w6) := hw ▸ hk1.out; clear hx hw hsl; rw [HE.out])
      | (go_at_call 48; have hx := hk1.out; refine (HR.out w5 _ rfl).mono ?_; rintro e w6 ⟨rfl, B2⟩; have hk2 : Hid (Below V0.heap.size V0 w6) := hx.trans (B2.mono hx.size); clear B2 hx)
      | (go_at_call 53; refine (HC.out V0.drew (HV.out.drew)).mono ?_; rintro e w5 ⟨rfl, B5⟩; have hk1 : Hid (Below V0.heap.size V0 w5) := ((Below.refl _ V0).drew).trans B5; clear B5)
      | (go_at_call 53; refine (HC.out _ (HV.out.trans ((one_below V0 (.cells #[.bool (decide (0 ≤ p)), .bool (decide (p ≤ len))] 4)).drew.mono HV.out.size))).mono ?_; rintro e w5 ⟨rfl, B5⟩; have hk1 : Hid (Below V0.heap.size V0 w5) := ((one_below V0 (.cells #[.bool (decide (0 ≤ p)), .bool (decide (p ≤ len))] 4)).drew).trans (B5.mono (by simp)); have hsl : Hid (RdV w5 w5.heap.size (some ⟨V0.heap.size, 0, none⟩) (cc [(decide (0 ≤ p)), (decide (p ≤ len))])) := (rdr_drew (rdv_cc V0 [(decide (0 ≤ p)), (decide (p ≤ len))])).on B5; clear B5))
  all_goals (
    have HB2 : Hid (Below w.heap.size w w6) := HV.out.trans (hk2.out.mono HV.out.size)
    clear HK hk2 hk1
    go_wp2
    go_ret2
    exact ⟨rfl, HB2.out⟩)
set_option maxHeartbeats 4000000 in
theorem rank_ok (l : List Bool) (hl : l.length ≤ 8192) (A : Option Addr) (c q : Nat) (hq : q ≤ l.length) (r : Nat) (hr : cnt (l.take q) = r) (w : World) (h : Rd w w.heap.size A (pack l)) :
    Calls Tryz.prog 236 #[.agg #[.int .i64 (l.length : Int), .slice A (pack l).length c], .int .i64 (q : Int)] w (RkP w r 0) := by
  have HC0 : ∀ V, Below w.heap.size w V → Calls Tryz.prog 53 #[.agg #[.int .i64 (l.length : Int), .slice A (pack l).length c]] V fun e w' => e = .returned (.int .i64 0) ∧ Below V.heap.size V w' := fun V hV => check_l l hl A c V (h.on hV)
  have HN : Hid (∀ V, Below w.heap.size w V → Calls Tryz.prog 256 #[.agg #[.int .i64 (l.length : Int), .slice A (pack l).length c], .int .i64 0, .int .i64 (q : Int)] V fun e w' => e = .returned (.int .i64 (r : Int)) ∧ Below V.heap.size V w') := fun V hV => by
    have := count_on l hl A c 0 q (Nat.zero_le _) hq V (h.on hV)
    rwa [hr, List.take_zero, show cnt [] = 0 from rfl, Nat.sub_zero] at this
  have t1 : decide ((0 : Int) ≤ (q : Int)) = true := by simp
  have t2 : decide ((q : Int) ≤ (l.length : Int)) = true := by simp; omega
  have HR := Lib.hid (range2 0 true true 0 (by decide))
  have HE : Hid (rgE 0 [true, true] = 0) := (by decide : rgE 0 [true, true] = 0)
  have HC := Lib.hid HC0
  clear HC0 h hr hq hl
  obtain ⟨len, hlen⟩ : ∃ len : Int, (l.length : Int) = len := ⟨_, rfl⟩
  rw [hlen] at HC HN t2 ⊢
  clear hlen
  obtain ⟨ec, hec⟩ : ∃ ec : Int, ec = 0 := ⟨_, rfl⟩
  generalize (pack l).length = N at *
  go_enter Tryz.func236, Tryz.ntmps236
  go_wp2_with fail
  generalize hV : w.alloc (.cells #[.int .i64 len, .slice A N c] 27) = V0
  have HV : Hid (Below w.heap.size w V0) := hV ▸ one_below _ _
  have HK : Hid (∀ w' : World, Below V0.heap.size V0 w' → w'.cell? ⟨w.heap.size, 0, none⟩ = some (.int .i64 len) ∧ w'.cell? ⟨w.heap.size, 1, none⟩ = some (.slice A N c)) := by
    subst hV
    exact fun w' h => box_at (by rwa [World.size_alloc] at h)
  clear hV
  go_region_held3 (fun w' => w'.cell? ⟨w.heap.size, 0, none⟩ = some (.int .i64 len) ∧ w'.cell? ⟨w.heap.size, 1, none⟩ = some (.slice A N c))
    ((refine HK.out _ ?_; first | exact hk2.out | exact hk1.out.trans ((one_below _ _).mono hk1.out.size) | exact hk1.out | exact (one_below _ _).drew | exact (Below.refl _ _).drew))
    (first
      | (go_at_call 48; have hx := hsl.out; refine (range_any 0 [(true), (true)] 2 rfl (by decide) _ _ w5 hx).mono ?_; rintro e w6 ⟨rfl, hw⟩; have hk2 : Hid (Below V0.heap.size V0 w6) := hw ▸ hk1.out; clear hx hw hsl; rw [HE.out])
      | (go_at_call 48; have hx := hk1.out; refine (HR.out w5 _ rfl).mono ?_; rintro e w6 ⟨rfl, B2⟩; have hk2 : Hid (Below V0.heap.size V0 w6) := hx.trans (B2.mono hx.size); clear B2 hx)
      | (go_at_call 53; refine (HC.out V0.drew (HV.out.drew)).mono ?_; rintro e w5 ⟨rfl, B5⟩; have hk1 : Hid (Below V0.heap.size V0 w5) := ((Below.refl _ V0).drew).trans B5; clear B5)
      | (go_at_call 53; refine (HC.out _ (HV.out.trans ((one_below V0 (.cells #[.bool (true), .bool (true)] 4)).drew.mono HV.out.size))).mono ?_; rintro e w5 ⟨rfl, B5⟩; have hk1 : Hid (Below V0.heap.size V0 w5) := ((one_below V0 (.cells #[.bool (true), .bool (true)] 4)).drew).trans (B5.mono (by simp)); have hsl : Hid (RdV w5 w5.heap.size (some ⟨V0.heap.size, 0, none⟩) (cc [(true), (true)])) := (rdr_drew (rdv_cc V0 [(true), (true)])).on B5; clear B5))
  all_goals (
    have HB2 : Hid (Below w.heap.size w w6) := HV.out.trans (hk2.out.mono HV.out.size)
    obtain ⟨hb0, hb1⟩ := HK.out _ hk2.out
    clear HK hk2 hk1
    go_wp2_with fail
    refine (HN.out _ HB2.out).mono ?_
    rintro e w7 ⟨rfl, B7⟩
    have HB7 : Hid (Below w.heap.size w w7) := HB2.out.trans (B7.mono HB2.out.size)
    clear B7
    go_wp2
    go_ret2
    exact ⟨rfl, HB7.out⟩)
theorem rank_any (len : Int) (A : Option Addr) (c : Nat) (bs : List Nat) (hb : ∀ b ∈ bs, b < 256) (p : Int) (w : World) (h : Rd w w.heap.size A bs) :
    Calls Tryz.prog 236 #[.agg #[.int .i64 len, .slice A bs.length c], .int .i64 p] w (RkP w (rkN len bs p) (rkE len bs p)) := by
  unfold rkN
  by_cases h0 : rkE len bs p = 0
  · rw [if_pos h0, h0]
    obtain ⟨l, rfl, hl, rfl, q, rfl, hq⟩ := rkE_zero hb h0
    rw [Int.toNat_natCast, Int.toNat_natCast, unpack_pack]
    exact rank_ok l hl A c q hq _ rfl w h
  · rw [if_neg h0]
    exact rank_e len A c bs hb p _ rfl h0 w h
end Go.Proofs.YtbddcokjkdoaaaaGreat
