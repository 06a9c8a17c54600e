/- The document's own Get and Cut answer what Get and Cut answer, for whatever they are handed. -/
import Derived.Test.YtabmmamaihiljaaRefPut
namespace Go.Proofs.Ytabmmamaihiljaa
open Go.RowKit

theorem rcheck_one (len : Int) (A : Option Addr) (c : Nat) (bs : List Nat) (w : World) (hb : ∀ b ∈ bs, b < 256) (h : Rd w w.heap.size A bs) (e0 : Int) (he : chk len bs = e0) :
    Calls Try.prog 24 #[.agg #[.int .i64 len, .slice A bs.length c]] (w.alloc (.cells #[.int .i64 len, .slice A bs.length c] 24)) fun e w' => e = .returned (.int .i64 e0) ∧ Below (w.heap.size + 1) (w.alloc (.cells #[.int .i64 len, .slice A bs.length c] 24)) w' := by
  have := rcheck_any len A c bs hb (w.alloc (.cells #[.int .i64 len, .slice A bs.length c] 24)) (h.on (one_below w _))
  rw [World.size_alloc, he] at this
  exact this

set_option maxRecDepth 100000 in
set_option maxHeartbeats 1000000 in
theorem rget_bad (len : Int) (A : Option Addr) (c : Nat) (bs : List Nat) (p width : Int) (w : World) (hb : ∀ b ∈ bs, b < 256) (h : Rd w w.heap.size A bs) (e0 : Int) (he : chk len bs = e0) (h0 : e0 ≠ 0) :
    Calls Try.prog 19 #[.agg #[.int .i64 len, .slice A bs.length c], .int .i64 p, .int .i64 width] w (Got w 0 e0) := by
  have HC := Lib.hid (rcheck_one len A c bs w hb h e0 he)
  have t1 : (e0 == 0) = false := by simpa using h0
  have t2 : (e0 != 0) = true := by simpa using h0
  clear h0 he hb h
  have HB := Lib.hid (one_below w (.cells #[.int .i64 len, .slice A bs.length c] 24))
  generalize bs.length = nn at *
  go_enter Try.func19, Try.ntmps19
  go_wp2_with fail
  refine HC.out.mono ?_
  rintro e w1 ⟨rfl, hq⟩
  obtain ⟨hc1, hf1⟩ := old_cells hq
  go_wp2
  go_ret2
  exact ⟨rfl, HB.out.trans (hq.mono (by omega))⟩

set_option maxRecDepth 100000 in
set_option maxHeartbeats 1000000 in
theorem rget_err (l : List Bool) (hl : l.length ≤ 8192) (A : Option Addr) (c : Nat) (p width : Int) (w : World) (h : Rd w w.heap.size A (pack l)) (e0 : Int)
    (hw : (¬ (0 ≤ width ∧ width ≤ 64) ∧ e0 = 3) ∨ ((0 ≤ width ∧ width ≤ 64) ∧ ¬ (0 ≤ p ∧ p ≤ (l.length : Int)) ∧ e0 = 3) ∨ ((0 ≤ width ∧ width ≤ 64) ∧ (0 ≤ p ∧ p ≤ (l.length : Int)) ∧ (l.length : Int) < p + width ∧ e0 = 7)) :
    Calls Try.prog 19 #[.agg #[.int .i64 (l.length : Int), .slice A (pack l).length c], .int .i64 p, .int .i64 width] w (Got w 0 e0) := by
  have HC := Lib.hid (rcheck_one (l.length : Int) A c (pack l) w (pack_lt l) h 0 (chk_pack l hl))
  clear h
  have HB := Lib.hid (one_below w (.cells #[.int .i64 (l.length : Int), .slice A (pack l).length c] 24))
  generalize (pack l).length = nn at *
  generalize l.length = ln at *
  rcases hw with ⟨hw, rfl⟩ | ⟨hw, hp, rfl⟩ | ⟨hw, hp, hs, rfl⟩
  · have HW := Lib.hid (between_no width 0 64 hw)
    clear hw
    go_enter Try.func19, Try.ntmps19
    go_wp2_with fail
    refine HC.out.mono ?_
    rintro e w1 ⟨rfl, hq⟩
    obtain ⟨hc1, hf1⟩ := old_cells hq
    go_wp2_with (go_at_call 42; refine (HW.out _).mono ?_; rintro e w2 ⟨rfl, rfl⟩)
    go_ret2
    exact ⟨rfl, HB.out.trans (hq.mono (by omega))⟩
  · have HW := Lib.hid (between_yes width 0 64 hw)
    have HP := Lib.hid (between_no p 0 (ln : Int) hp)
    clear hw hp
    go_enter Try.func19, Try.ntmps19
    go_wp2_with fail
    refine HC.out.mono ?_
    rintro e w1 ⟨rfl, hq⟩
    obtain ⟨hc1, hf1⟩ := old_cells hq
    go_wp2_with fail
    refine (HW.out _).mono ?_
    rintro e w2 ⟨rfl, rfl⟩
    go_wp2_with fail
    refine (HP.out _).mono ?_
    rintro e w2 ⟨rfl, rfl⟩
    go_wp2
    go_ret2
    exact ⟨rfl, HB.out.trans (hq.mono (by omega))⟩
  · have HW := Lib.hid (between_yes width 0 64 hw)
    have HP := Lib.hid (between_yes p 0 (ln : Int) hp)
    have t3 : decide ((ln : Int) < p + width) = true := by simp; omega
    obtain ⟨b1, b2⟩ := hw
    obtain ⟨b3, b4⟩ := hp
    go_enter Try.func19, Try.ntmps19
    go_wp2_with fail
    refine HC.out.mono ?_
    rintro e w1 ⟨rfl, hq⟩
    obtain ⟨hc1, hf1⟩ := old_cells hq
    go_wp2_with fail
    refine (HW.out _).mono ?_
    rintro e w2 ⟨rfl, rfl⟩
    go_wp2_with fail
    refine (HP.out _).mono ?_
    rintro e w2 ⟨rfl, rfl⟩
    go_wp2
    go_ret2
    exact ⟨rfl, HB.out.trans (hq.mono (by omega))⟩

theorem RdV.cut {w : World} {B : Nat} {A : Option Addr} {vs : List Value} (h : RdV w B A vs) (p k : Nat) : RdV w B (A.map (·.add p)) ((vs.drop p).take k) := by
  rcases h with rfl | ⟨b, off, rfl, hb, hc⟩
  · left; simp
  · have ha : (⟨b, off, none⟩ : Addr).add p = ⟨b, off + p, none⟩ := by unfold Addr.add; split <;> simp_all
    refine .inr ⟨b, off + p, by rw [Option.map_some, ha], hb, fun i v hi => ?_⟩
    rw [List.getElem?_take] at hi
    split at hi
    · rw [List.getElem?_drop] at hi
      rw [Nat.add_assoc]
      exact hc (p + i) v hi
    · cases hi
theorem ic_cut (l : List Bool) (p k : Nat) : ic ((l.drop p).take k) = ((ic l).drop p).take k := by simp [ic, List.map_take, List.map_drop]

theorem own_cap {w : World} {base : Nat} {e : TypeId} {A : Option Addr} {n c : Nat} {xs : List Value} (h : w.ownsRow base e 1 (.slice A n c) n xs) : n ≤ c := by
  rcases h.2 with ⟨h, h2⟩ | ⟨g, cap, cur, h, _, _, h2, _⟩
  · omega
  · simp only [Value.slice.injEq] at h; omega

set_option maxRecDepth 100000 in
set_option maxHeartbeats 2000000 in
theorem rget_ok (l : List Bool) (hl : l.length ≤ 8192) (A : Option Addr) (c : Nat) (p k : Nat) (w : World) (h : Rd w w.heap.size A (pack l)) (hk : k ≤ 64) (hp : p + k ≤ l.length) (m : Nat) (hm : m = num ((l.drop p).take k)) :
    Calls Try.prog 19 #[.agg #[.int .i64 (l.length : Int), .slice A (pack l).length c], .int .i64 (p : Int), .int .i64 (k : Int)] w (Got w m 0) := by
  have HC := Lib.hid (rcheck_one (l.length : Int) A c (pack l) w (pack_lt l) h 0 (chk_pack l hl))
  have HB := Lib.hid (one_below w (.cells #[.int .i64 (l.length : Int), .slice A (pack l).length c] 24))
  have HBL : Hid (∀ w1, Below w.heap.size w w1 → Calls Try.prog 33 #[.agg #[.int .i64 (l.length : Int), .slice A (pack l).length c]] w1 (Listed w1 l)) := fun w1 hq =>
    bitList_any l.length (by omega) A (pack l).length c (pack l) rfl (by rw [pack_length]; omega) (pack_lt l) w1 (h.below hq hq.size) l (unpack_pack l).symm
  have HW := Lib.hid (between_yes (k : Int) 0 64 ⟨by omega, by omega⟩)
  have HP := Lib.hid (between_yes (p : Int) 0 (l.length : Int) ⟨by omega, by omega⟩)
  have t3 : decide ((l.length : Int) < (p : Int) + (k : Int)) = false := by simp; omega
  have HM := Lib.hid hm; clear hm h
  go_enter Try.func19, Try.ntmps19
  go_wp2_with fail
  refine HC.out.mono ?_
  rintro e w1 ⟨rfl, hq⟩
  obtain ⟨hc1, hf1⟩ := old_cells hq
  have HQ1 : Hid (Below w.heap.size w w1) := HB.out.trans (hq.mono (by omega))
  go_wp2_with fail
  refine (HW.out _).mono ?_
  rintro e w2 ⟨rfl, rfl⟩
  go_wp2_with fail
  refine (HP.out _).mono ?_
  rintro e w2 ⟨rfl, rfl⟩
  go_wp2_with fail
  refine (HBL.out _ HQ1.out).mono ?_
  rintro e w2 ⟨A1, c1, rfl, ho1, hb1⟩
  have hcap := own_cap ho1
  have HO1 := Lib.hid ho1
  have HB1 := Lib.hid hb1
  clear ho1 hb1 hc1 hf1 hq
  have s1 : (0 : Int) ≤ (p : Int) := by omega
  have s2 : (p : Int) ≤ (p : Int) + (k : Int) := by omega
  have s3 : (p : Int) + (k : Int) ≤ (c1 : Int) := by omega
  have HLen : Hid (((l.drop p).take k).length = k) := by show _ = _; rw [List.length_take, List.length_drop]; omega
  have HRc : Hid (RdV w2 w2.heap.size (A1.map (·.add p)) (ic ((l.drop p).take k))) := by
    have := (own_rdv HO1.out).cut p k
    rw [← ic_cut] at this
    exact this
  have HLow : Hid (Below w.heap.size w w2) := HQ1.out.trans (HB1.out.mono HQ1.out.size)
  have HRc0 : c1 = p → Hid (RdV w2 w2.heap.size A1 (ic ((l.drop p).take k))) := fun hcp => .inl (by
    have hk0 : k = 0 := by omega
    rw [hk0]; rfl)
  go_wp2_with fail
  · have HR0 := HRc0 ‹c1 = p›
    refine (bitNum_any _ k HLen.out hk A1 0 w2 HR0.out).mono ?_
    rintro e w3 ⟨rfl, rfl⟩
    rw [← HM.out]
    go_wp2
    go_ret2
    exact ⟨rfl, HLow.out⟩
  · refine (bitNum_any _ k HLen.out hk (Option.map (fun x => x.add p) A1) (c1 - p) w2 HRc.out).mono ?_
    rintro e w3 ⟨rfl, rfl⟩
    rw [← HM.out]
    go_wp2
    go_ret2
    exact ⟨rfl, HLow.out⟩

theorem rget_any (len : Int) (A : Option Addr) (c : Nat) (bs : List Nat) (p width : Int) (w : World) (hb : ∀ b ∈ bs, b < 256) (h : Rd w w.heap.size A bs) :
    Calls Try.prog 19 #[.agg #[.int .i64 len, .slice A bs.length c], .int .i64 p, .int .i64 width] w (Got w (getN len bs p width) (getE len bs p width)) := by
  unfold getN
  by_cases hc : chk len bs = 0
  · obtain ⟨l, rfl, hl, rfl⟩ := chk_zero len bs hb hc
    by_cases hw : width < 0 ∨ 64 < width ∨ p < 0 ∨ (l.length : Int) < p
    · have e : getE (l.length : Int) (pack l) p width = 3 := by unfold getE; rw [if_neg (by omega), if_pos hw]
      rw [e, if_neg (by decide)]
      refine rget_err l hl A c p width w h 3 ?_
      by_cases h1 : 0 ≤ width ∧ width ≤ 64
      · exact .inr (.inl ⟨h1, by omega, rfl⟩)
      · exact .inl ⟨h1, rfl⟩
    · by_cases hs : (l.length : Int) - p < width
      · have e : getE (l.length : Int) (pack l) p width = 7 := by unfold getE; rw [if_neg (by omega), if_neg hw, if_pos hs]
        rw [e, if_neg (by decide)]
        exact rget_err l hl A c p width w h 7 (.inr (.inr ⟨by omega, by omega, by omega, rfl⟩))
      · have e : getE (l.length : Int) (pack l) p width = 0 := by unfold getE; rw [if_neg (by omega), if_neg hw, if_neg hs]
        rw [e, if_pos rfl]
        obtain ⟨q, rfl⟩ := Int.eq_ofNat_of_zero_le (show 0 ≤ p by omega)
        obtain ⟨k, rfl⟩ := Int.eq_ofNat_of_zero_le (show 0 ≤ width by omega)
        rw [Int.toNat_natCast, Int.toNat_natCast, Int.toNat_natCast, unpack_pack]
        exact rget_ok l hl A c q k w h (by omega) (by omega) _ rfl
  · have e : getE len bs p width = chk len bs := by unfold getE; rw [if_pos hc]
    rw [e, if_neg hc]
    exact rget_bad len A c bs p width w hb h _ rfl hc

end Go.Proofs.Ytabmmamaihiljaa
