/- The law KraftMust, way by way and together. -/
import Derived.Test.YtlmoidblglmdgaaKOpenB
import Derived.Test.YtlmoidblglmdgaaKLCodes
namespace Go.Proofs.Ytlmoidblglmdgaa
set_option maxRecDepth 100000
set_option linter.unusedVariables false
open Go.RowKit Go.Shelf Go.Sort

theorem tkn_ks : ∀ ls : List (List Bool), tkn (ls.map List.length) = ks 24 (ls.filter (fun x => !x.isEmpty))
  | [] => rfl
  | x :: t => by
    have ih := tkn_ks t
    cases x with
    | nil => simp [tkn, tk] at ih ⊢; exact ih
    | cons b c => simp [tkn, tk, ks] at ih ⊢; exact ih
theorem must_room (ls : List (List Bool)) (h : apart ls) (h24 : ∀ x ∈ ls, x.length ≤ 24) : tkn (ls.map List.length) ≤ 16777216 := by
  rw [tkn_ks]
  exact kraft_le 24 _ (fun c hc => h24 c (List.mem_filter.1 hc).1) h
set_option maxHeartbeats 1000000 in
theorem lmust_no (A : Option Addr) (n c : Nat) (w : World) (e0 : Int) (hA : Calls Try.prog 19 #[.slice A n c] w fun e w' => e = .returned (.tuple #[.bool false, .int .i64 e0]) ∧ Below w.heap.size w w') :
    Calls Try.prog 5 #[.slice A n c] w fun e w' => e = .returned (.bool true) ∧ Below w.heap.size w w' := by
  have HA := Lib.hid hA; clear hA
  by_cases h0 : e0 = 0
  · subst h0
    go_enter Try.func5, Try.ntmps5
    go_wp2_with fail
    refine HA.out.mono ?_
    rintro e w1 ⟨rfl, b1⟩
    go_wp2_with fail
    refine (kbegun w1).mono ?_
    rintro e w2 ⟨rfl, b2⟩
    have HB2 : Hid (Below w.heap.size w w2) := b1.trans (b2.mono b1.size)
    clear b1 b2
    go_wp2
    go_ret
    exact ⟨rfl, HB2.out⟩
  · have t0 : (e0 == 0) = false := by simpa using h0
    go_enter Try.func5, Try.ntmps5
    go_wp2_with fail
    refine HA.out.mono ?_
    rintro e w1 ⟨rfl, b1⟩
    go_wp2_with fail
    refine (kbegun w1).mono ?_
    rintro e w2 ⟨rfl, b2⟩
    have HB2 : Hid (Below w.heap.size w w2) := b1.trans (b2.mono b1.size)
    clear b1 b2
    go_wp2
    go_ret
    exact ⟨rfl, HB2.out⟩
/-- At each round's head: the first i lengths are laid. -/
def MuRel (ls : List Nat) (B : Nat) (w2 : World) (v p : Value) (wr : World) : Prop :=
  ∃ i : Nat, i ≤ ls.length ∧ p = .int .i64 (i : Int) ∧ wr.ownsRow B 3 1 v i (zc (ns (ls.take i))) ∧ (∀ x ∈ ls.take i, x ≤ 24) ∧ Below B w2 wr
theorem ns_snoc (l : List Nat) (x : Nat) : zc (ns (l ++ [x])) = zc (ns l) ++ [.int .i64 (x : Int)] := by simp [zc, ns]
theorem own_rdi {w : World} {base : Nat} {v : Value} {n : Nat} {xs : List Value} (h : w.ownsRow base 3 1 v n xs) : ∃ A c, v = .slice A n c ∧ RdV w w.heap.size A xs := by
  rcases h.2 with ⟨rfl, rfl⟩ | ⟨g, cap, cur, rfl, _⟩
  · exact ⟨none, 0, rfl, .inl (List.eq_nil_of_length_eq_zero (by simpa using h.1))⟩
  · exact ⟨_, cap, rfl, own_rdv h⟩
set_option maxHeartbeats 2000000 in
theorem lmust_ok (bs : List Bx) (n : Nat) (hn : bs.length = n) (h64 : n ≤ 64) (A : Option Addr) (c : Nat) (w : World) (h : RdR w w.heap.size A (bs.map rx)) (hap : apart (bs.map (fun x => x.1))) (hA : Calls Try.prog 19 #[.slice A n c] w fun e w' => e = .returned (.tuple #[.bool true, .int .i64 0]) ∧ Below w.heap.size w w') :
    Calls Try.prog 5 #[.slice A n c] w fun e w' => e = .returned (.bool true) ∧ Below w.heap.size w w' := by
  obtain ⟨i0, hi, hz0, hz1, hz2⟩ := info_parts info3i
  have HA := Lib.hid hA; clear hA
  have HR := Lib.hid h; clear h
  have HN := Lib.hid hn
  have HAp := Lib.hid hap; clear hap
  have HLs : Hid ((bs.map (fun x : Bx => x.1.length)).length = n) := by show _ = _; rw [List.length_map]; exact hn
  clear hn
  go_enter Try.func5, Try.ntmps5
  go_wp2_with fail
  refine HA.out.mono ?_
  rintro e w1 ⟨rfl, b1⟩
  go_wp2_with fail
  refine (kbegun w1).mono ?_
  rintro e w2 ⟨rfl, b2⟩
  have HB2 : Hid (Below w.heap.size w w2) := b1.trans (b2.mono b1.size)
  clear b1 b2
  go_wp2
  go_loopw [5, 6] (fun v p wr => MuRel (bs.map (fun x : Bx => x.1.length)) w2.heap.size w2 v p wr) (fun _ p _ => n - (intOf p).toNat)
  case atStart => exact ⟨0, Nat.zero_le _, rfl, ⟨rfl, .inl ⟨rfl, rfl⟩⟩, by simp, Below.refl _ _⟩
  case round =>
    obtain ⟨i, hi', rfl, hrow, hle, hbel⟩ := hrel
    rw [HLs.out] at hi'
    by_cases hlt : i < n
    · have hil : i < bs.length := by rw [HN.out]; exact hlt
      have hx : (bs.map rx)[i]? = some (rx bs[i]) := by simp [hil]
      obtain ⟨b, off, rfl, hb, k1, _kk1, _kk2⟩ := (HR.out.below (HB2.out.trans (hbel.mono HB2.out.size)) (HB2.out.trans (hbel.mono HB2.out.size)).size).at_ hx
      have htk := take_snoc (bs.map (fun x : Bx => x.1.length)) i (by rw [HLs.out]; exact hlt)
      have e1 : (bs.map (fun x : Bx => x.1.length))[i]?.getD 0 = bs[i].1.length := by simp [hil]
      rw [e1] at htk
      have e2 : (rx bs[i]).1 = (bs[i].1.length : Int) := rfl
      rw [e2] at k1
      have HBel := Lib.hid hbel; have HLe := Lib.hid hle; have HTk := Lib.hid htk
      clear _kk1 _kk2 hx e1 e2 htk hbel hle
      generalize bs[i].1.length = x at *
      by_cases hx : 24 < x
      · have t0 : decide ((24 : Int) < (x : Int)) = true := by simp; omega
        clear hrow
        go_wp2
        go_ret
        exact ⟨rfl, HB2.out.trans (HBel.out.mono HB2.out.size)⟩
      · have t0 : decide ((24 : Int) < (x : Int)) = false := by simp; omega
        go_wp2_with (at_builtin; refine wpList_append_own _ rfl _ _ 22 rfl w2.heap.size 3 i0 (.int .i64 0) 1 8 Try.underlying22 hi hz0 hz1 hz2 rfl (by decide) _ _ _ rfl (hrow.alloc _) ⟨wr.heap.size, 0, none⟩ 1 1 [.int .i64 (x : Int)] rfl rfl (news_row wr [.int .i64 (x : Int)] _) (by simp [Value.oneCell']) (by unfold maxLen; omega) (by omega) (by have := HBel.out.size; simp; omega) ?_; intro v' w3 hown' hgrow _)
        have HO3 := Lib.hid hown'
        have HB3 : Hid (Below w2.heap.size w2 w3) := HBel.out.trans (((Below.refl w2.heap.size wr).alloc HBel.out.size _).trans (grown_low hgrow (hrow.alloc _) (by have := HBel.out.size; simp; omega)))
        have HLe' : Hid (∀ y ∈ (bs.map (fun x : Bx => x.1.length)).take (i + 1), y ≤ 24) := by
          intro y hy
          rw [HTk.out] at hy
          rcases List.mem_append.1 hy with hy | hy
          · exact HLe.out y hy
          · simp at hy; omega
        clear hown' hgrow hrow
        go_roundw
        case rel => exact ⟨i + 1, by rw [HLs.out]; omega, by go_num, by rw [HTk.out, ns_snoc]; exact HO3.out, HLe'.out, HB3.out⟩
        case measure => simp [intOf]; omega
    · have he : (bs.map (fun x : Bx => x.1.length)).take i = bs.map (fun x : Bx => x.1.length) := List.take_of_length_le (by rw [HLs.out]; omega)
      rw [he] at hrow hle
      have hin : i = n := by omega
      subst hin
      obtain ⟨Av, cv, rfl, hrd⟩ := own_rdi hrow
      have hroom := must_room (bs.map (fun x => x.1)) HAp.out (fun x hx => by
        obtain ⟨y, hy, rfl⟩ := List.mem_map.1 hx
        exact hle _ (List.mem_map.2 ⟨y, hy, rfl⟩))
      have em : (bs.map (fun x : Bx => x.1)).map List.length = bs.map (fun x : Bx => x.1.length) := by rw [List.map_map]; rfl
      rw [em] at hroom
      have HRm := Lib.hid (room_ok (bs.map (fun x : Bx => x.1.length)) i HLs.out h64 hle Av cv wr hrd)
      have HBel := Lib.hid hbel
      have t0 : decide ((0 : Int) ≤ 16777216 - (tkn (bs.map (fun x : Bx => x.1.length)) : Int)) = true := by simp; omega
      generalize (16777216 : Int) - (tkn (bs.map (fun x : Bx => x.1.length)) : Int) = R at *
      clear hrow hle he hrd hroom em hbel
      go_wp2_with fail
      refine HRm.out.mono ?_
      rintro e w5 ⟨rfl, b5⟩
      have HB5 : Hid (Below w2.heap.size w2 w5) := HBel.out.trans (b5.mono HBel.out.size)
      clear b5
      go_wp2
      go_ret
      exact ⟨rfl, HB2.out.trans (HB5.out.mono HB2.out.size)⟩

theorem kraftMust_law (A : Option Addr) (c : Nat) (rs : List Rx) (w : World) (hb : ∀ x ∈ rs, ∀ b ∈ x.2.2.2, b < 256) (h : RdR w w.heap.size A rs) (hs : rs.length ≤ 9223372036854775807) :
    Calls Try.prog 5 #[.slice A rs.length c] w fun e w' => e = .returned (.bool true) ∧ Below w.heap.size w w' := by
  by_cases he : apE rs = 0
  · obtain ⟨bs, rfl, h64, h8⟩ := apE_zero rs hb he
    rw [List.length_map] at h64 ⊢
    have hA := apart_ok bs bs.length rfl h64 A c w h h8
    by_cases hap : apart (bs.map (fun x => x.1))
    · exact lmust_ok bs _ rfl h64 A c w h hap (hA.mono fun e w' ⟨b, h1, h2, h3⟩ => by
        have := h1.2 hap
        subst this
        exact ⟨h2, h3⟩)
    · exact lmust_no A _ c w 0 (hA.mono fun e w' ⟨b, h1, h2, h3⟩ => by
        cases b with
        | true => exact absurd (h1.1 rfl) hap
        | false => exact ⟨h2, h3⟩)
  · exact lmust_no A _ c w _ (apart_e rs _ rfl hs A c w h hb _ rfl he)
end Go.Proofs.Ytlmoidblglmdgaa
