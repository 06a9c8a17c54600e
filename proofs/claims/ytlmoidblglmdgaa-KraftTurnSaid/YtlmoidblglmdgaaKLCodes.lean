/- The law KraftCodes, way by way and together. -/
import Derived.Test.YtlmoidblglmdgaaKOpen
import Derived.Deep.QuietTactic
import Derived.BigQuiet
namespace Go.Proofs.Ytlmoidblglmdgaa
set_option maxRecDepth 100000
set_option linter.unusedVariables false
open Go.RowKit Go.Shelf Go.Sort

abbrev RoomC (A : Option Addr) (n c : Nat) (w : World) (r k : Int) : Prop := ∀ V, Below w.heap.size w V → Calls Try.prog 17 #[.slice A n c] V fun e w' => e = .returned (.tuple #[.int .i64 r, .int .i64 k]) ∧ Below V.heap.size V w'
set_option maxHeartbeats 1000000 in
theorem lcodes_e (A : Option Addr) (n c : Nat) (w : World) (k : Int) (hk : k ≠ 0) (hR : RoomC A n c w 0 k) (hC : ∀ V, Below w.heap.size w V → Calls Try.prog 18 #[.slice A n c] V (CoP V k)) :
    Calls Try.prog 4 #[.slice A n c] w fun e w' => e = .returned (.bool true) ∧ Below w.heap.size w w' := by
  have HR := Lib.hid hR; have HC := Lib.hid hC; clear hR hC
  have t0 : (k == 0) = false := by simpa using hk
  go_enter Try.func4, Try.ntmps4
  go_wp2_with fail
  refine (HR.out w (Below.refl _ _)).mono ?_
  rintro e w1 ⟨rfl, b1⟩
  go_wp2_with fail
  refine (HC.out w1 b1).mono ?_
  rintro e w2 ⟨rfl, b2⟩
  have HB2 : Hid (Below w.heap.size w w2) := b1.trans (b2.mono b1.size)
  clear b1 b2
  go_wp2_with fail
  refine (kbegun w2).mono ?_
  rintro e w3 ⟨rfl, b3⟩
  have HB3 : Hid (Below w.heap.size w w3) := HB2.out.trans (b3.mono HB2.out.size)
  clear b3
  go_wp2
  go_ret
  exact ⟨rfl, HB3.out⟩
set_option maxHeartbeats 1000000 in
theorem lcodes_full (A : Option Addr) (n c : Nat) (w : World) (r : Int) (hr : r < 0) (hR : RoomC A n c w r 0) (hC : ∀ V, Below w.heap.size w V → Calls Try.prog 18 #[.slice A n c] V (CoP V 8)) :
    Calls Try.prog 4 #[.slice A n c] w fun e w' => e = .returned (.bool true) ∧ Below w.heap.size w w' := by
  have HR := Lib.hid hR; have HC := Lib.hid hC; clear hR hC
  have t1 : decide ((0 : Int) ≤ r) = false := by simp; omega
  go_enter Try.func4, Try.ntmps4
  go_wp2_with fail
  refine (HR.out w (Below.refl _ _)).mono ?_
  rintro e w1 ⟨rfl, b1⟩
  go_wp2_with fail
  refine (HC.out w1 b1).mono ?_
  rintro e w2 ⟨rfl, b2⟩
  have HB2 : Hid (Below w.heap.size w w2) := b1.trans (b2.mono b1.size)
  clear b1 b2
  go_wp2_with fail
  refine (kbegun w2).mono ?_
  rintro e w3 ⟨rfl, b3⟩
  have HB3 : Hid (Below w.heap.size w w3) := HB2.out.trans (b3.mono HB2.out.size)
  clear b3
  go_wp2
  go_ret
  exact ⟨rfl, HB3.out⟩
set_option maxHeartbeats 2000000 in
theorem lcodes_ok (l : List Nat) (n : Nat) (hn : l.length = n) (hn2 : n ≤ 64) (A : Option Addr) (c : Nat) (w : World) (h : RdV w w.heap.size A (zc (ns l))) (r : Int) (hr : 0 ≤ r) (hap : apart (codes l)) (h8 : ∀ x ∈ codes l, x.length ≤ 8192) (hlen : ∀ i, i < n → ((codes l)[i]?.getD []).length = l[i]?.getD 0)
    (hR : RoomC A n c w r 0) (hC : ∀ V, Below w.heap.size w V → Calls Try.prog 18 #[.slice A n c] V (GotC V (codes l))) :
    Calls Try.prog 4 #[.slice A n c] w fun e w' => e = .returned (.bool true) ∧ Below w.heap.size w w' := by
  have HR := Lib.hid hR; have HC := Lib.hid hC; clear hR hC
  have HA := Lib.hid h; clear h
  have HLen := Lib.hid hlen; clear hlen
  have H8 := Lib.hid h8; have HAp := Lib.hid hap
  have HN := Lib.hid hn
  have hcl : (codes l).length = n := by rw [codes_length, hn]
  have HCL := Lib.hid hcl
  clear h8 hap hn
  generalize hcs : codes l = cs at *
  clear hcs
  have t1 : decide ((0 : Int) ≤ r) = true := by simpa using hr
  go_enter Try.func4, Try.ntmps4
  go_wp2_with fail
  refine (HR.out w (Below.refl _ _)).mono ?_
  rintro e w1 ⟨rfl, b1⟩
  go_wp2_with fail
  refine (HC.out w1 b1).mono ?_
  rintro e w2 ⟨Ac, cc, bs, rfl, hbs, rr, b2⟩
  rw [HCL.out]
  have HB2 : Hid (Below w.heap.size w w2) := b1.trans (b2.mono b1.size)
  have HRR := Lib.hid rr; have HBs := Lib.hid hbs
  clear b1 b2 rr hbs
  go_wp2_with fail
  refine (kbegun w2).mono ?_
  rintro e w3 ⟨rfl, b3⟩
  have HB3 : Hid (Below w.heap.size w w3) := HB2.out.trans (b3.mono HB2.out.size)
  have HR3 := Lib.hid (HRR.out.on b3)
  clear b3 HRR
  have hbl : bs.length = n := by have := congrArg List.length HBs.out; rw [List.length_map, HCL.out] at this; exact this
  have HBl := Lib.hid hbl
  have HApp : Hid (Calls Try.prog 19 #[.slice Ac n cc] w3 fun e w' => e = .returned (.tuple #[.bool true, .int .i64 0]) ∧ Below w3.heap.size w3 w') := by
    refine (apart_ok bs n hbl hn2 Ac cc w3 HR3.out (fun x hx => H8.out _ (by rw [← HBs.out]; exact List.mem_map_of_mem hx))).mono ?_
    rintro e w' ⟨b, h1, h2, h3⟩
    rw [HBs.out] at h1
    have := h1.2 HAp.out
    subst this
    exact ⟨h2, h3⟩
  clear hbl hcl
  go_wp2_with fail
  refine HApp.out.mono ?_
  rintro e w4 ⟨rfl, b4⟩
  have HB4 : Hid (Below w.heap.size w w4) := HB3.out.trans (b4.mono HB3.out.size)
  have HR4 := Lib.hid (HR3.out.on b4)
  clear b4 HR3 HApp
  go_wp2
  go_loopw [9] (fun p wr => ∃ i : Nat, i ≤ n ∧ p = .int .i64 (i : Int) ∧ Below w4.heap.size w4 wr) (fun p _ => n - (intOf p).toNat)
  case atStart => exact ⟨0, Nat.zero_le _, rfl, Below.refl _ _⟩
  case round =>
    obtain ⟨i, hi, rfl, hbel⟩ := hrel
    by_cases hlt : i < n
    · have hil : i < bs.length := by rw [HBl.out]; exact hlt
      have hix : i < l.length := by rw [HN.out]; exact hlt
      obtain ⟨b, off, rfl, hb, k0⟩ := ((HA.out.on HB4.out).below hbel hbel.size).at_ (ns_get l i hix)
      have hx : (bs.map rx)[i]? = some (rx bs[i]) := by simp [hil]
      obtain ⟨b', off', rfl, hb', k1, kk1, kk2⟩ := (HR4.out.below hbel hbel.size).at_ hx
      have he : ((rx bs[i]).1 : Int) = ((l[i]?.getD 0 : Nat) : Int) := by
        rw [← HLen.out i hlt, ← HBs.out, List.getElem?_map, List.getElem?_eq_getElem hil]; rfl
      rw [he] at k1
      generalize l[i]?.getD 0 = x at *
      have HBel := Lib.hid hbel
      clear kk1 kk2 hx he hil hix hbel
      go_wp2
      go_quiet (fail)
      go_wp2
      go_roundw
      case rel => exact ⟨i + 1, by omega, by go_num, ⟨HBel.out.os, HBel.out.tape, HBel.out.output, HBel.out.size, HBel.out.block⟩⟩
      case measure => simp [intOf]; omega
    · have HBel := Lib.hid hbel
      clear hbel
      go_wp2
      go_ret
      exact ⟨rfl, HB4.out.trans (HBel.out.mono HB4.out.size)⟩

theorem kraftCodes_law (A : Option Addr) (c : Nat) (xs : List Int) (w : World) (hb : ∀ x ∈ xs, -9223372036854775808 ≤ x ∧ x ≤ 9223372036854775807) (h : RdV w w.heap.size A (zc xs)) (hs : xs.length ≤ 9223372036854775807) :
    Calls Try.prog 4 #[.slice A xs.length c] w fun e w' => e = .returned (.bool true) ∧ Below w.heap.size w w' := by
  have hR : RoomC A xs.length c w (roR xs) (kchk xs) := fun V hV => room_any xs _ rfl hs A c V (h.on hV)
  by_cases he : woE xs = 0
  · obtain ⟨l, rfl, h64, h24, hr⟩ := woE_zero xs he
    have hk : kchk (ns l) = 0 := kchk_ok l h64 h24
    have hl : (ns l).length = l.length := ns_length l
    have hrr : roR (ns l) = 16777216 - (tkn l : Int) := by unfold roR; rw [if_pos hk, ns_nat]
    rw [hrr, hk, hl] at hR
    rw [hl]
    refine lcodes_ok l l.length rfl h64 A c w h _ (by omega) (codes_apart l h24 hr) (fun x hx => ?_) (fun i hi => ?_) hR (fun V hV => codes_ok l l.length rfl h64 h24 hr A c V (h.on hV))
    · obtain ⟨s, hs', rfl⟩ := List.mem_map.1 hx
      rw [codOf_len (words_ok l h24) (List.mem_range.1 hs')]
      have := h24 _ (at_mem l s (List.mem_range.1 hs'))
      omega
    · rw [codes_get l hi, codOf_len (words_ok l h24) hi]
  · have hC : ∀ V, Below w.heap.size w V → Calls Try.prog 18 #[.slice A xs.length c] V (CoP V (woE xs)) := fun V hV => codes_w A _ c V _ he (wordsOf_no xs _ rfl hs _ rfl he A c V (h.on hV))
    by_cases hk : kchk xs = 0
    · have h8 : woE xs = 8 := by
        unfold woE at he ⊢
        rw [if_neg (by omega)] at he ⊢
        split
        · rfl
        · rename_i h'; rw [if_neg h'] at he; exact absurd rfl he
      have hrr : roR xs < 0 := by
        unfold woE at h8
        rw [if_neg (by omega)] at h8
        unfold roR
        rw [if_pos hk]
        by_cases h' : 16777216 < tkn (xs.map Int.toNat)
        · omega
        · rw [if_neg h'] at h8; omega
      rw [hk] at hR
      rw [h8] at hC
      exact lcodes_full A _ c w _ hrr hR hC
    · have hw : woE xs = kchk xs := by unfold woE; rw [if_pos hk]
      have hrr : roR xs = 0 := by unfold roR; rw [if_neg hk]
      rw [hrr] at hR
      rw [hw] at hC
      exact lcodes_e A _ c w _ hk hR hC
end Go.Proofs.Ytlmoidblglmdgaa
