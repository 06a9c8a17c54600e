/- Numbers are written as bytes: what appendNumber and Write answer, for whatever they are handed. -/
import Derived.Test.YtjogccpnhcnedaaVLib
import Derived.Test.YtjogccpnhcnedaaVPure
namespace Go.Proofs.Ytjogccpnhcnedaa
set_option maxRecDepth 100000
set_option linter.unusedVariables false
open Go.RowKit Go.Shelf

theorem info5 : (Try.prog.info? 5).map (fun i => (i.zero, i.size, i.bytes)) = some (some (.int .u8 0), 1, 1) := by kernel_rfl

/-- A row of the call's own, from a block on: so many bytes; what lay below is as it was. -/
def Bow (w : World) (B : Nat) (bs : List Nat) (v : Value) (w' : World) : Prop := w'.ownsRow B 5 1 v bs.length (bc bs) ∧ Below B w w' ∧ B ≤ w'.heap.size

theorem grown_below {w w' : World} {B : Nat} {v : Value} {n : Nat} {xs : List Value} (h : w.grownBy w' v.ownBlock) (ho : w.ownsRow B 5 1 v n xs) (hB : B ≤ w.heap.size) : Below B w w' :=
  ⟨h.os, h.tape, h.output, h.size, fun k hk => h.block k (by omega) (fun e => by have := (ho.lt k e.symm).1; omega)⟩

/-- At each round's head. -/
def AnRel (w : World) (B : Nat) (bs : List Nat) (n : Nat) (v p : Value) (wr : World) : Prop :=
  ∃ (cs : List Nat) (k : Nat), p = .int .u64 (k : Int) ∧ k ≤ n ∧ Bow w B cs v wr ∧ cs ++ vb k = bs ++ vb n

theorem an_len {cs bs : List Nat} {k n : Nat} (h : cs ++ vb k = bs ++ vb n) (hn : n < 18446744073709551616) : cs.length + (vb k).length = bs.length + (vb n).length := by
  have := congrArg List.length h
  simpa using this

set_option maxHeartbeats 1000000 in
theorem appendNumber_any (B : Nat) (bs : List Nat) (n : Nat) (hn : n < 18446744073709551616) (hb : bs.length ≤ 5000) (v : Value) (w : World) (hB : B ≤ w.heap.size) (h : w.ownsRow B 5 1 v bs.length (bc bs)) :
    Calls Try.prog 61 #[v, .int .u64 (n : Int)] w fun e w' => ∃ v', e = .returned v' ∧ Bow w B (bs ++ vb n) v' w' := by
  obtain ⟨i0, hi, hz0, hz1, hz2⟩ := info_parts info5
  have HO := Lib.hid h; clear h
  have h10 := vb_ten n hn
  go_enter Try.func61, Try.ntmps61
  go_wp2
  go_loopw [0, 1] (fun v p wr => AnRel w B bs n v p wr) (fun _ p _ => (intOf p).toNat)
  case atStart => exact ⟨bs, n, rfl, Nat.le_refl _, ⟨HO.out, Below.refl _ _, hB⟩, rfl⟩
  case round =>
    obtain ⟨cs, k, rfl, hk, ⟨hrow, hbel, hsz⟩, he⟩ := hrel
    have hlen := an_len he hn
    have hp := vb_pos k
    by_cases hlt : 128 ≤ k
    · have HE : Hid (cs ++ [k % 128 + 128] ++ vb (k / 128) = bs ++ vb n) := by
        show _ = _
        rw [← he, vb_ge k hlt]; simp
      clear he
      have hcl : cs.length ≤ 5010 := by omega
      clear hlen
      go_wp2_with (at_builtin; refine wpList_append_own _ rfl _ _ 23 rfl B 5 i0 (.int .u8 0) 1 1 Try.underlying23 hi hz0 hz1 hz2 rfl (by decide) _ _ _ rfl (hrow.alloc _) ⟨wr.heap.size, 0, none⟩ 1 1 [.int .u8 ((k % 128 + 128 : Nat) : Int)] rfl rfl (cell_one_new _ _ _) (by simp [Value.oneCell']) (by unfold maxLen; omega) (by omega) (by simp; omega) ?_; intro v' w3 hown' hgrow _)
      go_roundw
      case rel =>
        refine ⟨cs ++ [k % 128 + 128], k / 128, by rw [show ((k / 128 : Nat) : Int) = (k : Int) / 128 from by omega], by omega, ⟨?_, ?_, Nat.le_trans hsz (Nat.le_trans (by simp) hgrow.size)⟩, HE.out⟩
        · rw [List.length_append, bc_append]; exact hown'
        · exact hbel.trans (((Below.refl B wr).alloc hsz _).trans (grown_below hgrow (hrow.alloc _) (by simp; omega)))
      case measure => simp [intOf]; omega
    · have HE : Hid (cs ++ [k] = bs ++ vb n) := by
        show _ = _
        rw [← he, vb_lt k (by omega)]
      clear he
      have hcl : cs.length ≤ 5010 := by omega
      clear hlen
      go_wp2_with (at_builtin; refine wpList_append_own _ rfl _ _ 23 rfl B 5 i0 (.int .u8 0) 1 1 Try.underlying23 hi hz0 hz1 hz2 rfl (by decide) _ _ _ rfl (hrow.alloc _) ⟨wr.heap.size, 0, none⟩ 1 1 [.int .u8 (k : Int)] rfl rfl (cell_one_new _ _ _) (by simp [Value.oneCell']) (by unfold maxLen; omega) (by omega) (by simp; omega) ?_; intro v' w3 hown' hgrow _)
      go_ret
      refine ⟨_, rfl, ?_, hbel.trans (((Below.refl B wr).alloc hsz _).trans (grown_below hgrow (hrow.alloc _) (by simp; omega))), Nat.le_trans hsz (Nat.le_trans (by simp) hgrow.size)⟩
      rw [← HE.out, List.length_append, bc_append]
      exact hown'

/-- At each round's head: the first i numbers are written. -/
def WrRel (w : World) (ns : List Nat) (v p : Value) (wr : World) : Prop :=
  ∃ i : Nat, i ≤ ns.length ∧ p = .int .i64 (i : Int) ∧ Bow w w.heap.size (vbs (ns.take i)) v wr ∧ (vbs (ns.take i)).length ≤ 4096

/-- Bytes and an error come back. -/
def Wrote (w : World) (bs : List Nat) (err : Int) (e : Ending) (w' : World) : Prop :=
  ∃ A c, e = .returned (.tuple #[.slice A bs.length c, .int .i64 err]) ∧ bs.length ≤ c ∧ Rd w' w'.heap.size A bs ∧ Below w.heap.size w w'

/-- What Write answers. -/
def wrE (ns : List Nat) : Int := if 4096 < (vbs ns).length then 2 else 0
def wrL (ns : List Nat) : List Nat := if 4096 < (vbs ns).length then [] else vbs ns

set_option maxHeartbeats 1000000 in
theorem write_any (ns : List Nat) (n : Nat) (hn : ns.length = n) (hn2 : n ≤ 9223372036854775807) (hu : u64s ns) (A : Option Addr) (c : Nat) (w : World) (h : RdV w w.heap.size A (nc ns)) :
    Calls Try.prog 27 #[.slice A n c] w (Wrote w (wrL ns) (wrE ns)) := by
  have HR := Lib.hid h; clear h
  have HN := Lib.hid hn; clear hn
  have HU := Lib.hid hu; clear hu
  go_enter Try.func27, Try.ntmps27
  go_wp2
  go_loopw [4, 9] (fun v p wr => WrRel w ns v p wr) (fun _ p _ => n - (intOf p).toNat)
  case atStart => exact ⟨0, Nat.zero_le _, rfl, ⟨⟨rfl, .inl ⟨rfl, rfl⟩⟩, Below.refl _ _, Nat.le_refl _⟩, by simp [vbs]⟩
  case round =>
    obtain ⟨i, hi, rfl, ⟨hrow, hbel, hsz⟩, hle⟩ := hrel
    rw [HN.out] at hi
    by_cases hlt : i < n
    · have hil : i < ns.length := by rw [HN.out]; exact hlt
      obtain ⟨b, off, rfl, hb, hc⟩ := HR.out.at_ (nc_get ns i hil)
      have e1 := (hbel.cell (p := ⟨b, off + i, none⟩) hb).trans hc
      have hx : ns[i]?.getD 0 < 18446744073709551616 := by
        rw [List.getElem?_eq_getElem hil]; exact HU.out _ (List.getElem_mem hil)
      have HT : Hid (vbs (ns.take (i + 1)) = vbs (ns.take i) ++ vb (ns[i]?.getD 0)) := by
        show _ = _
        rw [take_snoc ns i hil, vbs_snoc]
      have hv10 := vb_ten _ hx
      have HLE : Hid ((vbs (ns.take (i + 1))).length ≤ (vbs ns).length) := vbs_take_le ns (i + 1)
      clear hc
      generalize ns[i]?.getD 0 = x at *
      have HA := Lib.hid (appendNumber_any w.heap.size (vbs (ns.take i)) x hx (by omega) _ wr hsz hrow)
      rw [← HT.out] at HA
      have hl2 : (vbs (ns.take (i + 1))).length ≤ 5000 := by rw [HT.out, List.length_append]; omega
      clear hrow
      go_wp2_with fail
      refine HA.out.mono ?_
      rintro e w1 ⟨v', rfl, hrow, hbel2, hsz2⟩
      obtain ⟨A', c', rfl⟩ := own_slice hrow
      generalize hq : (vbs (ns.take (i + 1))).length = q at *
      have HQ := Lib.hid hq; clear hq
      by_cases hbig : 4096 < q
      · have HB : Hid (4096 < (vbs ns).length) := Nat.lt_of_lt_of_le hbig HLE.out
        go_wp2
        go_ret2
        unfold wrE wrL
        rw [if_pos HB.out, if_pos HB.out]
        exact ⟨none, 0, rfl, Nat.le_refl _, .inl rfl, hbel.trans hbel2⟩
      · go_wp2
        go_roundw
        case rel => exact ⟨i + 1, by rw [HN.out]; omega, by go_num, ⟨by rw [HQ.out]; exact hrow, hbel.trans hbel2, hsz2⟩, by rw [HQ.out]; omega⟩
        case measure => simp [intOf]; omega
    · have HT : Hid (ns.take i = ns) := List.take_of_length_le (by rw [HN.out]; omega)
      rw [HT.out] at hrow hle
      have HB : Hid (¬ 4096 < (vbs ns).length) := by show ¬ _; omega
      obtain ⟨A', c', rfl⟩ := own_slice hrow
      clear hle
      have HCap := Lib.hid (own_cap hrow)
      generalize hq : (vbs ns).length = q at *
      have HQ := Lib.hid hq; clear hq
      go_wp2
      go_ret2
      unfold wrE wrL
      rw [HQ.out, if_neg HB.out, if_neg HB.out]
      exact ⟨A', c', by rw [HQ.out]; rfl, by rw [HQ.out]; exact HCap.out, own_rd hrow, hbel⟩
end Go.Proofs.Ytjogccpnhcnedaa
