/- What the document's own reading of all numbers answers. -/
import Derived.Test.YtjogccpnhcnedaaVRefW
namespace Go.Proofs.Ytjogccpnhcnedaa
set_option maxRecDepth 100000
set_option linter.unusedVariables false
open Go.RowKit Go.Shelf

theorem va_step (bs : List Nat) (hl : bs.length ≤ 4096) (i f v to : Nat) (ns : List Nat) (hi : i < bs.length) (hr : rdR bs i = (v, to, 0)) : va (f + 1) ns (bs.drop i) = va f (ns ++ [v]) (bs.drop to) := by
  have hne : bs.drop i ≠ [] := by
    intro h
    have := congrArg List.length h
    rw [List.length_drop] at this
    simp at this
    omega
  rw [rdR_in bs i hl (by omega)] at hr
  by_cases e : (vr 0 0 (bs.drop i)).2.2 = 0
  · rw [if_pos e] at hr
    simp only [Prod.mk.injEq, and_true] at hr
    rw [va_ok f ns _ hne e, List.drop_drop, hr.1, ← hr.2]
  · rw [if_neg e] at hr
    simp only [Prod.mk.injEq] at hr
    exact absurd hr.2.2 e
theorem va_fail (bs : List Nat) (hl : bs.length ≤ 4096) (i f v to : Nat) (e0 : Int) (ns : List Nat) (hi : i < bs.length) (hr : rdR bs i = (v, to, e0)) (h0 : e0 ≠ 0) : va (f + 1) ns (bs.drop i) = ([], e0) := by
  have hne : bs.drop i ≠ [] := by
    intro h
    have := congrArg List.length h
    rw [List.length_drop] at this
    simp at this
    omega
  rw [rdR_in bs i hl (by omega)] at hr
  by_cases e : (vr 0 0 (bs.drop i)).2.2 = 0
  · rw [if_pos e] at hr
    simp only [Prod.mk.injEq] at hr
    exact absurd hr.2.2.symm h0
  · rw [if_neg e] at hr
    simp only [Prod.mk.injEq] at hr
    rw [va_err f ns _ hne e, hr.2.2]

/-- At each round's head. -/
def RaRel (w : World) (bs : List Nat) (n : Nat) (v q : Value) (wr : World) : Prop :=
  ∃ (ns : List Nat) (i f : Nat), q = .int .i64 (i : Int) ∧ wr.ownsRow w.heap.size 22 1 v ns.length (nc ns) ∧ Below w.heap.size w wr ∧ i ≤ n ∧ ns.length ≤ i ∧ n - i ≤ f ∧ va f ns (bs.drop i) = va n [] bs

theorem grown_below8 {w w' : World} {B : Nat} {v : Value} {n : Nat} {xs : List Value} (h : w.grownBy w' v.ownBlock) (ho : w.ownsRow B 22 1 v n xs) (hB : B ≤ w.heap.size) : Below B w w' :=
  ⟨h.os, h.tape, h.output, h.size, fun k hk => h.block k (by omega) (fun e => by have := (ho.lt k e.symm).1; omega)⟩

set_option maxHeartbeats 1000000 in
theorem rall_many (A : Option Addr) (n c : Nat) (w : World) (h : 4096 < n) :
    Calls Try.prog 32 #[.slice A n c] w (AllP w [] 2) := by
  go_enter Try.func32, Try.ntmps32
  go_wp2
  go_ret2
  exact ⟨none, 0, rfl, fun _ => rfl, .inl rfl, Below.refl _ _⟩

set_option maxHeartbeats 2000000 in
theorem rall_in (bs : List Nat) (n : Nat) (hn : bs.length = n) (hn2 : n ≤ 4096) (hb : ∀ b ∈ bs, b < 256) (A : Option Addr) (c : Nat) (w : World) (h : Rd w w.heap.size A bs) (rn : List Nat) (re : Int) (hr : va n [] bs = (rn, re)) :
    Calls Try.prog 32 #[.slice A n c] w (AllP w rn re) := by
  have HR := Lib.hid h; clear h
  have HN := Lib.hid hn; clear hn
  have HBy := Lib.hid hb; clear hb
  have HV := Lib.hid hr; clear hr
  obtain ⟨i0, hi, hz0, hz1, hz2⟩ := info_parts info25
  go_enter Try.func32, Try.ntmps32
  go_wp2
  go_loopw [4, 5] (fun v q wr => RaRel w bs n v q wr) (fun _ q _ => n - (intOf q).toNat)
  case atStart => exact ⟨[], 0, n, rfl, ⟨rfl, .inl ⟨rfl, rfl⟩⟩, Below.refl _ _, Nat.zero_le _, Nat.le_refl _, by omega, rfl⟩
  case round =>
    obtain ⟨ns, i, f, rfl, hrow, hbel, hin, hnl, hf, hva⟩ := hrel
    have HVA := Lib.hid hva; clear hva
    obtain ⟨Av, cv, rfl⟩ := own_slice25 hrow
    by_cases hlt : i < n
    · obtain ⟨f, rfl⟩ : ∃ g, f = g + 1 := ⟨f - 1, by omega⟩
      have hil : i < bs.length := by rw [HN.out]; exact hlt
      have HG := fun v to e0 hr => rread_any bs n HN.out HBy.out hn2 i (by omega) A c wr (HR.out.below hbel hbel.size) v to e0 hr
      have hnx := rdR_next bs i HBy.out hil
      have hst := fun v to => va_step bs (by rw [HN.out]; exact hn2) i f v to ns hil
      have hfl := fun v to e0 => va_fail bs (by rw [HN.out]; exact hn2) i f v to e0 ns hil
      obtain ⟨v, to, e0, hrr⟩ : ∃ v to e0, rdR bs (i : Int) = (v, to, e0) := ⟨_, _, _, rfl⟩
      replace HG := Lib.hid (HG v to e0 hrr)
      have hst2 := hst v to
      have hfl2 := hfl v to e0
      rw [hrr] at hnx hst2 hfl2
      clear hst hfl hrr
      rw [HN.out] at hnx
      have HB := Lib.hid hbel
      have HO := Lib.hid hrow
      by_cases he : e0 = 0
      · subst he
        have hnx2 := hnx rfl
        simp only at hnx2
        have HV2 : Hid (va f (ns ++ [v]) (bs.drop to) = va n [] bs) := by
          show _ = _
          rw [← HVA.out, hst2 rfl]
        have HLn : Hid ((ns ++ [v]).length = ns.length + 1) := List.length_append
        have hlen : ns.length ≤ 4096 := by omega
        clear hst2 hfl2 hnx hbel hrow
        generalize hk : ns.length = k at *
        have HK := Lib.hid hk; clear hk
        go_wp2_with fail
        refine HG.out.mono ?_
        rintro e w1 ⟨rfl, hb1⟩
        have HO1 := Lib.hid (HO.out.kept (grown_of_below hb1 none) (by
          rcases HO.out.2 with ⟨h, _⟩ | ⟨g, cap, cur, h, _⟩
          · left; rw [h]; rfl
          · right; rw [h]; simp [Value.ownBlock]))
        have HB1 := Lib.hid (HB.out.trans (hb1.mono HB.out.size))
        clear hb1
        go_wp2_with (at_builtin; refine wpList_append_own _ rfl _ _ 46 rfl w.heap.size 22 i0 (.int .u64 0) 1 8 Try.underlying46 hi hz0 hz1 hz2 rfl (by decide) _ _ _ rfl (HO1.out.alloc _) ⟨w1.heap.size, 0, none⟩ 1 1 [.int .u64 (v : Int)] rfl rfl (cell_one_new _ _ _) (by simp [Value.oneCell']) (by unfold maxLen; omega) (by omega) (by have := HB1.out.size; simp; omega) ?_; intro v' w3 hown' hgrow _)
        go_roundw
        case rel =>
          refine ⟨ns ++ [v], to, f, rfl, ?_, ?_, by omega, by rw [HLn.out]; omega, by omega, HV2.out⟩
          · rw [HLn.out, nc_append]; exact hown'
          · exact HB1.out.trans (((Below.refl w.heap.size w1).alloc HB1.out.size _).trans (grown_below8 hgrow (HO1.out.alloc _) (by have := HB1.out.size; simp; omega)))
        case measure => simp [intOf]; omega
      · have HV2 : (([] : List Nat), e0) = (rn, re) := by
          rw [← HV.out, ← HVA.out, hfl2 rfl he]
        simp only [Prod.mk.injEq] at HV2
        obtain ⟨rfl, rfl⟩ := HV2
        have t1 : (e0 != 0) = true := by simpa using he
        clear hst2 hfl2 hnx hbel hrow he HV
        go_wp2_with fail
        refine HG.out.mono ?_
        rintro e w1 ⟨rfl, hb1⟩
        have HB1 := Lib.hid (HB.out.trans (hb1.mono HB.out.size))
        clear hb1
        go_wp2
        go_ret2
        exact ⟨none, 0, rfl, fun _ => rfl, .inl rfl, HB1.out⟩
    · have HV2 : (ns, (0 : Int)) = (rn, re) := by
        rw [← HV.out, ← HVA.out, List.drop_of_length_le (by rw [HN.out]; omega), va_nil]
      simp only [Prod.mk.injEq] at HV2
      obtain ⟨rfl, rfl⟩ := HV2
      have HB := Lib.hid hbel
      have HO := Lib.hid hrow
      clear hbel hrow HV HVA
      go_wp2
      go_ret2
      exact ⟨Av, cv, rfl, own_none HO.out, own_rdv HO.out, HB.out⟩

theorem rall_any (bs : List Nat) (n : Nat) (hn : bs.length = n) (hb : ∀ b ∈ bs, b < 256) (A : Option Addr) (c : Nat) (w : World) (h : Rd w w.heap.size A bs) (rn : List Nat) (re : Int) (hr : allR bs = (rn, re)) :
    Calls Try.prog 32 #[.slice A n c] w (AllP w rn re) := by
  unfold allR at hr
  by_cases hl : 4096 < bs.length
  · rw [if_pos hl] at hr
    cases hr
    exact rall_many A n c w (by omega)
  · rw [if_neg hl, hn] at hr
    exact rall_in bs n hn (by omega) hb A c w h rn re hr
end Go.Proofs.Ytjogccpnhcnedaa
