/- The numbers of bytes are visited one by one up to the first error: the visit, in plain facts and as a contract, whatever the visitor does that keeps the bytes. -/
import Derived.Test.YtjogccpnhcnedaaVRead
namespace Go.Proofs.Ytjogccpnhcnedaa
set_option maxRecDepth 100000
set_option linter.unusedVariables false
open Go.RowKit Go.Shelf

theorem rdR_in (bs : List Nat) (p : Nat) (hl : bs.length ≤ 4096) (hp : p ≤ bs.length) :
    rdR bs p = if (vr 0 0 (bs.drop p)).2.2 = 0 then ((vr 0 0 (bs.drop p)).1, p + (vr 0 0 (bs.drop p)).2.1, 0) else (0, 0, (vr 0 0 (bs.drop p)).2.2) := by
  unfold rdR
  rw [if_neg (by omega), if_neg (by omega), Int.toNat_natCast]
theorem rdR_next (bs : List Nat) (p : Nat) (hb : ∀ b ∈ bs, b < 256) (hp : p < bs.length) (h : (rdR bs p).2.2 = 0) : p < (rdR bs p).2.1 ∧ (rdR bs p).2.1 ≤ bs.length ∧ bs.length ≤ 4096 := by
  by_cases hl : 4096 < bs.length
  · unfold rdR at h; rw [if_pos hl] at h; cases h
  · rw [rdR_in bs p (by omega) (by omega)] at h ⊢
    by_cases e : (vr 0 0 (bs.drop p)).2.2 = 0
    · rw [if_pos e] at h ⊢
      obtain ⟨m, rest, h1, h2, _⟩ := vr_ok (bs.drop p) (fun b hb' => hb b (List.mem_of_mem_drop hb')) e
      rw [h2]
      have := congrArg List.length h1
      rw [List.length_append, List.length_drop] at this
      have := vb_pos m
      exact ⟨by simp only; omega, by simp only; omega, by omega⟩
    · rw [if_neg e] at h; exact absurd h e
theorem rdR_bad (bs : List Nat) (p : Int) (h : (rdR bs p).2.2 ≠ 0) : rdR bs p = (0, 0, (rdR bs p).2.2) := by
  unfold rdR at h ⊢
  split
  · rfl
  · split
    · rfl
    · split
      · rename_i h1 h2 h3
        rw [if_neg h1, if_neg h2, if_pos h3] at h; exact absurd rfl h
      · rfl

/-- What is visited from a place on. -/
def vis : Nat → List Nat → Nat → List (Nat × Int)
  | 0, _, _ => []
  | f + 1, bs, p => if bs.length ≤ p then [] else ((rdR bs p).1, (rdR bs p).2.2) :: if (rdR bs p).2.2 = 0 then vis f bs (rdR bs p).2.1 else []
theorem vis_end (f : Nat) (bs : List Nat) (p : Nat) (h : bs.length ≤ p) : vis f bs p = [] := by
  cases f with
  | zero => rfl
  | succ f => rw [vis, if_pos h]
theorem vis_ok (f : Nat) (bs : List Nat) (p v to : Nat) (h : p < bs.length) (e : rdR bs p = (v, to, 0)) : vis (f + 1) bs p = (v, 0) :: vis f bs to := by
  rw [vis, if_neg (by omega), e, if_pos rfl]
theorem vis_err (f : Nat) (bs : List Nat) (p v to : Nat) (e0 : Int) (h : p < bs.length) (e : rdR bs p = (v, to, e0)) (h0 : e0 ≠ 0) : vis (f + 1) bs p = [(v, e0)] := by
  rw [vis, if_neg (by omega), e, if_neg h0]
theorem vis_va (bs : List Nat) (hl : bs.length ≤ 4096) (hb : ∀ b ∈ bs, b < 256) : ∀ (f p : Nat) (acc : List Nat), p ≤ bs.length → bs.length - p ≤ f →
    ((∀ x ∈ vis f bs p, x.2 = 0) ∧ va f acc (bs.drop p) = (acc ++ (vis f bs p).map (·.1), 0)) ∨
    (∃ pre e, vis f bs p = pre ++ [(0, e)] ∧ (∀ x ∈ pre, x.2 = 0) ∧ e ≠ 0 ∧ va f acc (bs.drop p) = ([], e)) := by
  intro f
  induction f with
  | zero =>
    intro p acc hp hf
    left
    refine ⟨fun x hx => (by cases hx), ?_⟩
    simp [va, vis]
  | succ f ih =>
    intro p acc hp hf
    by_cases hlt : p < bs.length
    · have hne : bs.drop p ≠ [] := by
        intro h
        have := congrArg List.length h
        rw [List.length_drop] at this
        simp at this
        omega
      have hin := rdR_in bs p hl hp
      by_cases e : (vr 0 0 (bs.drop p)).2.2 = 0
      · rw [if_pos e] at hin
        have hnx := rdR_next bs p hb hlt (by rw [hin])
        rw [hin] at hnx
        simp only at hnx
        rw [vis_ok f bs p _ _ hlt hin, va_ok f acc _ hne e, List.drop_drop]
        rcases ih (p + (vr 0 0 (bs.drop p)).2.1) (acc ++ [(vr 0 0 (bs.drop p)).1]) hnx.2.1 (by omega) with ⟨h1, h2⟩ | ⟨pre, e1, h1, h2, h3, h4⟩
        · left
          refine ⟨?_, ?_⟩
          · intro x hx
            rcases List.mem_cons.1 hx with rfl | hx
            · rfl
            · exact h1 x hx
          · rw [h2]; simp
        · right
          refine ⟨((vr 0 0 (bs.drop p)).1, 0) :: pre, e1, by rw [h1]; rfl, ?_, h3, h4⟩
          intro x hx
          rcases List.mem_cons.1 hx with rfl | hx
          · rfl
          · exact h2 x hx
      · rw [if_neg e] at hin
        right
        refine ⟨[], (vr 0 0 (bs.drop p)).2.2, ?_, fun x hx => (by cases hx), e, ?_⟩
        · rw [vis_err f bs p _ _ _ hlt hin e]; rfl
        · rw [va_err f acc _ hne e]
    · left
      rw [vis_end _ _ _ (by omega), List.drop_of_length_le (by omega), va_nil]
      exact ⟨fun x hx => (by cases hx), by simp⟩
theorem vis_all (bs : List Nat) (hb : ∀ b ∈ bs, b < 256) :
    ((∀ x ∈ vis bs.length bs 0, x.2 = 0) ∧ allR bs = ((vis bs.length bs 0).map (·.1), 0)) ∨
    (∃ pre e, vis bs.length bs 0 = pre ++ [(0, e)] ∧ (∀ x ∈ pre, x.2 = 0) ∧ e ≠ 0 ∧ allR bs = ([], e)) := by
  unfold allR
  by_cases hl : 4096 < bs.length
  · rw [if_pos hl]
    right
    refine ⟨[], 2, ?_, fun x hx => (by cases hx), by decide, rfl⟩
    obtain ⟨f, hf⟩ : ∃ f, bs.length = f + 1 := ⟨bs.length - 1, by omega⟩
    have e : rdR bs ((0 : Nat) : Int) = (0, 0, 2) := by unfold rdR; rw [if_pos hl]
    have := vis_err f bs 0 0 0 2 (by omega) e (by decide)
    rw [← hf] at this
    rw [this]; rfl
  · rw [if_neg hl]
    have := vis_va bs (by omega) hb bs.length 0 [] (Nat.zero_le _) (by omega)
    simpa using this

set_option maxHeartbeats 1000000 in
theorem nums1_in (n : Nat) (hn : 2 ≤ n) (lp Bb B0 m c : Nat) (A : Option Addr) (Q : Nat → Prop) (bs : List Nat) (hm : bs.length = m) (hm2 : m ≤ 9223372036854775807) (hb : ∀ b ∈ bs, b < 256) (hc : m ≤ c) (J Jx : List (Nat × Int) → World → Prop)
    (hQb : Q Bb) (hQ : ∀ k, k < B0 → Q k)
    (W : World) (hQW : ∀ k, Q k → k < W.heap.size) (hJa : AbidesFrom W.heap.size J)
    (hY : ∀ pre x W, J pre W → pre.length < 5000 → YieldAt Fence.wide (n - 1) Try.prog lp #[.int .u64 (x.1 : Int), .int .i64 x.2] W fun e W' =>
      (e = .returned (.bool true) ∧ J (pre ++ [x]) W' ∧ (KeepQ Q W W' ∧ W.heap.size ≤ W'.heap.size)) ∨ (e = .returned (.bool false) ∧ Jx (pre ++ [x]) W'))
    (hBb : W.cell? ⟨Bb, 0, none⟩ = some (.slice A m c))
    (hRd : Rd W B0 A bs) (hB0 : B0 ≤ W.heap.size) (h0 : J [] W) :
    CallsIn Fence.wide n Try.prog 74 #[.func (.yield lp) #[] #[], .pointer (some ⟨Bb, 0, none⟩)] W fun e W' => (∃ v, e = .returned v) ∧
      ((∃ ys, ys = vis m bs 0 ∧ J ys W') ∨ (∃ pre, pre <+: vis m bs 0 ∧ Jx pre W')) := by
  have HM := Lib.hid hm; clear hm
  have HBy := Lib.hid hb; clear hb
  refine callsIn_of_wp Try.func74 rfl trivial ?_ rfl
  simp only [Try.ntmps74, List.size_toArray, List.length_cons, List.length_nil, Nat.reduceAdd, Nat.reduceSub, Array.replicate_succ, Array.replicate_zero, List.push_toArray, List.append_toArray, List.nil_append, List.cons_append]
  gi_wp2
  gi_loopw [3] (fun p wr => ∃ (i f : Nat) (pre : List (Nat × Int)), p = .int .i64 (i : Int) ∧ i ≤ m ∧ pre.length ≤ i ∧ (m ≤ 4096 ∨ i = 0) ∧ m - i ≤ f ∧ pre ++ vis f bs i = vis m bs 0 ∧ KeepQ Q W wr ∧ W.heap.size ≤ wr.heap.size ∧ J pre wr)
    (fun p _ => m - (intOf p).toNat)
  case atStart =>
    exact ⟨0, m, [], rfl, Nat.zero_le _, Nat.le_refl _, .inr rfl, by omega, rfl, fun _ _ => rfl, Nat.le_refl _, h0⟩
  case round =>
    obtain ⟨i, f, pre, rfl, hi, hpl, h46, hf, hpre, hk, hsz, hJ⟩ := hrel
    have cb : wr.cell? ⟨Bb, 0, none⟩ = some (.slice A m c) := (World.cell?_of_block (w := W) (a := ⟨Bb, 0, none⟩) (hk Bb hQb)).trans hBb
    have HPre := Lib.hid hpre; clear hpre
    by_cases hlt : i < m
    · obtain ⟨f, rfl⟩ : ∃ g, f = g + 1 := ⟨f - 1, by omega⟩
      have hil : i < bs.length := by rw [HM.out]; exact hlt
      have HG := Lib.hid (read_any bs m HM.out HBy.out (i : Int) A c hc wr (hRd.keep (by omega) (fun k hk' => hk k (hQ k hk'))))
      have hnx := rdR_next bs i HBy.out hil
      have hvo := fun v to => vis_ok f bs i v to hil
      have hve := fun v to e0 => vis_err f bs i v to e0 hil
      obtain ⟨v, to, e0, hr⟩ : ∃ v to e0, rdR bs (i : Int) = (v, to, e0) := ⟨_, _, _, rfl⟩
      replace HG := Lib.hid (HG.out v to e0 hr)
      have hJw := fun W' (hb : Below wr.heap.size wr W') => hJa _ wr W' none hJ (grown_of_below hb none) (fun r e => by cases e)
      have HK := Lib.hid (⟨hk, hsz⟩ : KeepQ Q W wr ∧ W.heap.size ≤ wr.heap.size)
      have HJW := Lib.hid hJw
      clear hk hsz hJw hJ
      have hvo2 := hvo v to
      have hve2 := hve v to e0
      rw [hr] at hnx hvo2 hve2
      clear hvo hve hr
      rw [HM.out] at hnx
      by_cases he : e0 = 0
      · subst he
        have hnx2 := hnx rfl
        simp only at hnx2
        have HV : Hid ((pre ++ [(v, (0 : Int))]) ++ vis f bs to = vis m bs 0) := by
          show _ = _
          rw [← HPre.out, hvo2 rfl]; simp
        clear hvo2 hve2 hnx
        gi_wp2_with fail
        refine ⟨trivial, fun _ => by omega, ?_⟩
        refine (callsIn_wide.2 HG.out).mono ?_
        rintro e w1 ⟨rfl, hb1⟩
        obtain ⟨fn, tmps, assign, body, hy, hR⟩ := hY _ (v, (0 : Int)) w1 (HJW.out _ hb1) (by omega)
        have HB1 := Lib.hid hb1; clear hb1
        gi_wp2
        refine ⟨fun _ => by omega, hR.mono ?_⟩
        rintro e W3 (⟨rfl, hJ3, hk3, hs3⟩ | ⟨rfl, hJx3⟩)
        · gi_wp2
          go_roundw
          case rel =>
            exact ⟨to, f, pre ++ [(v, (0 : Int))], rfl, by omega, by rw [List.length_append, List.length_singleton]; omega, .inl hnx2.2.2, by omega, HV.out, fun k hq => (hk3 k hq).trans ((HB1.out.block k (by have := hQW k hq; have := HK.out.2; omega)).trans (HK.out.1 k hq)), Nat.le_trans HK.out.2 (Nat.le_trans HB1.out.size hs3), hJ3⟩
          case measure => simp [intOf]; omega
        · gi_wp2
          refine bodyPost_ret (results_none rfl _ _ _) rfl ?_
          exact ⟨⟨_, rfl⟩, .inr ⟨_, ⟨_, HV.out⟩, hJx3⟩⟩
      · have HV : Hid (pre ++ [(v, e0)] = vis m bs 0) := by
          show _ = _
          rw [← HPre.out, hve2 rfl he]
        have t1 : (e0 != 0) = true := by simpa using he
        clear hvo2 hve2 hnx he
        gi_wp2_with fail
        refine ⟨trivial, fun _ => by omega, ?_⟩
        refine (callsIn_wide.2 HG.out).mono ?_
        rintro e w1 ⟨rfl, hb1⟩
        obtain ⟨fn, tmps, assign, body, hy, hR⟩ := hY _ (v, e0) w1 (HJW.out _ hb1) (by omega)
        have HB1 := Lib.hid hb1; clear hb1
        gi_wp2
        refine ⟨fun _ => by omega, hR.mono ?_⟩
        rintro e W3 (⟨rfl, hJ3, hk3, hs3⟩ | ⟨rfl, hJx3⟩)
        · gi_wp2
          refine bodyPost_ret (results_none rfl _ _ _) rfl ?_
          exact ⟨⟨_, rfl⟩, .inl ⟨_, HV.out, hJ3⟩⟩
        · gi_wp2
          refine bodyPost_ret (results_none rfl _ _ _) rfl ?_
          exact ⟨⟨_, rfl⟩, .inr ⟨_, ⟨[], by rw [List.append_nil]; exact HV.out⟩, hJx3⟩⟩
    · have e : vis f bs i = [] := vis_end f bs i (by rw [HM.out]; omega)
      have HJ : Hid (J (vis m bs 0) wr) := by
        rw [← HPre.out, e, List.append_nil]; exact hJ
      clear e hJ
      gi_wp2
      go_end0
      exact ⟨⟨_, rfl⟩, .inl ⟨_, rfl, HJ.out⟩⟩

/-- The visit, as a contract. -/
theorem nums_stops (n : Nat) (hn : 2 ≤ n) (Bb B0 m c : Nat) (A : Option Addr) (Q : Nat → Prop) (bs : List Nat) (hm : bs.length = m) (hm2 : m ≤ 9223372036854775807) (hb : ∀ b ∈ bs, b < 256) (hc : m ≤ c)
    (hQb : Q Bb) (hQ : ∀ k, k < B0 → Q k) (w : World) (hQw : ∀ k, Q k → k < w.heap.size) (hB0 : B0 ≤ w.heap.size)
    (hBb : w.cell? ⟨Bb, 0, none⟩ = some (.slice A m c)) (hRd : Rd w B0 A bs) :
    SeqStopsK Fence.wide n Try.prog 74 #[.pointer (some ⟨Bb, 0, none⟩)] (fun x : Nat × Int => #[Value.int .u64 (x.1 : Int), .int .i64 x.2]) (KeepS Q) (fun ys => ys = vis m bs 0) (fun pre => pre <+: vis m bs 0) 5000 w :=
  fun lp J Jx W hW hJ _ hY h0 =>
    nums1_in n hn lp Bb B0 m c A Q bs hm hm2 hb hc J Jx hQb hQ W (fun k hk => Nat.lt_of_lt_of_le (hQw k hk) hW.size) hJ hY ((hW.cell (p := ⟨Bb, 0, none⟩) (hQw Bb hQb)).trans hBb) (hRd.below (hW.mono hB0) (Nat.le_refl _)) (Nat.le_trans hB0 hW.size) h0

set_option maxHeartbeats 1000000 in
/-- The maker of the visit. -/
theorem nums_in (n : Nat) (A : Option Addr) (m c : Nat) (w : World) :
    CallsIn Fence.wide n Try.prog 63 #[.slice A m c] w fun e w' => e = .returned (.func (.func 74) #[] #[.pointer (some ⟨w.heap.size, 0, none⟩)]) ∧
      w' = w.alloc (.cells #[.slice A m c] 23) := by
  refine callsIn_of_wp Try.func63 rfl trivial ?_ rfl
  simp only [Try.ntmps63, List.size_toArray, List.length_cons, List.length_nil, Nat.reduceAdd, Nat.reduceSub, Array.replicate_succ, Array.replicate_zero, List.push_toArray, List.append_toArray, List.nil_append, List.cons_append]
  gi_wp2
  go_ret
  exact ⟨rfl, rfl⟩
end Go.Proofs.Ytjogccpnhcnedaa
