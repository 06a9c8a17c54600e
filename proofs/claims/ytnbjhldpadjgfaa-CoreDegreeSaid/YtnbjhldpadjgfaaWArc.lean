/- The arcs of a graph are visited, one by one, whatever the visitor does that keeps the graph. -/
import Derived.Test.YtnbjhldpadjgfaaWChk
import Derived.Deep.RegionHeld3
namespace Go.Proofs.Ytnbjhldpadjgfaa
set_option linter.unusedVariables false
open Go.RowKit Go.Shelf

attribute [local go_sem] Oper.semAt_some

/-- An arc that is told to a visitor: one of those that there are. -/
def clp (L : List Ar) (x : Ar) : Ar := if x ∈ L then x else L.head?.getD (0, 0)
theorem clp_mem {L : List Ar} {x : Ar} (h : x ∈ L) : clp L x = x := if_pos h
theorem clp_in {L : List Ar} (h : 0 < L.length) (x : Ar) : clp L x ∈ L := by
  unfold clp
  split
  · assumption
  · cases L with
    | nil => simp at h
    | cons a t => simp
theorem clp_map {L M : List Ar} (h : ∀ x ∈ M, x ∈ L) : M.map (clp L) = M := by
  conv => rhs; rw [← List.map_id M]
  exact List.map_congr_left fun x hx => clp_mem (h x hx)
def encA (x : Ar) : Array Value := #[.agg #[.int .i64 (x.1 : Int), .int .i64 (x.2 : Int)]]
def encC (L : List Ar) (x : Ar) : Array Value := encA (clp L x)

/-- What has come when the first lists are over, and so many of the next one. -/
def pfx (g : List (List Nat)) (i k : Nat) : List Ar := arcs 0 (g.take i) ++ ((row g i).take k).map (fun x => (i, x))
theorem pfx_zero (g : List (List Nat)) (i : Nat) : pfx g i 0 = arcs 0 (g.take i) := by simp [pfx]
theorem pfx_start (g : List (List Nat)) : pfx g 0 0 = [] := by simp [pfx, arcs]
theorem pfx_step (g : List (List Nat)) (i k : Nat) (h : k < (row g i).length) : pfx g i (k + 1) = pfx g i k ++ [(i, (row g i)[k]?.getD 0)] := by
  unfold pfx
  rw [List.take_succ_eq_append_getElem h, List.map_append, ← List.append_assoc, List.getElem?_eq_getElem h]; rfl
theorem pfx_row (g : List (List Nat)) (i k : Nat) (hi : i < g.length) (h : (row g i).length ≤ k) : pfx g i k = pfx g (i + 1) 0 := by
  rw [pfx_zero, List.take_succ_eq_append_getElem hi, arcs_snoc]
  unfold pfx
  rw [List.take_of_length_le h, List.length_take, Nat.min_eq_left (by omega), Nat.zero_add]
  congr 1
  unfold row
  rw [List.getElem?_eq_getElem hi]; rfl
theorem pfx_end (g : List (List Nat)) (i : Nat) (h : g.length ≤ i) : pfx g i 0 = arcs 0 g := by rw [pfx_zero, List.take_of_length_le h]
theorem arcs_append : ∀ (a b : List (List Nat)) (o : Nat), arcs o (a ++ b) = arcs o a ++ arcs (o + a.length) b
  | [], b, o => by simp [arcs]
  | l :: t, b, o => by
    rw [List.cons_append]
    unfold arcs
    rw [arcs_append t b (o + 1), List.append_assoc, List.length_cons, show o + 1 + t.length = o + (t.length + 1) by omega]
    cases b with
    | nil => rfl
    | cons m s => rfl
theorem pfx_pre0 (g : List (List Nat)) (i : Nat) : pfx g i 0 <+: arcs 0 g := by
  rw [pfx_zero]
  conv => rhs; rw [← List.take_append_drop i g, arcs_append]
  exact List.prefix_append _ _
theorem pfx_pre (g : List (List Nat)) (i k : Nat) (hi : i < g.length) : pfx g i k <+: arcs 0 g := by
  have h1 := pfx_pre0 g (i + 1)
  rw [← pfx_row g i (row g i).length hi (Nat.le_refl _)] at h1
  refine List.IsPrefix.trans ?_ h1
  unfold pfx
  rw [List.take_length]
  exact (List.prefix_append_right_inj _).2 ((List.take_prefix _ _).map _)
theorem pfx_lt (g : List (List Nat)) (i k : Nat) (hi : i < g.length) (h : k < (row g i).length) : (pfx g i k).length < (arcs 0 g).length := by
  have h1 := (pfx_pre g i (k + 1) hi).length_le
  rw [pfx_step g i k h, List.length_append] at h1
  simp at h1; omega
theorem pfx_in (g : List (List Nat)) (i k : Nat) (hi : i < g.length) (h : k < (row g i).length) : (i, (row g i)[k]?.getD 0) ∈ arcs 0 g := by
  have h1 := pfx_pre g i (k + 1) hi
  rw [pfx_step g i k h] at h1
  exact h1.subset (by simp)
theorem rw_row {R : List Rw} {g : List (List Nat)} (hg : gs R = g.map ns) (i : Nat) (hi : i < R.length) : (R[i]?.getD (none, 0, [])).2.2 = ns (row g i) := by
  have h1 : (gs R)[i]? = (g.map ns)[i]? := by rw [hg]
  have hl : i < g.length := by have := congrArg List.length hg; rw [gs_length, List.length_map] at this; omega
  unfold gs at h1
  rw [List.getElem?_map, List.getElem?_map, List.getElem?_eq_getElem hi, List.getElem?_eq_getElem hl] at h1
  unfold row
  rw [List.getElem?_eq_getElem hi, List.getElem?_eq_getElem hl]
  simpa using h1

set_option maxRecDepth 100000 in
set_option maxHeartbeats 2000000 in
theorem arcs1_in (n : Nat) (hn : 2 ≤ n) (lp Bg n₀ N c : Nat) (A : Option Addr) (R : List Rw) (g : List (List Nat)) (hg : gs R = g.map ns) (hN : R.length = N) (hN2 : N ≤ 100) (J Jx : List Ar → World → Prop)
    (hY : ∀ pre x W, J pre W → pre.length < (arcs 0 g).length → YieldAt Fence.wide (n - 1) Try.prog lp (encC (arcs 0 g) x) W fun e W' =>
      (e = .returned (.bool true) ∧ J (pre ++ [x]) W' ∧ Below n₀ W W') ∨ (e = .returned (.bool false) ∧ Jx (pre ++ [x]) W'))
    (W : World) (hBg : W.cell? ⟨Bg, 0, none⟩ = some (.slice A N c)) (hRd : RdG W n₀ A R) (h0 : J [] W) :
    CallsIn Fence.wide n Try.prog 76 #[.func (.yield lp) #[] #[], .pointer (some ⟨Bg, 0, none⟩)] W fun e W' => (∃ v, e = .returned v) ∧
      ((∃ ys, ys = arcs 0 g ∧ J ys W') ∨ (∃ pre, pre <+: arcs 0 g ∧ Jx pre W')) := by
  have HY := Lib.hid hY; clear hY
  have HR := Lib.hid hRd; clear hRd
  have hgl : g.length = N := by have := congrArg List.length hg; rw [gs_length, List.length_map] at this; omega
  have HG := Lib.hid (⟨hg, hN, hgl⟩ : gs R = g.map ns ∧ R.length = N ∧ g.length = N)
  clear hg hN hgl
  refine callsIn_of_wp Try.func76 rfl trivial ?_ rfl
  simp only [Try.ntmps76, List.size_toArray, List.length_cons, List.length_nil, Nat.reduceAdd, Nat.reduceSub, Array.replicate_succ, Array.replicate_zero, List.push_toArray, List.append_toArray, List.nil_append, List.cons_append]
  gi_wp2
  gi_loopw [10] (fun p wr => ∃ i : Nat, i ≤ N ∧ p = .int .i64 (i : Int) ∧ Below n₀ W wr ∧ J (pfx g i 0) wr)
    (fun p _ => N - (intOf p).toNat)
  case atStart =>
    exact ⟨0, Nat.zero_le _, rfl, Below.refl _ _, by rw [pfx_start]; exact h0⟩
  case round =>
    obtain ⟨i, hi, rfl, hk, hJ⟩ := hrel
    by_cases hlt : i < N
    · have hin : i < R.length := by rw [HG.out.2.1]; exact hlt
      have hRw := HR.out.below hk (Nat.le_refl _)
      obtain ⟨b, off, rfl, hb, hc⟩ := hRw.1.at_ (rcl_get R i hin)
      have hrr := rw_row HG.out.1 i hin
      have hrd := (hRw.2 _ (rw_mem R i hin)).1
      have h47 := (hRw.2 _ (rw_mem R i hin)).2
      generalize R[i]?.getD (none, 0, []) = r at *
      obtain ⟨A1, c1, xs⟩ := r
      simp only at hrr hrd h47
      subst hrr
      simp only [sl, ns_length] at hc
      rw [ns_length] at h47
      obtain ⟨m, hm⟩ : ∃ m, (row g i).length = m := ⟨_, rfl⟩
      rw [hm] at hc h47
      have HM := Lib.hid (⟨hm, by rw [HG.out.2.2]; exact hlt⟩ : (row g i).length = m ∧ i < g.length)
      have HK := Lib.hid (⟨hk, hrd⟩ : Below n₀ W wr ∧ RdV wr n₀ A1 (zc (ns (row g i))))
      clear hk hRw hrd hm
      gi_wp2
      obtain ⟨wo, hwo⟩ : ∃ wo, wo = wr := ⟨_, rfl⟩
      gi_loopw [17] (fun p wi => ∃ k : Nat, k ≤ m ∧ p = .int .i64 (k : Int) ∧ Below n₀ wo wi ∧ J (pfx g i k) wi)
        (fun p _ => m - (intOf p).toNat)
      case atStart => exact ⟨0, Nat.zero_le _, rfl, by rw [hwo]; exact Below.refl _ _, hJ⟩
      case round =>
        obtain ⟨k, hk2, rfl, hkb, hJ2⟩ := hrel
        rw [hwo] at hkb
        by_cases hlt2 : k < m
        · have hkm : k < (row g i).length := by rw [HM.out.1]; exact hlt2
          obtain ⟨b2, off2, rfl, hb2, hc2⟩ := (HK.out.2.below hkb (Nat.le_refl _)).at_ (ns_get (row g i) k hkm)
          have HS := Lib.hid (⟨pfx_step g i k hkm, pfx_pre g i (k + 1) HM.out.2⟩ : pfx g i (k + 1) = pfx g i k ++ [(i, (row g i)[k]?.getD 0)] ∧ pfx g i (k + 1) <+: arcs 0 g)
          have hY2 := HY.out (pfx g i k) (i, (row g i)[k]?.getD 0) _ hJ2 (pfx_lt g i k HM.out.2 hkm)
          unfold encC at hY2
          rw [clp_mem (pfx_in g i k HM.out.2 hkm)] at hY2
          generalize (row g i)[k]?.getD 0 = x at *
          have HKB := Lib.hid hkb
          clear hkb hJ2
          obtain ⟨fn, tmps, assign, body, hy, hR⟩ := hY2
          dsimp only [encA] at hy
          gi_wp2
          refine ⟨fun _ => by omega, hR.mono ?_⟩
          rintro e W3 (⟨rfl, hJ3, hk3⟩ | ⟨rfl, hJx3⟩)
          · gi_wp2
            go_roundw
            case rel => exact ⟨k + 1, by omega, by go_num, by rw [hwo]; exact HKB.out.trans hk3, by rw [HS.out.1]; exact hJ3⟩
            case measure => simp [intOf]; omega
          · gi_wp2
            refine bodyPost_ret (results_none rfl _ _ _) rfl ?_
            exact ⟨⟨_, rfl⟩, .inr ⟨_, by rw [← HS.out.1]; exact HS.out.2, hJx3⟩⟩
        · rw [pfx_row g i k HM.out.2 (by rw [HM.out.1]; omega)] at hJ2
          have HJ2 := Lib.hid hJ2
          have HKB := Lib.hid hkb
          clear hJ2 hkb
          gi_wp2
          go_roundw
          case rel => exact ⟨i + 1, by omega, by go_num, HK.out.1.trans HKB.out, HJ2.out⟩
          case measure => simp [intOf]; omega
    · have HJ : Hid (J (arcs 0 g) wr) := by
        show J _ _
        rw [← pfx_end g i (by rw [HG.out.2.2]; omega)]; exact hJ
      clear hJ hk
      gi_wp2
      go_end0
      exact ⟨⟨_, rfl⟩, .inl ⟨_, rfl, HJ.out⟩⟩

/-- The visit, as a contract. -/
theorem arcs_stops (n : Nat) (hn : 2 ≤ n) (Bg n₀ N c : Nat) (A : Option Addr) (R : List Rw) (g : List (List Nat)) (hg : gs R = g.map ns) (hN : R.length = N) (hN2 : N ≤ 100) (w : World) (hn0 : n₀ ≤ w.heap.size) (hB : Bg < n₀)
    (hBg : w.heap[Bg]? = some (.cells #[.slice A N c] 24 (0, 0))) (hRd : RdG w n₀ A R) :
    SeqStopsK Fence.wide n Try.prog 76 #[.pointer (some ⟨Bg, 0, none⟩)] (encC (arcs 0 g)) (Below n₀) (fun ys => ys = arcs 0 g) (fun pre => pre <+: arcs 0 g) (arcs 0 g).length w :=
  fun lp J Jx W hW _ _ hY h0 =>
    arcs1_in n hn lp Bg n₀ N c A R g hg hN hN2 J Jx hY W ((cell_at ((hW.block Bg (by omega)).trans hBg) 0).trans rfl) (hRd.below (hW.mono hn0) (Nat.le_refl _)) h0
set_option maxHeartbeats 1000000 in
/-- The maker of the visit. -/
theorem arcsOf_in (n : Nat) (A : Option Addr) (N c : Nat) (w : World) :
    CallsIn Fence.wide n Try.prog 40 #[.agg #[.slice A N c]] w fun e w' => e = .returned (.func (.func 76) #[] #[.pointer (some ⟨w.heap.size, 0, none⟩)]) ∧ w' = w.alloc (.cells #[.slice A N c] 24) := by
  refine callsIn_of_wp Try.func40 rfl trivial ?_ rfl
  simp only [Try.ntmps40, List.size_toArray, List.length_cons, List.length_nil, Nat.reduceAdd, Nat.reduceSub, Array.replicate_succ, Array.replicate_zero, List.push_toArray, List.append_toArray, List.nil_append, List.cons_append]
  gi_wp2
  go_ret
  exact ⟨rfl, rfl⟩
theorem entersArcs1 : ∀ args w, (callFunc 76 args).run Try.prog w = .ok (.enter 76 args) w := enters_of Try.func76 (by kernel_rfl) rfl
end Go.Proofs.Ytnbjhldpadjgfaa
