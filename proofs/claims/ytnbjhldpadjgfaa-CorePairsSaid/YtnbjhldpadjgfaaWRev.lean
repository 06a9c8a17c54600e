/- The reverse of each arc of a visit is visited. -/
import Derived.Test.YtnbjhldpadjgfaaWArc
import Derived.Test.YtnbjhldpadjgfaaWCol
import Derived.Test.YtnbjhldpadjgfaaWSeq
import Derived.Stop.RegionWithIn
namespace Go.Proofs.Ytnbjhldpadjgfaa
set_option linter.unusedVariables false
open Go.RowKit Go.Shelf

attribute [local go_sem] Oper.semAt_some

theorem yield_any {m : Nat} (m' : Nat) {P : Program} {l : Nat} {args : Array Value} {W : World} {R : Ending → World → Prop} (h : YieldAt Fence.wide m P l args W R) : YieldAt Fence.wide m' P l args W R := by
  obtain ⟨fn, tmps, assign, body, hy, h1, h2⟩ := h
  exact ⟨fn, tmps, assign, body, hy, h1, fun c cs _ => h2 c cs (fun d e => by cases e)⟩
theorem round_in {m : Nat} (l0 m' : Nat) {P : Program} {l : Nat} {f : FuncId} {tmps : Array Value} {assign body : Code} {w : World} {R : Ending → World → Prop} (h : RoundIn Fence.wide m P l f tmps assign body w R) : RoundIn (Fence.wide.inRound l0) m' P l f tmps assign body w R :=
  ⟨h.1, fun c cs _ => h.2 c cs (fun d e => by cases e)⟩
set_option maxHeartbeats 400000 in
theorem reverse_any (a b : Int) (w : World) : Calls Try.prog 67 #[.agg #[.int .i64 a, .int .i64 b]] w fun e w' => e = .returned (.agg #[.int .i64 b, .int .i64 a]) ∧ Below w.heap.size w w' := by
  have HB : Hid (∀ o1 o2 : Obj, Below w.heap.size w ((w.alloc o1).alloc o2)) := fun o1 o2 => (one_below w _).trans ((one_below _ _).mono (by simp))
  go_enter Try.func67, Try.ntmps67
  go_wp2
  refine bodyPost_ret (v := .agg #[.int .i64 b, .int .i64 a]) (by simp [results, Try.results67, go_sem]) rfl ?_
  exact ⟨rfl, HB.out _ _⟩
theorem below_keeps {W W' : World} (h : Below W.heap.size W W') : KeepsOthers W W' := ⟨h.size, fun k o hk _ => (h.block k (Array.getElem?_eq_some_iff.1 hk).1).trans hk⟩

/-- The arcs that are told when some have come. -/
def rvs (L : List Ar) (pre : List Ar) : List Ar := (pre.map (clp L)).map rev
theorem rvs_snoc (L pre : List Ar) (x : Ar) : rvs L (pre ++ [x]) = rvs L pre ++ [rev (clp L x)] := by simp [rvs]
theorem rvs_length (L pre : List Ar) : (rvs L pre).length = pre.length := by simp [rvs]
theorem rvs_all (L : List Ar) : rvs L L = L.map rev := by unfold rvs; rw [clp_map (fun x hx => hx)]
set_option maxRecDepth 100000 in
set_option maxHeartbeats 2000000 in
theorem rev1_in (lp Bs n₀ : Nat) (gf : Nat) (lb : Array Value) (L : List Ar) (Sp : List Ar → Prop) (eg : ∀ args w, (callFunc gf args).run Try.prog w = .ok (.enter gf args) w) (J Jx : List Ar → World → Prop) (W : World) (hJ : OwnFrom W.heap.size J) (hJx : OwnFrom W.heap.size Jx)
    (hseq : ∀ V, Below W.heap.size W V → SeqStopsK Fence.wide 3 Try.prog gf lb (encC L) (Below n₀) (fun ys => ys = L) Sp L.length V)
    (hY : ∀ pre x V, J pre V → pre.length < L.length → YieldAt Fence.wide 3 Try.prog lp (encC (L.map rev) x) V fun e V' => KeepT 3 W.heap.size V V' ∧
      ((e = .returned (.bool true) ∧ J (pre ++ [x]) V' ∧ Below n₀ V V') ∨ (e = .returned (.bool false) ∧ Jx (pre ++ [x]) V')))
    (hn0 : n₀ ≤ W.heap.size) (hBs : W.cell? ⟨Bs, 0, none⟩ = some (.func (.func gf) #[] lb)) (hBsl : Bs < W.heap.size) (h0 : J [] W) :
    CallsIn Fence.wide 4 Try.prog 83 #[.func (.yield lp) #[] #[], .pointer (some ⟨Bs, 0, none⟩)] W fun e V => (∃ v, e = .returned v) ∧
      ((∃ ys, ys = L.map rev ∧ J ys V) ∨ (∃ pre, True ∧ Jx pre V)) := by
  have HY := Lib.hid hY; clear hY
  have HSq := Lib.hid hseq; clear hseq
  refine callsIn_of_wp_marks Try.func83 rfl trivial ?_ rfl
  simp only [Try.ntmps83, List.size_toArray, List.length_cons, List.length_nil, Nat.reduceAdd, Nat.reduceSub, Array.replicate_succ, Array.replicate_zero, List.push_toArray, List.append_toArray, List.nil_append, List.cons_append]
  have ks : (W.alloc (.cells #[.func (.yield lp) #[] #[]] 108)).cell? ⟨Bs, 0, none⟩ = some (.func (.func gf) #[] lb) := ((one_below W _).cell (p := ⟨Bs, 0, none⟩) hBsl).trans hBs
  gi_wp2
  have hnew := Boxed.new W 108 (.func (.yield lp) #[] #[])
  have hB1 := one_below W (.cells #[.func (.yield lp) #[] #[]] 108)
  have hs1 : (W.alloc (.cells #[.func (.yield lp) #[] #[]] 108)).heap.size = W.heap.size + 1 := World.size_alloc _ _
  have hJ1 : J [] (W.alloc (.cells #[.func (.yield lp) #[] #[]] 108)) := hJ.alloc _ h0
  obtain ⟨w1, hw1⟩ : ∃ w1, w1 = W.alloc (.cells #[.func (.yield lp) #[] #[]] 108) := ⟨_, rfl⟩
  rw [← hw1] at hnew hB1 hs1 hJ1 ⊢
  clear hw1 ks
  refine wpIn_rangeFunc_ownH rfl (by decide) (gf := gf) (lb := lb) rfl trivial eg
    (HSq.out w1 hB1) belowK_t (belowK_b (by omega)) (Below.refl _ _) (fun _ => rfl)
    (fun (pre : List Ar) X => J (rvs L pre) X ∧ Boxed X W.heap.size 108 (.func (.yield lp) #[] #[]) ∧ n₀ ≤ X.heap.size)
    (fun c _ X => c = .ret ∧ ∃ pre, Jx pre X)
    (OwnFrom.and (fun s X Y row hs hg hr => hJ (rvs L s) X Y row hs hg (fun r e => ⟨by have := (hr r e).1; omega, (hr r e).2⟩)) (OwnFrom.and (Own.from (boxed_own W.heap.size 108 (fun (_ : List Ar) => .func (.yield lp) #[] #[])) _) (fun s X Y row hs hg hr => Nat.le_trans hs hg.size)))
    (fun c s X Y row hs hg hr => ⟨hs.1, by obtain ⟨p, hp⟩ := hs.2; exact ⟨p, hJx p X Y row hp hg (fun r e => ⟨by have := (hr r e).1; omega, (hr r e).2⟩)⟩⟩)
    ⟨hJ1, hnew, by omega⟩
    (fun x a' X => ∃ Bx, ArcAt X Bx (clp L x) ∧ a' = { tmps := #[.func (.yield lp) #[] #[], .pointer (some ⟨Bs, 0, none⟩), .pointer (some ⟨W.heap.size, 0, none⟩), .pointer (some ⟨Bx, 0, none⟩), .func (.func gf) #[] lb, .agg #[.int .i64 ((clp L x).1 : Int), .int .i64 ((clp L x).2 : Int)], undef, undef, undef, undef, undef], defers := [] })
    ?a1 ?assign ?body ?done ?stop
  case a1 => exact fun x a' s X Y row ⟨Bx, h2, h3⟩ hg hr => ⟨Bx, (Own.from (arcAt_own Bx (clp L x)) _) () X Y row h2 hg hr, h3⟩
  case assign =>
    rintro l pre x X K hI hK
    rw [encC_eq]
    obtain ⟨a, ha⟩ : ∃ a, clp L x = a := ⟨_, rfl⟩
    rw [ha] at hK ⊢
    have HI := Lib.hid hI
    have HK := Lib.hid hK
    clear hI hK ha
    gi_wp2
    refine HK.out _ _ ((KeepsOthers.alloc _ _).from _) ((Below.refl _ X).alloc HI.out.2.2 _) ⟨?_, HI.out.2.1.alloc _, by have := HI.out.2.2; simp; omega⟩ ⟨X.heap.size, World.alloc_heap_new X _, rfl⟩
    exact hJ _ X _ none HI.out.1 (World.grownBy_alloc X _ none) (fun r e => by cases e)
  case body =>
    rintro l pre x a' X hlp hr ⟨hJp, hbx, hsz⟩ ⟨Bx, hA, rfl⟩ hlt
    obtain ⟨k0, k1⟩ := hA.cells
    have ky := hbx.cell
    have HSn := Lib.hid (rvs_snoc L pre x)
    have hin : rev (clp L x) ∈ L.map rev := (rev_mem L _).2 (by rw [rev_rev]; exact clp_in (by omega) x)
    have HY1 : Hid (∀ V, Below X.heap.size X V → YieldAt Fence.wide 0 Try.prog lp #[.agg #[.int .i64 ((clp L x).2 : Int), .int .i64 ((clp L x).1 : Int)]] V fun e V' => ∃ b, e = .returned (.bool b) ∧ KeepT 3 W.heap.size V V' ∧ ((b = true ∧ J (rvs L (pre ++ [x])) V' ∧ Below n₀ V V') ∨ (b = false ∧ Jx (rvs L pre ++ [rev (clp L x)]) V'))) := fun V hV => by
      have h := HY.out (rvs L pre) (rev (clp L x)) V (hJ _ X V none hJp (grown_of_below hV none) (fun r e => by cases e)) (by rw [rvs_length]; exact hlt)
      unfold encC at h
      rw [clp_mem hin] at h
      refine (yield_any 0 h).mono ?_
      rintro e V' ⟨hk, (⟨rfl, q1, q2⟩ | ⟨rfl, q1⟩)⟩
      · exact ⟨true, rfl, hk, .inl ⟨rfl, by rw [HSn.out]; exact q1, q2⟩⟩
      · exact ⟨false, rfl, hk, .inr ⟨rfl, q1⟩⟩
    have HBx := Lib.hid (⟨hbx, hsz⟩ : _ ∧ _)
    clear hr hJp hbx hin hA hlt
    generalize clp L x = a at *
    gi_wp2_with fail
    gi_region_with (first
      | (refine ⟨trivial, ?_⟩; gi_at_call 67; refine (CallsIn.inRound _ (callsIn_wide.2 (reverse_any _ _ _))).mono ?_; rintro e w2 ⟨rfl, b2⟩; have HB2 : Hid (Below X.heap.size X w2) := ((Below.refl _ X).drew).trans b2; obtain ⟨fn, tmps, assign, body, hy, hR⟩ := HY1.out w2 HB2.out; have ky2 : w2.cell? ⟨W.heap.size, 0, none⟩ = some (.func (.yield lp) #[] #[]) := (World.cell?_of_block (w := X) (a := ⟨W.heap.size, 0, none⟩) (HB2.out.block _ HBx.out.1.lt)).trans ky; clear b2)
      | (refine (round_in _ _ hR).mono ?_; rintro e w3 ⟨b, rfl, hq⟩; have HQ := Lib.hid hq; clear hq))
    all_goals (
      obtain ⟨kt, h2⟩ := HQ.out
      have hbx2 : w2.heap[W.heap.size]? = some (.cells #[.func (.yield lp) #[] #[]] 108 (0, 0)) := (HB2.out.block _ HBx.out.1.lt).trans HBx.out.1
      have HKF : Hid (KeepsFrom w1.heap.size X w3) := ((below_keeps HB2.out).from _).trans (kt.mono (by omega)).from
      have HBX : Hid (Boxed w3 W.heap.size 108 (.func (.yield lp) #[] #[])) := kt.2 _ _ (Nat.le_refl _) hbx2 (fun cs fr e => by simp at e)
      have HSZ : Hid (n₀ ≤ w3.heap.size) := Nat.le_trans HBx.out.2 (Nat.le_trans HB2.out.size kt.1)
      clear hbx2 kt
      rcases h2 with ⟨rfl, q1, q2⟩ | ⟨rfl, q1⟩
      · have HE : Hid (J (rvs L (pre ++ [x])) w3 ∧ Below n₀ X w3) := ⟨q1, (HB2.out.mono HBx.out.2).trans q2⟩
        clear q1 q2
        gi_wp2
        exact ⟨by rw [← hs1]; exact HKF.out, HE.out.2, HE.out.1, HBX.out, HSZ.out⟩
      · have HE := Lib.hid q1
        clear q1
        gi_wp2
        exact ⟨by rw [← hs1]; exact HKF.out, rfl, _, HE.out⟩)
  case done =>
    rintro D ys X hD rfl ⟨hJp, hbx, hsz⟩ hK
    have HE : Hid (J (ys.map rev) (X.putObj D (.deferred none))) := hJ _ X _ (some D) (by rw [← rvs_all]; exact hJp) (grownBy_putObj' X D _) (fun r e => by cases e; exact ⟨by omega, _, hK, rfl⟩)
    clear hJp hbx
    gi_wp2
    refine ⟨by simp, .inl ⟨_, _, rfl, run_takeDeferred hK, ?_⟩⟩
    exact ⟨_, results_none rfl _ _ _, ⟨_, rfl⟩, .inl ⟨_, rfl, HE.out⟩⟩
  case stop =>
    rintro D c pre X hD hpre ⟨rfl, p, hp⟩ hK
    have HE : Hid (Jx p (X.putObj D (.deferred none))) := hJx _ X _ (some D) hp (grownBy_putObj' X D _) (fun r e => by cases e; exact ⟨by omega, _, hK, rfl⟩)
    clear hp
    gi_wp2
    refine ⟨by simp, .inl ⟨_, _, rfl, run_takeDeferred hK, ?_⟩⟩
    exact ⟨_, results_none rfl _ _ _, ⟨_, rfl⟩, .inr ⟨_, trivial, HE.out⟩⟩
/-- The visit, as a contract. -/
theorem rev_stops (Bs n₀ : Nat) (gf : Nat) (lb : Array Value) (L : List Ar) (Sp : List Ar → Prop) (eg : ∀ args w, (callFunc gf args).run Try.prog w = .ok (.enter gf args) w) (w : World) (hn0 : n₀ ≤ w.heap.size) (hBs : w.heap[Bs]? = some (.cells #[.func (.func gf) #[] lb] 64 (0, 0)))
    (hseq : ∀ V, Below w.heap.size w V → SeqStopsK Fence.wide 3 Try.prog gf lb (encC L) (Below n₀) (fun ys => ys = L) Sp L.length V) :
    SeqStrong 3 Fence.wide 4 Try.prog 83 #[.pointer (some ⟨Bs, 0, none⟩)] (encC (L.map rev)) (Below n₀) (fun ys => ys = L.map rev) (fun _ => True) (L.map rev).length w := fun lp J Jx W hW hJ hJx hY h0 =>
  have hlt : Bs < w.heap.size := (Array.getElem?_eq_some_iff.1 hBs).1
  rev1_in lp Bs n₀ gf lb L Sp eg J Jx W hJ hJx (fun V hV => hseq V (hW.trans (hV.mono hW.size))) (by rw [List.length_map] at hY; exact hY) (Nat.le_trans hn0 hW.size) ((cell_at ((hW.block Bs hlt).trans hBs) 0).trans rfl) (Nat.lt_of_lt_of_le hlt hW.size) h0
set_option maxHeartbeats 1000000 in
/-- The maker of the visit. -/
theorem reversed_in (gf : Nat) (lb : Array Value) (w : World) :
    Calls Try.prog 46 #[.func (.func gf) #[] lb] w fun e w' => e = .returned (.func (.func 83) #[] #[.pointer (some ⟨w.heap.size, 0, none⟩)]) ∧ w' = w.alloc (.cells #[.func (.func gf) #[] lb] 64) := by
  go_enter Try.func46, Try.ntmps46
  go_wp2
  go_ret
  exact ⟨rfl, rfl⟩
theorem entersRev1 : ∀ args w, (callFunc 83 args).run Try.prog w = .ok (.enter 83 args) w := enters_of Try.func83 (by kernel_rfl) rfl
end Go.Proofs.Ytnbjhldpadjgfaa
