/- The runs of a list are visited, one by one, whatever the visitor does that keeps the list and what else the visit needs. -/
import Derived.Test.YthldcdcpflamaaaJGRN5
import Derived.Test.YthldcdcpflamaaaJGRN2
import Derived.Deep.RegionHeld3
namespace Go.Proofs.Ythldcdcpflamaaa
set_option linter.unusedVariables false
open Go.RowKit Go.Shelf

attribute [local go_sem] Oper.semAt_some

/-- A run that is told to a visitor. -/
abbrev Rb := { p : Rn // p.1 ≤ 1048576 ∧ p.2 ≤ 300 }
def encRb (x : Rb) : Array Value := #[.agg #[.int .i64 (x.1.1 : Int), .int .i64 (x.1.2 : Int)]]
/-- The block of the row whose slice lies in a box. -/
def OwnB (B : Nat) (W : World) (j : Nat) : Prop := ∃ v, W.cell? ⟨B, 0, none⟩ = some v ∧ v.ownBlock = some j
/-- The blocks that a visitor keeps who has two rows, one of them of whole numbers, their slices in two boxes. -/
def Free (base B1 B2 : Nat) (W : World) (j : Nat) : Prop := j < W.heap.size ∧ (j < base ∨ ((∃ cs t fr, W.heap[j]? = some (.cells cs t fr) ∧ t ≠ 3) ∧ j ≠ B1 ∧ j ≠ B2 ∧ ¬ OwnB B1 W j))
def Good (base B1 B2 : Nat) (W : World) : Prop := base ≤ B1 ∧ base ≤ B2 ∧ B1 < W.heap.size ∧ B2 < W.heap.size ∧ ∀ j, OwnB B1 W j → base ≤ j ∧ j < W.heap.size
def KX (base B1 B2 : Nat) (W W' : World) : Prop := Good base B1 B2 W → Good base B1 B2 W' ∧ W.heap.size ≤ W'.heap.size ∧ ∀ j, Free base B1 B2 W j → W'.heap[j]? = W.heap[j]? ∧ Free base B1 B2 W' j
theorem kx_t {base B1 B2 : Nat} {A B C : World} (h : KX base B1 B2 A B) (k : KX base B1 B2 B C) : KX base B1 B2 A C := fun g => by
  obtain ⟨g1, s1, f1⟩ := h g
  obtain ⟨g2, s2, f2⟩ := k g1
  exact ⟨g2, Nat.le_trans s1 s2, fun j hj => ⟨(f2 j (f1 j hj).2).1.trans (f1 j hj).1, (f2 j (f1 j hj).2).2⟩⟩
theorem ownB_same {B : Nat} {W W' : World} (h : W'.heap[B]? = W.heap[B]?) (j : Nat) : OwnB B W' j ↔ OwnB B W j := by
  unfold OwnB
  rw [World.cell?_of_block (w := W) (a := ⟨B, 0, none⟩) h]
theorem kx_b {base B1 B2 : Nat} {w : World} (hb : base ≤ w.heap.size) (h1 : B1 < w.heap.size) (h2 : B2 < w.heap.size) (W : World) (l : Nat) (o o' : Obj) (hl : w.heap.size ≤ l) (h : W.heap[l]? = some o) (ho : o.isCells = false) (_ : o.isWalk = false) : KX base B1 B2 W (W.putObj l o') := by
  rintro ⟨a1, a2, a3, a4, a5⟩
  have ho' : ∀ k, k ≠ l → (W.putObj l o').heap[k]? = W.heap[k]? := fun k hk => World.putObj_heap_other hk
  have o1 := ownB_same (ho' B1 (by omega))
  have hs : (W.putObj l o').heap.size = W.heap.size := by simp
  refine ⟨⟨a1, a2, by omega, by omega, fun j hj => by rw [o1] at hj; rw [hs]; exact a5 j hj⟩, by omega, fun j hj => ?_⟩
  have hne : j ≠ l := by
    rintro rfl
    rcases hj.2 with h' | ⟨⟨cs, t, fr, h', _⟩, _⟩
    · omega
    · rw [h] at h'; cases h'; cases ho
  refine ⟨ho' j hne, by rw [hs]; exact hj.1, ?_⟩
  rcases hj.2 with h' | ⟨h', b1, b2, b3⟩
  · exact .inl h'
  · exact .inr ⟨by rw [ho' j hne]; exact h', b1, b2, by rw [o1]; exact b3⟩
/-- What only lays new blocks keeps all. -/
theorem kx_below {base B1 B2 : Nat} {W W' : World} (h : Below W.heap.size W W') : KX base B1 B2 W W' := by
  rintro ⟨a1, a2, a3, a4, a5⟩
  have hs := h.size
  have o1 := ownB_same (h.block B1 a3)
  refine ⟨⟨a1, a2, by omega, by omega, fun j hj => by rw [o1] at hj; have := a5 j hj; omega⟩, hs, fun j hj => ?_⟩
  refine ⟨h.block j hj.1, by have := hj.1; omega, ?_⟩
  rcases hj.2 with h' | ⟨h', b1, b2, b3⟩
  · exact .inl h'
  · exact .inr ⟨by rw [h.block j hj.1]; exact h', b1, b2, by rw [o1]; exact b3⟩
/-- A block that is new is kept. -/
theorem free_at {base B1 B2 K : Nat} {W W' : World} (g : Good base B1 B2 W) (h : Below W.heap.size W W') (hK : W.heap.size ≤ K) {cs : Array Value} {t : TypeId} {fr : Nat × Nat} (ht : t ≠ 3) (hc : W'.heap[K]? = some (.cells cs t fr)) : Free base B1 B2 W' K := by
  obtain ⟨a1, a2, a3, a4, a5⟩ := g
  refine ⟨(Array.getElem?_eq_some_iff.1 hc).1, .inr ⟨⟨cs, t, fr, hc, ht⟩, by omega, by omega, ?_⟩⟩
  rw [ownB_same (h.block B1 a3)]; intro q; have := a5 _ q; omega
theorem le_drop (l : List Nat) (h : ∀ x ∈ l, x ≤ 1048576) (s : Nat) : ∀ x ∈ l.drop s, x ≤ 1048576 := fun x hx => h x (List.drop_subset s l hx)
theorem drop_get0 (l : List Nat) (s : Nat) : (l.drop s)[0]?.getD 0 = l[s]?.getD 0 := by rw [List.getElem?_drop, Nat.add_zero]
theorem zc_ns_drop (l : List Nat) (s : Nat) : (zc (ns l)).drop s = zc (ns (l.drop s)) := by simp [zc, ns, List.map_drop]

theorem add_plR (b off k : Nat) : (⟨b, off, none⟩ : Addr).add k = ⟨b, off + k, none⟩ := by unfold Addr.add; split <;> simp_all
theorem rdv_dropT {w : World} {B b off : Nat} {vs : List Value} (h : RdV w B (some ⟨b, off, none⟩) vs) (k : Nat) : RdV w B (some ⟨b, off + k, none⟩) (vs.drop k) := by
  have := h.cut k vs.length
  rw [Option.map_some, add_plR, List.take_of_length_le (by rw [List.length_drop]; omega)] at this
  exact this
theorem below_up (w : World) {o : Obj} {w1 : World} (h : Below (w.alloc o).drew.heap.size (w.alloc o).drew w1) : Below (w.heap.size + 1) (w.alloc o) w1 := by
  have hs : (w.alloc o).drew.heap.size = w.heap.size + 1 := World.size_alloc _ _
  rw [hs] at h
  exact ⟨h.os, h.tape, h.output, h.size, h.block⟩
set_option maxRecDepth 100000 in
set_option maxHeartbeats 2000000 in
theorem runs1_in (n : Nat) (hn : 2 ≤ n) (lp Bl base B1 B2 nl c : Nat) (A : Option Addr) (l : List Nat) (hnl : l.length = nl) (h300 : nl ≤ 300) (hcl : nl ≤ c) (hle : ∀ x ∈ l, x ≤ 1048576) (J Jx : List Rb → World → Prop)
    (W : World) (hg : Good base B1 B2 W) (hf : Free base B1 B2 W Bl) (hJa : AbidesFrom W.heap.size J)
    (hY : ∀ (pre : List Rb) (x : Rb) (W : World), J pre W → pre.length < nl → YieldAt Fence.wide (n - 1) Try.prog lp (encRb x) W fun e W' =>
      (e = .returned (.bool true) ∧ J (pre ++ [x]) W' ∧ KX base B1 B2 W W') ∨ (e = .returned (.bool false) ∧ Jx (pre ++ [x]) W'))
    (hBl : W.heap[Bl]? = some (.cells #[.slice A nl c] 22 (0, 0))) (hRd : RdV W base A (zc (ns l))) (h0 : J [] W) :
    CallsIn Fence.wide n Try.prog 82 #[.func (.yield lp) #[] #[], .pointer (some ⟨Bl, 0, none⟩)] W fun e W' => (∃ v, e = .returned v) ∧
      ((∃ ys : List Rb, ys.map (·.1) = rs l ∧ J ys W') ∨ (∃ pre : List Rb, pre.map (·.1) <+: rs l ∧ Jx pre W')) := by
  have HHJ := Lib.hid hJa; clear hJa
  have HHY := Lib.hid hY; clear hY
  have HLe := Lib.hid hle; clear hle
  have HN := Lib.hid hnl; clear hnl
  have HW := Lib.hid (⟨hg, hf, hBl, hRd⟩ : Good base B1 B2 W ∧ Free base B1 B2 W Bl ∧ W.heap[Bl]? = some (.cells #[.slice A nl c] 22 (0, 0)) ∧ RdV W base A (zc (ns l)))
  clear hg hf hBl hRd
  refine callsIn_of_wp Try.func82 rfl trivial ?_ rfl
  simp only [Try.ntmps82, List.size_toArray, List.length_cons, List.length_nil, Nat.reduceAdd, Nat.reduceSub, Array.replicate_succ, Array.replicate_zero, List.push_toArray, List.append_toArray, List.nil_append, List.cons_append]
  gi_wp2
  gi_loopw [3] (fun p wr => ∃ (s : Nat) (pre : List Rb), s ≤ nl ∧ p = .int .i64 (s : Int) ∧ pre.length ≤ s ∧ pre.map (·.1) ++ rs (l.drop s) = rs l ∧ KX base B1 B2 W wr ∧ J pre wr)
    (fun p _ => nl - (intOf p).toNat)
  case atStart => exact ⟨0, [], Nat.zero_le _, rfl, Nat.le_refl _, by simp, kx_below (Below.refl _ _), h0⟩
  case round =>
    obtain ⟨s, pre, hs, rfl, hps, heq, hkx, hJ⟩ := hrel
    obtain ⟨gr, hsz, hfr⟩ := hkx HW.out.1
    obtain ⟨hbl, hfl⟩ := hfr Bl HW.out.2.1
    have hbox := hbl.trans HW.out.2.2.1
    have cb : wr.cell? ⟨Bl, 0, none⟩ = some (.slice A nl c) := (cell_at hbox 0).trans rfl
    have HK := Lib.hid (⟨gr, hfl, hkx⟩ : Good base B1 B2 wr ∧ Free base B1 B2 wr Bl ∧ KX base B1 B2 W wr)
    have HBx := Lib.hid hbox
    have hbase : base ≤ W.heap.size := by have := HW.out.1.1; have := HW.out.1.2.2.1; omega
    have hRd : RdV wr base A (zc (ns l)) := HW.out.2.2.2.keep (Nat.le_refl _) (fun k hk => (hfr k ⟨by omega, .inl hk⟩).1)
    clear gr hfr hbl hfl hbox hkx
    by_cases hlt : s < nl
    · have hin : s < l.length := by rw [HN.out]; exact hlt
      obtain ⟨b, off, rfl, hb, hcx⟩ := hRd.at_ (ns_get l s hin)
      have hRd2 := rdv_dropT hRd s
      rw [zc_ns_drop] at hRd2
      obtain ⟨e1, e2, e3⟩ := rs_step (l.drop s) (by intro e; have := congrArg List.length e; simp at this; omega)
      have hx := HLe.out _ (at_mem l s hin)
      have HS : Hid (∀ V, Below wr.heap.size wr V → Calls Try.prog 83 #[.slice (some ⟨b, off + s, none⟩) (nl - s) (c - s)] V fun e w' => e = .returned (.int .i64 (m1 (l.drop s) : Int)) ∧ Below V.heap.size V w') := fun V hV =>
        succ_in (l.drop s) (nl - s) (by rw [List.length_drop, HN.out]) (by omega) (by omega) (le_drop l HLe.out s) _ _ V (hRd2.keep (by have := hV.size; have := HK.out.1.1; have := HK.out.1.2.2.1; omega) (fun k hk => hV.block k (by omega)))
      rw [drop_get0] at e1
      rw [List.length_drop, HN.out] at e3
      rw [e1, List.drop_drop] at heq
      generalize m1 (l.drop s) = m at *
      generalize l[s]?.getD 0 = x at *
      have HE := Lib.hid heq
      have HJ := Lib.hid hJ
      clear hJ heq e1 hRd hRd2 hin
      have HBw : Hid (b < wr.heap.size) := by show _ < _; have := HK.out.1.1; have := HK.out.1.2.2.1; omega
      have tcs : (c = s) = False := by simp; omega
      have HKs : Hid (∀ w' : World, Below wr.heap.size wr w' → w'.cell? ⟨Bl, 0, none⟩ = some (.slice (some ⟨b, off, none⟩) nl c) ∧ w'.cell? ⟨b, off + s, none⟩ = some (.int .i64 (x : Int))) :=
        fun w' h => ⟨(h.cell (p := ⟨Bl, 0, none⟩) HK.out.2.1.1).trans cb, (h.cell (p := ⟨b, off + s, none⟩) HBw.out).trans hcx⟩
      gi_wp2_with fail
      refine wpIn_wide.2 ?_
      go_region_held3 (fun w' => w'.cell? ⟨Bl, 0, none⟩ = some (.slice (some ⟨b, off, none⟩) nl c) ∧ w'.cell? ⟨b, off + s, none⟩ = some (.int .i64 (x : Int)))
        ((refine HKs.out _ ?_; first | exact hk1.out | exact (hk1.out.setCell (Nat.le_refl _) _).setCell (Nat.le_refl _) _ | exact hk1.out.trans ((one_below _ _).mono hk1.out.size) | exact (hk1.out.trans ((one_below _ _).mono hk1.out.size)).setCell (by have := hk1.out.size; omega) _ | exact (one_below _ _).drew | exact (Below.refl _ _).drew | exact ((Below.refl _ _).drew).alloc (Nat.le_refl _) _))
        (first
          | (go_at_call 83; refine (HS.out wr.drew (Below.refl _ wr).drew).mono ?_; rintro e w1 ⟨rfl, B1'⟩; have hk1 : Hid (Below wr.heap.size wr w1) := ((Below.refl _ wr).drew).trans B1'; clear B1')
          | (go_at_call 83; refine (HS.out (wr.alloc (.cells #[.int .i64 0, .int .i64 0] 60)).drew (one_below wr _).drew).mono ?_; rintro e w1 ⟨rfl, B1'⟩; have hkA : Hid (Below (wr.heap.size + 1) (wr.alloc (.cells #[.int .i64 0, .int .i64 0] 60)) w1) := (below_up wr B1'); have hk1 : Hid (Below wr.heap.size wr w1) := (one_below wr _).trans (hkA.out.mono (Nat.le_succ _)); have hbA : w1.heap[wr.heap.size]? = some (.cells #[.int .i64 0, .int .i64 0] 60 (0, 0)) := (hkA.out.block _ (Nat.lt_succ_self _)).trans (World.alloc_heap_new wr _); have q0 : w1.cell? ⟨wr.heap.size, 0, none⟩ = some (.int .i64 0) := (cell_at hbA 0).trans rfl; have q1 : w1.cell? ⟨wr.heap.size, 1, none⟩ = some (.int .i64 0) := (cell_at hbA 1).trans rfl; have f0 := frz_at hbA 0; have f1 := frz_at hbA 1; have HbA := Lib.hid hbA; clear B1' hbA))
      · have hb4 : Below wr.heap.size wr (w1.alloc (.cells #[.int .i64 (x : Int), .int .i64 (m : Int)] 60)) := hk1.out.trans ((one_below w1 _).mono hk1.out.size)
        have hn4 := World.alloc_heap_new w1 (.cells #[.int .i64 (x : Int), .int .i64 (m : Int)] 60)
        have HF : Hid (KX base B1 B2 wr (w1.alloc (.cells #[.int .i64 (x : Int), .int .i64 (m : Int)] 60)) ∧ Free base B1 B2 (w1.alloc (.cells #[.int .i64 (x : Int), .int .i64 (m : Int)] 60)) w1.heap.size ∧ J pre (w1.alloc (.cells #[.int .i64 (x : Int), .int .i64 (m : Int)] 60))) :=
          ⟨kx_below hb4, free_at HK.out.1 hb4 hk1.out.size (by decide) hn4, HHJ.out _ wr _ none HJ.out (grown_of_below hb4 none) (fun r e => by cases e)⟩
        have HN4 := Lib.hid hn4
        clear hb4 hn4 hk1 hcx hb cb
        generalize w1.alloc (.cells #[.int .i64 (x : Int), .int .i64 (m : Int)] 60) = w4 at *
        generalize w1.heap.size = K at *
        obtain ⟨fn, tmps, assign, body, hy, hR⟩ := HHY.out pre ⟨(x, m), hx, by show m ≤ 300; omega⟩ w4 HF.out.2.2 (by omega)
        dsimp only [encRb] at hy
        have p0 : w4.cell? ⟨K, 0, none⟩ = some (.int .i64 (x : Int)) := (cell_at HN4.out 0).trans rfl
        have p1 : w4.cell? ⟨K, 1, none⟩ = some (.int .i64 (m : Int)) := (cell_at HN4.out 1).trans rfl
        gi_wp2
        refine ⟨fun _ => by omega, hR.mono ?_⟩
        rintro e W3 (⟨rfl, hJ3, hk3⟩ | ⟨rfl, hJx3⟩)
        · have HJ3 := Lib.hid hJ3
          have HK3 := Lib.hid (kx_t HK.out.2.2 (kx_t HF.out.1 hk3))
          have p3 : W3.cell? ⟨K, 1, none⟩ = some (.int .i64 (m : Int)) := (cell_at (((hk3 (HF.out.1 HK.out.1).1).2.2 K HF.out.2.1).1.trans HN4.out) 1).trans rfl
          clear hJ3 hk3 p0 p1 hy hR
          gi_wp2
          go_roundw
          case rel =>
            refine ⟨s + m, pre ++ [⟨(x, m), hx, by show m ≤ 300; omega⟩], by omega, by go_num, by simp; omega, ?_, HK3.out, HJ3.out⟩
            rw [List.map_append, List.append_assoc]
            exact HE.out
          case measure => simp [intOf]; omega
        · gi_wp2
          refine bodyPost_ret (results_none rfl _ _ _) rfl ?_
          refine ⟨⟨_, rfl⟩, .inr ⟨_, ⟨rs (l.drop (s + m)), ?_⟩, hJx3⟩⟩
          rw [List.map_append, List.append_assoc]
          exact HE.out
      · have hb4 : Below wr.heap.size wr ((w1.setCell ⟨wr.heap.size, 0, none⟩ (.int .i64 (x : Int))).setCell ⟨wr.heap.size, 1, none⟩ (.int .i64 (m : Int))) := (hk1.out.setCell (Nat.le_refl _) _).setCell (Nat.le_refl _) _
        have hn4 : ((w1.setCell ⟨wr.heap.size, 0, none⟩ (.int .i64 (x : Int))).setCell ⟨wr.heap.size, 1, none⟩ (.int .i64 (m : Int))).heap[wr.heap.size]? = some (.cells #[.int .i64 (x : Int), .int .i64 (m : Int)] 60 (0, 0)) := by
          rw [heap_set_same _ _ _ _ _ _ (heap_set_same _ _ _ _ _ _ HbA.out)]
          simp
        have HF : Hid (KX base B1 B2 wr ((w1.setCell ⟨wr.heap.size, 0, none⟩ (.int .i64 (x : Int))).setCell ⟨wr.heap.size, 1, none⟩ (.int .i64 (m : Int))) ∧ Free base B1 B2 ((w1.setCell ⟨wr.heap.size, 0, none⟩ (.int .i64 (x : Int))).setCell ⟨wr.heap.size, 1, none⟩ (.int .i64 (m : Int))) wr.heap.size ∧ J pre ((w1.setCell ⟨wr.heap.size, 0, none⟩ (.int .i64 (x : Int))).setCell ⟨wr.heap.size, 1, none⟩ (.int .i64 (m : Int)))) :=
          ⟨kx_below hb4, free_at HK.out.1 hb4 (Nat.le_refl _) (by decide) hn4, HHJ.out _ wr _ none HJ.out (grown_of_below hb4 none) (fun r e => by cases e)⟩
        have HN4 := Lib.hid hn4
        clear hb4 hn4 hk1 hcx hb cb hkA HbA q0 q1 f0 f1 HKs HBw HS
        generalize (w1.setCell ⟨wr.heap.size, 0, none⟩ (.int .i64 (x : Int))).setCell ⟨wr.heap.size, 1, none⟩ (.int .i64 (m : Int)) = w4 at *
        generalize wr.heap.size = K at *
        obtain ⟨fn, tmps, assign, body, hy, hR⟩ := HHY.out pre ⟨(x, m), hx, by show m ≤ 300; omega⟩ w4 HF.out.2.2 (by omega)
        dsimp only [encRb] at hy
        have p0 : w4.cell? ⟨K, 0, none⟩ = some (.int .i64 (x : Int)) := (cell_at HN4.out 0).trans rfl
        have p1 : w4.cell? ⟨K, 1, none⟩ = some (.int .i64 (m : Int)) := (cell_at HN4.out 1).trans rfl
        gi_wp2
        refine ⟨fun _ => by omega, hR.mono ?_⟩
        rintro e W3 (⟨rfl, hJ3, hk3⟩ | ⟨rfl, hJx3⟩)
        · have HJ3 := Lib.hid hJ3
          have HK3 := Lib.hid (kx_t HK.out.2.2 (kx_t HF.out.1 hk3))
          have p3 : W3.cell? ⟨K, 1, none⟩ = some (.int .i64 (m : Int)) := (cell_at (((hk3 (HF.out.1 HK.out.1).1).2.2 K HF.out.2.1).1.trans HN4.out) 1).trans rfl
          clear hJ3 hk3 p0 p1 hy hR
          gi_wp2
          go_roundw
          case rel =>
            refine ⟨s + m, pre ++ [⟨(x, m), hx, by show m ≤ 300; omega⟩], by omega, by go_num, by simp; omega, ?_, HK3.out, HJ3.out⟩
            rw [List.map_append, List.append_assoc]
            exact HE.out
          case measure => simp [intOf]; omega
        · gi_wp2
          refine bodyPost_ret (results_none rfl _ _ _) rfl ?_
          refine ⟨⟨_, rfl⟩, .inr ⟨_, ⟨rs (l.drop (s + m)), ?_⟩, hJx3⟩⟩
          rw [List.map_append, List.append_assoc]
          exact HE.out
    · have e : rs (l.drop s) = [] := by rw [List.drop_of_length_le (by rw [HN.out]; omega)]; rfl
      rw [e, List.append_nil] at heq
      have HE := Lib.hid heq
      have HJ := Lib.hid hJ
      clear heq hJ e hRd
      obtain rfl : s = nl := by omega
      gi_wp2
      go_end0
      exact ⟨⟨_, rfl⟩, .inl ⟨pre, HE.out, HJ.out⟩⟩

/-- The visit, as a contract. -/
theorem runs_stops (n : Nat) (hn : 2 ≤ n) (Bl base B1 B2 nl c : Nat) (A : Option Addr) (l : List Nat) (hnl : l.length = nl) (h300 : nl ≤ 300) (hcl : nl ≤ c) (hle : ∀ x ∈ l, x ≤ 1048576) (w : World) (hg : Good base B1 B2 w) (hf : Free base B1 B2 w Bl)
    (hBl : w.heap[Bl]? = some (.cells #[.slice A nl c] 22 (0, 0))) (hRd : RdV w base A (zc (ns l))) :
    SeqStopsK Fence.wide n Try.prog 82 #[.pointer (some ⟨Bl, 0, none⟩)] encRb (KX base B1 B2) (fun ys => ys.map (·.1) = rs l) (fun pre => pre.map (·.1) <+: rs l) nl w :=
  fun lp J Jx W hW hJ _ hY h0 => by
    obtain ⟨g1, s1, f1⟩ := kx_below hW hg
    exact runs1_in n hn lp Bl base B1 B2 nl c A l hnl h300 hcl hle J Jx W g1 (f1 Bl hf).2 hJ hY ((f1 Bl hf).1.trans hBl) (hRd.keep (Nat.le_refl _) (fun k hk => hW.block k (by have := hg.1; have := hg.2.2.1; omega))) h0
set_option maxHeartbeats 1000000 in
/-- The maker of the visit. -/
theorem runs_of (n : Nat) (A : Option Addr) (m c : Nat) (w : World) :
    CallsIn Fence.wide n Try.prog 63 #[.slice A m c] w fun e w' => e = .returned (.func (.func 82) #[] #[.pointer (some ⟨w.heap.size, 0, none⟩)]) ∧
      w' = w.alloc (.cells #[.slice A m c] 22) := by
  refine callsIn_of_wp Try.func63 rfl trivial ?_ rfl
  simp only [Try.ntmps63, List.size_toArray, List.length_cons, List.length_nil, Nat.reduceAdd, Nat.reduceSub, Array.replicate_succ, Array.replicate_zero, List.push_toArray, List.append_toArray, List.nil_append, List.cons_append]
  gi_wp2
  go_ret
  exact ⟨rfl, rfl⟩
end Go.Proofs.Ythldcdcpflamaaa
