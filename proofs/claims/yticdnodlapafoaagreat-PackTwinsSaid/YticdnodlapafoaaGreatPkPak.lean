/- A whole graph packed (pack.pack): the bits of all nodes, or nothing where they don't fit; of what is not right its error. -/
import Derived.Test.YticdnodlapafoaaGreatPkAdd
import Derived.Test.YticdnodlapafoaaGreatBlk
namespace Go.Proofs.YticdnodlapafoaaGreat
set_option maxRecDepth 100000
set_option linter.unusedVariables false
open Go.RowKit Go.Shelf

/-- A packer as a value. -/
def pkV (N B ls k : Int) (len : Int) (s v1 v2 : Value) : Value := .agg #[.int .i64 N, .int .i64 B, .int .i64 ls, .int .i64 k, .int .i64 len, s, v1, v2]
def pkZ : Value := pkV 0 0 0 0 0 (.slice none 0 0) (.slice none 0 0) (.slice none 0 0)
/-- What comes back of a right graph. -/
def PakP (w : World) (N B ls k : Nat) (g : List (List Nat)) (e : Ending) (w' : World) : Prop :=
  if (pkB B ls k g N).length ≤ 8192 then
    ∃ A c A1 c1 A2 c2, e = .returned (.tuple #[pkV N B ls k ((pkB B ls k g N).length : Int) (.slice A (pack (pkB B ls k g N)).length c) (.slice A1 N c1) (.slice A2 N c2), .int .i64 0]) ∧ Rd w' w'.heap.size A (pack (pkB B ls k g N)) ∧ RdV w' w'.heap.size A1 (zc (ns (pkA B ls k g N))) ∧ RdV w' w'.heap.size A2 (zc (ns (pkS B ls k g N))) ∧ Below w.heap.size w w'
  else e = .returned (.tuple #[pkZ, .int .i64 8]) ∧ Below w.heap.size w w'
theorem info_pk : (Tryz.prog.info? 103).map (·.size) = some 8 := by kernel_rfl
theorem run_build_pk0 (w : World) : (Instr.build 103 #[]).run Tryz.prog w = .ok pkZ w := by kernel_rfl
set_option maxHeartbeats 20000000 in
theorem pack_ok {g : List (List Nat)} {R : List Rw} (h : GrR g R) (N : Nat) (hN : R.length = N) (B ls k : Nat) (hB : B ≤ 7) (hls : ls = 0 ∨ 2 ≤ ls ∧ ls ≤ 300) (hk : 1 ≤ k) (hk2 : k ≤ 16) (AG : Option Addr) (cG : Nat) (w : World) (hG : RdG w w.heap.size AG R) :
    Calls Tryz.prog 63 #[.agg #[.slice AG N cG], .agg #[.int .i64 (B : Int), .int .i64 (ls : Int), .int .i64 (k : Int)]] w (PakP w N B ls k g) := by
  have hn : N ≤ 100 := by have := h.ok.nodes; have := h.len; omega
  have HGc : Hid (∀ V, Below w.heap.size w V → Calls Tryz.prog 92 #[.agg #[.slice AG N cG]] V fun e w' => e = .returned (.int .i64 0) ∧ Below V.heap.size V w') := fun V hV => by
    have hh := gchk_any R N hN (by omega) AG cG V (hG.on hV)
    rw [h.eq, grE_ok g h.ok] at hh
    exact hh
  have HSc : Hid (∀ V : World, Calls Tryz.prog 20 #[.agg #[.int .i64 (B : Int), .int .i64 (ls : Int), .int .i64 (k : Int)]] V fun e w' => e = .returned (.int .i64 0) ∧ Below V.heap.size V w') := fun V => by
    have hh := scheck_any (B : Int) (ls : Int) (k : Int) V
    rw [hck_ok B ls k hB hls hk hk2] at hh
    exact hh
  have HAdd : Hid (∀ (i : Nat) (w0 V : World) (P : Nat) (c : Nat) (A : Option Addr) (v1 v2 : Value), i < N → Below w.heap.size w w0 → (pkB B ls k g i).length ≤ 8192 → PkS w0 V P N B ls k ((pkB B ls k g i).length : Int) (pack (pkB B ls k g i)).length c (pack (pkB B ls k g i)) (pkA B ls k g i) (pkS B ls k g i) i i A v1 v2 →
      ((pkB B ls k g (i + 1)).length ≤ 8192 ∧ Calls Tryz.prog 93 #[.pointer (some ⟨P, 0, none⟩), .int .i64 (i : Int), .slice AG N cG] V fun e w' => e = .returned (.int .i64 0) ∧ ∃ A' c' v1' v2', PkS w0 w' P N B ls k ((pkB B ls k g (i + 1)).length : Int) (pack (pkB B ls k g (i + 1))).length c' (pack (pkB B ls k g (i + 1))) (pkA B ls k g (i + 1)) (pkS B ls k g (i + 1)) (i + 1) (i + 1) A' v1' v2') ∨
      (¬ (pkB B ls k g N).length ≤ 8192 ∧ Calls Tryz.prog 93 #[.pointer (some ⟨P, 0, none⟩), .int .i64 (i : Int), .slice AG N cG] V fun e w' => e = .returned (.int .i64 8) ∧ Below V.heap.size V w')) := fun i w0 V P c A v1 v2 hi hw0 hfit hS => by
    by_cases hf : (pkB B ls k g (i + 1)).length ≤ 8192
    · refine .inl ⟨hf, ?_⟩
      have hh := add_ok h N hN B ls k hB hls hk hk2 i hi P AG cG w0 V (hG.on hw0) (pkB B ls k g i) _ (pkB B ls k g (i + 1)) rfl rfl hf (pkA B ls k g i) (pkS B ls k g i) i i (by omega) (by omega) c A v1 v2 hS
      rw [← pkA_succ, ← pkS_succ] at hh
      exact hh
    · refine .inr ⟨fun q => hf (Nat.le_trans (pkB_le B ls k g hi) q), ?_⟩
      exact add_full h N hN B ls k hB hls hk hk2 i hi P AG cG w0 V (hG.on hw0) (pkB B ls k g i) _ rfl hfit (by rw [pkB_succ, List.length_append] at hf; omega) (pkA B ls k g i) (pkS B ls k g i) i i c A v1 v2 hS
  obtain ⟨w1, ew1⟩ : ∃ w1, ((w.alloc (.cells #[.slice AG N cG] 52)).alloc (.cells #[.int .i64 (B : Int), .int .i64 (ls : Int), .int .i64 (k : Int)] 24)).alloc (.cells #[.int .i64 0, .int .i64 0, .int .i64 0, .int .i64 0, .int .i64 0, .slice none 0 0, .slice none 0 0, .slice none 0 0] 103) = w1 := ⟨_, rfl⟩
  have s1 : w1.heap.size = w.heap.size + 3 := by rw [← ew1]; simp [World.size_alloc]
  have hb1 : Below w.heap.size w w1 := by
    rw [← ew1]
    exact (one_below w _).trans (((one_below _ _).mono (by rw [World.size_alloc]; omega)).trans ((one_below _ _).mono (by rw [World.size_alloc, World.size_alloc]; omega)))
  have g2 : w1.heap[w.heap.size]? = some (.cells #[.slice AG N cG] 52 (0, 0)) := by
    rw [← ew1, (one_below _ _).block _ (by rw [World.size_alloc, World.size_alloc]; omega), (one_below _ _).block _ (by rw [World.size_alloc]; omega)]; exact World.alloc_heap_new w _
  have g3 : w1.heap[w.heap.size + 1]? = some (.cells #[.int .i64 (B : Int), .int .i64 (ls : Int), .int .i64 (k : Int)] 24 (0, 0)) := by
    rw [← ew1, (one_below _ _).block _ (by rw [World.size_alloc, World.size_alloc]; omega)]
    have := World.alloc_heap_new (w.alloc (.cells #[.slice AG N cG] 52)) (.cells #[.int .i64 (B : Int), .int .i64 (ls : Int), .int .i64 (k : Int)] 24)
    rwa [World.size_alloc] at this
  have g4 : w1.heap[w.heap.size + 1 + 1]? = some (.cells #[.int .i64 0, .int .i64 0, .int .i64 0, .int .i64 0, .int .i64 0, .slice none 0 0, .slice none 0 0, .slice none 0 0] 103 (0, 0)) := by
    rw [← ew1]
    have := World.alloc_heap_new ((w.alloc (.cells #[.slice AG N cG] 52)).alloc (.cells #[.int .i64 (B : Int), .int .i64 (ls : Int), .int .i64 (k : Int)] 24)) (.cells #[.int .i64 0, .int .i64 0, .int .i64 0, .int .i64 0, .int .i64 0, .slice none 0 0, .slice none 0 0, .slice none 0 0] 103)
    rwa [World.size_alloc, World.size_alloc] at this
  have HK : Hid (∀ V, Below w1.heap.size w1 V → V.cell? ⟨w.heap.size, 0, none⟩ = some (.slice AG N cG) ∧ (V.cell? ⟨w.heap.size + 1, 0, none⟩ = some (.int .i64 (B : Int)) ∧ V.cell? ⟨w.heap.size + 1, 1, none⟩ = some (.int .i64 (ls : Int)) ∧ V.cell? ⟨w.heap.size + 1, 2, none⟩ = some (.int .i64 (k : Int)))) := fun V hV => by
    have q2 := (hV.block _ (by omega)).trans g2
    have q3 := (hV.block _ (by omega)).trans g3
    exact ⟨(cell_at q2 0).trans rfl, (cell_at q3 0).trans rfl, (cell_at q3 1).trans rfl, (cell_at q3 2).trans rfl⟩
  have HR : Hid (∀ V, Below w1.heap.size w1 V → V.heap[w.heap.size + 1 + 1]? = some (.cells #[.int .i64 0, .int .i64 0, .int .i64 0, .int .i64 0, .int .i64 0, .slice none 0 0, .slice none 0 0, .slice none 0 0] 103 (0, 0))) := fun V hV => (hV.block _ (by omega)).trans g4
  have HN := Lib.hid hn
  have HB1 := Lib.hid hb1
  have HS1 := Lib.hid s1
  obtain ⟨k0, k1, k2, k3⟩ := HK.out w1 (Below.refl _ _)
  clear hn h hN hB hls hk hk2 hG g2 g3 g4 hb1 s1
  go_enter Tryz.func63, Tryz.ntmps63
  go_wp2_with fail
  refine (HGc.out w1 HB1.out).mono ?_
  rintro e w2 ⟨rfl, q2⟩
  have HB2 := Lib.hid q2
  clear q2 ew1 k0 k1 k2 k3
  obtain ⟨k0, k1, k2, k3⟩ := HK.out w2 HB2.out
  go_wp2_with fail
  refine (HSc.out w2).mono ?_
  rintro e w3 ⟨rfl, q3⟩
  have HB3 : Hid (Below w1.heap.size w1 w3) := HB2.out.trans (q3.mono HB2.out.size)
  clear q3 k0 k1 k2 k3
  obtain ⟨k0, k1, k2, k3⟩ := HK.out w3 HB3.out
  obtain ⟨P, hP⟩ : ∃ P, w3.heap.size = P := ⟨_, rfl⟩
  go_wp2
  have HP : Hid (w3.heap.size = P) := hP
  have hS0 : PkS w3 (w3.alloc (.cells #[.int .i64 (N : Int), .int .i64 (B : Int), .int .i64 (ls : Int), .int .i64 (k : Int), .int .i64 0, .slice none 0 0, .slice none 0 0, .slice none 0 0] 103)) P N B ls k ((pkB B ls k g 0).length : Int) (pack (pkB B ls k g 0)).length 0 (pack (pkB B ls k g 0)) (pkA B ls k g 0) (pkS B ls k g 0) 0 0 none (.slice none 0 0) (.slice none 0 0) := by
    rw [show pkB B ls k g 0 = [] from rfl, pack_nil]
    refine ⟨one_below w3 _, Nat.le_of_eq hP, ?_, .inl rfl, ⟨rfl, .inl ⟨rfl, rfl⟩⟩, ⟨rfl, .inl ⟨rfl, rfl⟩⟩, fun h0 => absurd rfl h0, fun g hg => by simp [Value.ownBlock] at hg⟩
    rw [← hP]
    exact World.alloc_heap_new w3 _
  have HS0 := Lib.hid hS0
  clear hS0 k0 k1 k2 k3 hP
  go_loopw [32] (fun p wr => ∃ (i c : Nat) (A : Option Addr) (v1 v2 : Value), i ≤ N ∧ p = .int .i64 (i : Int) ∧ (pkB B ls k g i).length ≤ 8192 ∧ PkS w3 wr P N B ls k ((pkB B ls k g i).length : Int) (pack (pkB B ls k g i)).length c (pack (pkB B ls k g i)) (pkA B ls k g i) (pkS B ls k g i) i i A v1 v2) (fun p _ => N - (intOf p).toNat)
  case atStart => exact ⟨0, 0, none, _, _, Nat.zero_le _, rfl, Nat.zero_le _, HS0.out⟩
  case round =>
   as_aux_lemma =>
    clear HS0
    obtain ⟨i, c, A, v1, v2, hi, rfl, hfit, hS⟩ := hrel
    have hlow1 : Below w1.heap.size w1 wr := HB3.out.trans (hS.low.mono HB3.out.size)
    obtain ⟨k0, k1, k2, k3⟩ := HK.out wr hlow1
    have HSr := Lib.hid hS
    have HLw := Lib.hid hlow1
    by_cases hlt : i < N
    · have t2 : decide (i < N) = true := by simp; omega
      have t5 : wrap64 ((i : Int) + 1) = (i : Int) + 1 := by have := HN.out; unfold wrap64; omega
      rcases HAdd.out i w3 wr P c A v1 v2 hlt (HB1.out.trans (HB3.out.mono HB1.out.size)) hfit hS with ⟨hf, hc⟩ | ⟨hnf, hc⟩
      · have HC := Lib.hid hc
        clear hc hS hlow1
        go_wp2_with fail
        refine HC.out.mono ?_
        rintro e wq ⟨rfl, A', c', v1', v2', hS'⟩
        have HS' := Lib.hid hS'
        clear hS' HC
        go_wp2
        go_roundw
        case rel => exact ⟨i + 1, c', A', v1', v2', hlt, by rw [t5]; exact congrArg _ (by omega), hf, HS'.out⟩
        case measure => rw [t5]; simp [intOf]; omega
      · have HC := Lib.hid hc
        clear hc hS hlow1
        go_wp2_with fail
        refine HC.out.mono ?_
        rintro e wq ⟨rfl, q5⟩
        have HB5 : Hid (Below w1.heap.size w1 wq) := HLw.out.trans (q5.mono HLw.out.size)
        have hr := HR.out wq HB5.out
        have hth := there_all hr (n := 8) rfl
        obtain ⟨h8, -, -, hB8⟩ := stored_all [.int .i64 0, .int .i64 0, .int .i64 0, .int .i64 0, .int .i64 0, .slice none 0 0, .slice none 0 0, .slice none 0 0] hr rfl
        have HB8 := Lib.hid hB8
        clear q5 HC k0 k1 k2 k3 hr hB8
        go_wp2_with (first | (refine wpList_build rfl _ _ rfl #[] (by kernel_rfl) _ (run_build_pk0 _) ?_) | (refine wpList_store_mid rfl 103 _ _ rfl (w.heap.size + 1 + 1) 0 #[.int .i64 0, .int .i64 0, .int .i64 0, .int .i64 0, .int .i64 0, .slice none 0 0, .slice none 0 0, .slice none 0 0] rfl rfl hth info_pk (by simp [Value.oneCell']) ?_))
        obtain ⟨Wf, hWf⟩ : ∃ Wf, wq.setCells (w.heap.size + 1 + 1) 0 [.int .i64 0, .int .i64 0, .int .i64 0, .int .i64 0, .int .i64 0, .slice none 0 0, .slice none 0 0, .slice none 0 0] = Wf := ⟨_, rfl⟩
        show bodyPost _ _ _ _ _ (wq.setCells (w.heap.size + 1 + 1) 0 [.int .i64 0, .int .i64 0, .int .i64 0, .int .i64 0, .int .i64 0, .slice none 0 0, .slice none 0 0, .slice none 0 0])
        rw [hWf] at h8 HB8 ⊢
        clear hWf
        have c0 := (cell_at h8 0).trans rfl; have c1 := (cell_at h8 1).trans rfl; have c2 := (cell_at h8 2).trans rfl; have c3 := (cell_at h8 3).trans rfl
        have c4 := (cell_at h8 4).trans rfl; have c5 := (cell_at h8 5).trans rfl; have c6 := (cell_at h8 6).trans rfl; have c7 := (cell_at h8 7).trans rfl
        simp only [List.getElem?_toArray, List.getElem?_cons_zero, List.getElem?_cons_succ] at c0 c1 c2 c3 c4 c5 c6 c7
        refine bodyPost_ret (v := .tuple #[pkZ, .int .i64 8]) (by simp [results, Tryz.results63, go_sem, pkZ, pkV, c0, c1, c2, c3, c4, c5, c6, c7]) rfl ?_
        unfold PakP
        rw [if_neg hnf]
        exact ⟨rfl, (HB1.out.trans (HB5.out.mono HB1.out.size)).trans (HB8.out _ (by omega))⟩
    · obtain rfl : i = N := by omega
      have t2 : decide (i < i) = false := by simp
      have hr := HR.out wr hlow1
      obtain ⟨A1, c1, rfl⟩ := own_sliceK hS.own1
      obtain ⟨A2, c2, rfl⟩ := own_sliceK hS.own2
      have hrow := HSr.out.row
      have hth := there_all hr (n := 8) rfl
      have hrg := range_all hrow
      obtain ⟨h8, hk8, hs8, hB8⟩ := stored_all [.int .i64 (i : Int), .int .i64 (B : Int), .int .i64 (ls : Int), .int .i64 (k : Int), .int .i64 ((pkB B ls k g i).length : Int), .slice A (pack (pkB B ls k g i)).length c, .slice A1 i c1, .slice A2 i c2] hr rfl
      have HK8 := Lib.hid hk8; have HS8 := Lib.hid hs8; have HB8 := Lib.hid hB8
      clear hS hlow1 k0 k1 k2 k3 hr hrow hk8 hs8 hB8
      go_wp2_with (first | (refine wpList_load_mid rfl 103 _ rfl P 0 rfl [.int .i64 (i : Int), .int .i64 (B : Int), .int .i64 (ls : Int), .int .i64 (k : Int), .int .i64 ((pkB B ls k g i).length : Int), .slice A (pack (pkB B ls k g i)).length c, .slice A1 i c1, .slice A2 i c2] _ hrg Tryz.underlying103 rfl info_pk ?_) | (refine wpList_store_mid rfl 103 _ _ rfl (w.heap.size + 1 + 1) 0 #[.int .i64 (i : Int), .int .i64 (B : Int), .int .i64 (ls : Int), .int .i64 (k : Int), .int .i64 ((pkB B ls k g i).length : Int), .slice A (pack (pkB B ls k g i)).length c, .slice A1 i c1, .slice A2 i c2] rfl rfl hth info_pk (by simp [Value.oneCell']) ?_))
      obtain ⟨Wf, hWf⟩ : ∃ Wf, wr.setCells (w.heap.size + 1 + 1) 0 [.int .i64 (i : Int), .int .i64 (B : Int), .int .i64 (ls : Int), .int .i64 (k : Int), .int .i64 ((pkB B ls k g i).length : Int), .slice A (pack (pkB B ls k g i)).length c, .slice A1 i c1, .slice A2 i c2] = Wf := ⟨_, rfl⟩
      show bodyPost _ _ _ _ _ (wr.setCells (w.heap.size + 1 + 1) 0 [.int .i64 (i : Int), .int .i64 (B : Int), .int .i64 (ls : Int), .int .i64 (k : Int), .int .i64 ((pkB B ls k g i).length : Int), .slice A (pack (pkB B ls k g i)).length c, .slice A1 i c1, .slice A2 i c2])
      rw [hWf] at h8 HB8 HK8 HS8 ⊢
      clear hWf
      have d0 := (cell_at h8 0).trans rfl; have d1 := (cell_at h8 1).trans rfl; have d2 := (cell_at h8 2).trans rfl; have d3 := (cell_at h8 3).trans rfl
      have d4 := (cell_at h8 4).trans rfl; have d5 := (cell_at h8 5).trans rfl; have d6 := (cell_at h8 6).trans rfl; have d7 := (cell_at h8 7).trans rfl
      simp only [List.getElem?_toArray, List.getElem?_cons_zero, List.getElem?_cons_succ] at d0 d1 d2 d3 d4 d5 d6 d7
      refine bodyPost_ret (v := .tuple #[pkV i B ls k ((pkB B ls k g i).length : Int) (.slice A (pack (pkB B ls k g i)).length c) (.slice A1 i c1) (.slice A2 i c2), .int .i64 0]) (by simp [results, Tryz.results63, go_sem, pkV, d0, d1, d2, d3, d4, d5, d6, d7]) rfl ?_
      have hb4 : w.heap.size + 1 + 1 < P := by have := HB3.out.size; have := HS1.out; have := HP.out; omega
      unfold PakP
      rw [if_pos hfit]
      refine ⟨A, c, A1, c1, A2, c2, rfl, ?_, ?_, ?_, (HB1.out.trans (HLw.out.mono HB1.out.size)).trans (HB8.out _ (by omega))⟩
      · exact rd_apt (P := w.heap.size + 1 + 1) (u := .slice none 0 0) HSr.out.rd (fun h0 b off e => ⟨by have := (HSr.out.ap h0 b off e).1; omega, by simp [Value.ownBlock]⟩) (fun b _ _ hb => HK8.out b hb) (Nat.le_of_eq HS8.out.symm)
      · exact own_rdvT (own_kept HSr.out.own1 fun gg hg => HK8.out gg (by have := (own_lt HSr.out.own1 hg).1; omega))
      · exact own_rdvT (own_kept HSr.out.own2 fun gg hg => HK8.out gg (by have := (own_lt HSr.out.own2 hg).1; omega))
end Go.Proofs.YticdnodlapafoaaGreat
