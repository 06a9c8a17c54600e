/- Texts of this proof, one behind the other; each fact names its conditions. -/
import Derived.Test.YtbddcokjkdoaaaaGreatSN21
import Derived.Test.YtbddcokjkdoaaaaGreatSN22
import Derived.Test.YtbddcokjkdoaaaaGreatSN19
import Derived.BigQuiet
import Derived.Deep.QuietTactic
import Derived.Test.YtbddcokjkdoaaaaGreatSN9
namespace Go.Proofs.YtbddcokjkdoaaaaGreat
section
set_option maxRecDepth 100000
set_option linter.unusedVariables false
open Go.RowKit Go.Shelf
def pkV (N B ls k : Int) (len : Int) (s v1 v2 : Value) : Value := .agg #[.int .i64 N, .int .i64 B, .int .i64 ls, .int .i64 k, .int .i64 len, s, v1, v2]
def pkZ : Value := pkV 0 0 0 0 0 (.slice none 0 0) (.slice none 0 0) (.slice none 0 0)
def PakP (w : World) (N B ls k : Nat) (g : List (List Nat)) (e : Ending) (w' : World) : Prop :=
  if (pkB B ls k g N).length ≤ 8192 then
    ∃ A c A1 c1 A2 c2, e = .returned (.tuple #[pkV N B ls k ((pkB B ls k g N).length : Int) (.slice A (pack (pkB B ls k g N)).length c) (.slice A1 N c1) (.slice A2 N c2), .int .i64 0]) ∧ Rd w' w'.heap.size A (pack (pkB B ls k g N)) ∧ RdV w' w'.heap.size A1 (zc (ns (pkA B ls k g N))) ∧ RdV w' w'.heap.size A2 (zc (ns (pkS B ls k g N))) ∧ Below w.heap.size w w'
  else e = .returned (.tuple #[pkZ, .int .i64 8]) ∧ Below w.heap.size w w'
theorem info_pk : (Tryz.prog.info? 110).map (·.size) = some 8 := by kernel_rfl
theorem run_build_pk0 (w : World) : (Instr.build 110 #[]).run Tryz.prog w = .ok pkZ w := by kernel_rfl
set_option maxHeartbeats 20000000 in
theorem pack_ok {g : List (List Nat)} {R : List Rw} (h : GrR g R) (N : Nat) (hN : R.length = N) (B ls k : Nat) (hB : B ≤ 7) (hls : ls = 0 ∨ 2 ≤ ls ∧ ls ≤ 300) (hk : 1 ≤ k) (hk2 : k ≤ 16) (AG : Option Addr) (cG : Nat) (w : World) (hG : RdG w w.heap.size AG R) :
    Calls Tryz.prog 69 #[.agg #[.slice AG N cG], .agg #[.int .i64 (B : Int), .int .i64 (ls : Int), .int .i64 (k : Int)]] w (PakP w N B ls k g) := by
  have hn : N ≤ 100 := by have := h.ok.nodes; have := h.len; omega
  have HGc : Hid (∀ V, Below w.heap.size w V → Calls Tryz.prog 87 #[.agg #[.slice AG N cG]] V fun e w' => e = .returned (.int .i64 0) ∧ Below V.heap.size V w') := fun V hV => by
    have hh := gchk_any R N hN (by omega) AG cG V (hG.on hV)
    rw [h.eq, grE_ok g h.ok] at hh
    exact hh
  have HSc : Hid (∀ V : World, Calls Tryz.prog 18 #[.agg #[.int .i64 (B : Int), .int .i64 (ls : Int), .int .i64 (k : Int)]] V fun e w' => e = .returned (.int .i64 0) ∧ Below V.heap.size V w') := fun V => by
    have hh := scheck_any (B : Int) (ls : Int) (k : Int) V
    rw [hck_ok B ls k hB hls hk hk2] at hh
    exact hh
  have HAdd : Hid (∀ (i : Nat) (w0 V : World) (P : Nat) (c : Nat) (A : Option Addr) (v1 v2 : Value), i < N → Below w.heap.size w w0 → (pkB B ls k g i).length ≤ 8192 → PkS w0 V P N B ls k ((pkB B ls k g i).length : Int) (pack (pkB B ls k g i)).length c (pack (pkB B ls k g i)) (pkA B ls k g i) (pkS B ls k g i) i i A v1 v2 →
      ((pkB B ls k g (i + 1)).length ≤ 8192 ∧ Calls Tryz.prog 116 #[.pointer (some ⟨P, 0, none⟩), .int .i64 (i : Int), .slice AG N cG] V fun e w' => e = .returned (.int .i64 0) ∧ ∃ A' c' v1' v2', PkS w0 w' P N B ls k ((pkB B ls k g (i + 1)).length : Int) (pack (pkB B ls k g (i + 1))).length c' (pack (pkB B ls k g (i + 1))) (pkA B ls k g (i + 1)) (pkS B ls k g (i + 1)) (i + 1) (i + 1) A' v1' v2') ∨
      (¬ (pkB B ls k g N).length ≤ 8192 ∧ Calls Tryz.prog 116 #[.pointer (some ⟨P, 0, none⟩), .int .i64 (i : Int), .slice AG N cG] V fun e w' => e = .returned (.int .i64 8) ∧ Below V.heap.size V w')) := fun i w0 V P c A v1 v2 hi hw0 hfit hS => by
    by_cases hf : (pkB B ls k g (i + 1)).length ≤ 8192
    · refine .inl ⟨hf, ?_⟩
      have hh := add_ok h N hN B ls k hB hls hk hk2 i hi P AG cG w0 V (hG.on hw0) (pkB B ls k g i) _ (pkB B ls k g (i + 1)) rfl rfl hf (pkA B ls k g i) (pkS B ls k g i) i i (by omega) (by omega) c A v1 v2 hS
      rw [← pkA_succ, ← pkS_succ] at hh
      exact hh
    · refine .inr ⟨fun q => hf (Nat.le_trans (pkB_le B ls k g hi) q), ?_⟩
      exact add_full h N hN B ls k hB hls hk hk2 i hi P AG cG w0 V (hG.on hw0) (pkB B ls k g i) _ rfl hfit (by rw [pkB_succ, List.length_append] at hf; omega) (pkA B ls k g i) (pkS B ls k g i) i i c A v1 v2 hS
  obtain ⟨w1, ew1⟩ : ∃ w1, ((w.alloc (.cells #[.slice AG N cG] 42)).alloc (.cells #[.int .i64 (B : Int), .int .i64 (ls : Int), .int .i64 (k : Int)] 24)).alloc (.cells #[.int .i64 0, .int .i64 0, .int .i64 0, .int .i64 0, .int .i64 0, .slice none 0 0, .slice none 0 0, .slice none 0 0] 110) = w1 := ⟨_, rfl⟩
  have s1 : w1.heap.size = w.heap.size + 3 := by rw [← ew1]; simp [World.size_alloc]
  have hb1 : Below w.heap.size w w1 := by
    rw [← ew1]
    exact (one_below w _).trans (((one_below _ _).mono (by rw [World.size_alloc]; omega)).trans ((one_below _ _).mono (by rw [World.size_alloc, World.size_alloc]; omega)))
  have g2 : w1.heap[w.heap.size]? = some (.cells #[.slice AG N cG] 42 (0, 0)) := by
    rw [← ew1, (one_below _ _).block _ (by rw [World.size_alloc, World.size_alloc]; omega), (one_below _ _).block _ (by rw [World.size_alloc]; omega)]; exact World.alloc_heap_new w _
  have g3 : w1.heap[w.heap.size + 1]? = some (.cells #[.int .i64 (B : Int), .int .i64 (ls : Int), .int .i64 (k : Int)] 24 (0, 0)) := by
    rw [← ew1, (one_below _ _).block _ (by rw [World.size_alloc, World.size_alloc]; omega)]
    have := World.alloc_heap_new (w.alloc (.cells #[.slice AG N cG] 42)) (.cells #[.int .i64 (B : Int), .int .i64 (ls : Int), .int .i64 (k : Int)] 24)
    rwa [World.size_alloc] at this
  have g4 : w1.heap[w.heap.size + 1 + 1]? = some (.cells #[.int .i64 0, .int .i64 0, .int .i64 0, .int .i64 0, .int .i64 0, .slice none 0 0, .slice none 0 0, .slice none 0 0] 110 (0, 0)) := by
    rw [← ew1]
    have := World.alloc_heap_new ((w.alloc (.cells #[.slice AG N cG] 42)).alloc (.cells #[.int .i64 (B : Int), .int .i64 (ls : Int), .int .i64 (k : Int)] 24)) (.cells #[.int .i64 0, .int .i64 0, .int .i64 0, .int .i64 0, .int .i64 0, .slice none 0 0, .slice none 0 0, .slice none 0 0] 110)
    rwa [World.size_alloc, World.size_alloc] at this
  have HK : Hid (∀ V, Below w1.heap.size w1 V → V.cell? ⟨w.heap.size, 0, none⟩ = some (.slice AG N cG) ∧ (V.cell? ⟨w.heap.size + 1, 0, none⟩ = some (.int .i64 (B : Int)) ∧ V.cell? ⟨w.heap.size + 1, 1, none⟩ = some (.int .i64 (ls : Int)) ∧ V.cell? ⟨w.heap.size + 1, 2, none⟩ = some (.int .i64 (k : Int)))) := fun V hV => by
    have q2 := (hV.block _ (by omega)).trans g2
    have q3 := (hV.block _ (by omega)).trans g3
    exact ⟨(cell_at q2 0).trans rfl, (cell_at q3 0).trans rfl, (cell_at q3 1).trans rfl, (cell_at q3 2).trans rfl⟩
  have HR : Hid (∀ V, Below w1.heap.size w1 V → V.heap[w.heap.size + 1 + 1]? = some (.cells #[.int .i64 0, .int .i64 0, .int .i64 0, .int .i64 0, .int .i64 0, .slice none 0 0, .slice none 0 0, .slice none 0 0] 110 (0, 0))) := fun V hV => (hV.block _ (by omega)).trans g4
  have HN := Lib.hid hn
  have HB1 := Lib.hid hb1
  have HS1 := Lib.hid s1
  obtain ⟨k0, k1, k2, k3⟩ := HK.out w1 (Below.refl _ _)
  clear hn h hN hB hls hk hk2 hG g2 g3 g4 hb1 s1
  go_enter Tryz.func69, Tryz.ntmps69
  go_wp2_with fail
  refine (HGc.out w1 HB1.out).mono ?_
  rintro e w2 ⟨rfl, q2⟩
  have HB2 := Lib.hid q2
  clear q2 ew1 k0 k1 k2 k3
  obtain ⟨k0, k1, k2, k3⟩ := HK.out w2 HB2.out
  go_wp2_with fail
  refine (HSc.out w2).mono ?_
  rintro e w3 ⟨rfl, q3⟩
  have HB3 : Hid (Below w1.heap.size w1 w3) := HB2.out.trans (q3.mono HB2.out.size)
  clear q3 k0 k1 k2 k3
  obtain ⟨k0, k1, k2, k3⟩ := HK.out w3 HB3.out
  obtain ⟨P, hP⟩ : ∃ P, w3.heap.size = P := ⟨_, rfl⟩
  go_wp2
  have HP : Hid (w3.heap.size = P) := hP
  have hS0 : PkS w3 (w3.alloc (.cells #[.int .i64 (N : Int), .int .i64 (B : Int), .int .i64 (ls : Int), .int .i64 (k : Int), .int .i64 0, .slice none 0 0, .slice none 0 0, .slice none 0 0] 110)) P N B ls k ((pkB B ls k g 0).length : Int) (pack (pkB B ls k g 0)).length 0 (pack (pkB B ls k g 0)) (pkA B ls k g 0) (pkS B ls k g 0) 0 0 none (.slice none 0 0) (.slice none 0 0) := by
    rw [show pkB B ls k g 0 = [] from rfl, pack_nil]
    refine ⟨one_below w3 _, Nat.le_of_eq hP, ?_, .inl rfl, ⟨rfl, .inl ⟨rfl, rfl⟩⟩, ⟨rfl, .inl ⟨rfl, rfl⟩⟩, fun h0 => absurd rfl h0, fun g hg => by simp [Value.ownBlock] at hg⟩
    rw [← hP]
    exact World.alloc_heap_new w3 _
  have HS0 := Lib.hid hS0
  clear hS0 k0 k1 k2 k3 hP
  go_loopw [32] (fun p wr => ∃ (i c : Nat) (A : Option Addr) (v1 v2 : Value), i ≤ N ∧ p = .int .i64 (i : Int) ∧ (pkB B ls k g i).length ≤ 8192 ∧ PkS w3 wr P N B ls k ((pkB B ls k g i).length : Int) (pack (pkB B ls k g i)).length c (pack (pkB B ls k g i)) (pkA B ls k g i) (pkS B ls k g i) i i A v1 v2) (fun p _ => N - (intOf p).toNat)
  case atStart => exact ⟨0, 0, none, _, _, Nat.zero_le _, rfl, Nat.zero_le _, HS0.out⟩
  case round =>
   as_aux_lemma =>
    clear HS0
    obtain ⟨i, c, A, v1, v2, hi, rfl, hfit, hS⟩ := hrel
    have hlow1 : Below w1.heap.size w1 wr := HB3.out.trans (hS.low.mono HB3.out.size)
    obtain ⟨k0, k1, k2, k3⟩ := HK.out wr hlow1
    have HSr := Lib.hid hS
    have HLw := Lib.hid hlow1
    by_cases hlt : i < N
    · have t2 : decide (i < N) = true := by simp; omega
      have t5 : wrap64 ((i : Int) + 1) = (i : Int) + 1 := by have := HN.out; unfold wrap64; omega
      rcases HAdd.out i w3 wr P c A v1 v2 hlt (HB1.out.trans (HB3.out.mono HB1.out.size)) hfit hS with ⟨hf, hc⟩ | ⟨hnf, hc⟩
      · have HC := Lib.hid hc
        clear hc hS hlow1
        go_wp2_with fail
        refine HC.out.mono ?_
        rintro e wq ⟨rfl, A', c', v1', v2', hS'⟩
        have HS' := Lib.hid hS'
        clear hS' HC
        go_wp2
        go_roundw
        case rel => exact ⟨i + 1, c', A', v1', v2', hlt, by rw [t5]; exact congrArg _ (by omega), hf, HS'.out⟩
        case measure => rw [t5]; simp [intOf]; omega
      · have HC := Lib.hid hc
        clear hc hS hlow1
        go_wp2_with fail
        refine HC.out.mono ?_
        rintro e wq ⟨rfl, q5⟩
        have HB5 : Hid (Below w1.heap.size w1 wq) := HLw.out.trans (q5.mono HLw.out.size)
        have hr := HR.out wq HB5.out
        have hth := there_all hr (n := 8) rfl
        obtain ⟨h8, -, -, hB8⟩ := stored_all [.int .i64 0, .int .i64 0, .int .i64 0, .int .i64 0, .int .i64 0, .slice none 0 0, .slice none 0 0, .slice none 0 0] hr rfl
        have HB8 := Lib.hid hB8
        clear q5 HC k0 k1 k2 k3 hr hB8
        go_wp2_with (first | (refine wpList_build rfl _ _ rfl #[] (by kernel_rfl) _ (run_build_pk0 _) ?_) | (refine wpList_store_mid rfl 110 _ _ rfl (w.heap.size + 1 + 1) 0 #[.int .i64 0, .int .i64 0, .int .i64 0, .int .i64 0, .int .i64 0, .slice none 0 0, .slice none 0 0, .slice none 0 0] rfl rfl hth info_pk (by simp [Value.oneCell']) ?_))
        obtain ⟨Wf, hWf⟩ : ∃ Wf, wq.setCells (w.heap.size + 1 + 1) 0 [.int .i64 0, .int .i64 0, .int .i64 0, .int .i64 0, .int .i64 0, .slice none 0 0, .slice none 0 0, .slice none 0 0] = Wf := ⟨_, rfl⟩
        show bodyPost _ _ _ _ _ (wq.setCells (w.heap.size + 1 + 1) 0 [.int .i64 0, .int .i64 0, .int .i64 0, .int .i64 0, .int .i64 0, .slice none 0 0, .slice none 0 0, .slice none 0 0])
        rw [hWf] at h8 HB8 ⊢
        clear hWf
        have c0 := (cell_at h8 0).trans rfl; have c1 := (cell_at h8 1).trans rfl; have c2 := (cell_at h8 2).trans rfl; have c3 := (cell_at h8 3).trans rfl
        have c4 := (cell_at h8 4).trans rfl; have c5 := (cell_at h8 5).trans rfl; have c6 := (cell_at h8 6).trans rfl; have c7 := (cell_at h8 7).trans rfl
        simp only [List.getElem?_toArray, List.getElem?_cons_zero, List.getElem?_cons_succ] at c0 c1 c2 c3 c4 c5 c6 c7
        refine bodyPost_ret (v := .tuple #[pkZ, .int .i64 8]) (by simp [results, Tryz.results69, go_sem, pkZ, pkV, c0, c1, c2, c3, c4, c5, c6, c7]) rfl ?_
        unfold PakP
        rw [if_neg hnf]
        exact ⟨rfl, (HB1.out.trans (HB5.out.mono HB1.out.size)).trans (HB8.out _ (by omega))⟩
    · obtain rfl : i = N := by omega
      have t2 : decide (i < i) = false := by simp
      have hr := HR.out wr hlow1
      obtain ⟨A1, c1, rfl⟩ := own_sliceK hS.own1
      obtain ⟨A2, c2, rfl⟩ := own_sliceK hS.own2
      have hrow := HSr.out.row
      have hth := there_all hr (n := 8) rfl
      have hrg := range_all hrow
      obtain ⟨h8, hk8, hs8, hB8⟩ := stored_all [.int .i64 (i : Int), .int .i64 (B : Int), .int .i64 (ls : Int), .int .i64 (k : Int), .int .i64 ((pkB B ls k g i).length : Int), .slice A (pack (pkB B ls k g i)).length c, .slice A1 i c1, .slice A2 i c2] hr rfl
      have HK8 := Lib.hid hk8; have HS8 := Lib.hid hs8; have HB8 := Lib.hid hB8
      clear hS hlow1 k0 k1 k2 k3 hr hrow hk8 hs8 hB8
      go_wp2_with (first | (refine wpList_load_mid rfl 110 _ rfl P 0 rfl [.int .i64 (i : Int), .int .i64 (B : Int), .int .i64 (ls : Int), .int .i64 (k : Int), .int .i64 ((pkB B ls k g i).length : Int), .slice A (pack (pkB B ls k g i)).length c, .slice A1 i c1, .slice A2 i c2] _ hrg Tryz.underlying110 rfl info_pk ?_) | (refine wpList_store_mid rfl 110 _ _ rfl (w.heap.size + 1 + 1) 0 #[.int .i64 (i : Int), .int .i64 (B : Int), .int .i64 (ls : Int), .int .i64 (k : Int), .int .i64 ((pkB B ls k g i).length : Int), .slice A (pack (pkB B ls k g i)).length c, .slice A1 i c1, .slice A2 i c2] rfl rfl hth info_pk (by simp [Value.oneCell']) ?_))
      obtain ⟨Wf, hWf⟩ : ∃ Wf, wr.setCells (w.heap.size + 1 + 1) 0 [.int .i64 (i : Int), .int .i64 (B : Int), .int .i64 (ls : Int), .int .i64 (k : Int), .int .i64 ((pkB B ls k g i).length : Int), .slice A (pack (pkB B ls k g i)).length c, .slice A1 i c1, .slice A2 i c2] = Wf := ⟨_, rfl⟩
      show bodyPost _ _ _ _ _ (wr.setCells (w.heap.size + 1 + 1) 0 [.int .i64 (i : Int), .int .i64 (B : Int), .int .i64 (ls : Int), .int .i64 (k : Int), .int .i64 ((pkB B ls k g i).length : Int), .slice A (pack (pkB B ls k g i)).length c, .slice A1 i c1, .slice A2 i c2])
      rw [hWf] at h8 HB8 HK8 HS8 ⊢
      clear hWf
      have d0 := (cell_at h8 0).trans rfl; have d1 := (cell_at h8 1).trans rfl; have d2 := (cell_at h8 2).trans rfl; have d3 := (cell_at h8 3).trans rfl
      have d4 := (cell_at h8 4).trans rfl; have d5 := (cell_at h8 5).trans rfl; have d6 := (cell_at h8 6).trans rfl; have d7 := (cell_at h8 7).trans rfl
      simp only [List.getElem?_toArray, List.getElem?_cons_zero, List.getElem?_cons_succ] at d0 d1 d2 d3 d4 d5 d6 d7
      refine bodyPost_ret (v := .tuple #[pkV i B ls k ((pkB B ls k g i).length : Int) (.slice A (pack (pkB B ls k g i)).length c) (.slice A1 i c1) (.slice A2 i c2), .int .i64 0]) (by simp [results, Tryz.results69, go_sem, pkV, d0, d1, d2, d3, d4, d5, d6, d7]) rfl ?_
      have hb4 : w.heap.size + 1 + 1 < P := by have := HB3.out.size; have := HS1.out; have := HP.out; omega
      unfold PakP
      rw [if_pos hfit]
      refine ⟨A, c, A1, c1, A2, c2, rfl, ?_, ?_, ?_, (HB1.out.trans (HLw.out.mono HB1.out.size)).trans (HB8.out _ (by omega))⟩
      · exact rd_apt (P := w.heap.size + 1 + 1) (u := .slice none 0 0) HSr.out.rd (fun h0 b off e => ⟨by have := (HSr.out.ap h0 b off e).1; omega, by simp [Value.ownBlock]⟩) (fun b _ _ hb => HK8.out b hb) (Nat.le_of_eq HS8.out.symm)
      · exact own_rdvT (own_kept HSr.out.own1 fun gg hg => HK8.out gg (by have := (own_lt HSr.out.own1 hg).1; omega))
      · exact own_rdvT (own_kept HSr.out.own2 fun gg hg => HK8.out gg (by have := (own_lt HSr.out.own2 hg).1; omega))
end
section
set_option maxRecDepth 100000
set_option linter.unusedVariables false
open Go.RowKit Go.Shelf
def PaP (w : World) (N B ls k len : Int) (n : Nat) (bs : List Nat) (n1 : Nat) (xs1 : List Int) (n2 : Nat) (xs2 : List Int) (er : Int) (e : Ending) (w' : World) : Prop :=
  ∃ A c A1 c1 A2 c2, e = .returned (.tuple #[pkV N B ls k len (.slice A n c) (.slice A1 n1 c1) (.slice A2 n2 c2), .int .i64 er]) ∧ Rd w' w'.heap.size A bs ∧ RdV w' w'.heap.size A1 (zc xs1) ∧ RdV w' w'.heap.size A2 (zc xs2) ∧ Below w.heap.size w w'
def PwP (w : World) (N B ls k len : Int) (n : Nat) (bs : List Nat) (er : Int) (e : Ending) (w' : World) : Prop :=
  ∃ A c, e = .returned (.tuple #[.agg #[.int .i64 N, .int .i64 B, .int .i64 ls, .int .i64 k, .int .i64 len, .slice A n c], .int .i64 er]) ∧ Rd w' w'.heap.size A bs ∧ Below w.heap.size w w'
def PtP (w : World) (n1 : Nat) (xs1 : List Int) (n2 : Nat) (xs2 : List Int) (er : Int) (e : Ending) (w' : World) : Prop :=
  ∃ A1 c1 A2 c2, e = .returned (.tuple #[.slice A1 n1 c1, .slice A2 n2 c2, .int .i64 er]) ∧ RdV w' w'.heap.size A1 (zc xs1) ∧ RdV w' w'.heap.size A2 (zc xs2) ∧ Below w.heap.size w w'
theorem three_at (w : World) (N : Nat) (B ls k : Int) (AG : Option Addr) (cG : Nat) (o : Obj) : ∃ w1, ((w.alloc (.cells #[.slice AG N cG] 42)).alloc (.cells #[.int .i64 B, .int .i64 ls, .int .i64 k] 24)).alloc o = w1 ∧
    w1.heap.size = w.heap.size + 3 ∧ Below w.heap.size w w1 ∧ w1.heap[w.heap.size]? = some (.cells #[.slice AG N cG] 42 (0, 0)) ∧ w1.heap[w.heap.size + 1]? = some (.cells #[.int .i64 B, .int .i64 ls, .int .i64 k] 24 (0, 0)) ∧ w1.heap[w.heap.size + 1 + 1]? = some o := by
  obtain ⟨w1, ew1⟩ : ∃ w1, ((w.alloc (.cells #[.slice AG N cG] 42)).alloc (.cells #[.int .i64 B, .int .i64 ls, .int .i64 k] 24)).alloc o = w1 := ⟨_, rfl⟩
  refine ⟨w1, ew1, by rw [← ew1]; simp [World.size_alloc], ?_, ?_, ?_, ?_⟩
  · rw [← ew1]
    exact (one_below w _).trans (((one_below _ _).mono (by rw [World.size_alloc]; omega)).trans ((one_below _ _).mono (by rw [World.size_alloc, World.size_alloc]; omega)))
  · rw [← ew1, (one_below _ _).block _ (by rw [World.size_alloc, World.size_alloc]; omega), (one_below _ _).block _ (by rw [World.size_alloc]; omega)]; exact World.alloc_heap_new w _
  · rw [← ew1, (one_below _ _).block _ (by rw [World.size_alloc, World.size_alloc]; omega)]
    have := World.alloc_heap_new (w.alloc (.cells #[.slice AG N cG] 42)) (.cells #[.int .i64 B, .int .i64 ls, .int .i64 k] 24)
    rwa [World.size_alloc] at this
  · rw [← ew1]
    have := World.alloc_heap_new ((w.alloc (.cells #[.slice AG N cG] 42)).alloc (.cells #[.int .i64 B, .int .i64 ls, .int .i64 k] 24)) o
    rwa [World.size_alloc, World.size_alloc] at this
theorem two_at (w : World) (N : Nat) (B ls k : Int) (AG : Option Addr) (cG : Nat) : ∃ w1, ((w.alloc (.cells #[.slice AG N cG] 42)).alloc (.cells #[.int .i64 B, .int .i64 ls, .int .i64 k] 24)) = w1 ∧
    w1.heap.size = w.heap.size + 2 ∧ Below w.heap.size w w1 ∧ w1.heap[w.heap.size]? = some (.cells #[.slice AG N cG] 42 (0, 0)) ∧ w1.heap[w.heap.size + 1]? = some (.cells #[.int .i64 B, .int .i64 ls, .int .i64 k] 24 (0, 0)) := by
  obtain ⟨w1, ew1⟩ : ∃ w1, ((w.alloc (.cells #[.slice AG N cG] 42)).alloc (.cells #[.int .i64 B, .int .i64 ls, .int .i64 k] 24)) = w1 := ⟨_, rfl⟩
  refine ⟨w1, ew1, by rw [← ew1]; simp [World.size_alloc], ?_, ?_, ?_⟩
  · rw [← ew1]
    exact (one_below w _).trans ((one_below _ _).mono (by rw [World.size_alloc]; omega))
  · rw [← ew1, (one_below _ _).block _ (by rw [World.size_alloc]; omega)]; exact World.alloc_heap_new w _
  · rw [← ew1]
    have := World.alloc_heap_new (w.alloc (.cells #[.slice AG N cG] 42)) (.cells #[.int .i64 B, .int .i64 ls, .int .i64 k] 24)
    rwa [World.size_alloc] at this
theorem how_at {w : World} {b : Nat} {B ls k : Int} (h : w.heap[b]? = some (.cells #[.int .i64 B, .int .i64 ls, .int .i64 k] 24 (0, 0))) : w.cell? ⟨b, 0, none⟩ = some (.int .i64 B) ∧ w.cell? ⟨b, 1, none⟩ = some (.int .i64 ls) ∧ w.cell? ⟨b, 2, none⟩ = some (.int .i64 k) :=
  ⟨(cell_at h 0).trans rfl, (cell_at h 1).trans rfl, (cell_at h 2).trans rfl⟩
set_option maxHeartbeats 4000000 in
theorem pack_e (R : List Rw) (N : Nat) (hN : R.length = N) (hn : N ≤ 140737488355328) (B ls k e0 : Int) (he : (if grE (gs R) = 0 then hck B ls k else grE (gs R)) = e0) (h0 : e0 ≠ 0) (AG : Option Addr) (cG : Nat) (w : World) (hG : RdG w w.heap.size AG R) :
    Calls Tryz.prog 69 #[.agg #[.slice AG N cG], .agg #[.int .i64 B, .int .i64 ls, .int .i64 k]] w (PaP w 0 0 0 0 0 0 [] 0 [] 0 [] e0) := by
  have HGc : Hid (∀ V, Below w.heap.size w V → Calls Tryz.prog 87 #[.agg #[.slice AG N cG]] V fun e w' => e = .returned (.int .i64 (grE (gs R))) ∧ Below V.heap.size V w') := fun V hV => gchk_any R N hN hn AG cG V (hG.on hV)
  have HSc : Hid (∀ V : World, Calls Tryz.prog 18 #[.agg #[.int .i64 B, .int .i64 ls, .int .i64 k]] V fun e w' => e = .returned (.int .i64 (hck B ls k)) ∧ Below V.heap.size V w') := fun V => scheck_any B ls k V
  have t1 : (e0 != 0) = true := by simpa using h0
  obtain ⟨w1, ew1, s1, hb1, g2, g3, g4⟩ := three_at w N B ls k AG cG (.cells #[.int .i64 0, .int .i64 0, .int .i64 0, .int .i64 0, .int .i64 0, .slice none 0 0, .slice none 0 0, .slice none 0 0] 110)
  have k0 := box_cell g2
  have HK : Hid (∀ V, Below w1.heap.size w1 V → V.heap[w.heap.size + 1]? = some (.cells #[.int .i64 B, .int .i64 ls, .int .i64 k] 24 (0, 0)) ∧ V.heap[w.heap.size + 1 + 1]? = some (.cells #[.int .i64 0, .int .i64 0, .int .i64 0, .int .i64 0, .int .i64 0, .slice none 0 0, .slice none 0 0, .slice none 0 0] 110 (0, 0))) := fun V hV => ⟨(hV.block _ (by omega)).trans g3, (hV.block _ (by omega)).trans g4⟩
  have HB1 := Lib.hid hb1
  have HE : Hid (∀ W V : World, Below w.heap.size w W → W.heap[w.heap.size + 1 + 1]? = some (.cells #[.int .i64 0, .int .i64 0, .int .i64 0, .int .i64 0, .int .i64 0, .slice none 0 0, .slice none 0 0, .slice none 0 0] 110 (0, 0)) → Below w.heap.size w (W.setCells (w.heap.size + 1 + 1) 0 [.int .i64 0, .int .i64 0, .int .i64 0, .int .i64 0, .int .i64 0, .slice none 0 0, .slice none 0 0, .slice none 0 0])) := fun W V h1 h2 => below_setAll _ (by omega) _ _ _ h1
  clear hb1 s1 g2 g3 g4 hG h0
  by_cases hg : grE (gs R) = 0
  · rw [if_pos hg] at he
    rw [he] at HSc
    rw [hg] at HGc
    clear hg he
    go_enter Tryz.func69, Tryz.ntmps69
    go_wp2_with fail
    try rw [ew1]
    refine (HGc.out w1 HB1.out).mono ?_
    rintro e w2 ⟨rfl, q2⟩
    have HB2 := Lib.hid q2
    obtain ⟨k1, k2, k3⟩ := how_at (HK.out w2 HB2.out).1
    clear q2 ew1 k0
    go_wp2_with fail
    refine (HSc.out w2).mono ?_
    rintro e w3 ⟨rfl, q3⟩
    have HB3 : Hid (Below w1.heap.size w1 w3) := HB2.out.trans (q3.mono HB2.out.size)
    have hr := (HK.out w3 HB3.out).2
    have hth := there_all hr (n := 8) rfl
    obtain ⟨h8, -, -, -⟩ := stored_all [.int .i64 0, .int .i64 0, .int .i64 0, .int .i64 0, .int .i64 0, .slice none 0 0, .slice none 0 0, .slice none 0 0] hr rfl
    have HB8 := Lib.hid (HE.out w3 w3 (HB1.out.trans (HB3.out.mono HB1.out.size)) hr)
    clear q3 k1 k2 k3 hr
    go_wp2_with (first | (refine wpList_build rfl _ _ rfl #[] (by kernel_rfl) _ (run_build_pk0 _) ?_) | (refine wpList_store_mid rfl 110 _ _ rfl (w.heap.size + 1 + 1) 0 #[.int .i64 0, .int .i64 0, .int .i64 0, .int .i64 0, .int .i64 0, .slice none 0 0, .slice none 0 0, .slice none 0 0] rfl rfl hth info_pk (by simp [Value.oneCell']) ?_))
    show bodyPost _ _ _ _ _ (w3.setCells (w.heap.size + 1 + 1) 0 [.int .i64 0, .int .i64 0, .int .i64 0, .int .i64 0, .int .i64 0, .slice none 0 0, .slice none 0 0, .slice none 0 0])
    generalize w3.setCells (w.heap.size + 1 + 1) 0 [.int .i64 0, .int .i64 0, .int .i64 0, .int .i64 0, .int .i64 0, .slice none 0 0, .slice none 0 0, .slice none 0 0] = Wf at *
    have c0 := (cell_at h8 0).trans rfl; have c1 := (cell_at h8 1).trans rfl; have c2 := (cell_at h8 2).trans rfl; have c3 := (cell_at h8 3).trans rfl
    have c4 := (cell_at h8 4).trans rfl; have c5 := (cell_at h8 5).trans rfl; have c6 := (cell_at h8 6).trans rfl; have c7 := (cell_at h8 7).trans rfl
    simp only [List.getElem?_toArray, List.getElem?_cons_zero, List.getElem?_cons_succ] at c0 c1 c2 c3 c4 c5 c6 c7
    exact bodyPost_ret (v := .tuple #[pkZ, .int .i64 e0]) (by simp [results, Tryz.results69, go_sem, pkZ, pkV, c0, c1, c2, c3, c4, c5, c6, c7]) rfl ⟨none, 0, none, 0, none, 0, rfl, .inl rfl, .inl rfl, .inl rfl, HB8.out⟩
  · rw [if_neg hg] at he
    rw [he] at HGc
    clear hg he HSc
    go_enter Tryz.func69, Tryz.ntmps69
    go_wp2_with fail
    try rw [ew1]
    refine (HGc.out w1 HB1.out).mono ?_
    rintro e w3 ⟨rfl, q2⟩
    have HB3 := Lib.hid q2
    have hr := (HK.out w3 HB3.out).2
    have hth := there_all hr (n := 8) rfl
    obtain ⟨h8, -, -, -⟩ := stored_all [.int .i64 0, .int .i64 0, .int .i64 0, .int .i64 0, .int .i64 0, .slice none 0 0, .slice none 0 0, .slice none 0 0] hr rfl
    have HB8 := Lib.hid (HE.out w3 w3 (HB1.out.trans (HB3.out.mono HB1.out.size)) hr)
    clear q2 ew1 k0 hr
    go_wp2_with (first | (refine wpList_build rfl _ _ rfl #[] (by kernel_rfl) _ (run_build_pk0 _) ?_) | (refine wpList_store_mid rfl 110 _ _ rfl (w.heap.size + 1 + 1) 0 #[.int .i64 0, .int .i64 0, .int .i64 0, .int .i64 0, .int .i64 0, .slice none 0 0, .slice none 0 0, .slice none 0 0] rfl rfl hth info_pk (by simp [Value.oneCell']) ?_))
    show bodyPost _ _ _ _ _ (w3.setCells (w.heap.size + 1 + 1) 0 [.int .i64 0, .int .i64 0, .int .i64 0, .int .i64 0, .int .i64 0, .slice none 0 0, .slice none 0 0, .slice none 0 0])
    generalize w3.setCells (w.heap.size + 1 + 1) 0 [.int .i64 0, .int .i64 0, .int .i64 0, .int .i64 0, .int .i64 0, .slice none 0 0, .slice none 0 0, .slice none 0 0] = Wf at *
    have c0 := (cell_at h8 0).trans rfl; have c1 := (cell_at h8 1).trans rfl; have c2 := (cell_at h8 2).trans rfl; have c3 := (cell_at h8 3).trans rfl
    have c4 := (cell_at h8 4).trans rfl; have c5 := (cell_at h8 5).trans rfl; have c6 := (cell_at h8 6).trans rfl; have c7 := (cell_at h8 7).trans rfl
    simp only [List.getElem?_toArray, List.getElem?_cons_zero, List.getElem?_cons_succ] at c0 c1 c2 c3 c4 c5 c6 c7
    exact bodyPost_ret (v := .tuple #[pkZ, .int .i64 e0]) (by simp [results, Tryz.results69, go_sem, pkZ, pkV, c0, c1, c2, c3, c4, c5, c6, c7]) rfl ⟨none, 0, none, 0, none, 0, rfl, .inl rfl, .inl rfl, .inl rfl, HB8.out⟩
theorem pk_new (w2 : World) (vs : List Value) (hl : vs.length = 8) : ∃ X, (w2.alloc (.cells #[.int .i64 0, .int .i64 0, .int .i64 0, .int .i64 0, .int .i64 0, .slice none 0 0, .slice none 0 0, .slice none 0 0] 110)).setCells w2.heap.size 0 vs = X ∧ (w2.alloc (.cells #[.int .i64 0, .int .i64 0, .int .i64 0, .int .i64 0, .int .i64 0, .slice none 0 0, .slice none 0 0, .slice none 0 0] 110)).there w2.heap.size 0 8 ∧ X.heap[w2.heap.size]? = some (.cells vs.toArray 110 (0, 0)) ∧ Below w2.heap.size w2 X ∧ w2.heap.size < X.heap.size := by
  have hz := World.alloc_heap_new w2 (.cells #[.int .i64 0, .int .i64 0, .int .i64 0, .int .i64 0, .int .i64 0, .slice none 0 0, .slice none 0 0, .slice none 0 0] 110)
  obtain ⟨h8, -, hs, hb⟩ := stored_all vs hz (by rw [hl]; rfl)
  exact ⟨_, rfl, there_all hz rfl, h8, (one_below w2 _).trans (hb _ (Nat.le_refl _)), by rw [hs, World.size_alloc]; omega⟩
theorem info_pd : (Tryz.prog.info? 44).map (·.size) = some 6 := by kernel_rfl
set_option maxHeartbeats 4000000 in
theorem write_l (NG : Nat) (B ls k : Int) (AG : Option Addr) (cG : Nat) (N B' ls' k' len : Int) (n : Nat) (bs : List Nat) (n1 : Nat) (xs1 : List Int) (n2 : Nat) (xs2 : List Int) (er : Int) (w : World)
    (HP : Hid (∀ V, Below w.heap.size w V → Calls Tryz.prog 69 #[.agg #[.slice AG NG cG], .agg #[.int .i64 B, .int .i64 ls, .int .i64 k]] V (PaP V N B' ls' k' len n bs n1 xs1 n2 xs2 er))) :
    Calls Tryz.prog 24 #[.agg #[.slice AG NG cG], .agg #[.int .i64 B, .int .i64 ls, .int .i64 k]] w (PwP w N B' ls' k' len n bs er) := by
  obtain ⟨w1, ew1, s1, hb1, g2, g3, g4⟩ := three_at w NG B ls k AG cG (.cells #[.int .i64 0, .int .i64 0, .int .i64 0, .int .i64 0, .int .i64 0, .slice none 0 0] 44)
  have k0 := box_cell g2
  obtain ⟨k1, k2, k3⟩ := how_at g3
  have HK : Hid (∀ V, Below w1.heap.size w1 V → V.heap[w.heap.size + 1 + 1]? = some (.cells #[.int .i64 0, .int .i64 0, .int .i64 0, .int .i64 0, .int .i64 0, .slice none 0 0] 44 (0, 0))) := fun V hV => (hV.block _ (by omega)).trans g4
  have HB1 := Lib.hid hb1
  have HS1 := Lib.hid s1
  clear hb1 s1 g2 g3 g4
  go_enter Tryz.func24, Tryz.ntmps24
  go_wp2_with fail
  try rw [ew1]
  refine (HP.out w1 HB1.out).mono ?_
  rintro e w2 ⟨A, c, A1, c1, A2, c2, rfl, r1, -, -, q2⟩
  have HB2 := Lib.hid q2
  obtain ⟨X, hX, hth8, h8, hbX, hzX⟩ := pk_new w2 [.int .i64 N, .int .i64 B', .int .i64 ls', .int .i64 k', .int .i64 len, .slice A n c, .slice A1 n1 c1, .slice A2 n2 c2] rfl
  have HR2 := Lib.hid (r1.on hbX)
  have HB3 : Hid (Below w1.heap.size w1 X) := HB2.out.trans (hbX.mono HB2.out.size)
  have hr := HK.out _ HB3.out
  have hrg : X.rangeAt w2.heap.size 0 [.int .i64 N, .int .i64 B', .int .i64 ls', .int .i64 k', .int .i64 len, .slice A n c] := fun j v hv => range_all (cs := [.int .i64 N, .int .i64 B', .int .i64 ls', .int .i64 k', .int .i64 len, .slice A n c, .slice A1 n1 c1, .slice A2 n2 c2]) h8 j v (by
    have hj : j < 6 := by have := (List.getElem?_eq_some_iff.1 hv).1; simpa using this
    rw [← hv]
    match j, hj with
    | 0, _ => rfl
    | 1, _ => rfl
    | 2, _ => rfl
    | 3, _ => rfl
    | 4, _ => rfl
    | 5, _ => rfl)
  have hth := there_all hr (n := 6) rfl
  obtain ⟨h6, hk6, hs6, hB6⟩ := stored_all [.int .i64 N, .int .i64 B', .int .i64 ls', .int .i64 k', .int .i64 len, .slice A n c] hr rfl
  have HF := Lib.hid (hB6 w.heap.size (by omega))
  have HR : Hid (Rd (X.setCells (w.heap.size + 1 + 1) 0 [.int .i64 N, .int .i64 B', .int .i64 ls', .int .i64 k', .int .i64 len, .slice A n c]) (X.setCells (w.heap.size + 1 + 1) 0 [.int .i64 N, .int .i64 B', .int .i64 ls', .int .i64 k', .int .i64 len, .slice A n c]).heap.size A bs) := by
    rcases HR2.out with h | ⟨g, off, rfl, hg, hc⟩
    · exact .inl h
    · refine .inr ⟨g, off, rfl, by rw [hs6]; exact hg, fun i hi => ?_⟩
      have h1 := hc i hi
      have hne : g ≠ w.heap.size + 1 + 1 := by
        rintro rfl
        simp only [World.cell?, hr] at h1
        rcases hoi : off + i with _ | _ | _ | _ | _ | _ | m <;> rw [hoi] at h1 <;> simp at h1
      unfold World.cell? at h1 ⊢
      simp only at h1 ⊢
      rw [hk6 g hne]; exact h1
  clear r1 q2 ew1 k0 k1 k2 k3 HP hk6 hs6 hB6 h8 hr hbX hzX
  go_wp2_with (first | (refine wpList_store_mid rfl 110 _ _ rfl w2.heap.size 0 #[.int .i64 N, .int .i64 B', .int .i64 ls', .int .i64 k', .int .i64 len, .slice A n c, .slice A1 n1 c1, .slice A2 n2 c2] rfl rfl hth8 info_pk (by simp [Value.oneCell']) ?_; rw [hX]; clear hX hth8) | (refine wpList_load_mid rfl 44 _ rfl w2.heap.size 0 rfl [.int .i64 N, .int .i64 B', .int .i64 ls', .int .i64 k', .int .i64 len, .slice A n c] _ hrg Tryz.underlying44 rfl info_pd ?_) | (refine wpList_store_mid rfl 44 _ _ rfl (w.heap.size + 1 + 1) 0 #[.int .i64 N, .int .i64 B', .int .i64 ls', .int .i64 k', .int .i64 len, .slice A n c] rfl rfl hth info_pd (by simp [Value.oneCell']) ?_))
  have HFin : Hid (Below w.heap.size w (X.setCells (w.heap.size + 1 + 1) 0 [.int .i64 N, .int .i64 B', .int .i64 ls', .int .i64 k', .int .i64 len, .slice A n c])) := (HB1.out.trans (HB3.out.mono HB1.out.size)).trans HF.out
  show bodyPost _ _ _ _ _ (X.setCells (w.heap.size + 1 + 1) 0 [.int .i64 N, .int .i64 B', .int .i64 ls', .int .i64 k', .int .i64 len, .slice A n c])
  obtain ⟨Wf, hWf⟩ : ∃ Wf, (X.setCells (w.heap.size + 1 + 1) 0 [.int .i64 N, .int .i64 B', .int .i64 ls', .int .i64 k', .int .i64 len, .slice A n c]) = Wf := ⟨_, rfl⟩
  rw [hWf] at h6 HFin HR ⊢
  have c0 := (cell_at h6 0).trans rfl; have d1 := (cell_at h6 1).trans rfl; have d2 := (cell_at h6 2).trans rfl; have d3 := (cell_at h6 3).trans rfl
  have d4 := (cell_at h6 4).trans rfl; have d5 := (cell_at h6 5).trans rfl
  simp only [List.getElem?_toArray, List.getElem?_cons_zero, List.getElem?_cons_succ] at c0 d1 d2 d3 d4 d5
  exact bodyPost_ret (v := .tuple #[.agg #[.int .i64 N, .int .i64 B', .int .i64 ls', .int .i64 k', .int .i64 len, .slice A n c], .int .i64 er]) (by simp [results, Tryz.results24, go_sem, c0, d1, d2, d3, d4, d5]) rfl ⟨A, c, rfl, HR.out, HFin.out⟩
set_option maxHeartbeats 4000000 in
theorem told_l (NG : Nat) (B ls k : Int) (AG : Option Addr) (cG : Nat) (N B' ls' k' len : Int) (n : Nat) (bs : List Nat) (n1 : Nat) (xs1 : List Int) (n2 : Nat) (xs2 : List Int) (er : Int) (w : World)
    (HP : Hid (∀ V, Below w.heap.size w V → Calls Tryz.prog 69 #[.agg #[.slice AG NG cG], .agg #[.int .i64 B, .int .i64 ls, .int .i64 k]] V (PaP V N B' ls' k' len n bs n1 xs1 n2 xs2 er))) :
    Calls Tryz.prog 26 #[.agg #[.slice AG NG cG], .agg #[.int .i64 B, .int .i64 ls, .int .i64 k]] w (PtP w n1 xs1 n2 xs2 er) := by
  obtain ⟨w1, ew1, s1, hb1, g2, g3⟩ := two_at w NG B ls k AG cG
  have k0 := box_cell g2
  obtain ⟨k1, k2, k3⟩ := how_at g3
  have HB1 := Lib.hid hb1
  clear hb1 s1 g2 g3
  go_enter Tryz.func26, Tryz.ntmps26
  go_wp2_with fail
  try rw [ew1]
  refine (HP.out w1 HB1.out).mono ?_
  rintro e w2 ⟨A, c, A1, c1, A2, c2, rfl, -, r1, r2, q2⟩
  have HB2 := Lib.hid q2
  have HR1 := Lib.hid r1
  have HR2 := Lib.hid r2
  obtain ⟨X, hX, hth8, h8, hbX, hzX⟩ := pk_new w2 [.int .i64 N, .int .i64 B', .int .i64 ls', .int .i64 k', .int .i64 len, .slice A n c, .slice A1 n1 c1, .slice A2 n2 c2] rfl
  have HBX := Lib.hid hbX
  have c6 : X.cell? ⟨w2.heap.size, 6, none⟩ = some (.slice A1 n1 c1) := (cell_at h8 6).trans rfl
  have c7 : X.cell? ⟨w2.heap.size, 7, none⟩ = some (.slice A2 n2 c2) := (cell_at h8 7).trans rfl
  clear r1 r2 q2 ew1 k0 k1 k2 k3 HP h8 hbX hzX
  go_wp2_with (refine wpList_store_mid rfl 110 _ _ rfl w2.heap.size 0 #[.int .i64 N, .int .i64 B', .int .i64 ls', .int .i64 k', .int .i64 len, .slice A n c, .slice A1 n1 c1, .slice A2 n2 c2] rfl rfl hth8 info_pk (by simp [Value.oneCell']) ?_; rw [hX]; clear hX hth8)
  go_quiet (fail)
  go_wp2
  have hd : ∀ q, Below X.heap.size X (X.drewN q) := fun q => ⟨(Below.refl X.heap.size X).os, (Below.refl X.heap.size X).tape, (Below.refl X.heap.size X).output, Nat.le_refl _, fun _ _ => rfl⟩
  exact bodyPost_ret (v := .tuple #[.slice A1 n1 c1, .slice A2 n2 c2, .int .i64 er]) (by simp [results, Tryz.results26, go_sem]) rfl ⟨A1, c1, A2, c2, rfl, (HR1.out.on HBX.out).on (hd _), (HR2.out.on HBX.out).on (hd _), HB1.out.trans ((HB2.out.trans ((HBX.out.trans ((hd _).mono HBX.out.size)).mono HB2.out.size)).mono HB1.out.size)⟩
end
section
set_option maxRecDepth 100000
set_option linter.unusedVariables false
open Go.RowKit Go.Shelf
def rbV (L : List Bool) (B i s : Nat) : Nat × Nat × Int :=
  if B = 0 then (0, s, 0) else if (gamR L s).2.2 = 0 ∧ (gamR L s).1 ≤ min B i then ((gamR L s).1, (gamR L s).2.1, 0) else (0, 0, if (gamR L s).2.2 = 0 then 3 else (gamR L s).2.2)
def RbP (w : World) (r s : Nat) (er : Int) (e : Ending) (w' : World) : Prop := e = .returned (.tuple #[.int .i64 (r : Int), .int .i64 (s : Int), .int .i64 er]) ∧ Below w.heap.size w w'
theorem six_at {w V : World} {a b c d e f : Value} (h : V.heap[w.heap.size]? = some (.cells #[a, b, c, d, e, f] 44 (0, 0))) :
    (V.cell? ⟨w.heap.size, 1, none⟩ = some b ∧ V.cell? ⟨w.heap.size, 2, none⟩ = some c ∧ V.cell? ⟨w.heap.size, 3, none⟩ = some d) ∧ V.cell? ⟨w.heap.size, 4, none⟩ = some e ∧ V.cell? ⟨w.heap.size, 5, none⟩ = some f :=
  ⟨⟨(cell_at h 1).trans rfl, (cell_at h 2).trans rfl, (cell_at h 3).trans rfl⟩, (cell_at h 4).trans rfl, (cell_at h 5).trans rfl⟩
set_option maxHeartbeats 4000000 in
theorem rb_zero (N ls k len : Int) (n c : Nat) (A : Option Addr) (s i : Nat) (w : World) :
    Calls Tryz.prog 166 #[.agg #[.int .i64 N, .int .i64 0, .int .i64 ls, .int .i64 k, .int .i64 len, .slice A n c], .int .i64 (s : Int), .int .i64 (i : Int)] w (RbP w 0 s 0) := by
  have hb := World.alloc_heap_new w (.cells #[.int .i64 N, .int .i64 0, .int .i64 ls, .int .i64 k, .int .i64 len, .slice A n c] 44)
  have c1 := (cell_at hb 1).trans rfl
  simp only [List.getElem?_toArray, List.getElem?_cons_zero, List.getElem?_cons_succ] at c1
  clear hb
  go_enter Tryz.func166, Tryz.ntmps166
  go_wp2
  go_ret3
  exact ⟨rfl, one_below _ _⟩
set_option maxHeartbeats 4000000 in
theorem rb_l (N ls k len : Int) (B n c : Nat) (A : Option Addr) (s i m : Nat) (hB : B ≤ 7) (t0 : ((B : Int) == 0) = false) (hm : min B i = m) (v to : Nat) (hv : v ≤ 1099511627776) (e0 r : Int) (q : Bool) (hq : decide (v ≤ m) = q) (hr : rgE e0 [q] = r) (v2 to2 : Nat) (hv2 : Hid (v2 = if r = 0 then v else 0)) (hto2 : Hid (to2 = if r = 0 then to else 0)) (w : World)
    (HG : Hid (∀ V, Below w.heap.size w V → Calls Tryz.prog 185 #[.agg #[.int .i64 len, .slice A n c], .int .i64 (s : Int)] V (ReadP V v to e0))) :
    Calls Tryz.prog 166 #[.agg #[.int .i64 N, .int .i64 (B : Int), .int .i64 ls, .int .i64 k, .int .i64 len, .slice A n c], .int .i64 (s : Int), .int .i64 (i : Int)] w (RbP w v2 to2 r) := by
  have hb := World.alloc_heap_new w (.cells #[.int .i64 N, .int .i64 (B : Int), .int .i64 ls, .int .i64 k, .int .i64 len, .slice A n c] 44)
  have hbel := one_below w (.cells #[.int .i64 N, .int .i64 (B : Int), .int .i64 ls, .int .i64 k, .int .i64 len, .slice A n c] 44)
  have hsz : (w.alloc (.cells #[.int .i64 N, .int .i64 (B : Int), .int .i64 ls, .int .i64 k, .int .i64 len, .slice A n c] 44)).heap.size = w.heap.size + 1 := World.size_alloc _ _
  obtain ⟨w1, ew1⟩ : ∃ w1, w.alloc (.cells #[.int .i64 N, .int .i64 (B : Int), .int .i64 ls, .int .i64 k, .int .i64 len, .slice A n c] 44) = w1 := ⟨_, rfl⟩
  rw [ew1] at hb hbel hsz
  have HK : Hid (∀ V, Below w1.heap.size w1 V → V.heap[w.heap.size]? = some (.cells #[.int .i64 N, .int .i64 (B : Int), .int .i64 ls, .int .i64 k, .int .i64 len, .slice A n c] 44 (0, 0))) := fun V hV => (hV.block _ (by omega)).trans hb
  have HB1 := Lib.hid hbel
  have HF : Hid (∀ V, Calls Tryz.prog 198 #[.agg #[.int .i64 (B : Int), .int .i64 ls, .int .i64 k], .int .i64 (i : Int)] V fun e w' => e = .returned (.int .i64 (m : Int)) ∧ Below V.heap.size V w') := fun V => by
    have := farthest_any (B : Int) ls k (i : Int) V
    rwa [show min (B : Int) (i : Int) = (m : Int) by omega] at this
  have hm7 : m ≤ 7 := by omega
  have t1 : IntKind.u64.wrap (m : Int) = (m : Int) := by rw [IntKind.wrap_u64]; omega
  have t2 : decide ((v : Int) ≤ (m : Int)) = q := by rw [← hq]; simp
  have HRg := Lib.hid (range1 e0 q r hr)
  have HR0 : Hid (r = 0 → v ≤ 7) := fun h => by
    have h1 : q = true := by
      cases q with
      | true => rfl
      | false =>
        rw [h] at hr
        unfold rgE at hr
        by_cases h2 : e0 = 0
        · rw [if_pos ⟨h2, by simp⟩] at hr; omega
        · rw [if_neg (fun x => h2 x.1)] at hr; exact absurd hr h2
    rw [h1] at hq
    have := of_decide_eq_true hq
    omega
  obtain ⟨⟨c1, c2, c3⟩, c4, c5⟩ := six_at hb
  have hB0 : ¬ B = 0 := by simpa using t0
  have hBi : ¬ (B : Int) = 0 := by omega
  clear hm hr hb hbel hsz
  go_enter Tryz.func166, Tryz.ntmps166
  go_wp2_with fail
  try rw [ew1]
  refine (HG.out w1 HB1.out).mono ?_
  rintro e w2 ⟨rfl, q2⟩
  have HB2 := Lib.hid q2
  clear q2 ew1 c1 c2 c3 c4 c5 t0
  obtain ⟨⟨c1, c2, c3⟩, c4, c5⟩ := six_at (HK.out w2 HB2.out)
  go_wp2_with fail
  refine (HF.out w2).mono ?_
  rintro e w3 ⟨rfl, q3⟩
  have HB3 : Hid (Below w1.heap.size w1 w3) := HB2.out.trans (q3.mono HB2.out.size)
  clear q3 c1 c2 c3 c4 c5
  go_wp2_with fail
  refine (HRg.out _ _ rfl).mono ?_
  rintro e w4 ⟨rfl, q4⟩
  have HB4 : Hid (Below w1.heap.size w1 w4) := HB3.out.trans (q4.mono HB3.out.size)
  clear q4 t1 t2 hq
  by_cases hr0 : r = 0
  · have hv7 := HR0.out hr0
    have e1 := hv2.out
    have e2 := hto2.out
    rw [if_pos hr0] at e1 e2
    subst hr0
    have HE := Lib.hid (And.intro e1 e2)
    clear e1 e2 HR0
    go_wp2
    go_ret3
    exact ⟨by { obtain ⟨h1, h2⟩ := HE.out; subst h1; subst h2; rfl }, HB1.out.trans (HB4.out.mono HB1.out.size)⟩
  · have t3 : (r != 0) = true := by simpa using hr0
    have e1 := hv2.out
    have e2 := hto2.out
    rw [if_neg hr0] at e1 e2
    have HE := Lib.hid (And.intro e1 e2)
    clear e1 e2 HR0 hr0
    go_wp2
    go_ret3
    exact ⟨by { obtain ⟨h1, h2⟩ := HE.out; subst h1; subst h2; rfl }, HB1.out.trans (HB4.out.mono HB1.out.size)⟩
theorem rb_ok (N ls k : Int) (B : Nat) (hB : B ≤ 7) (L : List Bool) (hL : L.length ≤ 8192) (c : Nat) (A : Option Addr) (s i : Nat) (hs : s ≤ L.length) (w : World) (h : Rd w w.heap.size A (pack L)) :
    Calls Tryz.prog 166 #[.agg #[.int .i64 N, .int .i64 (B : Int), .int .i64 ls, .int .i64 k, .int .i64 (L.length : Int), .slice A (pack L).length c], .int .i64 (s : Int), .int .i64 (i : Int)] w (RbP w (rbV L B i s).1 (rbV L B i s).2.1 (rbV L B i s).2.2) := by
  by_cases h0 : B = 0
  · subst h0
    exact rb_zero N ls k _ _ c A s i w
  · have hb := thenR_bound L (uR L s)
    have := rb_l N ls k (L.length : Int) B (pack L).length c A s i (min B i) hB (by simp; omega) rfl (gamR L s).1 (gamR L s).2.1 hb.2 (gamR L s).2.2 _ (decide ((gamR L s).1 ≤ min B i)) rfl rfl _ _ (Lib.hid rfl) (Lib.hid rfl) w (Lib.hid fun V hV => rgamma_l L hL A c s hs V (h.on hV))
    have e1 : rgE (gamR L s).2.2 [decide ((gamR L s).1 ≤ min B i)] = (rbV L B i s).2.2 := by
      unfold rbV rgE
      rw [if_neg h0]
      by_cases q1 : (gamR L s).2.2 = 0
      · by_cases q2 : (gamR L s).1 ≤ min B i
        · rw [if_neg (by rw [decide_eq_true q2]; simp), if_pos ⟨q1, q2⟩]; exact q1
        · rw [if_pos ⟨q1, by rw [decide_eq_false q2]; simp⟩, if_neg (fun x => q2 x.2), if_pos q1]
      · rw [if_neg (fun x => q1 x.1), if_neg (fun x => q1 x.1), if_neg q1]
    rw [e1] at this
    have e2 : (if (rbV L B i s).2.2 = 0 then (gamR L s).1 else 0) = (rbV L B i s).1 ∧ (if (rbV L B i s).2.2 = 0 then (gamR L s).2.1 else 0) = (rbV L B i s).2.1 := by
      unfold rbV
      rw [if_neg h0]
      by_cases q1 : (gamR L s).2.2 = 0 ∧ (gamR L s).1 ≤ min B i
      · rw [if_pos q1]; exact ⟨rfl, rfl⟩
      · rw [if_neg q1]
        have h3 : ¬ (if (gamR L s).2.2 = 0 then (3 : Int) else (gamR L s).2.2) = 0 := by split <;> omega
        rw [if_neg h3, if_neg h3]; exact ⟨rfl, rfl⟩
    rw [e2.1, e2.2] at this
    exact this
end
end Go.Proofs.YtbddcokjkdoaaaaGreat
