/- All lists are read, or one isn't (pack.unpack): just rdA. -/
import Derived.Test.YticdnodlapafoaaGreatPkTk
namespace Go.Proofs.YticdnodlapafoaaGreat
set_option maxRecDepth 100000
set_option linter.unusedVariables false
open Go.RowKit Go.Shelf

/-- A graph that stays what it is while blocks from lo on do. -/
def RdK (lo : Nat) (w : World) (A : Option Addr) (R : List Rw) : Prop := ∀ W : World, (∀ k, lo ≤ k → k < w.heap.size → W.heap[k]? = w.heap[k]?) → w.heap.size ≤ W.heap.size → RdG W W.heap.size A R
theorem RdK.here {lo : Nat} {w : World} {A : Option Addr} {R : List Rw} (h : RdK lo w A R) : RdG w w.heap.size A R := h w (fun _ _ _ => rfl) (Nat.le_refl _)
theorem RdK.same {lo : Nat} {w X : World} {A : Option Addr} {R : List Rw} (h : RdK lo w A R) (hk : ∀ k, lo ≤ k → k < w.heap.size → X.heap[k]? = w.heap[k]?) (hs : w.heap.size ≤ X.heap.size) : RdK lo X A R :=
  fun W q1 q2 => h W (fun k k1 k2 => (q1 k k1 (Nat.lt_of_lt_of_le k2 hs)).trans (hk k k1 k2)) (Nat.le_trans hs q2)
theorem RdK.on {lo : Nat} {w X : World} {A : Option Addr} {R : List Rw} (h : RdK lo w A R) (hb : Below w.heap.size w X) : RdK lo X A R := h.same (fun k _ q => hb.block k q) hb.size
theorem RdK.mono {lo lo' : Nat} {w : World} {A : Option Addr} {R : List Rw} (h : RdK lo w A R) (hl : lo' ≤ lo) : RdK lo' w A R := fun W q1 q2 => h W (fun k k1 k2 => q1 k (by omega) k2) q2
theorem UpS.rdk {w0 W : World} {U : Nat} {N B ls k : Int} {L : List Bool} {A : Option Addr} {c s : Nat} {G : List (List Nat)} {m : Nat} {gA : Option Addr} {gc : Nat} {R : List Rw} (h : UpS w0 W U N B ls k L A c s G m (.slice gA m gc) R) (hG : RowsR G) : RdK (U + 1) W gA R := by
  intro X hk hz
  refine ⟨?_, fun r hr => ⟨?_, ?_⟩⟩
  · refine own_rdvT (own_kept (Y := X) h.own fun g hg => hk g ?_ ?_)
    · exact (own_lt h.own hg).1
    · exact (own_lt h.own hg).2.1
  · obtain ⟨q1, -, -, q4⟩ := h.rows r hr
    exact rdv_kept q1 (fun h0 b o s e hb => hk b (by have := (q4 h0 b o s e).1; omega) hb) hz
  · have hm : r.2.2 ∈ gs R := List.mem_map.2 ⟨r, hr, rfl⟩
    rw [h.eq] at hm
    obtain ⟨l, hl, e⟩ := List.mem_map.1 hm
    rw [← e, ns_length]
    have := (hG l hl).1
    omega
def UnG (w : World) (r : Option (List (List Nat) × Nat)) (e : Ending) (w' : World) : Prop :=
  match r with
  | some (G, s) => ∃ AG cG R, e = .returned (.tuple #[.agg #[.slice AG G.length cG], .int .i64 0]) ∧ gs R = G.map ns ∧ (∀ r ∈ R, r.2.2.length ≤ r.2.1) ∧ RdK w.heap.size w' AG R ∧ Below w.heap.size w w'
  | none => ∃ er, e = .returned (.tuple #[.agg #[.slice none 0 0], .int .i64 er]) ∧ er ≠ 0 ∧ Below w.heap.size w w'
theorem info_up : (Tryz.prog.info? 143).map (·.size) = some 8 := by kernel_rfl
theorem run_build_up (N B ls k len : Int) (A : Option Addr) (n c : Nat) (w : World) : (Instr.build 143 #[(0, .agg #[.int .i64 N, .int .i64 B, .int .i64 ls, .int .i64 k, .int .i64 len, .slice A n c])]).run Tryz.prog w = .ok (.agg #[.int .i64 N, .int .i64 B, .int .i64 ls, .int .i64 k, .int .i64 len, .slice A n c, .int .i64 0, .slice none 0 0]) w := by kernel_rfl
theorem up_new (w2 : World) (vs : List Value) (hl : vs.length = 8) : ∃ X, (w2.alloc (.cells #[.int .i64 0, .int .i64 0, .int .i64 0, .int .i64 0, .int .i64 0, .slice none 0 0, .int .i64 0, .slice none 0 0] 143)).setCells w2.heap.size 0 vs = X ∧ (w2.alloc (.cells #[.int .i64 0, .int .i64 0, .int .i64 0, .int .i64 0, .int .i64 0, .slice none 0 0, .int .i64 0, .slice none 0 0] 143)).there w2.heap.size 0 8 ∧ X.heap[w2.heap.size]? = some (.cells vs.toArray 143 (0, 0)) ∧ Below w2.heap.size w2 X ∧ w2.heap.size < X.heap.size := by
  have hz := World.alloc_heap_new w2 (.cells #[.int .i64 0, .int .i64 0, .int .i64 0, .int .i64 0, .int .i64 0, .slice none 0 0, .int .i64 0, .slice none 0 0] 143)
  obtain ⟨h8, -, hs, hb⟩ := stored_all vs hz (by rw [hl]; rfl)
  exact ⟨_, rfl, there_all hz rfl, h8, (one_below w2 _).trans (hb _ (Nat.le_refl _)), by rw [hs, World.size_alloc]; omega⟩
set_option maxHeartbeats 8000000 in
theorem unpack_ok (N B ls k : Nat) (hN : N ≤ 100) (hB : B ≤ 7) (hls : ls = 0 ∨ 2 ≤ ls ∧ ls ≤ 300) (hk : 1 ≤ k) (hk2 : k ≤ 16) (L : List Bool) (hL : L.length ≤ 8192) (A : Option Addr) (c : Nat) (w : World) (h : Rd w w.heap.size A (pack L)) (r : Option (List (List Nat) × Nat)) (hr : rdA L B ls k N = r) :
    Calls Tryz.prog 65 #[.agg #[.int .i64 (N : Int), .int .i64 (B : Int), .int .i64 (ls : Int), .int .i64 (k : Int), .int .i64 (L.length : Int), .slice A (pack L).length c]] w (UnG w r) := by
  obtain ⟨w0, ew0⟩ : ∃ w0, (w.alloc (.cells #[.int .i64 (N : Int), .int .i64 (B : Int), .int .i64 (ls : Int), .int .i64 (k : Int), .int .i64 (L.length : Int), .slice A (pack L).length c] 54)).alloc (.cells #[.slice none 0 0] 52) = w0 := ⟨_, rfl⟩
  have s0 : w0.heap.size = w.heap.size + 2 := by rw [← ew0]; simp [World.size_alloc]
  have hb0 : Below w.heap.size w w0 := by rw [← ew0]; exact (one_below w _).trans ((one_below _ _).mono (by rw [World.size_alloc]; omega))
  have g0 : w0.heap[w.heap.size]? = some (.cells #[.int .i64 (N : Int), .int .i64 (B : Int), .int .i64 (ls : Int), .int .i64 (k : Int), .int .i64 (L.length : Int), .slice A (pack L).length c] 54 (0, 0)) := by
    rw [← ew0, (one_below _ _).block _ (by rw [World.size_alloc]; omega)]; exact World.alloc_heap_new w _
  have g1 : w0.heap[w.heap.size + 1]? = some (.cells #[.slice none 0 0] 52 (0, 0)) := by
    rw [← ew0]
    have := World.alloc_heap_new (w.alloc (.cells #[.int .i64 (N : Int), .int .i64 (B : Int), .int .i64 (ls : Int), .int .i64 (k : Int), .int .i64 (L.length : Int), .slice A (pack L).length c] 54)) (.cells #[.slice none 0 0] 52)
    rwa [World.size_alloc] at this
  obtain ⟨W1, hW1, hth, hu1, hbu, hzu⟩ := up_new w0 [.int .i64 (N : Int), .int .i64 (B : Int), .int .i64 (ls : Int), .int .i64 (k : Int), .int .i64 (L.length : Int), .slice A (pack L).length c, .int .i64 0, .slice none 0 0] rfl
  have hU0 : UpS w0 W1 w0.heap.size (N : Int) (B : Int) (ls : Int) (k : Int) L A c 0 [] 0 (.slice none 0 0) [] := ⟨hbu, Nat.le_refl _, hu1, rfl, rfl, ⟨rfl, .inl ⟨rfl, rfl⟩⟩, fun r hr => by simp at hr⟩
  have HU0 := Lib.hid hU0
  have HR0 := Lib.hid (h.on hb0)
  have HB0 := Lib.hid hb0
  have HG1 : Hid (∀ V, Below w0.heap.size w0 V → V.heap[w.heap.size + 1]? = some (.cells #[.slice none 0 0] 52 (0, 0))) := fun V hV => (hV.block _ (by omega)).trans g1
  have HS0 := Lib.hid s0
  have hrg := range_all (cs := [.int .i64 (N : Int), .int .i64 (B : Int), .int .i64 (ls : Int), .int .i64 (k : Int), .int .i64 (L.length : Int), .slice A (pack L).length c]) g0
  have x0 : W1.cell? ⟨w.heap.size, 0, none⟩ = some (.int .i64 (N : Int)) := (cell_at ((hbu.block _ (by omega)).trans g0) 0).trans rfl
  have HTk : Hid (∀ (i s : Nat) (G : List (List Nat)) (v : Value) (R : List Rw) (V : World), i < N → rdA L B ls k i = some (G, s) → UpS w0 V w0.heap.size (N : Int) (B : Int) (ls : Int) (k : Int) L A c s G i v R → Calls Tryz.prog 94 #[.pointer (some ⟨w0.heap.size, 0, none⟩)] V (TkG w0 V w0.heap.size (N : Int) (B : Int) (ls : Int) (k : Int) L A c G i R (rdN L B ls k G i s))) := fun i s G v R V hi hA hU => by
    obtain ⟨q1, q2⟩ := rdA_inv hk i G s (by omega) hA
    exact take_ok hU (by omega) hB hls hk hk2 hL q2 q1 HR0.out _ rfl
  have HInv : Hid (∀ i G s, i ≤ N → rdA L B ls k i = some (G, s) → RowsR G ∧ G.length = i) := fun i G s hi hA => ⟨(rdA_inv hk i G s (by omega) hA).1, rdA_len L B ls k i G s hA⟩
  have HRr := Lib.hid hr
  have HNone : Hid (∀ i G s, i < N → rdA L B ls k i = some (G, s) → rdN L B ls k G i s = none → r = none) := fun i G s hi hA hn => by
    rw [← hr]
    have : ∀ d, rdA L B ls k (i + 1 + d) = none := fun d => by
      induction d with
      | zero => show rdA L B ls k (i + 1) = none; unfold rdA; rw [hA]; simp only; rw [hn]
      | succ d ih => show rdA L B ls k (i + 1 + d + 1) = none; unfold rdA; rw [ih]
    have := this (N - (i + 1))
    rwa [show i + 1 + (N - (i + 1)) = N by omega] at this
  clear h hb0 g0 g1 hu1 hbu hzu hU0 s0 hr hB hls hk hk2 hL
  go_enter Tryz.func65, Tryz.ntmps65
  go_wp2_with (first | (refine wpList_load_mid rfl 54 _ rfl w.heap.size 0 rfl [.int .i64 (N : Int), .int .i64 (B : Int), .int .i64 (ls : Int), .int .i64 (k : Int), .int .i64 (L.length : Int), .slice A (pack L).length c] _ (by first | exact hrg | (rw [ew0]; exact hrg)) Tryz.underlying54 rfl info_pd ?_) | (refine wpList_build rfl _ _ rfl #[(0, .agg #[.int .i64 (N : Int), .int .i64 (B : Int), .int .i64 (ls : Int), .int .i64 (k : Int), .int .i64 (L.length : Int), .slice A (pack L).length c])] (by kernel_rfl) _ (run_build_up ..) ?_) | (refine wpList_store_mid rfl 143 _ _ rfl w0.heap.size 0 #[.int .i64 (N : Int), .int .i64 (B : Int), .int .i64 (ls : Int), .int .i64 (k : Int), .int .i64 (L.length : Int), .slice A (pack L).length c, .int .i64 0, .slice none 0 0] rfl rfl hth info_up (by simp [Value.oneCell']) ?_; rw [hW1]; clear hW1 hth))
  clear x0 hrg
  go_loopw [10] (fun p wr => ∃ (i s : Nat) (G : List (List Nat)) (v : Value) (R : List Rw), i ≤ N ∧ p = .int .i64 (i : Int) ∧ rdA L B ls k i = some (G, s) ∧ UpS w0 wr w0.heap.size (N : Int) (B : Int) (ls : Int) (k : Int) L A c s G i v R) (fun p _ => N - (intOf p).toNat)
  case atStart => exact ⟨0, 0, [], _, [], Nat.zero_le _, rfl, rfl, HU0.out⟩
  case round =>
   as_aux_lemma =>
    clear HU0
    obtain ⟨i, s, G, v, R, hi, rfl, hA, hU⟩ := hrel
    have HU := Lib.hid hU
    by_cases hlt : i < N
    · have t2 : decide ((i : Int) < (N : Int)) = true := by simp; omega
      have t3 : decide (i < N) = true := by simpa using hlt
      have HC := Lib.hid (HTk.out i s G v R wr hlt hA hU)
      have HAi := Lib.hid hA
      clear hU hA
      cases hn : rdN L B ls k G i s with
      | none =>
        have HNo := Lib.hid (HNone.out i G s hlt HAi.out hn)
        rw [hn] at HC
        clear hn
        go_wp2_with fail
        refine HC.out.mono ?_
        rintro e wq ⟨er, rfl, her, bq⟩
        have HE0 := Lib.hid her
        have t9 : (er != 0) = true := by simpa using her
        have hbq := HU.out.low.trans (bq.mono HU.out.low.size)
        have hg1 := HG1.out wq hbq
        have m0 := box_cell hg1
        have f0 := frz_at hg1 0
        have HB9 := Lib.hid hbq
        clear her bq hbq hg1
        go_wp2
        refine bodyPost_ret (v := .tuple #[.agg #[.slice none 0 0], .int .i64 er]) (by simp [results, Tryz.results65, go_sem, m0]) rfl ?_
        rw [HNo.out]
        exact ⟨er, rfl, HE0.out, (HB0.out.trans (HB9.out.mono HB0.out.size)).setCell (p := ⟨w.heap.size + 1, 0, none⟩) (by simp only; omega) _⟩
      | some q =>
        obtain ⟨l, s'⟩ := q
        have HAn : Hid (rdA L B ls k (i + 1) = some (G ++ [l], s')) := by
          show _ = _
          unfold rdA; rw [HAi.out]; simp only; rw [hn]
        rw [hn] at HC
        clear hn
        go_wp2_with fail
        refine HC.out.mono ?_
        rintro e wq ⟨rfl, v', A1, c1, hU'⟩
        have HU' := Lib.hid hU'
        clear hU'
        go_wp2
        go_roundw
        case rel => exact ⟨i + 1, s', _, _, _, hlt, by go_num, HAn.out, HU'.out⟩
        case measure => simp [intOf]; omega
    · obtain rfl : i = N := by omega
      have t2 : decide (i < i) = false := by simp
      obtain ⟨gA, gc, rfl⟩ := own_sliceK hU.own
      obtain ⟨hG, hGl⟩ := HInv.out i G s (Nat.le_refl _) hA
      have HK := Lib.hid (hU.rdk hG)
      have hg1 := HG1.out wr hU.low
      have m0 := box_cell hg1
      have f0 := frz_at hg1 0
      have x7 : wr.cell? ⟨w0.heap.size, 7, none⟩ = some (.slice gA i gc) := (cell_at hU.row 7).trans rfl
      have HRs : Hid (r = some (G, s)) := by rw [← HRr.out]; exact hA
      have HGl := Lib.hid hGl
      have hlt9 : w.heap.size + 1 < wr.heap.size := by have := hU.low.size; have := HS0.out; omega
      clear hU hA hg1 hG hGl hlt
      go_wp2
      refine bodyPost_ret (v := .tuple #[.agg #[.slice gA i gc], .int .i64 0]) (by simp [results, Tryz.results65, go_sem, m0]) rfl ?_
      rw [HRs.out]
      refine ⟨gA, gc, R, by rw [HGl.out], HU.out.eq, fun r hr => (HU.out.rows r hr).2.1, ?_, (HB0.out.trans (HU.out.low.mono HB0.out.size)).setCell (p := ⟨w.heap.size + 1, 0, none⟩) (by simp only; omega) _⟩
      refine (HK.out.same (fun k k1 _ => Below.heap_setCell wr ⟨w.heap.size + 1, 0, none⟩ _ k (by have := HS0.out; show k ≠ w.heap.size + 1; omega)) (by simp [World.setCell])).mono (by have := HS0.out; omega)
end Go.Proofs.YticdnodlapafoaaGreat
