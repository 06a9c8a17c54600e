/- What pack answers in letters: pack.pack of what is not right; Write and Told over it. -/
import Derived.Test.YticdnodlapafoaaGreatPkPak
import Derived.Test.YticdnodlapafoaaGreatJS8
import Derived.BigQuiet
import Derived.Deep.QuietTactic
namespace Go.Proofs.YticdnodlapafoaaGreat
set_option maxRecDepth 100000
set_option linter.unusedVariables false
open Go.RowKit Go.Shelf

def PaP (w : World) (N B ls k len : Int) (n : Nat) (bs : List Nat) (n1 : Nat) (xs1 : List Int) (n2 : Nat) (xs2 : List Int) (er : Int) (e : Ending) (w' : World) : Prop :=
  ∃ A c A1 c1 A2 c2, e = .returned (.tuple #[pkV N B ls k len (.slice A n c) (.slice A1 n1 c1) (.slice A2 n2 c2), .int .i64 er]) ∧ Rd w' w'.heap.size A bs ∧ RdV w' w'.heap.size A1 (zc xs1) ∧ RdV w' w'.heap.size A2 (zc xs2) ∧ Below w.heap.size w w'
def PwP (w : World) (N B ls k len : Int) (n : Nat) (bs : List Nat) (er : Int) (e : Ending) (w' : World) : Prop :=
  ∃ A c, e = .returned (.tuple #[.agg #[.int .i64 N, .int .i64 B, .int .i64 ls, .int .i64 k, .int .i64 len, .slice A n c], .int .i64 er]) ∧ Rd w' w'.heap.size A bs ∧ Below w.heap.size w w'
def PtP (w : World) (n1 : Nat) (xs1 : List Int) (n2 : Nat) (xs2 : List Int) (er : Int) (e : Ending) (w' : World) : Prop :=
  ∃ A1 c1 A2 c2, e = .returned (.tuple #[.slice A1 n1 c1, .slice A2 n2 c2, .int .i64 er]) ∧ RdV w' w'.heap.size A1 (zc xs1) ∧ RdV w' w'.heap.size A2 (zc xs2) ∧ Below w.heap.size w w'
theorem three_at (w : World) (N : Nat) (B ls k : Int) (AG : Option Addr) (cG : Nat) (o : Obj) : ∃ w1, ((w.alloc (.cells #[.slice AG N cG] 52)).alloc (.cells #[.int .i64 B, .int .i64 ls, .int .i64 k] 24)).alloc o = w1 ∧
    w1.heap.size = w.heap.size + 3 ∧ Below w.heap.size w w1 ∧ w1.heap[w.heap.size]? = some (.cells #[.slice AG N cG] 52 (0, 0)) ∧ w1.heap[w.heap.size + 1]? = some (.cells #[.int .i64 B, .int .i64 ls, .int .i64 k] 24 (0, 0)) ∧ w1.heap[w.heap.size + 1 + 1]? = some o := by
  obtain ⟨w1, ew1⟩ : ∃ w1, ((w.alloc (.cells #[.slice AG N cG] 52)).alloc (.cells #[.int .i64 B, .int .i64 ls, .int .i64 k] 24)).alloc o = w1 := ⟨_, rfl⟩
  refine ⟨w1, ew1, by rw [← ew1]; simp [World.size_alloc], ?_, ?_, ?_, ?_⟩
  · rw [← ew1]
    exact (one_below w _).trans (((one_below _ _).mono (by rw [World.size_alloc]; omega)).trans ((one_below _ _).mono (by rw [World.size_alloc, World.size_alloc]; omega)))
  · rw [← ew1, (one_below _ _).block _ (by rw [World.size_alloc, World.size_alloc]; omega), (one_below _ _).block _ (by rw [World.size_alloc]; omega)]; exact World.alloc_heap_new w _
  · rw [← ew1, (one_below _ _).block _ (by rw [World.size_alloc, World.size_alloc]; omega)]
    have := World.alloc_heap_new (w.alloc (.cells #[.slice AG N cG] 52)) (.cells #[.int .i64 B, .int .i64 ls, .int .i64 k] 24)
    rwa [World.size_alloc] at this
  · rw [← ew1]
    have := World.alloc_heap_new ((w.alloc (.cells #[.slice AG N cG] 52)).alloc (.cells #[.int .i64 B, .int .i64 ls, .int .i64 k] 24)) o
    rwa [World.size_alloc, World.size_alloc] at this
theorem two_at (w : World) (N : Nat) (B ls k : Int) (AG : Option Addr) (cG : Nat) : ∃ w1, ((w.alloc (.cells #[.slice AG N cG] 52)).alloc (.cells #[.int .i64 B, .int .i64 ls, .int .i64 k] 24)) = w1 ∧
    w1.heap.size = w.heap.size + 2 ∧ Below w.heap.size w w1 ∧ w1.heap[w.heap.size]? = some (.cells #[.slice AG N cG] 52 (0, 0)) ∧ w1.heap[w.heap.size + 1]? = some (.cells #[.int .i64 B, .int .i64 ls, .int .i64 k] 24 (0, 0)) := by
  obtain ⟨w1, ew1⟩ : ∃ w1, ((w.alloc (.cells #[.slice AG N cG] 52)).alloc (.cells #[.int .i64 B, .int .i64 ls, .int .i64 k] 24)) = w1 := ⟨_, rfl⟩
  refine ⟨w1, ew1, by rw [← ew1]; simp [World.size_alloc], ?_, ?_, ?_⟩
  · rw [← ew1]
    exact (one_below w _).trans ((one_below _ _).mono (by rw [World.size_alloc]; omega))
  · rw [← ew1, (one_below _ _).block _ (by rw [World.size_alloc]; omega)]; exact World.alloc_heap_new w _
  · rw [← ew1]
    have := World.alloc_heap_new (w.alloc (.cells #[.slice AG N cG] 52)) (.cells #[.int .i64 B, .int .i64 ls, .int .i64 k] 24)
    rwa [World.size_alloc] at this
theorem how_at {w : World} {b : Nat} {B ls k : Int} (h : w.heap[b]? = some (.cells #[.int .i64 B, .int .i64 ls, .int .i64 k] 24 (0, 0))) : w.cell? ⟨b, 0, none⟩ = some (.int .i64 B) ∧ w.cell? ⟨b, 1, none⟩ = some (.int .i64 ls) ∧ w.cell? ⟨b, 2, none⟩ = some (.int .i64 k) :=
  ⟨(cell_at h 0).trans rfl, (cell_at h 1).trans rfl, (cell_at h 2).trans rfl⟩
set_option maxHeartbeats 4000000 in
theorem pack_e (R : List Rw) (N : Nat) (hN : R.length = N) (hn : N ≤ 140737488355328) (B ls k e0 : Int) (he : (if grE (gs R) = 0 then hck B ls k else grE (gs R)) = e0) (h0 : e0 ≠ 0) (AG : Option Addr) (cG : Nat) (w : World) (hG : RdG w w.heap.size AG R) :
    Calls Tryz.prog 63 #[.agg #[.slice AG N cG], .agg #[.int .i64 B, .int .i64 ls, .int .i64 k]] w (PaP w 0 0 0 0 0 0 [] 0 [] 0 [] e0) := by
  have HGc : Hid (∀ V, Below w.heap.size w V → Calls Tryz.prog 92 #[.agg #[.slice AG N cG]] V fun e w' => e = .returned (.int .i64 (grE (gs R))) ∧ Below V.heap.size V w') := fun V hV => gchk_any R N hN hn AG cG V (hG.on hV)
  have HSc : Hid (∀ V : World, Calls Tryz.prog 20 #[.agg #[.int .i64 B, .int .i64 ls, .int .i64 k]] V fun e w' => e = .returned (.int .i64 (hck B ls k)) ∧ Below V.heap.size V w') := fun V => scheck_any B ls k V
  have t1 : (e0 != 0) = true := by simpa using h0
  obtain ⟨w1, ew1, s1, hb1, g2, g3, g4⟩ := three_at w N B ls k AG cG (.cells #[.int .i64 0, .int .i64 0, .int .i64 0, .int .i64 0, .int .i64 0, .slice none 0 0, .slice none 0 0, .slice none 0 0] 103)
  have k0 := box_cell g2
  have HK : Hid (∀ V, Below w1.heap.size w1 V → V.heap[w.heap.size + 1]? = some (.cells #[.int .i64 B, .int .i64 ls, .int .i64 k] 24 (0, 0)) ∧ V.heap[w.heap.size + 1 + 1]? = some (.cells #[.int .i64 0, .int .i64 0, .int .i64 0, .int .i64 0, .int .i64 0, .slice none 0 0, .slice none 0 0, .slice none 0 0] 103 (0, 0))) := fun V hV => ⟨(hV.block _ (by omega)).trans g3, (hV.block _ (by omega)).trans g4⟩
  have HB1 := Lib.hid hb1
  have HE : Hid (∀ W V : World, Below w.heap.size w W → W.heap[w.heap.size + 1 + 1]? = some (.cells #[.int .i64 0, .int .i64 0, .int .i64 0, .int .i64 0, .int .i64 0, .slice none 0 0, .slice none 0 0, .slice none 0 0] 103 (0, 0)) → Below w.heap.size w (W.setCells (w.heap.size + 1 + 1) 0 [.int .i64 0, .int .i64 0, .int .i64 0, .int .i64 0, .int .i64 0, .slice none 0 0, .slice none 0 0, .slice none 0 0])) := fun W V h1 h2 => below_setAll _ (by omega) _ _ _ h1
  clear hb1 s1 g2 g3 g4 hG h0
  by_cases hg : grE (gs R) = 0
  · rw [if_pos hg] at he
    rw [he] at HSc
    rw [hg] at HGc
    clear hg he
    go_enter Tryz.func63, Tryz.ntmps63
    go_wp2_with fail
    try rw [ew1]
    refine (HGc.out w1 HB1.out).mono ?_
    rintro e w2 ⟨rfl, q2⟩
    have HB2 := Lib.hid q2
    obtain ⟨k1, k2, k3⟩ := how_at (HK.out w2 HB2.out).1
    clear q2 ew1 k0
    go_wp2_with fail
    refine (HSc.out w2).mono ?_
    rintro e w3 ⟨rfl, q3⟩
    have HB3 : Hid (Below w1.heap.size w1 w3) := HB2.out.trans (q3.mono HB2.out.size)
    have hr := (HK.out w3 HB3.out).2
    have hth := there_all hr (n := 8) rfl
    obtain ⟨h8, -, -, -⟩ := stored_all [.int .i64 0, .int .i64 0, .int .i64 0, .int .i64 0, .int .i64 0, .slice none 0 0, .slice none 0 0, .slice none 0 0] hr rfl
    have HB8 := Lib.hid (HE.out w3 w3 (HB1.out.trans (HB3.out.mono HB1.out.size)) hr)
    clear q3 k1 k2 k3 hr
    go_wp2_with (first | (refine wpList_build rfl _ _ rfl #[] (by kernel_rfl) _ (run_build_pk0 _) ?_) | (refine wpList_store_mid rfl 103 _ _ rfl (w.heap.size + 1 + 1) 0 #[.int .i64 0, .int .i64 0, .int .i64 0, .int .i64 0, .int .i64 0, .slice none 0 0, .slice none 0 0, .slice none 0 0] rfl rfl hth info_pk (by simp [Value.oneCell']) ?_))
    show bodyPost _ _ _ _ _ (w3.setCells (w.heap.size + 1 + 1) 0 [.int .i64 0, .int .i64 0, .int .i64 0, .int .i64 0, .int .i64 0, .slice none 0 0, .slice none 0 0, .slice none 0 0])
    generalize w3.setCells (w.heap.size + 1 + 1) 0 [.int .i64 0, .int .i64 0, .int .i64 0, .int .i64 0, .int .i64 0, .slice none 0 0, .slice none 0 0, .slice none 0 0] = Wf at *
    have c0 := (cell_at h8 0).trans rfl; have c1 := (cell_at h8 1).trans rfl; have c2 := (cell_at h8 2).trans rfl; have c3 := (cell_at h8 3).trans rfl
    have c4 := (cell_at h8 4).trans rfl; have c5 := (cell_at h8 5).trans rfl; have c6 := (cell_at h8 6).trans rfl; have c7 := (cell_at h8 7).trans rfl
    simp only [List.getElem?_toArray, List.getElem?_cons_zero, List.getElem?_cons_succ] at c0 c1 c2 c3 c4 c5 c6 c7
    exact bodyPost_ret (v := .tuple #[pkZ, .int .i64 e0]) (by simp [results, Tryz.results63, go_sem, pkZ, pkV, c0, c1, c2, c3, c4, c5, c6, c7]) rfl ⟨none, 0, none, 0, none, 0, rfl, .inl rfl, .inl rfl, .inl rfl, HB8.out⟩
  · rw [if_neg hg] at he
    rw [he] at HGc
    clear hg he HSc
    go_enter Tryz.func63, Tryz.ntmps63
    go_wp2_with fail
    try rw [ew1]
    refine (HGc.out w1 HB1.out).mono ?_
    rintro e w3 ⟨rfl, q2⟩
    have HB3 := Lib.hid q2
    have hr := (HK.out w3 HB3.out).2
    have hth := there_all hr (n := 8) rfl
    obtain ⟨h8, -, -, -⟩ := stored_all [.int .i64 0, .int .i64 0, .int .i64 0, .int .i64 0, .int .i64 0, .slice none 0 0, .slice none 0 0, .slice none 0 0] hr rfl
    have HB8 := Lib.hid (HE.out w3 w3 (HB1.out.trans (HB3.out.mono HB1.out.size)) hr)
    clear q2 ew1 k0 hr
    go_wp2_with (first | (refine wpList_build rfl _ _ rfl #[] (by kernel_rfl) _ (run_build_pk0 _) ?_) | (refine wpList_store_mid rfl 103 _ _ rfl (w.heap.size + 1 + 1) 0 #[.int .i64 0, .int .i64 0, .int .i64 0, .int .i64 0, .int .i64 0, .slice none 0 0, .slice none 0 0, .slice none 0 0] rfl rfl hth info_pk (by simp [Value.oneCell']) ?_))
    show bodyPost _ _ _ _ _ (w3.setCells (w.heap.size + 1 + 1) 0 [.int .i64 0, .int .i64 0, .int .i64 0, .int .i64 0, .int .i64 0, .slice none 0 0, .slice none 0 0, .slice none 0 0])
    generalize w3.setCells (w.heap.size + 1 + 1) 0 [.int .i64 0, .int .i64 0, .int .i64 0, .int .i64 0, .int .i64 0, .slice none 0 0, .slice none 0 0, .slice none 0 0] = Wf at *
    have c0 := (cell_at h8 0).trans rfl; have c1 := (cell_at h8 1).trans rfl; have c2 := (cell_at h8 2).trans rfl; have c3 := (cell_at h8 3).trans rfl
    have c4 := (cell_at h8 4).trans rfl; have c5 := (cell_at h8 5).trans rfl; have c6 := (cell_at h8 6).trans rfl; have c7 := (cell_at h8 7).trans rfl
    simp only [List.getElem?_toArray, List.getElem?_cons_zero, List.getElem?_cons_succ] at c0 c1 c2 c3 c4 c5 c6 c7
    exact bodyPost_ret (v := .tuple #[pkZ, .int .i64 e0]) (by simp [results, Tryz.results63, go_sem, pkZ, pkV, c0, c1, c2, c3, c4, c5, c6, c7]) rfl ⟨none, 0, none, 0, none, 0, rfl, .inl rfl, .inl rfl, .inl rfl, HB8.out⟩
theorem pk_new (w2 : World) (vs : List Value) (hl : vs.length = 8) : ∃ X, (w2.alloc (.cells #[.int .i64 0, .int .i64 0, .int .i64 0, .int .i64 0, .int .i64 0, .slice none 0 0, .slice none 0 0, .slice none 0 0] 103)).setCells w2.heap.size 0 vs = X ∧ (w2.alloc (.cells #[.int .i64 0, .int .i64 0, .int .i64 0, .int .i64 0, .int .i64 0, .slice none 0 0, .slice none 0 0, .slice none 0 0] 103)).there w2.heap.size 0 8 ∧ X.heap[w2.heap.size]? = some (.cells vs.toArray 103 (0, 0)) ∧ Below w2.heap.size w2 X ∧ w2.heap.size < X.heap.size := by
  have hz := World.alloc_heap_new w2 (.cells #[.int .i64 0, .int .i64 0, .int .i64 0, .int .i64 0, .int .i64 0, .slice none 0 0, .slice none 0 0, .slice none 0 0] 103)
  obtain ⟨h8, -, hs, hb⟩ := stored_all vs hz (by rw [hl]; rfl)
  exact ⟨_, rfl, there_all hz rfl, h8, (one_below w2 _).trans (hb _ (Nat.le_refl _)), by rw [hs, World.size_alloc]; omega⟩
theorem info_pd : (Tryz.prog.info? 54).map (·.size) = some 6 := by kernel_rfl
set_option maxHeartbeats 4000000 in
theorem write_l (NG : Nat) (B ls k : Int) (AG : Option Addr) (cG : Nat) (N B' ls' k' len : Int) (n : Nat) (bs : List Nat) (n1 : Nat) (xs1 : List Int) (n2 : Nat) (xs2 : List Int) (er : Int) (w : World)
    (HP : Hid (∀ V, Below w.heap.size w V → Calls Tryz.prog 63 #[.agg #[.slice AG NG cG], .agg #[.int .i64 B, .int .i64 ls, .int .i64 k]] V (PaP V N B' ls' k' len n bs n1 xs1 n2 xs2 er))) :
    Calls Tryz.prog 30 #[.agg #[.slice AG NG cG], .agg #[.int .i64 B, .int .i64 ls, .int .i64 k]] w (PwP w N B' ls' k' len n bs er) := by
  obtain ⟨w1, ew1, s1, hb1, g2, g3, g4⟩ := three_at w NG B ls k AG cG (.cells #[.int .i64 0, .int .i64 0, .int .i64 0, .int .i64 0, .int .i64 0, .slice none 0 0] 54)
  have k0 := box_cell g2
  obtain ⟨k1, k2, k3⟩ := how_at g3
  have HK : Hid (∀ V, Below w1.heap.size w1 V → V.heap[w.heap.size + 1 + 1]? = some (.cells #[.int .i64 0, .int .i64 0, .int .i64 0, .int .i64 0, .int .i64 0, .slice none 0 0] 54 (0, 0))) := fun V hV => (hV.block _ (by omega)).trans g4
  have HB1 := Lib.hid hb1
  have HS1 := Lib.hid s1
  clear hb1 s1 g2 g3 g4
  go_enter Tryz.func30, Tryz.ntmps30
  go_wp2_with fail
  try rw [ew1]
  refine (HP.out w1 HB1.out).mono ?_
  rintro e w2 ⟨A, c, A1, c1, A2, c2, rfl, r1, -, -, q2⟩
  have HB2 := Lib.hid q2
  obtain ⟨X, hX, hth8, h8, hbX, hzX⟩ := pk_new w2 [.int .i64 N, .int .i64 B', .int .i64 ls', .int .i64 k', .int .i64 len, .slice A n c, .slice A1 n1 c1, .slice A2 n2 c2] rfl
  have HR2 := Lib.hid (r1.on hbX)
  have HB3 : Hid (Below w1.heap.size w1 X) := HB2.out.trans (hbX.mono HB2.out.size)
  have hr := HK.out _ HB3.out
  have hrg : X.rangeAt w2.heap.size 0 [.int .i64 N, .int .i64 B', .int .i64 ls', .int .i64 k', .int .i64 len, .slice A n c] := fun j v hv => range_all (cs := [.int .i64 N, .int .i64 B', .int .i64 ls', .int .i64 k', .int .i64 len, .slice A n c, .slice A1 n1 c1, .slice A2 n2 c2]) h8 j v (by
    have hj : j < 6 := by have := (List.getElem?_eq_some_iff.1 hv).1; simpa using this
    rw [← hv]
    match j, hj with
    | 0, _ => rfl
    | 1, _ => rfl
    | 2, _ => rfl
    | 3, _ => rfl
    | 4, _ => rfl
    | 5, _ => rfl)
  have hth := there_all hr (n := 6) rfl
  obtain ⟨h6, hk6, hs6, hB6⟩ := stored_all [.int .i64 N, .int .i64 B', .int .i64 ls', .int .i64 k', .int .i64 len, .slice A n c] hr rfl
  have HF := Lib.hid (hB6 w.heap.size (by omega))
  have HR : Hid (Rd (X.setCells (w.heap.size + 1 + 1) 0 [.int .i64 N, .int .i64 B', .int .i64 ls', .int .i64 k', .int .i64 len, .slice A n c]) (X.setCells (w.heap.size + 1 + 1) 0 [.int .i64 N, .int .i64 B', .int .i64 ls', .int .i64 k', .int .i64 len, .slice A n c]).heap.size A bs) := by
    rcases HR2.out with h | ⟨g, off, rfl, hg, hc⟩
    · exact .inl h
    · refine .inr ⟨g, off, rfl, by rw [hs6]; exact hg, fun i hi => ?_⟩
      have h1 := hc i hi
      have hne : g ≠ w.heap.size + 1 + 1 := by
        rintro rfl
        simp only [World.cell?, hr] at h1
        rcases hoi : off + i with _ | _ | _ | _ | _ | _ | m <;> rw [hoi] at h1 <;> simp at h1
      unfold World.cell? at h1 ⊢
      simp only at h1 ⊢
      rw [hk6 g hne]; exact h1
  clear r1 q2 ew1 k0 k1 k2 k3 HP hk6 hs6 hB6 h8 hr hbX hzX
  go_wp2_with (first | (refine wpList_store_mid rfl 103 _ _ rfl w2.heap.size 0 #[.int .i64 N, .int .i64 B', .int .i64 ls', .int .i64 k', .int .i64 len, .slice A n c, .slice A1 n1 c1, .slice A2 n2 c2] rfl rfl hth8 info_pk (by simp [Value.oneCell']) ?_; rw [hX]; clear hX hth8) | (refine wpList_load_mid rfl 54 _ rfl w2.heap.size 0 rfl [.int .i64 N, .int .i64 B', .int .i64 ls', .int .i64 k', .int .i64 len, .slice A n c] _ hrg Tryz.underlying54 rfl info_pd ?_) | (refine wpList_store_mid rfl 54 _ _ rfl (w.heap.size + 1 + 1) 0 #[.int .i64 N, .int .i64 B', .int .i64 ls', .int .i64 k', .int .i64 len, .slice A n c] rfl rfl hth info_pd (by simp [Value.oneCell']) ?_))
  have HFin : Hid (Below w.heap.size w (X.setCells (w.heap.size + 1 + 1) 0 [.int .i64 N, .int .i64 B', .int .i64 ls', .int .i64 k', .int .i64 len, .slice A n c])) := (HB1.out.trans (HB3.out.mono HB1.out.size)).trans HF.out
  show bodyPost _ _ _ _ _ (X.setCells (w.heap.size + 1 + 1) 0 [.int .i64 N, .int .i64 B', .int .i64 ls', .int .i64 k', .int .i64 len, .slice A n c])
  obtain ⟨Wf, hWf⟩ : ∃ Wf, (X.setCells (w.heap.size + 1 + 1) 0 [.int .i64 N, .int .i64 B', .int .i64 ls', .int .i64 k', .int .i64 len, .slice A n c]) = Wf := ⟨_, rfl⟩
  rw [hWf] at h6 HFin HR ⊢
  have c0 := (cell_at h6 0).trans rfl; have d1 := (cell_at h6 1).trans rfl; have d2 := (cell_at h6 2).trans rfl; have d3 := (cell_at h6 3).trans rfl
  have d4 := (cell_at h6 4).trans rfl; have d5 := (cell_at h6 5).trans rfl
  simp only [List.getElem?_toArray, List.getElem?_cons_zero, List.getElem?_cons_succ] at c0 d1 d2 d3 d4 d5
  exact bodyPost_ret (v := .tuple #[.agg #[.int .i64 N, .int .i64 B', .int .i64 ls', .int .i64 k', .int .i64 len, .slice A n c], .int .i64 er]) (by simp [results, Tryz.results30, go_sem, c0, d1, d2, d3, d4, d5]) rfl ⟨A, c, rfl, HR.out, HFin.out⟩
set_option maxHeartbeats 4000000 in
theorem told_l (NG : Nat) (B ls k : Int) (AG : Option Addr) (cG : Nat) (N B' ls' k' len : Int) (n : Nat) (bs : List Nat) (n1 : Nat) (xs1 : List Int) (n2 : Nat) (xs2 : List Int) (er : Int) (w : World)
    (HP : Hid (∀ V, Below w.heap.size w V → Calls Tryz.prog 63 #[.agg #[.slice AG NG cG], .agg #[.int .i64 B, .int .i64 ls, .int .i64 k]] V (PaP V N B' ls' k' len n bs n1 xs1 n2 xs2 er))) :
    Calls Tryz.prog 32 #[.agg #[.slice AG NG cG], .agg #[.int .i64 B, .int .i64 ls, .int .i64 k]] w (PtP w n1 xs1 n2 xs2 er) := by
  obtain ⟨w1, ew1, s1, hb1, g2, g3⟩ := two_at w NG B ls k AG cG
  have k0 := box_cell g2
  obtain ⟨k1, k2, k3⟩ := how_at g3
  have HB1 := Lib.hid hb1
  clear hb1 s1 g2 g3
  go_enter Tryz.func32, Tryz.ntmps32
  go_wp2_with fail
  try rw [ew1]
  refine (HP.out w1 HB1.out).mono ?_
  rintro e w2 ⟨A, c, A1, c1, A2, c2, rfl, -, r1, r2, q2⟩
  have HB2 := Lib.hid q2
  have HR1 := Lib.hid r1
  have HR2 := Lib.hid r2
  obtain ⟨X, hX, hth8, h8, hbX, hzX⟩ := pk_new w2 [.int .i64 N, .int .i64 B', .int .i64 ls', .int .i64 k', .int .i64 len, .slice A n c, .slice A1 n1 c1, .slice A2 n2 c2] rfl
  have HBX := Lib.hid hbX
  have c6 : X.cell? ⟨w2.heap.size, 6, none⟩ = some (.slice A1 n1 c1) := (cell_at h8 6).trans rfl
  have c7 : X.cell? ⟨w2.heap.size, 7, none⟩ = some (.slice A2 n2 c2) := (cell_at h8 7).trans rfl
  clear r1 r2 q2 ew1 k0 k1 k2 k3 HP h8 hbX hzX
  go_wp2_with (refine wpList_store_mid rfl 103 _ _ rfl w2.heap.size 0 #[.int .i64 N, .int .i64 B', .int .i64 ls', .int .i64 k', .int .i64 len, .slice A n c, .slice A1 n1 c1, .slice A2 n2 c2] rfl rfl hth8 info_pk (by simp [Value.oneCell']) ?_; rw [hX]; clear hX hth8)
  go_quiet (fail)
  go_wp2
  have hd : ∀ q, Below X.heap.size X (X.drewN q) := fun q => ⟨(Below.refl X.heap.size X).os, (Below.refl X.heap.size X).tape, (Below.refl X.heap.size X).output, Nat.le_refl _, fun _ _ => rfl⟩
  exact bodyPost_ret (v := .tuple #[.slice A1 n1 c1, .slice A2 n2 c2, .int .i64 er]) (by simp [results, Tryz.results32, go_sem]) rfl ⟨A1, c1, A2, c2, rfl, (HR1.out.on HBX.out).on (hd _), (HR2.out.on HBX.out).on (hd _), HB1.out.trans ((HB2.out.trans ((HBX.out.trans ((hd _).mono HBX.out.size)).mono HB2.out.size)).mono HB1.out.size)⟩
end Go.Proofs.YticdnodlapafoaaGreat
