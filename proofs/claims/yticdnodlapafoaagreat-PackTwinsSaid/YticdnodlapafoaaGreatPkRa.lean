/- Read, over what it calls. -/
import Derived.Test.YticdnodlapafoaaGreatPkRe
namespace Go.Proofs.YticdnodlapafoaaGreat
set_option maxRecDepth 100000
set_option linter.unusedVariables false
open Go.RowKit Go.Shelf

/-- A graph is read. -/
def PrG (w : World) (G : List (List Nat)) (n : Nat) (e : Ending) (w' : World) : Prop :=
  ∃ AG cG R, e = .returned (.tuple #[.agg #[.slice AG n cG], .int .i64 0]) ∧ gs R = G.map ns ∧ (∀ r ∈ R, r.2.2.length ≤ r.2.1) ∧ RdK w.heap.size w' AG R ∧ Below w.heap.size w w'
/-- An error comes back. -/
def PrE (w : World) (er : Int) (e : Ending) (w' : World) : Prop := e = .returned (.tuple #[.agg #[.slice none 0 0], .int .i64 er]) ∧ Below w.heap.size w w'
set_option maxHeartbeats 8000000 in
theorem pread_e (N B ls k len : Int) (n c : Nat) (A : Option Addr) (ec : Int) (t0 : (ec != 0) = true) (w : World)
    (HC : Hid (∀ V, Below w.heap.size w V → Calls Tryz.prog 64 #[.agg #[.int .i64 N, .int .i64 B, .int .i64 ls, .int .i64 k, .int .i64 len, .slice A n c]] V fun e w' => e = .returned (.int .i64 ec) ∧ Below V.heap.size V w')) :
    Calls Tryz.prog 31 #[.agg #[.int .i64 N, .int .i64 B, .int .i64 ls, .int .i64 k, .int .i64 len, .slice A n c]] w (PrE w ec) := by
  obtain ⟨w1, ew1, hb1, hs1, hk1, hg1⟩ := isf_at w (.int .i64 N) (.int .i64 B) (.int .i64 ls) (.int .i64 k) (.int .i64 len) (.slice A n c) (.slice none 0 0)
  have hrg := range_all (cs := [.int .i64 N, .int .i64 B, .int .i64 ls, .int .i64 k, .int .i64 len, .slice A n c]) (hk1 w1 (Below.refl _ _))
  have HB1 := Lib.hid hb1
  have HG : Hid (∀ V, Below w1.heap.size w1 V → V.heap[w.heap.size + 1]? = some (.cells #[.slice none 0 0] 52 (0, 0))) := fun V hV => (hV.block _ (by omega)).trans hg1
  clear hb1 hs1 hk1 hg1
  go_enter Tryz.func31, Tryz.ntmps31
  go_wp2_with (refine wpList_load_mid rfl 54 _ rfl w.heap.size 0 rfl [.int .i64 N, .int .i64 B, .int .i64 ls, .int .i64 k, .int .i64 len, .slice A n c] _ (by first | exact hrg | (rw [ew1]; exact hrg)) Tryz.underlying54 rfl info_pd ?_)
  try rw [ew1]
  refine (HC.out w1 HB1.out).mono ?_
  rintro e w2 ⟨rfl, q2⟩
  have hg2 := HG.out w2 q2
  have m0 := box_cell hg2
  have f0 := frz_at hg2 0
  have HB2 := Lib.hid q2
  clear q2 ew1 hrg hg2
  go_wp2
  exact bodyPost_ret (v := .tuple #[.agg #[.slice none 0 0], .int .i64 ec]) (by simp [results, Tryz.results31, go_sem, m0]) rfl ⟨rfl, (HB1.out.trans (HB2.out.mono HB1.out.size)).setCell (p := ⟨w.heap.size + 1, 0, none⟩) (by simp only; omega) _⟩
set_option maxHeartbeats 8000000 in
theorem pread_n2 (N B ls k len : Int) (n c : Nat) (A : Option Addr) (w : World)
    (HC : Hid (∀ V, Below w.heap.size w V → Calls Tryz.prog 64 #[.agg #[.int .i64 N, .int .i64 B, .int .i64 ls, .int .i64 k, .int .i64 len, .slice A n c]] V fun e w' => e = .returned (.int .i64 0) ∧ Below V.heap.size V w'))
    (HU : Hid (∀ V, Below w.heap.size w V → Calls Tryz.prog 65 #[.agg #[.int .i64 N, .int .i64 B, .int .i64 ls, .int .i64 k, .int .i64 len, .slice A n c]] V fun e w' => ∃ er, e = .returned (.tuple #[.agg #[.slice none 0 0], .int .i64 er]) ∧ er ≠ 0 ∧ Below V.heap.size V w')) :
    Calls Tryz.prog 31 #[.agg #[.int .i64 N, .int .i64 B, .int .i64 ls, .int .i64 k, .int .i64 len, .slice A n c]] w (PrE w 1) := by
  obtain ⟨w1, ew1, hb1, hs1, hk1, hg1⟩ := isf_at w (.int .i64 N) (.int .i64 B) (.int .i64 ls) (.int .i64 k) (.int .i64 len) (.slice A n c) (.slice none 0 0)
  have hrg := range_all (cs := [.int .i64 N, .int .i64 B, .int .i64 ls, .int .i64 k, .int .i64 len, .slice A n c]) (hk1 w1 (Below.refl _ _))
  have HB1 := Lib.hid hb1
  have HK := Lib.hid hk1
  have HG : Hid (∀ V, Below w1.heap.size w1 V → V.heap[w.heap.size + 1]? = some (.cells #[.slice none 0 0] 52 (0, 0))) := fun V hV => (hV.block _ (by omega)).trans hg1
  clear hb1 hs1 hk1 hg1
  go_enter Tryz.func31, Tryz.ntmps31
  go_wp2_with (refine wpList_load_mid rfl 54 _ rfl w.heap.size 0 rfl [.int .i64 N, .int .i64 B, .int .i64 ls, .int .i64 k, .int .i64 len, .slice A n c] _ (by first | exact hrg | (rw [ew1]; exact hrg)) Tryz.underlying54 rfl info_pd ?_)
  try rw [ew1]
  refine (HC.out w1 HB1.out).mono ?_
  rintro e w2 ⟨rfl, q2⟩
  have HB2 := Lib.hid q2
  clear q2 ew1 hrg
  have hrg := range_all (cs := [.int .i64 N, .int .i64 B, .int .i64 ls, .int .i64 k, .int .i64 len, .slice A n c]) (HK.out w2 HB2.out)
  go_wp2_with (refine wpList_load_mid rfl 54 _ rfl w.heap.size 0 rfl [.int .i64 N, .int .i64 B, .int .i64 ls, .int .i64 k, .int .i64 len, .slice A n c] _ hrg Tryz.underlying54 rfl info_pd ?_)
  refine (HU.out w2 (HB1.out.trans (HB2.out.mono HB1.out.size))).mono ?_
  rintro e w3 ⟨er, rfl, her, q3⟩
  have t0 : (er != 0) = true := by simpa using her
  have HB3 : Hid (Below w1.heap.size w1 w3) := HB2.out.trans (q3.mono HB2.out.size)
  have hb4 := one_below w3 (.cells #[.slice none 0 0] 52)
  have HB4 : Hid (Below w1.heap.size w1 (w3.alloc (.cells #[.slice none 0 0] 52))) := HB3.out.trans (hb4.mono HB3.out.size)
  have hg2 := HG.out _ HB4.out
  have m0 := box_cell hg2
  have f0 := frz_at hg2 0
  clear q3 hrg hg2 hb4 her
  go_wp2
  exact bodyPost_ret (v := .tuple #[.agg #[.slice none 0 0], .int .i64 1]) (by simp [results, Tryz.results31, go_sem, m0]) rfl ⟨rfl, (HB1.out.trans (HB4.out.mono HB1.out.size)).setCell (p := ⟨w.heap.size + 1, 0, none⟩) (by simp only; omega) _⟩
set_option maxHeartbeats 8000000 in
theorem pread_g (N B ls k len : Int) (n c : Nat) (A : Option Addr) (G : List (List Nat)) (nG : Nat) (q : Bool) (P : Ending → World → Prop) (w : World)
    (HP1 : q = true → ∀ e w', PrG w G nG e w' → P e w') (HP2 : q = false → ∀ e w', PrE w 1 e w' → P e w')
    (HC : Hid (∀ V, Below w.heap.size w V → Calls Tryz.prog 64 #[.agg #[.int .i64 N, .int .i64 B, .int .i64 ls, .int .i64 k, .int .i64 len, .slice A n c]] V fun e w' => e = .returned (.int .i64 0) ∧ Below V.heap.size V w'))
    (HU : Hid (∀ V, Below w.heap.size w V → Calls Tryz.prog 65 #[.agg #[.int .i64 N, .int .i64 B, .int .i64 ls, .int .i64 k, .int .i64 len, .slice A n c]] V (PrG V G nG)))
    (HF : Hid (∀ AG cG R V, Below w.heap.size w V → RdG V V.heap.size AG R → gs R = G.map ns → (∀ r ∈ R, r.2.2.length ≤ r.2.1) → Calls Tryz.prog 66 #[.agg #[.int .i64 N, .int .i64 B, .int .i64 ls, .int .i64 k, .int .i64 len, .slice A n c], .agg #[.slice AG nG cG]] V fun e w' => e = .returned (.bool q) ∧ Below V.heap.size V w')) :
    Calls Tryz.prog 31 #[.agg #[.int .i64 N, .int .i64 B, .int .i64 ls, .int .i64 k, .int .i64 len, .slice A n c]] w P := by
  obtain ⟨w1, ew1, hb1, hs1, hk1, hg1⟩ := isf_at w (.int .i64 N) (.int .i64 B) (.int .i64 ls) (.int .i64 k) (.int .i64 len) (.slice A n c) (.slice none 0 0)
  have hrg := range_all (cs := [.int .i64 N, .int .i64 B, .int .i64 ls, .int .i64 k, .int .i64 len, .slice A n c]) (hk1 w1 (Below.refl _ _))
  have HB1 := Lib.hid hb1
  have HK := Lib.hid hk1
  have HS1 := Lib.hid hs1
  have HG : Hid (∀ V, Below w1.heap.size w1 V → V.heap[w.heap.size + 1]? = some (.cells #[.slice none 0 0] 52 (0, 0))) := fun V hV => (hV.block _ (by omega)).trans hg1
  have HP1 := Lib.hid HP1
  have HP2 := Lib.hid HP2
  clear hb1 hs1 hk1 hg1
  go_enter Tryz.func31, Tryz.ntmps31
  go_wp2_with (refine wpList_load_mid rfl 54 _ rfl w.heap.size 0 rfl [.int .i64 N, .int .i64 B, .int .i64 ls, .int .i64 k, .int .i64 len, .slice A n c] _ (by first | exact hrg | (rw [ew1]; exact hrg)) Tryz.underlying54 rfl info_pd ?_)
  try rw [ew1]
  refine (HC.out w1 HB1.out).mono ?_
  rintro e w2 ⟨rfl, q2⟩
  have HB2 := Lib.hid q2
  clear q2 ew1 hrg
  have hrg := range_all (cs := [.int .i64 N, .int .i64 B, .int .i64 ls, .int .i64 k, .int .i64 len, .slice A n c]) (HK.out w2 HB2.out)
  have HL2 : Hid (Below w.heap.size w w2) := HB1.out.trans (HB2.out.mono HB1.out.size)
  go_wp2_with (refine wpList_load_mid rfl 54 _ rfl w.heap.size 0 rfl [.int .i64 N, .int .i64 B, .int .i64 ls, .int .i64 k, .int .i64 len, .slice A n c] _ hrg Tryz.underlying54 rfl info_pd ?_)
  refine (HU.out w2 HL2.out).mono ?_
  rintro e w3 ⟨AG, cG, R, rfl, h1, h2, h3, q3⟩
  obtain ⟨X4, hX4⟩ : ∃ X4, w3.alloc (.cells #[.slice AG nG cG] 52) = X4 := ⟨_, rfl⟩
  have hb4 := one_below w3 (.cells #[.slice AG nG cG] 52)
  have hn4 := World.alloc_heap_new w3 (.cells #[.slice AG nG cG] 52)
  rw [hX4] at hb4 hn4
  have HB4 : Hid (Below w1.heap.size w1 X4) := HB2.out.trans ((q3.trans (hb4.mono q3.size)).mono HB2.out.size)
  have HL4 : Hid (Below w.heap.size w X4) := HB1.out.trans (HB4.out.mono HB1.out.size)
  have HR4 := Lib.hid (h3.on hb4)
  have HF4 := Lib.hid (HF.out AG cG R X4 HL4.out HR4.out.here h1 h2)
  have HE := Lib.hid (And.intro h1 h2)
  have HN4 := Lib.hid hn4
  have x0 := box_cell hn4
  have HSz : Hid (w.heap.size + 2 ≤ w2.heap.size ∧ w3.heap.size < X4.heap.size) := ⟨by have := HB2.out.size; have := HS1.out; omega, (Array.getElem?_eq_some_iff.1 hn4).1⟩
  clear hrg
  have hrg := range_all (cs := [.int .i64 N, .int .i64 B, .int .i64 ls, .int .i64 k, .int .i64 len, .slice A n c]) (HK.out X4 HB4.out)
  clear q3 h1 h2 h3 hb4 hn4 HF
  go_wp2_with (first | (refine wpList_load_mid rfl 54 _ rfl w.heap.size 0 rfl [.int .i64 N, .int .i64 B, .int .i64 ls, .int .i64 k, .int .i64 len, .slice A n c] _ (by first | exact hrg | (rw [hX4]; exact hrg)) Tryz.underlying54 rfl info_pd ?_) | (refine wpList_step (fun K hK => ?_); rw [if_pos (by rfl)]; refine wp_load_mid 54 _ rfl w.heap.size 0 rfl [.int .i64 N, .int .i64 B, .int .i64 ls, .int .i64 k, .int .i64 len, .slice A n c] _ (by first | exact hrg | (rw [hX4]; exact hrg)) Tryz.underlying54 rfl info_pd ?_; refine hK _ _ ?_; clear hK K))
  refine HF4.out.mono ?_
  rintro e w5 ⟨rfl, q5⟩
  have HB5 : Hid (Below w1.heap.size w1 w5) := HB4.out.trans (q5.mono HB4.out.size)
  have hg2 := HG.out w5 HB5.out
  have m0 := box_cell hg2
  have f0 := frz_at hg2 0
  have hn5 := (q5.block _ HSz.out.2).trans HN4.out
  have x5 := box_cell hn5
  have HR5 := Lib.hid (HR4.out.on q5)
  have HL5 : Hid (Below w.heap.size w w5) := HL4.out.trans (q5.mono HL4.out.size)
  clear q5 hrg x0 hg2 hn5 hX4 HF4
  cases q with
  | false =>
    have HP := Lib.hid (HP2.out rfl)
    go_wp2
    exact bodyPost_ret (v := .tuple #[.agg #[.slice none 0 0], .int .i64 1]) (by simp [results, Tryz.results31, go_sem, m0]) rfl (HP.out _ _ ⟨rfl, HL5.out.setCell (p := ⟨w.heap.size + 1, 0, none⟩) (by simp only; omega) _⟩)
  | true =>
    have HP := Lib.hid (HP1.out rfl)
    go_wp2
    refine bodyPost_ret (v := .tuple #[.agg #[.slice AG nG cG], .int .i64 0]) (by simp [results, Tryz.results31, go_sem, m0]) rfl (HP.out _ _ ⟨AG, cG, R, rfl, HE.out.1, HE.out.2, ?_, HL5.out.setCell (p := ⟨w.heap.size + 1, 0, none⟩) (by simp only; omega) _⟩)
    exact (HR5.out.same (fun k k1 _ => Below.heap_setCell w5 ⟨w.heap.size + 1, 0, none⟩ _ k (by have := HSz.out; show k ≠ w.heap.size + 1; omega)) (by simp [World.setCell])).mono (by have := HSz.out; omega)
end Go.Proofs.YticdnodlapafoaaGreat
