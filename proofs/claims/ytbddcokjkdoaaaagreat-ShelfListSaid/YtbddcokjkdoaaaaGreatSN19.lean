/- Texts of this proof, one behind the other; each fact names its conditions. -/
import Derived.Test.YtbddcokjkdoaaaaGreatSN16
import Derived.Test.YtbddcokjkdoaaaaGreatSN18
import Derived.Deep.RegionHeld3
namespace Go.Proofs.YtbddcokjkdoaaaaGreat
section
section
set_option maxRecDepth 100000
set_option linter.unusedVariables false
open Go.RowKit Go.Shelf
end
section
open Go.RowKit Go.Shelf
set_option linter.unusedVariables false
def srE (len : Int) (bs : List Nat) (p a : Int) (ys : List Int) (b s k : Int) : Int :=
  if hck b s k ≠ 0 then hck b s k else if rgE (chk len bs) [decide (0 ≤ p), decide (p ≤ len), okN a] ≠ 0 then rgE (chk len bs) [decide (0 ≤ p), decide (p ≤ len), okN a] else if b = 0 then 0 else rchk ys
def srX (len : Int) (bs : List Nat) (p a : Int) (ys : List Int) (b s k : Int) : List Nat × Nat × Int :=
  if srE len bs p a ys b s k ≠ 0 then ([], 0, srE len bs p a ys b s k) else sread (unpack len.toNat bs) a.toNat b.toNat s.toNat k.toNat (tn ys) p.toNat
theorem rgE_three (e : Int) (x y z : Bool) (h : rgE e [x, y, z] = 0) : e = 0 ∧ x = true ∧ y = true ∧ z = true := by
  unfold rgE at h
  split at h
  · omega
  · rename_i h1
    subst h
    cases x <;> cases y <;> cases z <;> simp at h1 ⊢
theorem srE_zero (len : Int) (bs : List Nat) (hb : ∀ x ∈ bs, x < 256) (p a : Int) (ys : List Int) (b s k : Int) (h : srE len bs p a ys b s k = 0) : ∃ (L : List Bool) (q a' b' s' k' : Nat), len = (L.length : Int) ∧ L.length ≤ 8192 ∧ bs = pack L ∧ p = (q : Int) ∧ q ≤ L.length ∧ a = (a' : Int) ∧ a' ≤ 1048576 ∧ b = (b' : Int) ∧ s = (s' : Int) ∧ k = (k' : Int) ∧ b' ≤ 7 ∧ (s' = 0 ∨ 2 ≤ s' ∧ s' ≤ 300) ∧ (1 ≤ k' ∧ k' ≤ 16) ∧ (b' ≠ 0 → ∃ F, ys = ns F ∧ Rising F) := by
  unfold srE at h
  by_cases h1 : hck b s k = 0
  · rw [if_neg (by simpa using h1)] at h
    by_cases h2 : rgE (chk len bs) [decide (0 ≤ p), decide (p ≤ len), okN a] = 0
    · rw [if_neg (by simpa using h2)] at h
      obtain ⟨g1, g2, g3, g4⟩ := rgE_three _ _ _ _ h2
      obtain ⟨L, rfl, hL, rfl⟩ := chk_zero len bs hb g1
      obtain ⟨a', rfl, ha⟩ := okN_true g4
      obtain ⟨⟨c1, c2⟩, c3, c4, c5⟩ := hck_zero b s k h1
      have g2' : 0 ≤ p := of_decide_eq_true g2
      have g3' : p ≤ (L.length : Int) := of_decide_eq_true g3
      obtain ⟨b', rfl⟩ : ∃ n : Nat, b = (n : Int) := ⟨b.toNat, by omega⟩
      obtain ⟨s', rfl⟩ : ∃ n : Nat, s = (n : Int) := ⟨s.toNat, by omega⟩
      obtain ⟨k', rfl⟩ : ∃ n : Nat, k = (n : Int) := ⟨k.toNat, by omega⟩
      obtain ⟨q, rfl⟩ : ∃ n : Nat, p = (n : Int) := ⟨p.toNat, by omega⟩
      refine ⟨L, q, a', b', s', k', rfl, hL, rfl, rfl, by omega, rfl, ha, rfl, rfl, rfl, by omega, by omega, by omega, fun h0 => ?_⟩
      rw [if_neg (by omega)] at h
      exact rchk_zero ys h
    · rw [if_pos (by simpa using h2)] at h; exact absurd h h2
  · rw [if_pos (by simpa using h1)] at h; exact absurd h h1
theorem srX_no (len : Int) (bs : List Nat) (p a : Int) (ys : List Int) (b s k : Int) (h : srE len bs p a ys b s k ≠ 0) : srX len bs p a ys b s k = ([], 0, srE len bs p a ys b s k) := if_pos h
theorem srX_ok (L : List Bool) (q a' b' s' k' : Nat) (ys : List Int) (h : srE (L.length : Int) (pack L) (q : Int) (a' : Int) ys (b' : Int) (s' : Int) (k' : Int) = 0) : srX (L.length : Int) (pack L) (q : Int) (a' : Int) ys (b' : Int) (s' : Int) (k' : Int) = sread L a' b' s' k' (tn ys) q := by
  unfold srX
  rw [if_neg (by simpa using h)]
  simp only [Int.toNat_natCast, unpack_pack]
theorem swE_in (a : Nat) (ha : a ≤ 1048576) (l : List Nat) (hl : Rising l) (b s k : Nat) (hb : b ≤ 7) (hs : s = 0 ∨ 2 ≤ s ∧ s ≤ 300) (hk : 1 ≤ k) (hk2 : k ≤ 16) (ys : List Int) (hy : b ≠ 0 → rchk ys = 0) :
    swE (a : Int) (ns l) ys (b : Int) (s : Int) (k : Int) = 0 := by
  unfold swE
  have e : rgE (0 : Int) [true] = 0 := by decide
  rw [hck_ok b s k hb hs hk hk2, okN_nat a ha, rchk_ok l hl, e]
  rw [if_neg (fun c => c rfl), if_neg (fun c => c rfl)]
  by_cases h0 : b = 0
  · rw [if_pos (by omega)]
  · rw [if_neg (by omega)]; exact hy h0
theorem swF_in (a : Nat) (ha : a ≤ 1048576) (l : List Nat) (hl : Rising l) (b s k : Nat) (hb : b ≤ 7) (hs : s = 0 ∨ 2 ≤ s ∧ s ≤ 300) (hk : 1 ≤ k) (hk2 : k ≤ 16) (ys : List Int) (hy : b ≠ 0 → rchk ys = 0) (hlen : (sbits a b s k l (tn ys)).length ≤ 8192) :
    swF (a : Int) (ns l) ys (b : Int) (s : Int) (k : Int) = 0 ∧ swL (a : Int) (ns l) ys (b : Int) (s : Int) (k : Int) = sbits a b s k l (tn ys) := by
  have h := swE_in a ha l hl b s k hb hs hk hk2 ys hy
  have hn : ¬ (swE (a : Int) (ns l) ys (b : Int) (s : Int) (k : Int) ≠ 0) := fun c => c h
  unfold swF swL
  rw [if_neg hn, if_neg hn]
  simp only [Int.toNat_natCast, tn_ns]
  exact ⟨if_pos hlen, if_pos hlen⟩
end
section
set_option maxRecDepth 100000
set_option linter.unusedVariables false
open Go.RowKit Go.Shelf
end
end
section
set_option maxRecDepth 100000
set_option linter.unusedVariables false
open Go.RowKit Go.Shelf
def FrV (w w' : World) (A : Option Addr) (l : List Nat) : Prop := RdV w' w'.heap.size A (zc (ns l)) ∧ ∀ b o s, A = some ⟨b, o, s⟩ → w.heap.size ≤ b
def RdF (w : World) (l : List Nat) (to : Nat) (err : Int) (e : Ending) (w' : World) : Prop :=
  ∃ A c, e = .returned (.tuple #[.slice A l.length c, .int .i64 (to : Int), .int .i64 err]) ∧ l.length ≤ c ∧ (A = none → c = 0) ∧ FrV w w' A l ∧ Below w.heap.size w w'
def ReF (Q : Nat) (w : World) (l : List Nat) (to : Nat) (err : Int) (e : Ending) (w' : World) : Prop :=
  ∃ A c, e = .returned (.tuple #[.slice A l.length c, .int .i64 (to : Int), .int .i64 err]) ∧ l.length ≤ c ∧ (A = none → c = 0) ∧ FrV w w' A l ∧ WB Q w w'
set_option maxHeartbeats 8000000 in
theorem rd_gives_upF (L : List Bool) (hL : L.length ≤ 8192) (A : Option Addr) (c Q s : Nat) (a bk ls k : Nat) (F : List Nat) (n : Nat) (A1 : Option Addr) (c1 : Nat) (w : World) (hQ : RB w Q L A c s)
    (HTl : Hid (∀ V, Below w.heap.size w V → Calls Tryz.prog 101 #[.pointer (some ⟨Q, 0, none⟩), .int .i64 (a : Int), .slice A1 n c1, .agg #[.int .i64 (bk : Int), .int .i64 (ls : Int), .int .i64 (k : Int)]] V (TlP Q L A c V none))) :
    Calls Tryz.prog 54 #[.pointer (some ⟨Q, 0, none⟩), .int .i64 (a : Int), .slice A1 n c1, .agg #[.int .i64 (bk : Int), .int .i64 (ls : Int), .int .i64 (k : Int)]] w (ReF Q w [] 0 1) := by
  have hmf : ∀ (fn : Fn) (first cap : Array Value) (w : World), (Instr.makeFunc fn first cap).run Tryz.prog w = .ok (.func fn first cap) w := fun _ _ _ _ => rfl
  have hlt := hQ.lt
  obtain ⟨V0, hV0⟩ : ∃ V0, (((w.alloc (.cells #[.int .i64 (bk : Int), .int .i64 (ls : Int), .int .i64 (k : Int)] 24)).alloc (.cells #[.slice none 0 0] 22)).alloc (.cells #[.int .i64 0] 3)).alloc (.cells #[.int .i64 0] 28) = V0 := ⟨_, rfl⟩
  obtain ⟨hsz, hB0⟩ := four_at w _ _ _ _ V0 hV0
  obtain ⟨g0, g1, g2, g3⟩ := four_get w _ _ _ _ _ _ _ _ V0 hV0
  have p0 : V0.cell? ⟨w.heap.size, 0, none⟩ = some (.int .i64 (bk : Int)) := (cell_at g0 _).trans rfl
  have p1 : V0.cell? ⟨w.heap.size, 1, none⟩ = some (.int .i64 (ls : Int)) := (cell_at g0 _).trans rfl
  have p2 : V0.cell? ⟨w.heap.size, 2, none⟩ = some (.int .i64 (k : Int)) := (cell_at g0 _).trans rfl
  have HG : Hid (V0.heap[w.heap.size + 1]? = some (.cells #[.slice none 0 0] 22 (0, 0)) ∧ V0.heap[w.heap.size + 2]? = some (.cells #[.int .i64 0] 3 (0, 0)) ∧ V0.heap[w.heap.size + 3]? = some (.cells #[.int .i64 0] 28 (0, 0))) := ⟨g1, g2, g3⟩
  have Hsz := Lib.hid hsz
  clear g0 g1 g2 g3 hsz
  have hQ0 := hQ.on hB0
  have k2 : V0.cell? ⟨Q, 2, none⟩ = some (.int .i64 (s : Int)) := (cell_at hQ0 _).trans rfl
  have HB0 := Lib.hid hB0
  have HTl0 := Lib.hid (HTl.out V0 hB0)
  clear hQ hB0 hQ0 HTl
  go_enter_defers Tryz.func54, Tryz.ntmps54
  go_wp2_with fail
  refine HTl0.out.mono ?_
  rintro e v1 ⟨hwb, rfl⟩
  have HW1 := Lib.hid ((wb_below HB0.out).trans hwb)
  have hq1 : v1.heap[w.heap.size + 1]? = some (.cells #[.slice none 0 0] 22 (0, 0)) := (hwb.block _ (by have := Hsz.out; omega) (by simp; omega)).trans HG.out.1
  have hq2 : v1.heap[w.heap.size + 2]? = some (.cells #[.int .i64 0] 3 (0, 0)) := (hwb.block _ (by have := Hsz.out; omega) (by simp; omega)).trans HG.out.2.1
  have hq3 : v1.heap[w.heap.size + 3]? = some (.cells #[.int .i64 0] 28 (0, 0)) := (hwb.block _ (by have := Hsz.out; omega) (by simp; omega)).trans HG.out.2.2
  have j0 : v1.cell? ⟨w.heap.size + 1, 0, none⟩ = some (.slice none 0 0) := (cell_at hq1 _).trans rfl
  have j1 : v1.cell? ⟨w.heap.size + 2, 0, none⟩ = some (.int .i64 0) := (cell_at hq2 _).trans rfl
  have j2 : v1.cell? ⟨w.heap.size + 3, 0, none⟩ = some (.int .i64 0) := (cell_at hq3 _).trans rfl
  have f0 := frz_at hq1 0
  have f1 := frz_at hq2 0
  have f2 := frz_at hq3 0
  have HFin : Hid (WB Q w (((v1.setCell ⟨w.heap.size + 1, 0, none⟩ (.slice none 0 0)).setCell ⟨w.heap.size + 2, 0, none⟩ (.int .i64 0)).setCell ⟨w.heap.size + 3, 0, none⟩ (.int .i64 1))) := HW1.out.then ((((Below.refl w.heap.size v1).setCell (p := ⟨w.heap.size + 1, 0, none⟩) (by simp) _).setCell (p := ⟨w.heap.size + 2, 0, none⟩) (by simp) _).setCell (p := ⟨w.heap.size + 3, 0, none⟩) (by simp) _) (Nat.le_refl _)
  have HDf := Lib.hid (rd_panics (w.heap.size + 1) _ _ _ v1 j0 j1 j2 f0 f1 f2)
  clear hwb p0 p1 p2 k2 hq1 hq2 hq3
  go_wp2
  refine leaves_cons (f := 100) (args := #[.pointer (some ⟨w.heap.size + 1, 0, none⟩), .pointer (some ⟨w.heap.size + 2, 0, none⟩), .pointer (some ⟨w.heap.size + 3, 0, none⟩)]) (by simp) (by simp [go_sem]) ?_
  refine HDf.out.mono ?_
  rintro e u' w'' ⟨rfl, rfl, rfl⟩
  simp [Leaves, settle, results, Tryz.results54, go_sem, j0, j1, j2]
  exact ⟨none, 0, rfl, Nat.le_refl _, fun _ => rfl, ⟨.inl rfl, fun b o s h => by cases h⟩, HFin.out⟩
set_option maxHeartbeats 8000000 in
theorem rd_goes_onF (L : List Bool) (hL : L.length ≤ 8192) (A : Option Addr) (c Q s : Nat) (a bk ls k : Nat) (l : List Nat) (s' : Nat) (n : Nat) (A1 : Option Addr) (c1 : Nat) (w : World) (hQ : RB w Q L A c s)
    (HTl : Hid (∀ V, Below w.heap.size w V → Calls Tryz.prog 101 #[.pointer (some ⟨Q, 0, none⟩), .int .i64 (a : Int), .slice A1 n c1, .agg #[.int .i64 (bk : Int), .int .i64 (ls : Int), .int .i64 (k : Int)]] V (TlP Q L A c V (some (l, s')))))
    (hR : Rd w Q A (pack L)) (SB : List Bool) (ok : Bool) (l0 : List Nat) (t0 : Nat) (e0 : Int) (hres : Hid ((ok = true → l0 = l ∧ t0 = s' ∧ e0 = 0) ∧ (ok = false → l0 = [] ∧ t0 = 0 ∧ e0 = 1)))
    (HEn : Hid (∀ A2 c2 V, WB Q w V → RdV V V.heap.size A2 (zc (ns l)) → l.length ≤ c2 → Calls Tryz.prog 52 #[.int .i64 (a : Int), .slice A2 l.length c2, .slice A1 n c1, .agg #[.int .i64 (bk : Int), .int .i64 (ls : Int), .int .i64 (k : Int)]] V (EnP V SB)))
    (HSt : Hid (∀ P V, WC V P SB → Rd V V.heap.size A (pack L) → Calls Tryz.prog 103 #[.pointer (some ⟨P, 0, none⟩), .agg #[.int .i64 (L.length : Int), .slice A (pack L).length c], .int .i64 (s : Int)] V fun e w' => e = .returned (.bool ok) ∧ Below V.heap.size V w')) :
    Calls Tryz.prog 54 #[.pointer (some ⟨Q, 0, none⟩), .int .i64 (a : Int), .slice A1 n c1, .agg #[.int .i64 (bk : Int), .int .i64 (ls : Int), .int .i64 (k : Int)]] w (ReF Q w l0 t0 e0) := by
  have hmf : ∀ (fn : Fn) (first cap : Array Value) (w : World), (Instr.makeFunc fn first cap).run Tryz.prog w = .ok (.func fn first cap) w := fun _ _ _ _ => rfl
  have hlt := hQ.lt
  have HR := Lib.hid hR
  clear hR
  obtain ⟨V0, hV0⟩ : ∃ V0, (((w.alloc (.cells #[.int .i64 (bk : Int), .int .i64 (ls : Int), .int .i64 (k : Int)] 24)).alloc (.cells #[.slice none 0 0] 22)).alloc (.cells #[.int .i64 0] 3)).alloc (.cells #[.int .i64 0] 28) = V0 := ⟨_, rfl⟩
  obtain ⟨hsz, hB0⟩ := four_at w _ _ _ _ V0 hV0
  obtain ⟨g0, g1, g2, g3⟩ := four_get w _ _ _ _ _ _ _ _ V0 hV0
  have p0 : V0.cell? ⟨w.heap.size, 0, none⟩ = some (.int .i64 (bk : Int)) := (cell_at g0 _).trans rfl
  have p1 : V0.cell? ⟨w.heap.size, 1, none⟩ = some (.int .i64 (ls : Int)) := (cell_at g0 _).trans rfl
  have p2 : V0.cell? ⟨w.heap.size, 2, none⟩ = some (.int .i64 (k : Int)) := (cell_at g0 _).trans rfl
  have HG : Hid (V0.heap[w.heap.size + 1]? = some (.cells #[.slice none 0 0] 22 (0, 0)) ∧ V0.heap[w.heap.size + 2]? = some (.cells #[.int .i64 0] 3 (0, 0)) ∧ V0.heap[w.heap.size + 3]? = some (.cells #[.int .i64 0] 28 (0, 0))) := ⟨g1, g2, g3⟩
  have HGb := Lib.hid g0
  have Hsz := Lib.hid hsz
  clear g0 g1 g2 g3 hsz
  have hQ0 := hQ.on hB0
  have k2 : V0.cell? ⟨Q, 2, none⟩ = some (.int .i64 (s : Int)) := (cell_at hQ0 _).trans rfl
  have HB0 := Lib.hid hB0
  have HTl0 := Lib.hid (HTl.out V0 hB0)
  clear hQ hB0 hQ0 HTl
  go_enter_defers Tryz.func54, Tryz.ntmps54
  go_wp2_with fail
  refine HTl0.out.mono ?_
  rintro e v1 ⟨hwb, ⟨A2, c2, rfl, hro⟩, hrb⟩
  have HW1 := Lib.hid ((wb_below HB0.out).trans hwb)
  have HRo1 := Lib.hid hro
  have HRB1 := Lib.hid hrb
  have hq0 : v1.heap[w.heap.size]? = some (.cells #[.int .i64 (bk : Int), .int .i64 (ls : Int), .int .i64 (k : Int)] 24 (0, 0)) := (hwb.block _ (by have := Hsz.out; omega) (by simp; omega)).trans HGb.out
  have hq1 : v1.heap[w.heap.size + 1]? = some (.cells #[.slice none 0 0] 22 (0, 0)) := (hwb.block _ (by have := Hsz.out; omega) (by simp; omega)).trans HG.out.1
  have hq2 : v1.heap[w.heap.size + 2]? = some (.cells #[.int .i64 0] 3 (0, 0)) := (hwb.block _ (by have := Hsz.out; omega) (by simp; omega)).trans HG.out.2.1
  have hq3 : v1.heap[w.heap.size + 3]? = some (.cells #[.int .i64 0] 28 (0, 0)) := (hwb.block _ (by have := Hsz.out; omega) (by simp; omega)).trans HG.out.2.2
  have hs1 : w.heap.size + 4 ≤ v1.heap.size := by have := Hsz.out; have := hwb.size; omega
  have f0 := frz_at hq1 0
  have m0 : v1.cell? ⟨w.heap.size + 1, 0, none⟩ = some (.slice none 0 0) := (cell_at hq1 _).trans rfl
  obtain ⟨v2, hv2⟩ : ∃ v2, v1.setCell ⟨w.heap.size + 1, 0, none⟩ (.slice A2 l.length c2) = v2 := ⟨_, rfl⟩
  have hw2 : WB (w.heap.size + 1) v1 v2 := hv2 ▸ wb_set v1 _ _ _
  have hr1 : v2.heap[w.heap.size + 1]? = some (.cells #[.slice A2 l.length c2] 22 (0, 0)) := by rw [← hv2, heap_set_same _ _ _ _ _ _ hq1]; simp
  have hr0 := (hw2.block w.heap.size (by omega) (by simp)).trans hq0
  have hr2 := (hw2.block (w.heap.size + 2) (by omega) (by simp)).trans hq2
  have hr3 := (hw2.block (w.heap.size + 3) (by omega) (by simp)).trans hq3
  have hrQ : RB v2 Q L A c s' := (hw2.block Q (by omega) (by simp; omega)).trans HRB1.out
  have HRo2 : Hid (v2.ownsRow V0.heap.size 3 1 (.slice A2 l.length c2) l.length (zc (ns l))) := own_wb HRo1.out hw2 (by have := Hsz.out; omega)
  have HW2 : Hid (WB Q w v2) := HW1.out.then ((hv2 ▸ (Below.refl w.heap.size v1).setCell (p := ⟨w.heap.size + 1, 0, none⟩) (by simp) _ : Below w.heap.size v1 v2)) (Nat.le_refl _)
  have HEn2 := Lib.hid (HEn.out A2 c2 v2 HW2.out (own_rdvT HRo2.out) (own_capT HRo2.out).1)
  have p0' : v2.cell? ⟨w.heap.size, 0, none⟩ = some (.int .i64 (bk : Int)) := (cell_at hr0 _).trans rfl
  have p1' : v2.cell? ⟨w.heap.size, 1, none⟩ = some (.int .i64 (ls : Int)) := (cell_at hr0 _).trans rfl
  have p2' : v2.cell? ⟨w.heap.size, 2, none⟩ = some (.int .i64 (k : Int)) := (cell_at hr0 _).trans rfl
  have q1' : v2.cell? ⟨w.heap.size + 1, 0, none⟩ = some (.slice A2 l.length c2) := (cell_at hr1 _).trans rfl
  have HH : Hid (v2.heap[w.heap.size + 1]? = some (.cells #[.slice A2 l.length c2] 22 (0, 0)) ∧ v2.heap[w.heap.size + 2]? = some (.cells #[.int .i64 0] 3 (0, 0)) ∧ v2.heap[w.heap.size + 3]? = some (.cells #[.int .i64 0] 28 (0, 0)) ∧ RB v2 Q L A c s' ∧ w.heap.size + 4 ≤ v2.heap.size) := ⟨hr1, hr2, hr3, hrQ, Nat.le_trans hs1 hw2.size⟩
  clear hwb hro hrb hq0 hq1 hq2 hq3 hr0 hr1 hr2 hr3 hrQ p0 p1 p2 k2 hw2 hs1
  go_wp2_with fail
  refine HEn2.out.mono ?_
  rintro e v5 ⟨bb, Ab, cb, ee, rfl, hRd, hcase, B5⟩
  have HB5 := Lib.hid B5
  have HRd := Lib.hid hRd
  obtain ⟨v6, e6⟩ : ∃ v6, v5.alloc (.cells #[.int .i64 (bb.length : Int), .slice Ab (pack bb).length cb, .int .i64 ee] 88) = v6 := ⟨_, rfl⟩
  have hb6 : Below v5.heap.size v5 v6 := e6 ▸ one_below v5 _
  have hx6 : v6.heap[v5.heap.size]? = some (.cells #[.int .i64 (bb.length : Int), .slice Ab (pack bb).length cb, .int .i64 ee] 88 (0, 0)) := e6 ▸ World.alloc_heap_new v5 _
  have hb26 : Below v2.heap.size v2 v6 := B5.trans (hb6.mono B5.size)
  have HB26 := Lib.hid hb26
  have HWC : Hid (WC v6 v5.heap.size SB) := ⟨bb, Ab, cb, ee, hx6, hRd.on hb6, hcase⟩
  have HW6 := Lib.hid (HW2.out.trans (wb_below hb26))
  have hq6 := HH.out.2.2.2.1.on hb26
  have y0 : v6.cell? ⟨Q, 0, none⟩ = some (.int .i64 (L.length : Int)) := (cell_at hq6 _).trans rfl
  have y1 : v6.cell? ⟨Q, 1, none⟩ = some (.slice A (pack L).length c) := (cell_at hq6 _).trans rfl
  have HSt6 := Lib.hid (HSt.out v5.heap.size v6 HWC.out ((rd_low HR.out HW6.out hlt).below (Below.refl _ _) (Nat.le_of_lt hq6.lt)))
  clear hRd hcase B5 hb6 hx6 hb26 hq6 p0' p1' p2' q1'
  go_wp2_with fail
  refine HSt6.out.mono ?_
  rintro e v7 ⟨rfl, B7⟩
  have HB27 := Lib.hid (HB26.out.trans (B7.mono HB26.out.size))
  clear B7 y0 y1
  have hi := HB27.out
  have z1 : v7.heap[w.heap.size + 1]? = some (.cells #[.slice A2 l.length c2] 22 (0, 0)) := (hi.block _ (by have := HH.out.2.2.2.2; omega)).trans HH.out.1
  have z2 : v7.heap[w.heap.size + 2]? = some (.cells #[.int .i64 0] 3 (0, 0)) := (hi.block _ (by have := HH.out.2.2.2.2; omega)).trans HH.out.2.1
  have z3 : v7.heap[w.heap.size + 3]? = some (.cells #[.int .i64 0] 28 (0, 0)) := (hi.block _ (by have := HH.out.2.2.2.2; omega)).trans HH.out.2.2.1
  have zQ : RB v7 Q L A c s' := HH.out.2.2.2.1.on hi
  have j0 : v7.cell? ⟨w.heap.size + 1, 0, none⟩ = some (.slice A2 l.length c2) := (cell_at z1 _).trans rfl
  have j1 : v7.cell? ⟨w.heap.size + 2, 0, none⟩ = some (.int .i64 0) := (cell_at z2 _).trans rfl
  have j2 : v7.cell? ⟨w.heap.size + 3, 0, none⟩ = some (.int .i64 0) := (cell_at z3 _).trans rfl
  have f0' := frz_at z1 0
  have f1 := frz_at z2 0
  have f2 := frz_at z3 0
  have HW7 := Lib.hid (HW2.out.trans (wb_below hi))
  clear hi
  cases ok with
  | false =>
    obtain ⟨rfl, rfl, rfl⟩ := hres.out.2 rfl
    have HFin : Hid (WB Q w (((v7.setCell ⟨w.heap.size + 1, 0, none⟩ (.slice none 0 0)).setCell ⟨w.heap.size + 2, 0, none⟩ (.int .i64 0)).setCell ⟨w.heap.size + 3, 0, none⟩ (.int .i64 1))) := HW7.out.then ((((Below.refl w.heap.size v7).setCell (p := ⟨w.heap.size + 1, 0, none⟩) (by simp) _).setCell (p := ⟨w.heap.size + 2, 0, none⟩) (by simp) _).setCell (p := ⟨w.heap.size + 3, 0, none⟩) (by simp) _) (Nat.le_refl _)
    have HDf := Lib.hid (rd_panics (w.heap.size + 1) _ _ _ v7 j0 j1 j2 f0' f1 f2)
    clear z1 z2 z3 zQ
    go_wp2_with fail
    refine (insist_f _).mono ?_
    rintro e w' ⟨rfl, rfl⟩
    go_wp2
    refine leaves_cons (f := 100) (args := #[.pointer (some ⟨w.heap.size + 1, 0, none⟩), .pointer (some ⟨w.heap.size + 2, 0, none⟩), .pointer (some ⟨w.heap.size + 3, 0, none⟩)]) (by simp) (by simp [go_sem]) ?_
    refine HDf.out.mono ?_
    rintro e u' w'' ⟨rfl, rfl, rfl⟩
    simp [Leaves, settle, results, Tryz.results54, go_sem, j0, j1, j2]
    exact ⟨none, 0, rfl, Nat.le_refl _, fun _ => rfl, ⟨.inl rfl, fun b o s h => by cases h⟩, HFin.out⟩
  | true =>
    obtain ⟨rfl, rfl, rfl⟩ := hres.out.1 rfl
    have x2 : v7.cell? ⟨Q, 2, none⟩ = some (.int .i64 (t0 : Int)) := (cell_at zQ _).trans rfl
    have HDf := Lib.hid (fun V => rd_idle ⟨w.heap.size + 1, 0, none⟩ ⟨w.heap.size + 2, 0, none⟩ ⟨w.heap.size + 3, 0, none⟩ V)
    have HFin : Hid (WB Q w (((v7.setCell ⟨w.heap.size + 1, 0, none⟩ (.slice A2 l0.length c2)).setCell ⟨w.heap.size + 2, 0, none⟩ (.int .i64 (t0 : Int))).setCell ⟨w.heap.size + 3, 0, none⟩ (.int .i64 0))) := HW7.out.then ((((Below.refl w.heap.size v7).setCell (p := ⟨w.heap.size + 1, 0, none⟩) (by simp) _).setCell (p := ⟨w.heap.size + 2, 0, none⟩) (by simp) _).setCell (p := ⟨w.heap.size + 3, 0, none⟩) (by simp) _) (Nat.le_refl _)
    have HRo7 : Hid ((((v7.setCell ⟨w.heap.size + 1, 0, none⟩ (.slice A2 l0.length c2)).setCell ⟨w.heap.size + 2, 0, none⟩ (.int .i64 (t0 : Int))).setCell ⟨w.heap.size + 3, 0, none⟩ (.int .i64 0)).ownsRow V0.heap.size 3 1 (.slice A2 l0.length c2) l0.length (zc (ns l0))) :=
      own_wb (own_wb (own_wb (own_below HRo2.out HB27.out) (wb_set v7 (w.heap.size + 1) 0 (.slice A2 l0.length c2)) (by have := Hsz.out; omega)) (wb_set _ (w.heap.size + 2) 0 (.int .i64 (t0 : Int))) (by have := Hsz.out; omega)) (wb_set _ (w.heap.size + 3) 0 (.int .i64 0)) (by have := Hsz.out; omega)
    clear z1 z2 z3 zQ
    go_wp2_with fail
    refine (insist_t _).mono ?_
    rintro e w' ⟨rfl, rfl⟩
    go_wp2_with fail
    go_region
    all_goals (
      go_wp2
      refine leaves_cons (f := 100) (args := #[.pointer (some ⟨w.heap.size + 1, 0, none⟩), .pointer (some ⟨w.heap.size + 2, 0, none⟩), .pointer (some ⟨w.heap.size + 3, 0, none⟩)]) (by simp) (by simp [go_sem]) ?_
      refine (HDf.out _).mono ?_
      rintro e u' w'' ⟨rfl, rfl, rfl⟩
      simp [Leaves, settle, results, Tryz.results54, go_sem, j0, j1, j2]
      exact ⟨A2, c2, rfl, (own_capT HRo7.out).1, (own_capT HRo7.out).2, ⟨own_rdvT HRo7.out, fun b o s h => by { subst h; have := (HRo7.out.lt b rfl).1; have := Hsz.out; omega }⟩, ⟨HFin.out.os, HFin.out.tape, HFin.out.output, HFin.out.size, HFin.out.block⟩⟩)
theorem read_anyF (L : List Bool) (hL : L.length ≤ 8192) (A : Option Addr) (c Q s : Nat) (hs : s ≤ L.length) (a bk ls k : Nat) (ha : a ≤ 1048576) (hls : ls = 0 ∨ 2 ≤ ls ∧ ls ≤ 300) (hbk : bk ≤ 7) (hk : 1 ≤ k) (hk2 : k ≤ 16) (F : List Nat) (hF : bk ≠ 0 → Rising F) (n : Nat) (A1 : Option Addr) (c1 : Nat) (hA1 : A1 = none → c1 = 0) (hc1 : n ≤ c1) (w : World) (h1 : bk ≠ 0 → F.length = n ∧ RdV w Q A1 (zc (ns F))) (hQ : RB w Q L A c s) (hR : Rd w Q A (pack L)) :
    Calls Tryz.prog 54 #[.pointer (some ⟨Q, 0, none⟩), .int .i64 (a : Int), .slice A1 n c1, .agg #[.int .i64 (bk : Int), .int .i64 (ls : Int), .int .i64 (k : Int)]] w (ReF Q w (sread L a bk ls k F s).1 (sread L a bk ls k F s).2.1 (sread L a bk ls k F s).2.2) := by
  have hlt := hQ.lt
  have HTl : ∀ V, Below w.heap.size w V → Calls Tryz.prog 101 #[.pointer (some ⟨Q, 0, none⟩), .int .i64 (a : Int), .slice A1 n c1, .agg #[.int .i64 (bk : Int), .int .i64 (ls : Int), .int .i64 (k : Int)]] V (TlP Q L A c V (ptake L a bk ls k F s)) := fun V hV =>
    take_list L hL A c Q s hs a bk ls k ha hls hk hk2 F hF n A1 c1 hA1 hc1 V (fun h => ⟨(h1 h).1, rdv_low (h1 h).2 (wb_below hV) hlt⟩) (hQ.on hV) (rd_low hR (wb_below hV) hlt)
  rcases hp : ptake L a bk ls k F s with _ | ⟨l, s'⟩
  · rw [hp] at HTl
    have e : sread L a bk ls k F s = ([], 0, 1) := by unfold sread; rw [hp]
    rw [e]
    exact rd_gives_upF L hL A c Q s a bk ls k F n A1 c1 w hQ HTl
  · rw [hp] at HTl
    have hl := ptake_rising L a bk ls k F hF s l s' hp
    refine rd_goes_onF L hL A c Q s a bk ls k l s' n A1 c1 w hQ HTl hR (sbits a bk ls k l F) (decide ((L.drop s).take (sbits a bk ls k l F).length = sbits a bk ls k l F)) _ _ _ ?_ ?_ ?_
    · show _ ∧ _
      unfold sread
      rw [hp]
      simp only
      refine ⟨fun h => ?_, fun h => ?_⟩
      · rw [if_pos (of_decide_eq_true h)]; exact ⟨rfl, rfl, rfl⟩
      · rw [if_neg (of_decide_eq_false h)]; exact ⟨rfl, rfl, rfl⟩
    · exact fun A2 c2 V hW hrd hcap => encode_any a ha l F hl bk ls k hF hls hbk hk hk2 l.length n rfl A2 A1 c2 c1 hcap V hrd (fun h => ⟨(h1 h).1, rdv_up (rdv_low (h1 h).2 hW hlt) (Nat.le_trans (Nat.le_of_lt hlt) hW.size)⟩)
    · exact fun P V hW hRd => stands_any P _ L hL A c s hs V hW hRd
set_option maxHeartbeats 8000000 in
theorem sread_allF (len : Int) (A : Option Addr) (c : Nat) (bs : List Nat) (hbs : ∀ x ∈ bs, x < 256) (p a : Int) (ys : List Int) (m : Nat) (hm : ys.length = m) (hm2 : m ≤ 9223372036854775807) (A2 : Option Addr) (c2 : Nat) (hA2 : A2 = none → c2 = 0) (hc2 : m ≤ c2) (b s k : Int) (w : World) (h1 : Rd w w.heap.size A bs) (h2 : RdV w w.heap.size A2 (zc ys)) :
    Calls Tryz.prog 14 #[.agg #[.int .i64 len, .slice A bs.length c], .int .i64 p, .int .i64 a, .slice A2 m c2, .agg #[.int .i64 b, .int .i64 s, .int .i64 k]] w (RdF w (srX len bs p a ys b s k).1 (srX len bs p a ys b s k).2.1 (srX len bs p a ys b s k).2.2) := by
  obtain ⟨N, hN⟩ : ∃ N, bs.length = N := ⟨_, rfl⟩
  obtain ⟨w1, e1⟩ : ∃ w1, w.alloc (.cells #[.int .i64 len, .slice A N c] 27) = w1 := ⟨_, rfl⟩
  obtain ⟨w2, e2⟩ : ∃ w2, w1.alloc (.cells #[.int .i64 b, .int .i64 s, .int .i64 k] 24) = w2 := ⟨_, rfl⟩
  have s1 : w1.heap.size = w.heap.size + 1 := e1 ▸ World.size_alloc _ _
  have s2 : w2.heap.size = w1.heap.size + 1 := by rw [← e2, World.size_alloc]
  have b1 : Below w.heap.size w w1 := e1 ▸ one_below w _
  have b2 : Below w1.heap.size w1 w2 := e2 ▸ one_below w1 _
  have hb : Below w.heap.size w w2 := b1.trans (b2.mono (by omega))
  have hbx : w2.heap[w.heap.size]? = some (.cells #[.int .i64 len, .slice A N c] 27 (0, 0)) := by
    rw [b2.block _ (by omega)]; exact e1 ▸ World.alloc_heap_new w _
  have hhw : w2.heap[w1.heap.size]? = some (.cells #[.int .i64 b, .int .i64 s, .int .i64 k] 24 (0, 0)) := e2 ▸ World.alloc_heap_new w1 _
  have HQ : Hid (∀ V, Below w2.heap.size w2 V → (V.cell? ⟨w.heap.size, 0, none⟩ = some (.int .i64 len) ∧ V.cell? ⟨w.heap.size, 1, none⟩ = some (.slice A N c)) ∧ V.cell? ⟨w1.heap.size, 0, none⟩ = some (.int .i64 b) ∧ V.cell? ⟨w1.heap.size, 1, none⟩ = some (.int .i64 s) ∧ V.cell? ⟨w1.heap.size, 2, none⟩ = some (.int .i64 k)) := fun V hV => by
    have h := (hV.block w.heap.size (by omega)).trans hbx
    have h' := (hV.block w1.heap.size (by omega)).trans hhw
    exact ⟨⟨(cell_at h _).trans rfl, (cell_at h _).trans rfl⟩, (cell_at h' _).trans rfl, (cell_at h' _).trans rfl, (cell_at h' _).trans rfl⟩
  have HLow : Hid (∀ V, Below w2.heap.size w2 V → Below w.heap.size w V) := fun V hV => hb.trans (hV.mono (by omega))
  have HCk := Lib.hid (scheck_any b s k w2)
  have HNd := Lib.hid (node_any a)
  have HC : Hid (∀ V, Below w.heap.size w V → Calls Tryz.prog 53 #[.agg #[.int .i64 len, .slice A N c]] V fun e w' => e = .returned (.int .i64 (chk len bs)) ∧ Below V.heap.size V w') := fun V hV => by rw [← hN]; exact check_any len A c bs V hbs (h1.on hV)
  have HRg := Lib.hid (range3 (chk len bs) (decide (0 ≤ p)) (decide (p ≤ len)) (okN a) _ rfl)
  have HCr : Hid (∀ V, Below w.heap.size w V → Calls Tryz.prog 51 #[.slice A2 m c2, .agg #[.int .i64 b, .int .i64 s, .int .i64 k]] V fun e w' => e = .returned (.int .i64 (if b = 0 then 0 else rchk ys)) ∧ Below V.heap.size V w') := fun V hV => cref_any b s k ys m hm hm2 A2 c2 V (h2.on hV)
  have hEq : srE len bs p a ys b s k = if hck b s k ≠ 0 then hck b s k else if rgE (chk len bs) [decide (0 ≤ p), decide (p ≤ len), okN a] ≠ 0 then rgE (chk len bs) [decide (0 ≤ p), decide (p ≤ len), okN a] else if b = 0 then 0 else rchk ys := rfl
  obtain ⟨⟨q0, q1⟩, q2, q3, q4⟩ := HQ.out w2 (Below.refl _ _)
  by_cases z1 : hck b s k = 0
  · rw [if_neg (by simpa using z1)] at hEq
    rw [z1] at HCk
    by_cases z2 : rgE (chk len bs) [decide (0 ≤ p), decide (p ≤ len), okN a] = 0
    · rw [if_neg (by simpa using z2)] at hEq
      rw [z2] at HRg
      by_cases z3 : (if b = 0 then 0 else rchk ys) = 0
      · have h0 : srE len bs p a ys b s k = 0 := hEq.trans z3
        have hX : ∃ l to er, srX len bs p a ys b s k = (l, to, er) ∧ ∀ V Q, Below w.heap.size w V → w.heap.size ≤ Q → V.heap[Q]? = some (.cells #[.int .i64 len, .slice A N c, .int .i64 p] 92 (0, 0)) → Calls Tryz.prog 54 #[.pointer (some ⟨Q, 0, none⟩), .int .i64 a, .slice A2 m c2, .agg #[.int .i64 b, .int .i64 s, .int .i64 k]] V (ReF Q V l to er) := by
          obtain ⟨L, q, a', b', s', k', rfl, hL, rfl, rfl, hq, rfl, ha', rfl, rfl, rfl, hb', hs', hk', hF⟩ := srE_zero len bs hbs p a ys b s k h0
          refine ⟨(sread L a' b' s' k' (tn ys) q).1, (sread L a' b' s' k' (tn ys) q).2.1, (sread L a' b' s' k' (tn ys) q).2.2, srX_ok L q a' b' s' k' ys h0, fun V Q hV hQ hRB => ?_⟩
          have g1 : Rd V Q A (pack L) := h1.below hV hQ
          refine read_anyF L hL A c Q q hq a' b' s' k' ha' hs' hb' hk'.1 hk'.2 (tn ys) (fun h => by obtain ⟨F, rfl, hF2⟩ := hF h; rw [tn_ns]; exact hF2) m A2 c2 hA2 hc2 V (fun h => ?_) (by unfold RB; rw [hN]; exact hRB) g1
          obtain ⟨F, e, hF2⟩ := hF h
          subst e
          rw [tn_ns]
          exact ⟨by rw [← hm, ns_length], h2.below hV hQ⟩
        obtain ⟨l, to, er, hx, hRe⟩ := hX
        rw [hx]
        have HRe2 := Lib.hid hRe
        rw [z3] at HCr
        rw [hN]
        generalize chk len bs = ec at *
        generalize okN a = oa at *
        clear h1 h2 hEq h0 z1 z2 z3 hm hbx hhw hb b1 b2 s1 s2 hbs hN hx hRe
        go_enter Tryz.func14, Tryz.ntmps14
        go_wp2_with fail
        refine HCk.out.mono ?_
        rintro e v1 ⟨rfl, B1⟩
        have HB1 := Lib.hid B1
        clear B1
        have HL1 := Lib.hid (HLow.out v1 HB1.out)
        have HK : Hid (∀ V, Below v1.heap.size v1 V → V.cell? ⟨w.heap.size, 0, none⟩ = some (.int .i64 len) ∧ V.cell? ⟨w.heap.size, 1, none⟩ = some (.slice A N c)) := fun V hV => (HQ.out V (HB1.out.trans (hV.mono HB1.out.size))).1
        go_wp2_with fail
        go_region_held3 (fun w' => w'.cell? ⟨w.heap.size, 0, none⟩ = some (.int .i64 len) ∧ w'.cell? ⟨w.heap.size, 1, none⟩ = some (.slice A N c))
          ((refine HK.out _ ?_; first | exact hk2.out | exact hk1.out.trans ((one_below _ _).mono hk1.out.size) | exact hk1.out | exact (Below.refl _ _).drew))
          (first
            | (go_at_call 48; have hx := hk1.out; refine (HRg.out x1 _ rfl).mono ?_; rintro e x2 ⟨rfl, B2⟩; have hk2 : Hid (Below v1.heap.size v1 x2) := hx.trans (B2.mono hx.size); clear B2 hx)
            | (go_at_call 49; have hx := hk1.out; refine (HNd.out x1).mono ?_; rintro e _ ⟨rfl, rfl⟩; clear hx)
            | (go_at_call 53; refine (HC.out v1.drew HL1.out.drew).mono ?_; rintro e x1 ⟨rfl, B1⟩; have hk1 : Hid (Below v1.heap.size v1 x1) := ((Below.refl _ v1).drew).trans B1; clear B1))
        obtain ⟨⟨r0, r1⟩, y0, y1, y2⟩ := HQ.out x2 (HB1.out.trans (hk2.out.mono HB1.out.size))
        have HB2 := Lib.hid (HB1.out.trans (hk2.out.mono HB1.out.size))
        clear q0 q1 q2 q3 q4 HK hk1 hk2
        go_wp2_with fail
        refine (HCr.out x2 (HLow.out x2 HB2.out)).mono ?_
        rintro e x3 ⟨rfl, B3⟩
        have HB3 := Lib.hid (HB2.out.trans (B3.mono HB2.out.size))
        clear B3 r0 r1 y0 y1 y2
        obtain ⟨⟨r0, r1⟩, y0, y1, y2⟩ := HQ.out x3 HB3.out
        obtain ⟨x4, e4⟩ : ∃ x4, x3.alloc (.cells #[.int .i64 len, .slice A N c, .int .i64 p] 92) = x4 := ⟨_, rfl⟩
        have b4 : Below x3.heap.size x3 x4 := e4 ▸ one_below x3 _
        have g4 : x4.heap[x3.heap.size]? = some (.cells #[.int .i64 len, .slice A N c, .int .i64 p] 92 (0, 0)) := e4 ▸ World.alloc_heap_new x3 _
        have HB4 := Lib.hid (HB3.out.trans (b4.mono HB3.out.size))
        have hle : w.heap.size ≤ x3.heap.size := (HLow.out x3 HB3.out).size
        have HRe3 := Lib.hid (HRe2.out x4 x3.heap.size (HLow.out x4 HB4.out) hle g4)
        have hlt : x3.heap.size < x4.heap.size := (Array.getElem?_eq_some_iff.1 g4).1
        have HSz : Hid (w.heap.size ≤ x3.heap.size ∧ x3.heap.size < x4.heap.size) := ⟨hle, hlt⟩
        obtain ⟨⟨r0', r1'⟩, y0', y1', y2'⟩ := HQ.out x4 HB4.out
        clear b4 g4 hle hlt HRe2
        go_wp2_with fail
        refine HRe3.out.mono ?_
        rintro e x5 ⟨A5, c5, rfl, hc5, hn5, hr5, hwb⟩
        have HR5 := Lib.hid hr5
        have HBf : Hid (Below w.heap.size w x5) := (HLow.out x4 HB4.out).trans (hwb.low HSz.out.1 HSz.out.2)
        clear hr5 hwb r0 r1 y0 y1 y2 r0' r1' y0' y1' y2'
        go_wp2
        go_ret3
        exact ⟨A5, c5, rfl, hc5, hn5, ⟨HR5.out.1, fun b o s h => Nat.le_trans HSz.out.1 (Nat.le_trans (Nat.le_of_lt HSz.out.2) (HR5.out.2 b o s h))⟩, HBf.out⟩
      · rw [srX_no _ _ _ _ _ _ _ _ (by rw [hEq]; exact z3), hEq]
        rw [hN]
        have HBad : Hid (∀ V, Below w2.heap.size w2 V → RdF w [] 0 (if b = 0 then 0 else rchk ys) (.returned (.tuple #[.slice none 0 0, .int .i64 0, .int .i64 (if b = 0 then 0 else rchk ys)])) V) := fun V hV => ⟨none, 0, rfl, Nat.le_refl _, fun _ => rfl, ⟨.inl rfl, fun b o s h => by cases h⟩, HLow.out V hV⟩
        generalize (if b = 0 then 0 else rchk ys) = r1 at *
        have t1 : (r1 != 0) = true := by simpa using z3
        generalize chk len bs = ec at *
        generalize okN a = oa at *
        clear h1 h2 hEq z1 z2 z3 hm hbx hhw hb b1 b2 s1 s2 hbs hN
        go_enter Tryz.func14, Tryz.ntmps14
        go_wp2_with fail
        refine HCk.out.mono ?_
        rintro e v1 ⟨rfl, B1⟩
        have HB1 := Lib.hid B1
        clear B1
        have HL1 := Lib.hid (HLow.out v1 HB1.out)
        have HK : Hid (∀ V, Below v1.heap.size v1 V → V.cell? ⟨w.heap.size, 0, none⟩ = some (.int .i64 len) ∧ V.cell? ⟨w.heap.size, 1, none⟩ = some (.slice A N c)) := fun V hV => (HQ.out V (HB1.out.trans (hV.mono HB1.out.size))).1
        go_wp2_with fail
        go_region_held3 (fun w' => w'.cell? ⟨w.heap.size, 0, none⟩ = some (.int .i64 len) ∧ w'.cell? ⟨w.heap.size, 1, none⟩ = some (.slice A N c))
          ((refine HK.out _ ?_; first | exact hk2.out | exact hk1.out.trans ((one_below _ _).mono hk1.out.size) | exact hk1.out | exact (Below.refl _ _).drew))
          (first
            | (go_at_call 48; have hx := hk1.out; refine (HRg.out x1 _ rfl).mono ?_; rintro e x2 ⟨rfl, B2⟩; have hk2 : Hid (Below v1.heap.size v1 x2) := hx.trans (B2.mono hx.size); clear B2 hx)
            | (go_at_call 49; have hx := hk1.out; refine (HNd.out x1).mono ?_; rintro e _ ⟨rfl, rfl⟩; clear hx)
            | (go_at_call 53; refine (HC.out v1.drew HL1.out.drew).mono ?_; rintro e x1 ⟨rfl, B1⟩; have hk1 : Hid (Below v1.heap.size v1 x1) := ((Below.refl _ v1).drew).trans B1; clear B1))
        obtain ⟨⟨r0, r1⟩, y0, y1, y2⟩ := HQ.out x2 (HB1.out.trans (hk2.out.mono HB1.out.size))
        have HB2 := Lib.hid (HB1.out.trans (hk2.out.mono HB1.out.size))
        clear q0 q1 q2 q3 q4 HK hk1 hk2
        go_wp2_with fail
        refine (HCr.out x2 (HLow.out x2 HB2.out)).mono ?_
        rintro e x3 ⟨rfl, B3⟩
        have HB3 := Lib.hid (HB2.out.trans (B3.mono HB2.out.size))
        clear B3 r0 r1 y0 y1 y2
        go_wp2
        go_ret3
        exact HBad.out _ HB3.out
    · rw [if_pos (by simpa using z2)] at hEq
      rw [srX_no _ _ _ _ _ _ _ _ (by rw [hEq]; exact z2), hEq]
      rw [hN]
      have HBad : Hid (∀ V, Below w2.heap.size w2 V → RdF w [] 0 (rgE (chk len bs) [decide (0 ≤ p), decide (p ≤ len), okN a]) (.returned (.tuple #[.slice none 0 0, .int .i64 0, .int .i64 (rgE (chk len bs) [decide (0 ≤ p), decide (p ≤ len), okN a])])) V) := fun V hV => ⟨none, 0, rfl, Nat.le_refl _, fun _ => rfl, ⟨.inl rfl, fun b o s h => by cases h⟩, HLow.out V hV⟩
      generalize rgE (chk len bs) [decide (0 ≤ p), decide (p ≤ len), okN a] = r1 at *
      have t1 : (r1 != 0) = true := by simpa using z2
      generalize chk len bs = ec at *
      generalize okN a = oa at *
      clear h1 h2 hEq z1 z2 hm hbx hhw hb b1 b2 s1 s2 hbs hN HCr
      go_enter Tryz.func14, Tryz.ntmps14
      go_wp2_with fail
      refine HCk.out.mono ?_
      rintro e v1 ⟨rfl, B1⟩
      have HB1 := Lib.hid B1
      clear B1
      have HL1 := Lib.hid (HLow.out v1 HB1.out)
      have HK : Hid (∀ V, Below v1.heap.size v1 V → V.cell? ⟨w.heap.size, 0, none⟩ = some (.int .i64 len) ∧ V.cell? ⟨w.heap.size, 1, none⟩ = some (.slice A N c)) := fun V hV => (HQ.out V (HB1.out.trans (hV.mono HB1.out.size))).1
      go_wp2_with fail
      go_region_held3 (fun w' => w'.cell? ⟨w.heap.size, 0, none⟩ = some (.int .i64 len) ∧ w'.cell? ⟨w.heap.size, 1, none⟩ = some (.slice A N c))
        ((refine HK.out _ ?_; first | exact hk2.out | exact hk1.out.trans ((one_below _ _).mono hk1.out.size) | exact hk1.out | exact (Below.refl _ _).drew))
        (first
          | (go_at_call 48; have hx := hk1.out; refine (HRg.out x1 _ rfl).mono ?_; rintro e x2 ⟨rfl, B2⟩; have hk2 : Hid (Below v1.heap.size v1 x2) := hx.trans (B2.mono hx.size); clear B2 hx)
          | (go_at_call 49; have hx := hk1.out; refine (HNd.out x1).mono ?_; rintro e _ ⟨rfl, rfl⟩; clear hx)
          | (go_at_call 53; refine (HC.out v1.drew HL1.out.drew).mono ?_; rintro e x1 ⟨rfl, B1⟩; have hk1 : Hid (Below v1.heap.size v1 x1) := ((Below.refl _ v1).drew).trans B1; clear B1))
      have HB2 := Lib.hid (HB1.out.trans (hk2.out.mono HB1.out.size))
      clear q0 q1 q2 q3 q4 HK hk1 hk2
      go_wp2
      go_ret3
      exact HBad.out _ HB2.out
  · rw [if_pos (by simpa using z1)] at hEq
    rw [srX_no _ _ _ _ _ _ _ _ (by rw [hEq]; exact z1), hEq]
    rw [hN]
    have HBad : Hid (∀ V, Below w2.heap.size w2 V → RdF w [] 0 (hck b s k) (.returned (.tuple #[.slice none 0 0, .int .i64 0, .int .i64 (hck b s k)])) V) := fun V hV => ⟨none, 0, rfl, Nat.le_refl _, fun _ => rfl, ⟨.inl rfl, fun b o s h => by cases h⟩, HLow.out V hV⟩
    generalize hck b s k = r1 at *
    have t1 : (r1 != 0) = true := by simpa using z1
    clear h1 h2 hEq z1 hm hbx hhw hb b1 b2 s1 s2 hbs hN HCr HRg HNd HC
    go_enter Tryz.func14, Tryz.ntmps14
    go_wp2_with fail
    refine HCk.out.mono ?_
    rintro e v1 ⟨rfl, B1⟩
    have HB1 := Lib.hid B1
    clear B1
    go_wp2
    go_ret3
    exact HBad.out _ HB1.out
end
end Go.Proofs.YtbddcokjkdoaaaaGreat
