/- Texts of this proof, one behind the other; each fact names its conditions. -/
import Derived.Test.YtbddcokjkdoaaaaGreatSN11
import Derived.Test.YtbddcokjkdoaaaaGreatSN10
namespace Go.Proofs.YtbddcokjkdoaaaaGreat
set_option maxRecDepth 100000
set_option linter.unusedVariables false
open Go.RowKit Go.Shelf
def EnP (w : World) (SB : List Bool) (e : Ending) (w' : World) : Prop :=
  ∃ (b : List Bool) (A : Option Addr) (c : Nat) (err : Int), e = .returned (.agg #[.int .i64 (b.length : Int), .slice A (pack b).length c, .int .i64 err]) ∧ Rd w' w'.heap.size A (pack b) ∧ ((SB.length ≤ 8192 ∧ b = SB ∧ err = 0) ∨ (8192 < SB.length ∧ err = 8)) ∧ Below w.heap.size w w'
theorem rd_set3 {w5 : World} {r : Nat} {A Ab : Option Addr} {n c bn cb : Nat} {len bl z err : Int} {bs : List Nat} {t : TypeId} (hr : w5.heap[r]? = some (.cells #[.int .i64 bl, .slice Ab bn cb, .int .i64 z] t (0, 0))) (hR : Rd w5 w5.heap.size A bs) :
    Rd (((w5.setCell ⟨r, 0, none⟩ (.int .i64 len)).setCell ⟨r, 1, none⟩ (.slice A n c)).setCell ⟨r, 2, none⟩ (.int .i64 err)) (((w5.setCell ⟨r, 0, none⟩ (.int .i64 len)).setCell ⟨r, 1, none⟩ (.slice A n c)).setCell ⟨r, 2, none⟩ (.int .i64 err)).heap.size A bs := by
  have h1 : (w5.setCell ⟨r, 0, none⟩ (.int .i64 len)).heap[r]? = some (.cells #[.int .i64 len, .slice Ab bn cb, .int .i64 z] t (0, 0)) := by rw [heap_set3 _ _ _ _ _ _ hr]; rfl
  have h2 : ((w5.setCell ⟨r, 0, none⟩ (.int .i64 len)).setCell ⟨r, 1, none⟩ (.slice A n c)).heap[r]? = some (.cells #[.int .i64 len, .slice A n c, .int .i64 z] t (0, 0)) := by rw [heap_set3 _ _ _ _ _ _ h1]; rfl
  have hsz : (((w5.setCell ⟨r, 0, none⟩ (.int .i64 len)).setCell ⟨r, 1, none⟩ (.slice A n c)).setCell ⟨r, 2, none⟩ (.int .i64 err)).heap.size = w5.heap.size := by simp [World.setCell]
  rw [hsz]
  exact ((hR.set3 _ hr).set3 _ h1).set3 _ h2
set_option maxHeartbeats 4000000 in
theorem encode_any (a : Nat) (ha : a ≤ 1048576) (l F : List Nat) (hl : Rising l) (bk ls k : Nat) (hF : bk ≠ 0 → Rising F) (hls : ls = 0 ∨ 2 ≤ ls ∧ ls ≤ 300) (hbk : bk ≤ 7) (hk : 1 ≤ k) (hk2 : k ≤ 16) (m n : Nat) (hm : l.length = m) (A2 A1 : Option Addr) (c2 c1 : Nat) (hc2 : m ≤ c2) (w : World) (h2 : RdV w w.heap.size A2 (zc (ns l))) (h1 : bk ≠ 0 → F.length = n ∧ RdV w w.heap.size A1 (zc (ns F))) :
    Calls Tryz.prog 52 #[.int .i64 (a : Int), .slice A2 m c2, .slice A1 n c1, .agg #[.int .i64 (bk : Int), .int .i64 (ls : Int), .int .i64 (k : Int)]] w (EnP w (sbits a bk ls k l F)) := by
  obtain ⟨w1, e1⟩ : ∃ w1, w.alloc (.cells #[.int .i64 (bk : Int), .int .i64 (ls : Int), .int .i64 (k : Int)] 24) = w1 := ⟨_, rfl⟩
  obtain ⟨w2, e2⟩ : ∃ w2, w1.alloc (.cells #[.int .i64 0, .slice none 0 0, .int .i64 0] 88) = w2 := ⟨_, rfl⟩
  obtain ⟨w3, e3⟩ : ∃ w3, w2.alloc (.cells #[.int .i64 0, .slice none 0 0, .int .i64 0] 88) = w3 := ⟨_, rfl⟩
  have s1 : w1.heap.size = w.heap.size + 1 := e1 ▸ World.size_alloc _ _
  have s2 : w2.heap.size = w.heap.size + 1 + 1 := by rw [← e2, World.size_alloc, s1]
  have s3 : w3.heap.size = w.heap.size + 1 + 1 + 1 := by rw [← e3, World.size_alloc, s2]
  have b1 : Below w.heap.size w w1 := e1 ▸ one_below w _
  have b2 : Below w1.heap.size w1 w2 := e2 ▸ one_below w1 _
  have b3 : Below w2.heap.size w2 w3 := e3 ▸ one_below w2 _
  have hb : Below w.heap.size w w3 := b1.trans ((b2.trans (b3.mono (by omega))).mono (by omega))
  have hh : w3.heap[w.heap.size]? = some (.cells #[.int .i64 (bk : Int), .int .i64 (ls : Int), .int .i64 (k : Int)] 24 (0, 0)) := by
    rw [b3.block _ (by omega), b2.block _ (by omega)]; exact e1 ▸ World.alloc_heap_new w _
  have hr : w3.heap[w1.heap.size]? = some (.cells #[.int .i64 0, .slice none 0 0, .int .i64 0] 88 (0, 0)) := by
    rw [b3.block _ (by omega)]; exact e2 ▸ World.alloc_heap_new w1 _
  have hp : w3.heap[w2.heap.size]? = some (.cells #[.int .i64 0, .slice none 0 0, .int .i64 0] 88 (0, 0)) := by
    exact e3 ▸ World.alloc_heap_new w2 _
  obtain ⟨w4, e4⟩ : ∃ w4, ((w3.setCell ⟨w2.heap.size, 0, none⟩ (.int .i64 0)).setCell ⟨w2.heap.size, 1, none⟩ (.slice none 0 0)).setCell ⟨w2.heap.size, 2, none⟩ (.int .i64 0) = w4 := ⟨_, rfl⟩
  have hW : WC w4 (w2.heap.size) [] := by
    have := wc_store (w5 := w3) (A5 := none) (c5 := 0) (R := []) (l := []) (eR := 0) hp (.inl pack_nil) (.inl ⟨by simp, rfl, rfl⟩)
    rw [← e4]
    simpa [pack_nil] using this
  have hwb : WB (w2.heap.size) w3 w4 := e4 ▸ (((wb_set _ _ _ _).trans (wb_set _ _ _ _)).trans (wb_set _ _ _ _))
  have hb4 : Below w.heap.size w w4 := hb.trans (hwb.low (by omega) (by omega))
  have hs4 : w3.heap.size ≤ w4.heap.size := hwb.size
  have HA := Lib.hid (addList_any (w2.heap.size) [] a ha l F hl bk ls k hF hls hbk hk hk2 m n hm A2 A1 c2 c1 hc2 w4 hW (h2.below hb4 (by omega)) (fun hb0 => ⟨(h1 hb0).1, (h1 hb0).2.below hb4 (by omega)⟩))
  rw [List.nil_append] at HA
  have hh4 := (hwb.block w.heap.size (by omega) (by simp; omega)).trans hh
  have hr4 := (hwb.block (w1.heap.size) (by omega) (by simp; omega)).trans hr
  have q0 : w4.cell? ⟨w.heap.size, 0, none⟩ = some (.int .i64 (bk : Int)) := (cell_at hh4 _).trans rfl
  have q1 : w4.cell? ⟨w.heap.size, 1, none⟩ = some (.int .i64 (ls : Int)) := (cell_at hh4 _).trans rfl
  have q2 : w4.cell? ⟨w.heap.size, 2, none⟩ = some (.int .i64 (k : Int)) := (cell_at hh4 _).trans rfl
  have p0 : w3.cell? ⟨w2.heap.size, 0, none⟩ = some (.int .i64 0) := (cell_at hp _).trans rfl
  have p1 : w3.cell? ⟨w2.heap.size, 1, none⟩ = some (.slice none 0 0) := (cell_at hp _).trans rfl
  have p2 : w3.cell? ⟨w2.heap.size, 2, none⟩ = some (.int .i64 0) := (cell_at hp _).trans rfl
  have f0 := frz_at hp 0
  have f1 := frz_at hp 1
  have f2 := frz_at hp 2
  have HB := Lib.hid hb4; have HR := Lib.hid hr4
  have HSz : Hid (w2.heap.size < w4.heap.size ∧ w1.heap.size < w4.heap.size ∧ w1.heap.size ≠ w2.heap.size ∧ w.heap.size ≤ w1.heap.size ∧ w.heap.size ≤ w2.heap.size) := by show _ ∧ _; omega
  clear hW hp hh hr hb b1 b2 b3 h1 h2 hm hF hl hls hwb hb4 hs4 hh4 hr4 s1 s2 s3
  generalize sbits a bk ls k l F = SB at *
  go_enter Tryz.func52, Tryz.ntmps52
  go_wp2_with fail
  refine HA.out.mono ?_
  rintro e w5 ⟨rfl, ⟨bb, Ab, cb, ee, hP5, hR5, hcase⟩, hwb5⟩
  have hr5 := (hwb5.block w1.heap.size HSz.out.2.1 (by have := HSz.out.2.2.1; simpa using this)).trans HR.out
  have k0 : w5.cell? ⟨w2.heap.size, 0, none⟩ = some (.int .i64 (bb.length : Int)) := (cell_at hP5 _).trans rfl
  have k1 : w5.cell? ⟨w2.heap.size, 1, none⟩ = some (.slice Ab (pack bb).length cb) := (cell_at hP5 _).trans rfl
  have k2 : w5.cell? ⟨w2.heap.size, 2, none⟩ = some (.int .i64 ee) := (cell_at hP5 _).trans rfl
  have r0 : w5.cell? ⟨w1.heap.size, 0, none⟩ = some (.int .i64 0) := (cell_at hr5 _).trans rfl
  have r1 : w5.cell? ⟨w1.heap.size, 1, none⟩ = some (.slice none 0 0) := (cell_at hr5 _).trans rfl
  have r2 : w5.cell? ⟨w1.heap.size, 2, none⟩ = some (.int .i64 0) := (cell_at hr5 _).trans rfl
  have g0 := frz_at hr5 0
  have g1 := frz_at hr5 1
  have g2 := frz_at hr5 2
  have HRd := Lib.hid (rd_set3 (len := (bb.length : Int)) (A := Ab) (Ab := none) (n := (pack bb).length) (c := cb) (err := ee) hr5 hR5)
  have HLow : Hid (Below w.heap.size w (((w5.setCell ⟨w1.heap.size, 0, none⟩ (.int .i64 (bb.length : Int))).setCell ⟨w1.heap.size, 1, none⟩ (.slice Ab (pack bb).length cb)).setCell ⟨w1.heap.size, 2, none⟩ (.int .i64 ee))) :=
    ((((HB.out.trans (hwb5.low HSz.out.2.2.2.2 HSz.out.1)).setCell (p := ⟨w1.heap.size, 0, none⟩) HSz.out.2.2.2.1 _).setCell (p := ⟨w1.heap.size, 1, none⟩) HSz.out.2.2.2.1 _).setCell (p := ⟨w1.heap.size, 2, none⟩) HSz.out.2.2.2.1 _)
  have HC := Lib.hid hcase
  clear hP5 hR5 hcase hwb5 hr5 p0 p1 p2 f0 f1 f2
  go_wp2
  exact bodyPost_ret (v := .agg #[.int .i64 (bb.length : Int), .slice Ab (pack bb).length cb, .int .i64 ee]) (by simp [results, Tryz.results52, go_sem, r0, r1, r2]) rfl ⟨bb, Ab, cb, ee, rfl, HRd.out, HC.out, HLow.out⟩
def swE (a : Int) (xs ys : List Int) (b s k : Int) : Int := if rgE (hck b s k) [okN a] ≠ 0 then rgE (hck b s k) [okN a] else if rchk xs ≠ 0 then rchk xs else if b = 0 then 0 else rchk ys
def swL (a : Int) (xs ys : List Int) (b s k : Int) : List Bool := if swE a xs ys b s k ≠ 0 then [] else if (sbits a.toNat b.toNat s.toNat k.toNat (tn xs) (tn ys)).length ≤ 8192 then sbits a.toNat b.toNat s.toNat k.toNat (tn xs) (tn ys) else []
def swF (a : Int) (xs ys : List Int) (b s k : Int) : Int := if swE a xs ys b s k ≠ 0 then swE a xs ys b s k else if (sbits a.toNat b.toNat s.toNat k.toNat (tn xs) (tn ys)).length ≤ 8192 then 0 else 8
theorem rgE_one (e : Int) (b : Bool) : rgE e [b] = if e ≠ 0 then e else if b = true then 0 else 3 := by
  unfold rgE
  by_cases h : e = 0 <;> cases b <;> simp [h]
theorem swE_zero (a : Int) (xs ys : List Int) (b s k : Int) (h : swE a xs ys b s k = 0) : ∃ (a' : Nat) (l : List Nat) (b' s' k' : Nat), a = (a' : Int) ∧ a' ≤ 1048576 ∧ xs = ns l ∧ Rising l ∧ b = (b' : Int) ∧ s = (s' : Int) ∧ k = (k' : Int) ∧ b' ≤ 7 ∧ (s' = 0 ∨ 2 ≤ s' ∧ s' ≤ 300) ∧ (1 ≤ k' ∧ k' ≤ 16) ∧ (b' ≠ 0 → ∃ F, ys = ns F ∧ Rising F) := by
  unfold swE at h
  by_cases h1 : rgE (hck b s k) [okN a] = 0
  · rw [if_neg (by simpa using h1)] at h
    by_cases h2 : rchk xs = 0
    · rw [if_neg (by simpa using h2)] at h
      rw [rgE_one] at h1
      by_cases h3 : hck b s k = 0
      · rw [if_neg (by simpa using h3)] at h1
        by_cases h4 : okN a = true
        · obtain ⟨a', rfl, ha⟩ := okN_true h4
          obtain ⟨l, rfl, hl⟩ := rchk_zero xs h2
          obtain ⟨⟨c1, c2⟩, c3, c4, c5⟩ := hck_zero b s k h3
          obtain ⟨b', rfl⟩ : ∃ n : Nat, b = (n : Int) := ⟨b.toNat, by omega⟩
          obtain ⟨s', rfl⟩ : ∃ n : Nat, s = (n : Int) := ⟨s.toNat, by omega⟩
          obtain ⟨k', rfl⟩ : ∃ n : Nat, k = (n : Int) := ⟨k.toNat, by omega⟩
          refine ⟨a', l, b', s', k', rfl, ha, rfl, hl, rfl, rfl, rfl, by omega, by omega, by omega, fun h0 => ?_⟩
          rw [if_neg (by omega)] at h
          exact rchk_zero ys h
        · rw [if_neg h4] at h1; omega
      · rw [if_pos (by simpa using h3)] at h1; exact absurd h1 h3
    · rw [if_pos (by simpa using h2)] at h; exact absurd h h2
  · rw [if_pos (by simpa using h1)] at h; exact absurd h h1
set_option maxHeartbeats 8000000 in
theorem swrite_any (a : Int) (xs : List Int) (n : Nat) (hn : xs.length = n) (hn2 : n ≤ 9223372036854775807) (ys : List Int) (m : Nat) (hm : ys.length = m) (hm2 : m ≤ 9223372036854775807) (b s k : Int) (A1 A2 : Option Addr) (c1 c2 : Nat) (hc1 : n ≤ c1) (w : World) (h1 : RdV w w.heap.size A1 (zc xs)) (h2 : RdV w w.heap.size A2 (zc ys)) :
    Calls Tryz.prog 13 #[.int .i64 a, .slice A1 n c1, .slice A2 m c2, .agg #[.int .i64 b, .int .i64 s, .int .i64 k]] w (Gave w (swL a xs ys b s k) (swF a xs ys b s k)) := by
  obtain ⟨w1, e1⟩ : ∃ w1, w.alloc (.cells #[.int .i64 b, .int .i64 s, .int .i64 k] 24) = w1 := ⟨_, rfl⟩
  obtain ⟨w2, e2⟩ : ∃ w2, w1.alloc (.cells #[.int .i64 0, .slice none 0 0] 27) = w2 := ⟨_, rfl⟩
  have s1 : w1.heap.size = w.heap.size + 1 := e1 ▸ World.size_alloc _ _
  have s2 : w2.heap.size = w1.heap.size + 1 := by rw [← e2, World.size_alloc]
  have b1 : Below w.heap.size w w1 := e1 ▸ one_below w _
  have b2 : Below w1.heap.size w1 w2 := e2 ▸ one_below w1 _
  have hb : Below w.heap.size w w2 := b1.trans (b2.mono (by omega))
  have hh : w2.heap[w.heap.size]? = some (.cells #[.int .i64 b, .int .i64 s, .int .i64 k] 24 (0, 0)) := by
    rw [b2.block _ (by omega)]; exact e1 ▸ World.alloc_heap_new w _
  have hr : w2.heap[w1.heap.size]? = some (.cells #[.int .i64 0, .slice none 0 0] 27 (0, 0)) := e2 ▸ World.alloc_heap_new w1 _
  have HQ : Hid (∀ V, Below w2.heap.size w2 V → V.cell? ⟨w.heap.size, 0, none⟩ = some (.int .i64 b) ∧ V.cell? ⟨w.heap.size, 1, none⟩ = some (.int .i64 s) ∧ V.cell? ⟨w.heap.size, 2, none⟩ = some (.int .i64 k)) := fun V hV => by
    have h := (hV.block w.heap.size (by omega)).trans hh
    exact ⟨(cell_at h _).trans rfl, (cell_at h _).trans rfl, (cell_at h _).trans rfl⟩
  have HRb : Hid (∀ V, Below w2.heap.size w2 V → V.heap[w1.heap.size]? = some (.cells #[.int .i64 0, .slice none 0 0] 27 (0, 0))) := fun V hV => (hV.block w1.heap.size (by omega)).trans hr
  have HLow : Hid (∀ V, Below w2.heap.size w2 V → Below w.heap.size w V) := fun V hV => hb.trans (hV.mono (by omega))
  have Hle : w.heap.size ≤ w1.heap.size := by omega
  have HCk := Lib.hid (scheck_any b s k w2)
  have HNd := Lib.hid (node_any a)
  have HRg := Lib.hid (range1 (hck b s k) (okN a) _ rfl)
  have HG : Hid (∀ V, Below w.heap.size w V → Calls Tryz.prog 50 #[.slice A1 n c1] V fun e w' => e = .returned (.int .i64 (rchk xs)) ∧ Below V.heap.size V w') := fun V hV => gcheck_any xs n hn hn2 A1 c1 V (h1.on hV)
  have HCr : Hid (∀ V, Below w.heap.size w V → Calls Tryz.prog 51 #[.slice A2 m c2, .agg #[.int .i64 b, .int .i64 s, .int .i64 k]] V fun e w' => e = .returned (.int .i64 (if b = 0 then 0 else rchk ys)) ∧ Below V.heap.size V w') := fun V hV => cref_any b s k ys m hm hm2 A2 c2 V (h2.on hV)
  have HFin : Hid (∀ e0 V, e0 ≠ 0 → swE a xs ys b s k = e0 → Below w2.heap.size w2 V → Gave w (swL a xs ys b s k) (swF a xs ys b s k) (.returned (.tuple #[.agg #[.int .i64 0, .slice none 0 0], .int .i64 e0])) ((V.setCell ⟨w1.heap.size, 0, none⟩ (.int .i64 0)).setCell ⟨w1.heap.size, 1, none⟩ (.slice none 0 0))) := fun e0 V h0 he hV => by
    have hS : swL a xs ys b s k = [] := by unfold swL; rw [if_pos (by rw [he]; exact h0)]
    have hF : swF a xs ys b s k = e0 := by unfold swF; rw [if_pos (by rw [he]; exact h0), he]
    rw [hS, hF]
    obtain ⟨_, HG⟩ := gv_store2 (w := w) (len := 0) (n := 0) (A := none) (c := 0) (Rd.nil V _ none) Hle (HRb.out V hV) (HLow.out V hV) e0
    obtain ⟨A', c', q1, q2, q3⟩ := HG.out
    exact ⟨A', c', by rw [q1]; simp [pack_nil], by simpa [pack_nil] using q2, q3⟩
  have hEq : swE a xs ys b s k = if rgE (hck b s k) [okN a] ≠ 0 then rgE (hck b s k) [okN a] else if rchk xs ≠ 0 then rchk xs else if b = 0 then 0 else rchk ys := rfl
  obtain ⟨q0, q1, q2⟩ := HQ.out w2 (Below.refl _ _)
  by_cases z1 : rgE (hck b s k) [okN a] = 0
  · rw [if_neg (by simpa using z1)] at hEq
    rw [z1] at HRg
    clear s1 s2
    by_cases z2 : rchk xs = 0
    · rw [if_neg (by simpa using z2)] at hEq
      rw [z2] at HG
      by_cases z3 : (if b = 0 then 0 else rchk ys) = 0
      · obtain ⟨a', l, b', s', k', rfl, ha, rfl, hl, rfl, rfl, rfl, hb7, hs7, hk7, hF7⟩ := swE_zero a xs ys b s k (hEq.trans z3)
        rw [z3] at HCr
        obtain ⟨F, hFt, hFr⟩ : ∃ F, tn ys = F ∧ (b' ≠ 0 → ys = ns F ∧ Rising F) := ⟨tn ys, rfl, fun h => by
          obtain ⟨F, rfl, hF⟩ := hF7 h
          rw [tn_ns]; exact ⟨rfl, hF⟩⟩
        have hSL : swL (a' : Int) (ns l) ys (b' : Int) (s' : Int) (k' : Int) = if (sbits a' b' s' k' l F).length ≤ 8192 then sbits a' b' s' k' l F else [] := by
          unfold swL
          rw [if_neg (by rw [hEq, z3]; simp)]
          simp only [Int.toNat_natCast, tn_ns, hFt]
        have hSF : swF (a' : Int) (ns l) ys (b' : Int) (s' : Int) (k' : Int) = if (sbits a' b' s' k' l F).length ≤ 8192 then 0 else 8 := by
          unfold swF
          rw [if_neg (by rw [hEq, z3]; simp)]
          simp only [Int.toNat_natCast, tn_ns, hFt]
        have HEn : Hid (∀ V, Below w.heap.size w V → Calls Tryz.prog 52 #[.int .i64 (a' : Int), .slice A1 n c1, .slice A2 m c2, .agg #[.int .i64 (b' : Int), .int .i64 (s' : Int), .int .i64 (k' : Int)]] V (EnP V (sbits a' b' s' k' l F))) := fun V hV => encode_any a' ha l F hl b' s' k' (fun h => (hFr h).2) hs7 hb7 hk7.1 hk7.2 n m (by rw [ns_length] at hn; exact hn) A1 A2 c1 c2 hc1 V (h1.on hV) (fun h => ⟨by rw [← hm, (hFr h).1, ns_length], by have := h2.on hV; rwa [(hFr h).1] at this⟩)
        rw [hSL, hSF]
        have HFs : Hid (∀ (bb : List Bool) (Ab : Option Addr) (cb : Nat) (V : World), (sbits a' b' s' k' l F).length ≤ 8192 → bb = sbits a' b' s' k' l F → Rd V V.heap.size Ab (pack bb) → Below w2.heap.size w2 V → Gave w (if (sbits a' b' s' k' l F).length ≤ 8192 then sbits a' b' s' k' l F else []) (if (sbits a' b' s' k' l F).length ≤ 8192 then 0 else 8) (.returned (.tuple #[.agg #[.int .i64 (bb.length : Int), .slice Ab (pack bb).length cb], .int .i64 0])) ((V.setCell ⟨w1.heap.size, 0, none⟩ (.int .i64 (bb.length : Int))).setCell ⟨w1.heap.size, 1, none⟩ (.slice Ab (pack bb).length cb))) := fun bb Ab cb V hl8 hbb hR hV => by
          subst hbb
          rw [if_pos hl8, if_pos hl8]
          obtain ⟨_, HG⟩ := gv_store2 (w := w) (len := ((sbits a' b' s' k' l F).length : Int)) (n := (pack (sbits a' b' s' k' l F)).length) (A := Ab) (c := cb) hR Hle (HRb.out V hV) (HLow.out V hV) 0
          exact HG.out
        have HFe : Hid (∀ V, 8192 < (sbits a' b' s' k' l F).length → Below w2.heap.size w2 V → Gave w (if (sbits a' b' s' k' l F).length ≤ 8192 then sbits a' b' s' k' l F else []) (if (sbits a' b' s' k' l F).length ≤ 8192 then 0 else 8) (.returned (.tuple #[.agg #[.int .i64 0, .slice none 0 0], .int .i64 8])) ((V.setCell ⟨w1.heap.size, 0, none⟩ (.int .i64 0)).setCell ⟨w1.heap.size, 1, none⟩ (.slice none 0 0))) := fun V hl8 hV => by
          rw [if_neg (by omega), if_neg (by omega)]
          obtain ⟨_, HG⟩ := gv_store2 (w := w) (len := 0) (n := 0) (A := none) (c := 0) (Rd.nil V _ none) Hle (HRb.out V hV) (HLow.out V hV) 8
          obtain ⟨A', c', q1, q2, q3⟩ := HG.out
          exact ⟨A', c', by rw [q1]; simp [pack_nil], by simpa [pack_nil] using q2, q3⟩
        clear z1 z2 z3 hEq HFin h1 h2 hn hm hb b1 b2 hh hFt hFr hSL hSF hl hF7 hs7 hb7 hk7
        generalize hck (b' : Int) (s' : Int) (k' : Int) = hc at *
        generalize okN (a' : Int) = ok at *
        generalize sbits a' b' s' k' l F = SB at *
        generalize (if SB.length ≤ 8192 then SB else []) = SL at *
        generalize (if SB.length ≤ 8192 then (0 : Int) else 8) = SF at *
        go_enter Tryz.func13, Tryz.ntmps13
        go_wp2_with fail
        refine HCk.out.mono ?_
        rintro e v1 ⟨rfl, B1⟩
        have HB1 := Lib.hid B1
        clear B1
        go_wp2_with fail
        refine (HNd.out _).mono ?_
        rintro e w' ⟨rfl, rfl⟩
        go_wp2_with fail
        refine (HRg.out v1 _ rfl).mono ?_
        rintro e v2 ⟨rfl, B2⟩
        have HB2 := Lib.hid (HB1.out.trans (B2.mono HB1.out.size))
        clear B2
        go_wp2_with fail
        refine (HG.out v2 (HLow.out v2 HB2.out)).mono ?_
        rintro e v3 ⟨rfl, B3⟩
        have HB3 := Lib.hid (HB2.out.trans (B3.mono HB2.out.size))
        clear B3
        obtain ⟨q0', q1', q2'⟩ := HQ.out v3 HB3.out
        clear q0 q1 q2
        go_wp2_with fail
        refine (HCr.out v3 (HLow.out v3 HB3.out)).mono ?_
        rintro e v4 ⟨rfl, B4⟩
        have HB4 := Lib.hid (HB3.out.trans (B4.mono HB3.out.size))
        clear B4
        obtain ⟨y0, y1, y2⟩ := HQ.out v4 HB4.out
        clear q0' q1' q2'
        go_wp2_with fail
        refine (HEn.out v4 (HLow.out v4 HB4.out)).mono ?_
        rintro e v5 ⟨bb, Ab, cb, ee, rfl, hRd, hcase, B5⟩
        have HB5 := Lib.hid (HB4.out.trans (B5.mono HB4.out.size))
        have HRd := Lib.hid hRd
        clear B5 hRd y0 y1 y2
        obtain ⟨v6, e6⟩ : ∃ v6, v5.alloc (.cells #[.int .i64 (bb.length : Int), .slice Ab (pack bb).length cb, .int .i64 ee] 88) = v6 := ⟨_, rfl⟩
        have hb6 : Below v5.heap.size v5 v6 := e6 ▸ one_below v5 _
        have hx6 : v6.heap[v5.heap.size]? = some (.cells #[.int .i64 (bb.length : Int), .slice Ab (pack bb).length cb, .int .i64 ee] 88 (0, 0)) := e6 ▸ World.alloc_heap_new v5 _
        have HB6 := Lib.hid (HB5.out.trans (hb6.mono HB5.out.size))
        have HRd6 := Lib.hid (HRd.out.on hb6)
        have j0 : v6.cell? ⟨v5.heap.size, 0, none⟩ = some (.int .i64 (bb.length : Int)) := (cell_at hx6 _).trans rfl
        have j1 : v6.cell? ⟨v5.heap.size, 1, none⟩ = some (.slice Ab (pack bb).length cb) := (cell_at hx6 _).trans rfl
        have j2 : v6.cell? ⟨v5.heap.size, 2, none⟩ = some (.int .i64 ee) := (cell_at hx6 _).trans rfl
        obtain ⟨⟨d0, d1, g0, g1⟩, _⟩ := gv_store2 (w := w) (len := 0) (n := 0) (A := none) (c := 0) (Rd.nil v6 _ none) Hle (HRb.out v6 HB6.out) (HLow.out v6 HB6.out) 0
        have g5 := frz_at hx6 2
        have HX6 := Lib.hid hx6
        have HRw := Lib.hid (HRb.out v6 HB6.out)
        have Hsz2 : Hid (w2.heap.size ≤ v5.heap.size ∧ w1.heap.size < v5.heap.size) := by have h1 := HB5.out.size; have h3 := (Array.getElem?_eq_some_iff.1 hr).1; exact ⟨h1, by omega⟩
        clear hb6 hx6 HRd hr
        rcases hcase with ⟨hl8, hbb, rfl⟩ | ⟨hl8, rfl⟩
        · have hbv7 : Below w2.heap.size w2 (v6.setCell ⟨v5.heap.size, 2, none⟩ (.int .i64 0)) := HB6.out.setCell (p := ⟨v5.heap.size, 2, none⟩) Hsz2.out.1 _
          have hrd7 : Rd (v6.setCell ⟨v5.heap.size, 2, none⟩ (.int .i64 0)) (v6.setCell ⟨v5.heap.size, 2, none⟩ (.int .i64 0)).heap.size Ab (pack bb) := by
            have hsz : (v6.setCell ⟨v5.heap.size, 2, none⟩ (.int .i64 0)).heap.size = v6.heap.size := by simp [World.setCell]
            rw [hsz]; exact HRd6.out.set3 _ HX6.out
          have HFx := Lib.hid (HFs.out bb Ab cb _ hl8 hbb hrd7 hbv7)
          clear hbb hl8 hbv7 hrd7
          go_wp2
          exact bodyPost_ret (v := .tuple #[.agg #[.int .i64 (bb.length : Int), .slice Ab (pack bb).length cb], .int .i64 0]) (by simp [results, Tryz.results13, go_sem, d0, d1]) rfl HFx.out
        · have HFx := Lib.hid (fun q => HFe.out (v6.drewN q) hl8 (below_drewN HB6.out q))
          have HFy := Lib.hid (HFe.out v6 hl8 HB6.out)
          clear hl8
          go_wp2
          go_region
          all_goals (
            go_wp2
            obtain ⟨A', c', q1, q2, q3⟩ := HFy.out
            exact bodyPost_ret (v := .tuple #[.agg #[.int .i64 0, .slice none 0 0], .int .i64 8]) (by simp [results, Tryz.results13, go_sem, d0, d1]) rfl ⟨A', c', q1, q2, q3.drew⟩)
      · have HF2 := Lib.hid (fun V => HFin.out _ V z3 hEq)
        generalize (if b = 0 then 0 else rchk ys) = r1 at *
        have t1 : (r1 != 0) = true := by simpa using z3
        clear z1 z2 z3 hEq HFin h1 h2 hn hm hb b1 b2 hh hr
        generalize swL a xs ys b s k = SL at *
        generalize swF a xs ys b s k = SF at *
        generalize hck b s k = hc at *
        generalize okN a = ok at *
        go_enter Tryz.func13, Tryz.ntmps13
        go_wp2_with fail
        refine HCk.out.mono ?_
        rintro e v1 ⟨rfl, B1⟩
        have HB1 := Lib.hid B1
        clear B1
        go_wp2_with fail
        refine (HNd.out _).mono ?_
        rintro e w' ⟨rfl, rfl⟩
        go_wp2_with fail
        refine (HRg.out v1 _ rfl).mono ?_
        rintro e v2 ⟨rfl, B2⟩
        have HB2 := Lib.hid (HB1.out.trans (B2.mono HB1.out.size))
        clear B2
        go_wp2_with fail
        refine (HG.out v2 (HLow.out v2 HB2.out)).mono ?_
        rintro e v3 ⟨rfl, B3⟩
        have HB3 := Lib.hid (HB2.out.trans (B3.mono HB2.out.size))
        clear B3
        obtain ⟨q0', q1', q2'⟩ := HQ.out v3 HB3.out
        clear q0 q1 q2
        go_wp2_with fail
        refine (HCr.out v3 (HLow.out v3 HB3.out)).mono ?_
        rintro e v4 ⟨rfl, B4⟩
        have HB4 := Lib.hid (HB3.out.trans (B4.mono HB3.out.size))
        clear B4
        obtain ⟨⟨d0, d1, g0, g1⟩, _⟩ := gv_store2 (w := w) (len := 0) (n := 0) (A := none) (c := 0) (Rd.nil v4 _ none) Hle (HRb.out v4 HB4.out) (HLow.out v4 HB4.out) 0
        go_wp2
        exact bodyPost_ret (v := .tuple #[.agg #[.int .i64 0, .slice none 0 0], .int .i64 r1]) (by simp [results, Tryz.results13, go_sem, d0, d1]) rfl (HF2.out v4 HB4.out)
    · rw [if_pos (by simpa using z2)] at hEq
      have HF2 := Lib.hid (fun V => HFin.out _ V z2 hEq)
      generalize rchk xs = r1 at *
      have t1 : (r1 != 0) = true := by simpa using z2
      clear z1 z2 hEq HFin h1 h2 hn hm hb b1 b2 hh hr HCr
      generalize swL a xs ys b s k = SL at *
      generalize swF a xs ys b s k = SF at *
      generalize hck b s k = hc at *
      generalize okN a = ok at *
      go_enter Tryz.func13, Tryz.ntmps13
      go_wp2_with fail
      refine HCk.out.mono ?_
      rintro e v1 ⟨rfl, B1⟩
      have HB1 := Lib.hid B1
      clear B1
      go_wp2_with fail
      refine (HNd.out _).mono ?_
      rintro e w' ⟨rfl, rfl⟩
      go_wp2_with fail
      refine (HRg.out v1 _ rfl).mono ?_
      rintro e v2 ⟨rfl, B2⟩
      have HB2 := Lib.hid (HB1.out.trans (B2.mono HB1.out.size))
      clear B2
      go_wp2_with fail
      refine (HG.out v2 (HLow.out v2 HB2.out)).mono ?_
      rintro e v3 ⟨rfl, B3⟩
      have HB3 := Lib.hid (HB2.out.trans (B3.mono HB2.out.size))
      clear B3
      obtain ⟨⟨d0, d1, g0, g1⟩, _⟩ := gv_store2 (w := w) (len := 0) (n := 0) (A := none) (c := 0) (Rd.nil v3 _ none) Hle (HRb.out v3 HB3.out) (HLow.out v3 HB3.out) 0
      go_wp2
      exact bodyPost_ret (v := .tuple #[.agg #[.int .i64 0, .slice none 0 0], .int .i64 r1]) (by simp [results, Tryz.results13, go_sem, d0, d1]) rfl (HF2.out v3 HB3.out)
  · rw [if_pos (by simpa using z1)] at hEq
    have HF2 := Lib.hid (fun V => HFin.out _ V z1 hEq)
    generalize rgE (hck b s k) [okN a] = r1 at *
    have t1 : (r1 != 0) = true := by simpa using z1
    clear z1 hEq HFin h1 h2 hn hm hb b1 b2 hh hr HG HCr s1 s2
    generalize swL a xs ys b s k = SL at *
    generalize swF a xs ys b s k = SF at *
    generalize hck b s k = hc at *
    generalize okN a = ok at *
    go_enter Tryz.func13, Tryz.ntmps13
    go_wp2_with fail
    refine HCk.out.mono ?_
    rintro e v1 ⟨rfl, B1⟩
    have HB1 := Lib.hid B1
    clear B1
    go_wp2_with fail
    refine (HNd.out _).mono ?_
    rintro e w' ⟨rfl, rfl⟩
    go_wp2_with fail
    refine (HRg.out v1 _ rfl).mono ?_
    rintro e v2 ⟨rfl, B2⟩
    have HB2 := Lib.hid (HB1.out.trans (B2.mono HB1.out.size))
    clear B2
    obtain ⟨⟨d0, d1, g0, g1⟩, _⟩ := gv_store2 (w := w) (len := 0) (n := 0) (A := none) (c := 0) (Rd.nil v2 _ none) Hle (HRb.out v2 HB2.out) (HLow.out v2 HB2.out) 0
    go_wp2
    exact bodyPost_ret (v := .tuple #[.agg #[.int .i64 0, .slice none 0 0], .int .i64 r1]) (by simp [results, Tryz.results13, go_sem, d0, d1]) rfl (HF2.out v2 HB2.out)
end Go.Proofs.YtbddcokjkdoaaaaGreat
