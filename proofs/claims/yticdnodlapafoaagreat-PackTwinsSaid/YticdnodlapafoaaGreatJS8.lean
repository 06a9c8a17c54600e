/- Texts of this proof, one behind the other (SRg, SRa, SRz); each fact names its conditions. -/
import Derived.Test.YticdnodlapafoaaGreatJSSRf
import Derived.Test.YticdnodlapafoaaGreatJSSSt
import Derived.Deep.RegionHeld3
namespace Go.Proofs.YticdnodlapafoaaGreat

section
set_option maxRecDepth 100000
set_option linter.unusedVariables false
open Go.RowKit Go.Shelf

theorem read_any (L : List Bool) (hL : L.length ≤ 8192) (A : Option Addr) (c Q s : Nat) (hs : s ≤ L.length) (a bk ls k : Nat) (ha : a ≤ 1048576) (hls : ls = 0 ∨ 2 ≤ ls ∧ ls ≤ 300) (hbk : bk ≤ 7) (hk : 1 ≤ k) (hk2 : k ≤ 16) (F : List Nat) (hF : bk ≠ 0 → Rising F) (n : Nat) (A1 : Option Addr) (c1 : Nat) (hA1 : A1 = none → c1 = 0) (hc1 : n ≤ c1) (w : World) (h1 : bk ≠ 0 → F.length = n ∧ RdV w Q A1 (zc (ns F))) (hQ : RB w Q L A c s) (hR : Rd w Q A (pack L)) :
    Calls Tryz.prog 47 #[.pointer (some ⟨Q, 0, none⟩), .int .i64 (a : Int), .slice A1 n c1, .agg #[.int .i64 (bk : Int), .int .i64 (ls : Int), .int .i64 (k : Int)]] w (ReP Q w (sread L a bk ls k F s).1 (sread L a bk ls k F s).2.1 (sread L a bk ls k F s).2.2) := by
  have hlt := hQ.lt
  have HTl : ∀ V, Below w.heap.size w V → Calls Tryz.prog 77 #[.pointer (some ⟨Q, 0, none⟩), .int .i64 (a : Int), .slice A1 n c1, .agg #[.int .i64 (bk : Int), .int .i64 (ls : Int), .int .i64 (k : Int)]] V (TlP Q L A c V (ptake L a bk ls k F s)) := fun V hV =>
    take_list L hL A c Q s hs a bk ls k ha hls hk hk2 F hF n A1 c1 hA1 hc1 V (fun h => ⟨(h1 h).1, rdv_low (h1 h).2 (wb_below hV) hlt⟩) (hQ.on hV) (rd_low hR (wb_below hV) hlt)
  rcases hp : ptake L a bk ls k F s with _ | ⟨l, s'⟩
  · rw [hp] at HTl
    have e : sread L a bk ls k F s = ([], 0, 1) := by unfold sread; rw [hp]
    rw [e]
    exact rd_gives_up L hL A c Q s a bk ls k F n A1 c1 w hQ HTl
  · rw [hp] at HTl
    have hl := ptake_rising L a bk ls k F hF s l s' hp
    refine rd_goes_on L hL A c Q s a bk ls k l s' n A1 c1 w hQ HTl hR (sbits a bk ls k l F) (decide ((L.drop s).take (sbits a bk ls k l F).length = sbits a bk ls k l F)) _ _ _ ?_ ?_ ?_
    · show _ ∧ _
      unfold sread
      rw [hp]
      simp only
      refine ⟨fun h => ?_, fun h => ?_⟩
      · rw [if_pos (of_decide_eq_true h)]; exact ⟨rfl, rfl, rfl⟩
      · rw [if_neg (of_decide_eq_false h)]; exact ⟨rfl, rfl, rfl⟩
    · exact fun A2 c2 V hW hrd hcap => encode_any a ha l F hl bk ls k hF hls hbk hk hk2 l.length n rfl A2 A1 c2 c1 hcap V hrd (fun h => ⟨(h1 h).1, rdv_up (rdv_low (h1 h).2 hW hlt) (Nat.le_trans (Nat.le_of_lt hlt) hW.size)⟩)
    · exact fun P V hW hRd => stands_any P _ L hL A c s hs V hW hRd
end

section
open Go.RowKit Go.Shelf
set_option linter.unusedVariables false

/-- The error of Read ahead of its bits. -/
def srE (len : Int) (bs : List Nat) (p a : Int) (ys : List Int) (b s k : Int) : Int :=
  if hck b s k ≠ 0 then hck b s k else if rgE (chk len bs) [decide (0 ≤ p), decide (p ≤ len), okN a] ≠ 0 then rgE (chk len bs) [decide (0 ≤ p), decide (p ≤ len), okN a] else if b = 0 then 0 else rchk ys
/-- What Read answers. -/
def srX (len : Int) (bs : List Nat) (p a : Int) (ys : List Int) (b s k : Int) : List Nat × Nat × Int :=
  if srE len bs p a ys b s k ≠ 0 then ([], 0, srE len bs p a ys b s k) else sread (unpack len.toNat bs) a.toNat b.toNat s.toNat k.toNat (tn ys) p.toNat
theorem rgE_three (e : Int) (x y z : Bool) (h : rgE e [x, y, z] = 0) : e = 0 ∧ x = true ∧ y = true ∧ z = true := by
  unfold rgE at h
  split at h
  · omega
  · rename_i h1
    subst h
    cases x <;> cases y <;> cases z <;> simp at h1 ⊢
theorem srE_zero (len : Int) (bs : List Nat) (hb : ∀ x ∈ bs, x < 256) (p a : Int) (ys : List Int) (b s k : Int) (h : srE len bs p a ys b s k = 0) : ∃ (L : List Bool) (q a' b' s' k' : Nat), len = (L.length : Int) ∧ L.length ≤ 8192 ∧ bs = pack L ∧ p = (q : Int) ∧ q ≤ L.length ∧ a = (a' : Int) ∧ a' ≤ 1048576 ∧ b = (b' : Int) ∧ s = (s' : Int) ∧ k = (k' : Int) ∧ b' ≤ 7 ∧ (s' = 0 ∨ 2 ≤ s' ∧ s' ≤ 300) ∧ (1 ≤ k' ∧ k' ≤ 16) ∧ (b' ≠ 0 → ∃ F, ys = ns F ∧ Rising F) := by
  unfold srE at h
  by_cases h1 : hck b s k = 0
  · rw [if_neg (by simpa using h1)] at h
    by_cases h2 : rgE (chk len bs) [decide (0 ≤ p), decide (p ≤ len), okN a] = 0
    · rw [if_neg (by simpa using h2)] at h
      obtain ⟨g1, g2, g3, g4⟩ := rgE_three _ _ _ _ h2
      obtain ⟨L, rfl, hL, rfl⟩ := chk_zero len bs hb g1
      obtain ⟨a', rfl, ha⟩ := okN_true g4
      obtain ⟨⟨c1, c2⟩, c3, c4, c5⟩ := hck_zero b s k h1
      have g2' : 0 ≤ p := of_decide_eq_true g2
      have g3' : p ≤ (L.length : Int) := of_decide_eq_true g3
      obtain ⟨b', rfl⟩ : ∃ n : Nat, b = (n : Int) := ⟨b.toNat, by omega⟩
      obtain ⟨s', rfl⟩ : ∃ n : Nat, s = (n : Int) := ⟨s.toNat, by omega⟩
      obtain ⟨k', rfl⟩ : ∃ n : Nat, k = (n : Int) := ⟨k.toNat, by omega⟩
      obtain ⟨q, rfl⟩ : ∃ n : Nat, p = (n : Int) := ⟨p.toNat, by omega⟩
      refine ⟨L, q, a', b', s', k', rfl, hL, rfl, rfl, by omega, rfl, ha, rfl, rfl, rfl, by omega, by omega, by omega, fun h0 => ?_⟩
      rw [if_neg (by omega)] at h
      exact rchk_zero ys h
    · rw [if_pos (by simpa using h2)] at h; exact absurd h h2
  · rw [if_pos (by simpa using h1)] at h; exact absurd h h1
theorem sread_len (L : List Bool) (a bk ls k : Nat) (F : List Nat) (hF : bk ≠ 0 → Rising F) (s : Nat) : Rising (sread L a bk ls k F s).1 := by
  unfold sread
  split
  · exact ⟨by simp, trivial⟩
  · rename_i l s' hp
    split
    · exact ptake_rising L a bk ls k F hF s l s' hp
    · exact ⟨by simp, trivial⟩
theorem srX_no (len : Int) (bs : List Nat) (p a : Int) (ys : List Int) (b s k : Int) (h : srE len bs p a ys b s k ≠ 0) : srX len bs p a ys b s k = ([], 0, srE len bs p a ys b s k) := if_pos h
theorem srX_ok (L : List Bool) (q a' b' s' k' : Nat) (ys : List Int) (h : srE (L.length : Int) (pack L) (q : Int) (a' : Int) ys (b' : Int) (s' : Int) (k' : Int) = 0) : srX (L.length : Int) (pack L) (q : Int) (a' : Int) ys (b' : Int) (s' : Int) (k' : Int) = sread L a' b' s' k' (tn ys) q := by
  unfold srX
  rw [if_neg (by simpa using h)]
  simp only [Int.toNat_natCast, unpack_pack]
theorem srE_in (L : List Bool) (hL : L.length ≤ 8192) (q : Nat) (hq : q ≤ L.length) (a : Nat) (ha : a ≤ 1048576) (b s k : Nat) (hb : b ≤ 7) (hs : s = 0 ∨ 2 ≤ s ∧ s ≤ 300) (hk : 1 ≤ k) (hk2 : k ≤ 16) (ys : List Int) (hy : b ≠ 0 → rchk ys = 0) :
    srE (L.length : Int) (pack L) (q : Int) (a : Int) ys (b : Int) (s : Int) (k : Int) = 0 := by
  unfold srE
  rw [hck_ok b s k hb hs hk hk2, chk_pack L hL, okN_nat a ha, decide_eq_true (by omega : (0 : Int) ≤ (q : Int)), decide_eq_true (by omega : (q : Int) ≤ (L.length : Int))]
  rw [if_neg (by simp), if_neg (by decide)]
  by_cases h0 : b = 0
  · rw [if_pos (by omega)]
  · rw [if_neg (by omega)]; exact hy h0
theorem swL_no (a : Int) (xs ys : List Int) (b s k : Int) (h : swF a xs ys b s k ≠ 0) : swL a xs ys b s k = [] := by
  unfold swF at h
  unfold swL
  by_cases h1 : swE a xs ys b s k = 0
  · rw [if_neg (by simpa using h1)] at h ⊢
    by_cases h2 : (sbits a.toNat b.toNat s.toNat k.toNat (tn xs) (tn ys)).length ≤ 8192
    · rw [if_pos h2] at h; exact absurd rfl h
    · rw [if_neg h2]
  · rw [if_pos (by simpa using h1)]
theorem swF_zero (a : Int) (xs ys : List Int) (b s k : Int) (h : swF a xs ys b s k = 0) : swE a xs ys b s k = 0 ∧ (sbits a.toNat b.toNat s.toNat k.toNat (tn xs) (tn ys)).length ≤ 8192 ∧ swL a xs ys b s k = sbits a.toNat b.toNat s.toNat k.toNat (tn xs) (tn ys) := by
  unfold swF at h
  unfold swL
  by_cases h1 : swE a xs ys b s k = 0
  · rw [if_neg (by simpa using h1)] at h ⊢
    by_cases h2 : (sbits a.toNat b.toNat s.toNat k.toNat (tn xs) (tn ys)).length ≤ 8192
    · exact ⟨h1, h2, if_pos h2⟩
    · rw [if_neg h2] at h; omega
  · rw [if_pos (by simpa using h1)] at h; exact absurd h h1
theorem swL_len (a : Int) (xs ys : List Int) (b s k : Int) : (swL a xs ys b s k).length ≤ 8192 := by
  by_cases h : swF a xs ys b s k = 0
  · obtain ⟨_, h2, h3⟩ := swF_zero _ _ _ _ _ _ h; rw [h3]; exact h2
  · rw [swL_no _ _ _ _ _ _ h]; simp
/-- Write of a list for which all is right. -/
theorem swE_in (a : Nat) (ha : a ≤ 1048576) (l : List Nat) (hl : Rising l) (b s k : Nat) (hb : b ≤ 7) (hs : s = 0 ∨ 2 ≤ s ∧ s ≤ 300) (hk : 1 ≤ k) (hk2 : k ≤ 16) (ys : List Int) (hy : b ≠ 0 → rchk ys = 0) :
    swE (a : Int) (ns l) ys (b : Int) (s : Int) (k : Int) = 0 := by
  unfold swE
  have e : rgE (0 : Int) [true] = 0 := by decide
  rw [hck_ok b s k hb hs hk hk2, okN_nat a ha, rchk_ok l hl, e]
  rw [if_neg (fun c => c rfl), if_neg (fun c => c rfl)]
  by_cases h0 : b = 0
  · rw [if_pos (by omega)]
  · rw [if_neg (by omega)]; exact hy h0
theorem swF_in (a : Nat) (ha : a ≤ 1048576) (l : List Nat) (hl : Rising l) (b s k : Nat) (hb : b ≤ 7) (hs : s = 0 ∨ 2 ≤ s ∧ s ≤ 300) (hk : 1 ≤ k) (hk2 : k ≤ 16) (ys : List Int) (hy : b ≠ 0 → rchk ys = 0) (hlen : (sbits a b s k l (tn ys)).length ≤ 8192) :
    swF (a : Int) (ns l) ys (b : Int) (s : Int) (k : Int) = 0 ∧ swL (a : Int) (ns l) ys (b : Int) (s : Int) (k : Int) = sbits a b s k l (tn ys) := by
  have h := swE_in a ha l hl b s k hb hs hk hk2 ys hy
  have hn : ¬ (swE (a : Int) (ns l) ys (b : Int) (s : Int) (k : Int) ≠ 0) := fun c => c h
  unfold swF swL
  rw [if_neg hn, if_neg hn]
  simp only [Int.toNat_natCast, tn_ns]
  exact ⟨if_pos hlen, if_pos hlen⟩
/-- Where the list alone is another one and Write of it answers no error, nothing but its length may say so of this one. -/
theorem swF_some (a : Int) (xs ys : List Int) (b s k : Int) (h : swF a xs ys b s k = 0) : ∃ (a' : Nat) (l : List Nat) (b' s' k' : Nat), a = (a' : Int) ∧ a' ≤ 1048576 ∧ xs = ns l ∧ Rising l ∧ b = (b' : Int) ∧ s = (s' : Int) ∧ k = (k' : Int) ∧ b' ≤ 7 ∧ (s' = 0 ∨ 2 ≤ s' ∧ s' ≤ 300) ∧ (1 ≤ k' ∧ k' ≤ 16) ∧ (b' ≠ 0 → ∃ F, ys = ns F ∧ Rising F) ∧ (sbits a' b' s' k' l (tn ys)).length ≤ 8192 ∧ swL a xs ys b s k = sbits a' b' s' k' l (tn ys) := by
  obtain ⟨h1, h2, h3⟩ := swF_zero _ _ _ _ _ _ h
  obtain ⟨a', l, b', s', k', rfl, ha, rfl, hl, rfl, rfl, rfl, hb, hs, hk, hF⟩ := swE_zero _ _ _ _ _ _ h1
  simp only [Int.toNat_natCast, tn_ns] at h2 h3
  exact ⟨a', l, b', s', k', rfl, ha, rfl, hl, rfl, rfl, rfl, hb, hs, hk, hF, h2, h3⟩
/-- A list, a place and an error, the length in a letter. -/
def RdM (w : World) (n : Nat) (l : List Nat) (to : Nat) (err : Int) (e : Ending) (w' : World) : Prop :=
  ∃ A c, e = .returned (.tuple #[.slice A n c, .int .i64 (to : Int), .int .i64 err]) ∧ n ≤ c ∧ RdV w' w'.heap.size A (zc (ns l)) ∧ Below w.heap.size w w'
theorem rdM {w : World} {l : List Nat} {to : Nat} {err : Int} {e : Ending} {w' : World} {n : Nat} (h : RdP w l to err e w') (hn : l.length = n) : RdM w n l to err e w' := by
  obtain ⟨A, c, he, hc, -, r, b⟩ := h; subst hn; exact ⟨A, c, he, hc, r, b⟩
end

section
set_option maxRecDepth 100000
set_option linter.unusedVariables false
open Go.RowKit Go.Shelf

set_option maxHeartbeats 8000000 in
theorem sread_all (len : Int) (A : Option Addr) (c : Nat) (bs : List Nat) (hbs : ∀ x ∈ bs, x < 256) (p a : Int) (ys : List Int) (m : Nat) (hm : ys.length = m) (hm2 : m ≤ 9223372036854775807) (A2 : Option Addr) (c2 : Nat) (hA2 : A2 = none → c2 = 0) (hc2 : m ≤ c2) (b s k : Int) (w : World) (h1 : Rd w w.heap.size A bs) (h2 : RdV w w.heap.size A2 (zc ys)) :
    Calls Tryz.prog 16 #[.agg #[.int .i64 len, .slice A bs.length c], .int .i64 p, .int .i64 a, .slice A2 m c2, .agg #[.int .i64 b, .int .i64 s, .int .i64 k]] w (RdP w (srX len bs p a ys b s k).1 (srX len bs p a ys b s k).2.1 (srX len bs p a ys b s k).2.2) := by
  obtain ⟨N, hN⟩ : ∃ N, bs.length = N := ⟨_, rfl⟩
  obtain ⟨w1, e1⟩ : ∃ w1, w.alloc (.cells #[.int .i64 len, .slice A N c] 27) = w1 := ⟨_, rfl⟩
  obtain ⟨w2, e2⟩ : ∃ w2, w1.alloc (.cells #[.int .i64 b, .int .i64 s, .int .i64 k] 24) = w2 := ⟨_, rfl⟩
  have s1 : w1.heap.size = w.heap.size + 1 := e1 ▸ World.size_alloc _ _
  have s2 : w2.heap.size = w1.heap.size + 1 := by rw [← e2, World.size_alloc]
  have b1 : Below w.heap.size w w1 := e1 ▸ one_below w _
  have b2 : Below w1.heap.size w1 w2 := e2 ▸ one_below w1 _
  have hb : Below w.heap.size w w2 := b1.trans (b2.mono (by omega))
  have hbx : w2.heap[w.heap.size]? = some (.cells #[.int .i64 len, .slice A N c] 27 (0, 0)) := by
    rw [b2.block _ (by omega)]; exact e1 ▸ World.alloc_heap_new w _
  have hhw : w2.heap[w1.heap.size]? = some (.cells #[.int .i64 b, .int .i64 s, .int .i64 k] 24 (0, 0)) := e2 ▸ World.alloc_heap_new w1 _
  have HQ : Hid (∀ V, Below w2.heap.size w2 V → (V.cell? ⟨w.heap.size, 0, none⟩ = some (.int .i64 len) ∧ V.cell? ⟨w.heap.size, 1, none⟩ = some (.slice A N c)) ∧ V.cell? ⟨w1.heap.size, 0, none⟩ = some (.int .i64 b) ∧ V.cell? ⟨w1.heap.size, 1, none⟩ = some (.int .i64 s) ∧ V.cell? ⟨w1.heap.size, 2, none⟩ = some (.int .i64 k)) := fun V hV => by
    have h := (hV.block w.heap.size (by omega)).trans hbx
    have h' := (hV.block w1.heap.size (by omega)).trans hhw
    exact ⟨⟨(cell_at h _).trans rfl, (cell_at h _).trans rfl⟩, (cell_at h' _).trans rfl, (cell_at h' _).trans rfl, (cell_at h' _).trans rfl⟩
  have HLow : Hid (∀ V, Below w2.heap.size w2 V → Below w.heap.size w V) := fun V hV => hb.trans (hV.mono (by omega))
  have HCk := Lib.hid (scheck_any b s k w2)
  have HNd := Lib.hid (node_any a)
  have HC : Hid (∀ V, Below w.heap.size w V → Calls Tryz.prog 46 #[.agg #[.int .i64 len, .slice A N c]] V fun e w' => e = .returned (.int .i64 (chk len bs)) ∧ Below V.heap.size V w') := fun V hV => by rw [← hN]; exact check_any len A c bs V hbs (h1.on hV)
  have HRg := Lib.hid (range3 (chk len bs) (decide (0 ≤ p)) (decide (p ≤ len)) (okN a) _ rfl)
  have HCr : Hid (∀ V, Below w.heap.size w V → Calls Tryz.prog 44 #[.slice A2 m c2, .agg #[.int .i64 b, .int .i64 s, .int .i64 k]] V fun e w' => e = .returned (.int .i64 (if b = 0 then 0 else rchk ys)) ∧ Below V.heap.size V w') := fun V hV => cref_any b s k ys m hm hm2 A2 c2 V (h2.on hV)
  have hEq : srE len bs p a ys b s k = if hck b s k ≠ 0 then hck b s k else if rgE (chk len bs) [decide (0 ≤ p), decide (p ≤ len), okN a] ≠ 0 then rgE (chk len bs) [decide (0 ≤ p), decide (p ≤ len), okN a] else if b = 0 then 0 else rchk ys := rfl
  obtain ⟨⟨q0, q1⟩, q2, q3, q4⟩ := HQ.out w2 (Below.refl _ _)
  by_cases z1 : hck b s k = 0
  · rw [if_neg (by simpa using z1)] at hEq
    rw [z1] at HCk
    by_cases z2 : rgE (chk len bs) [decide (0 ≤ p), decide (p ≤ len), okN a] = 0
    · rw [if_neg (by simpa using z2)] at hEq
      rw [z2] at HRg
      by_cases z3 : (if b = 0 then 0 else rchk ys) = 0
      · have h0 : srE len bs p a ys b s k = 0 := hEq.trans z3
        have hX : ∃ l to er, srX len bs p a ys b s k = (l, to, er) ∧ ∀ V Q, Below w.heap.size w V → w.heap.size ≤ Q → V.heap[Q]? = some (.cells #[.int .i64 len, .slice A N c, .int .i64 p] 83 (0, 0)) → Calls Tryz.prog 47 #[.pointer (some ⟨Q, 0, none⟩), .int .i64 a, .slice A2 m c2, .agg #[.int .i64 b, .int .i64 s, .int .i64 k]] V (ReP Q V l to er) := by
          obtain ⟨L, q, a', b', s', k', rfl, hL, rfl, rfl, hq, rfl, ha', rfl, rfl, rfl, hb', hs', hk', hF⟩ := srE_zero len bs hbs p a ys b s k h0
          refine ⟨(sread L a' b' s' k' (tn ys) q).1, (sread L a' b' s' k' (tn ys) q).2.1, (sread L a' b' s' k' (tn ys) q).2.2, srX_ok L q a' b' s' k' ys h0, fun V Q hV hQ hRB => ?_⟩
          have g1 : Rd V Q A (pack L) := h1.below hV hQ
          refine read_any L hL A c Q q hq a' b' s' k' ha' hs' hb' hk'.1 hk'.2 (tn ys) (fun h => by obtain ⟨F, rfl, hF2⟩ := hF h; rw [tn_ns]; exact hF2) m A2 c2 hA2 hc2 V (fun h => ?_) (by unfold RB; rw [hN]; exact hRB) g1
          obtain ⟨F, e, hF2⟩ := hF h
          subst e
          rw [tn_ns]
          exact ⟨by rw [← hm, ns_length], h2.below hV hQ⟩
        obtain ⟨l, to, er, hx, hRe⟩ := hX
        rw [hx]
        have HRe2 := Lib.hid hRe
        rw [z3] at HCr
        rw [hN]
        generalize chk len bs = ec at *
        generalize okN a = oa at *
        clear h1 h2 hEq h0 z1 z2 z3 hm hbx hhw hb b1 b2 s1 s2 hbs hN hx hRe
        go_enter Tryz.func16, Tryz.ntmps16
        go_wp2_with fail
        refine HCk.out.mono ?_
        rintro e v1 ⟨rfl, B1⟩
        have HB1 := Lib.hid B1
        clear B1
        have HL1 := Lib.hid (HLow.out v1 HB1.out)
        have HK : Hid (∀ V, Below v1.heap.size v1 V → V.cell? ⟨w.heap.size, 0, none⟩ = some (.int .i64 len) ∧ V.cell? ⟨w.heap.size, 1, none⟩ = some (.slice A N c)) := fun V hV => (HQ.out V (HB1.out.trans (hV.mono HB1.out.size))).1
        go_wp2_with fail
        go_region_held3 (fun w' => w'.cell? ⟨w.heap.size, 0, none⟩ = some (.int .i64 len) ∧ w'.cell? ⟨w.heap.size, 1, none⟩ = some (.slice A N c))
          ((refine HK.out _ ?_; first | exact hk2.out | exact hk1.out.trans ((one_below _ _).mono hk1.out.size) | exact hk1.out | exact (Below.refl _ _).drew))
          (first
            | (go_at_call 41; have hx := hk1.out; refine (HRg.out x1 _ rfl).mono ?_; rintro e x2 ⟨rfl, B2⟩; have hk2 : Hid (Below v1.heap.size v1 x2) := hx.trans (B2.mono hx.size); clear B2 hx)
            | (go_at_call 42; have hx := hk1.out; refine (HNd.out x1).mono ?_; rintro e _ ⟨rfl, rfl⟩; clear hx)
            | (go_at_call 46; refine (HC.out v1.drew HL1.out.drew).mono ?_; rintro e x1 ⟨rfl, B1⟩; have hk1 : Hid (Below v1.heap.size v1 x1) := ((Below.refl _ v1).drew).trans B1; clear B1))
        obtain ⟨⟨r0, r1⟩, y0, y1, y2⟩ := HQ.out x2 (HB1.out.trans (hk2.out.mono HB1.out.size))
        have HB2 := Lib.hid (HB1.out.trans (hk2.out.mono HB1.out.size))
        clear q0 q1 q2 q3 q4 HK hk1 hk2
        go_wp2_with fail
        refine (HCr.out x2 (HLow.out x2 HB2.out)).mono ?_
        rintro e x3 ⟨rfl, B3⟩
        have HB3 := Lib.hid (HB2.out.trans (B3.mono HB2.out.size))
        clear B3 r0 r1 y0 y1 y2
        obtain ⟨⟨r0, r1⟩, y0, y1, y2⟩ := HQ.out x3 HB3.out
        obtain ⟨x4, e4⟩ : ∃ x4, x3.alloc (.cells #[.int .i64 len, .slice A N c, .int .i64 p] 83) = x4 := ⟨_, rfl⟩
        have b4 : Below x3.heap.size x3 x4 := e4 ▸ one_below x3 _
        have g4 : x4.heap[x3.heap.size]? = some (.cells #[.int .i64 len, .slice A N c, .int .i64 p] 83 (0, 0)) := e4 ▸ World.alloc_heap_new x3 _
        have HB4 := Lib.hid (HB3.out.trans (b4.mono HB3.out.size))
        have hle : w.heap.size ≤ x3.heap.size := (HLow.out x3 HB3.out).size
        have HRe3 := Lib.hid (HRe2.out x4 x3.heap.size (HLow.out x4 HB4.out) hle g4)
        have hlt : x3.heap.size < x4.heap.size := (Array.getElem?_eq_some_iff.1 g4).1
        have HSz : Hid (w.heap.size ≤ x3.heap.size ∧ x3.heap.size < x4.heap.size) := ⟨hle, hlt⟩
        obtain ⟨⟨r0', r1'⟩, y0', y1', y2'⟩ := HQ.out x4 HB4.out
        clear b4 g4 hle hlt HRe2
        go_wp2_with fail
        refine HRe3.out.mono ?_
        rintro e x5 ⟨A5, c5, rfl, hc5, hn5, hr5, hwb⟩
        have HR5 := Lib.hid hr5
        have HBf : Hid (Below w.heap.size w x5) := (HLow.out x4 HB4.out).trans (hwb.low HSz.out.1 HSz.out.2)
        clear hr5 hwb r0 r1 y0 y1 y2 r0' r1' y0' y1' y2'
        go_wp2
        go_ret3
        exact ⟨A5, c5, rfl, hc5, hn5, HR5.out, HBf.out⟩
      · rw [srX_no _ _ _ _ _ _ _ _ (by rw [hEq]; exact z3), hEq]
        rw [hN]
        have HBad : Hid (∀ V, Below w2.heap.size w2 V → RdP w [] 0 (if b = 0 then 0 else rchk ys) (.returned (.tuple #[.slice none 0 0, .int .i64 0, .int .i64 (if b = 0 then 0 else rchk ys)])) V) := fun V hV => ⟨none, 0, rfl, Nat.le_refl _, fun _ => rfl, .inl rfl, HLow.out V hV⟩
        generalize (if b = 0 then 0 else rchk ys) = r1 at *
        have t1 : (r1 != 0) = true := by simpa using z3
        generalize chk len bs = ec at *
        generalize okN a = oa at *
        clear h1 h2 hEq z1 z2 z3 hm hbx hhw hb b1 b2 s1 s2 hbs hN
        go_enter Tryz.func16, Tryz.ntmps16
        go_wp2_with fail
        refine HCk.out.mono ?_
        rintro e v1 ⟨rfl, B1⟩
        have HB1 := Lib.hid B1
        clear B1
        have HL1 := Lib.hid (HLow.out v1 HB1.out)
        have HK : Hid (∀ V, Below v1.heap.size v1 V → V.cell? ⟨w.heap.size, 0, none⟩ = some (.int .i64 len) ∧ V.cell? ⟨w.heap.size, 1, none⟩ = some (.slice A N c)) := fun V hV => (HQ.out V (HB1.out.trans (hV.mono HB1.out.size))).1
        go_wp2_with fail
        go_region_held3 (fun w' => w'.cell? ⟨w.heap.size, 0, none⟩ = some (.int .i64 len) ∧ w'.cell? ⟨w.heap.size, 1, none⟩ = some (.slice A N c))
          ((refine HK.out _ ?_; first | exact hk2.out | exact hk1.out.trans ((one_below _ _).mono hk1.out.size) | exact hk1.out | exact (Below.refl _ _).drew))
          (first
            | (go_at_call 41; have hx := hk1.out; refine (HRg.out x1 _ rfl).mono ?_; rintro e x2 ⟨rfl, B2⟩; have hk2 : Hid (Below v1.heap.size v1 x2) := hx.trans (B2.mono hx.size); clear B2 hx)
            | (go_at_call 42; have hx := hk1.out; refine (HNd.out x1).mono ?_; rintro e _ ⟨rfl, rfl⟩; clear hx)
            | (go_at_call 46; refine (HC.out v1.drew HL1.out.drew).mono ?_; rintro e x1 ⟨rfl, B1⟩; have hk1 : Hid (Below v1.heap.size v1 x1) := ((Below.refl _ v1).drew).trans B1; clear B1))
        obtain ⟨⟨r0, r1⟩, y0, y1, y2⟩ := HQ.out x2 (HB1.out.trans (hk2.out.mono HB1.out.size))
        have HB2 := Lib.hid (HB1.out.trans (hk2.out.mono HB1.out.size))
        clear q0 q1 q2 q3 q4 HK hk1 hk2
        go_wp2_with fail
        refine (HCr.out x2 (HLow.out x2 HB2.out)).mono ?_
        rintro e x3 ⟨rfl, B3⟩
        have HB3 := Lib.hid (HB2.out.trans (B3.mono HB2.out.size))
        clear B3 r0 r1 y0 y1 y2
        go_wp2
        go_ret3
        exact HBad.out _ HB3.out
    · rw [if_pos (by simpa using z2)] at hEq
      rw [srX_no _ _ _ _ _ _ _ _ (by rw [hEq]; exact z2), hEq]
      rw [hN]
      have HBad : Hid (∀ V, Below w2.heap.size w2 V → RdP w [] 0 (rgE (chk len bs) [decide (0 ≤ p), decide (p ≤ len), okN a]) (.returned (.tuple #[.slice none 0 0, .int .i64 0, .int .i64 (rgE (chk len bs) [decide (0 ≤ p), decide (p ≤ len), okN a])])) V) := fun V hV => ⟨none, 0, rfl, Nat.le_refl _, fun _ => rfl, .inl rfl, HLow.out V hV⟩
      generalize rgE (chk len bs) [decide (0 ≤ p), decide (p ≤ len), okN a] = r1 at *
      have t1 : (r1 != 0) = true := by simpa using z2
      generalize chk len bs = ec at *
      generalize okN a = oa at *
      clear h1 h2 hEq z1 z2 hm hbx hhw hb b1 b2 s1 s2 hbs hN HCr
      go_enter Tryz.func16, Tryz.ntmps16
      go_wp2_with fail
      refine HCk.out.mono ?_
      rintro e v1 ⟨rfl, B1⟩
      have HB1 := Lib.hid B1
      clear B1
      have HL1 := Lib.hid (HLow.out v1 HB1.out)
      have HK : Hid (∀ V, Below v1.heap.size v1 V → V.cell? ⟨w.heap.size, 0, none⟩ = some (.int .i64 len) ∧ V.cell? ⟨w.heap.size, 1, none⟩ = some (.slice A N c)) := fun V hV => (HQ.out V (HB1.out.trans (hV.mono HB1.out.size))).1
      go_wp2_with fail
      go_region_held3 (fun w' => w'.cell? ⟨w.heap.size, 0, none⟩ = some (.int .i64 len) ∧ w'.cell? ⟨w.heap.size, 1, none⟩ = some (.slice A N c))
        ((refine HK.out _ ?_; first | exact hk2.out | exact hk1.out.trans ((one_below _ _).mono hk1.out.size) | exact hk1.out | exact (Below.refl _ _).drew))
        (first
          | (go_at_call 41; have hx := hk1.out; refine (HRg.out x1 _ rfl).mono ?_; rintro e x2 ⟨rfl, B2⟩; have hk2 : Hid (Below v1.heap.size v1 x2) := hx.trans (B2.mono hx.size); clear B2 hx)
          | (go_at_call 42; have hx := hk1.out; refine (HNd.out x1).mono ?_; rintro e _ ⟨rfl, rfl⟩; clear hx)
          | (go_at_call 46; refine (HC.out v1.drew HL1.out.drew).mono ?_; rintro e x1 ⟨rfl, B1⟩; have hk1 : Hid (Below v1.heap.size v1 x1) := ((Below.refl _ v1).drew).trans B1; clear B1))
      have HB2 := Lib.hid (HB1.out.trans (hk2.out.mono HB1.out.size))
      clear q0 q1 q2 q3 q4 HK hk1 hk2
      go_wp2
      go_ret3
      exact HBad.out _ HB2.out
  · rw [if_pos (by simpa using z1)] at hEq
    rw [srX_no _ _ _ _ _ _ _ _ (by rw [hEq]; exact z1), hEq]
    rw [hN]
    have HBad : Hid (∀ V, Below w2.heap.size w2 V → RdP w [] 0 (hck b s k) (.returned (.tuple #[.slice none 0 0, .int .i64 0, .int .i64 (hck b s k)])) V) := fun V hV => ⟨none, 0, rfl, Nat.le_refl _, fun _ => rfl, .inl rfl, HLow.out V hV⟩
    generalize hck b s k = r1 at *
    have t1 : (r1 != 0) = true := by simpa using z1
    clear h1 h2 hEq z1 hm hbx hhw hb b1 b2 s1 s2 hbs hN HCr HRg HNd HC
    go_enter Tryz.func16, Tryz.ntmps16
    go_wp2_with fail
    refine HCk.out.mono ?_
    rintro e v1 ⟨rfl, B1⟩
    have HB1 := Lib.hid B1
    clear B1
    go_wp2
    go_ret3
    exact HBad.out _ HB1.out
end
end Go.Proofs.YticdnodlapafoaaGreat
