/- The codes of lengths: what Codes answers. -/
import Derived.Test.YthfjfkbolfnkkaaKWords
import Derived.Test.YthfjfkbolfnkkaaBegun
import Derived.Deep.RegionHeld3
namespace Go.Proofs.Ythfjfkbolfnkkaa
set_option maxRecDepth 100000
set_option linter.unusedVariables false
open Go.RowKit Go.Shelf Go.Sort

/-- Bits that lie in memory: how many, where, what bytes. -/
abbrev Rx := Int × Option Addr × Nat × List Nat
/-- A slice of bits, below a block. -/
def RdR (w : World) (B : Nat) (A : Option Addr) (rs : List Rx) : Prop :=
  rs = [] ∨ ∃ b off, A = some ⟨b, off, none⟩ ∧ b < B ∧ ∀ i x, rs[i]? = some x → w.cell? ⟨b, off + i * 2, none⟩ = some (.int .i64 x.1) ∧ w.cell? ⟨b, off + i * 2 + 1, none⟩ = some (.slice x.2.1 x.2.2.2.length x.2.2.1) ∧ Rd w B x.2.1 x.2.2.2
theorem RdR.below {w w' : World} {B B' : Nat} {A : Option Addr} {rs : List Rx} (h : RdR w B A rs) (hb : Below B w w') (hB : B ≤ B') : RdR w' B' A rs := by
  rcases h with h | ⟨b, off, e, hlt, hc⟩
  · exact .inl h
  · refine .inr ⟨b, off, e, by omega, fun i x hx => ?_⟩
    obtain ⟨h1, h2, h3⟩ := hc i x hx
    exact ⟨(World.cell?_of_block (w := w) (a := ⟨b, off + i * 2, none⟩) (hb.block b hlt)).trans h1, (World.cell?_of_block (w := w) (a := ⟨b, off + i * 2 + 1, none⟩) (hb.block b hlt)).trans h2, h3.below hb hB⟩
theorem RdR.on {w V : World} {A : Option Addr} {rs : List Rx} (h : RdR w w.heap.size A rs) (hb : Below w.heap.size w V) : RdR V V.heap.size A rs := h.below hb hb.size
theorem RdR.at_ {w : World} {B : Nat} {A : Option Addr} {rs : List Rx} (h : RdR w B A rs) {i : Nat} {x : Rx} (hi : rs[i]? = some x) :
    ∃ b off, A = some ⟨b, off, none⟩ ∧ b < B ∧ w.cell? ⟨b, off + i * 2, none⟩ = some (.int .i64 x.1) ∧ w.cell? ⟨b, off + i * 2 + 1, none⟩ = some (.slice x.2.1 x.2.2.2.length x.2.2.1) ∧ Rd w B x.2.1 x.2.2.2 := by
  rcases h with h | ⟨b, off, e, hb, hc⟩
  · rw [h] at hi; simp at hi
  · exact ⟨b, off, e, hb, hc i x hi⟩
/-- Bits that are right. -/
abbrev Bx := List Bool × Option Addr × Nat
def rx (x : Bx) : Rx := ((x.1.length : Int), x.2.1, x.2.2, pack x.1)
def encB (x : Bx) : List Value := [.int .i64 (x.1.length : Int), .slice x.2.1 (pack x.1).length x.2.2]
theorem encB_len (x : Bx) : (encB x).length = 2 := rfl
theorem encB_one (x : Bx) : ∀ u ∈ encB x, u.oneCell' = true := by
  intro u hu
  simp [encB] at hu
  rcases hu with rfl | rfl <;> rfl
def bAt (bs : List Bx) (i : Nat) : Bx := bs[i]?.getD ([], none, 0)
theorem encBs_get (bs : List Bx) (i c : Nat) (hi : i < bs.length) (hc : c < 2) : (bs.flatMap encB)[i * 2 + c]? = (encB (bAt bs i))[c]? := by
  have hl := flatMap_len encB 2 encB_len bs
  have h := flatMap_get encB 2 encB_len bs (i * 2 + c) (by omega)
  rw [show (i * 2 + c) / 2 = i by omega, show (i * 2 + c) % 2 = c by omega] at h
  have e1 : bs[i]?.getD default = bAt bs i := rfl
  rw [e1] at h
  rw [List.getElem?_eq_getElem (show i * 2 + c < (bs.flatMap encB).length by omega)] at h ⊢
  rw [List.getElem?_eq_getElem (show c < (encB (bAt bs i)).length from hc)] at h ⊢
  exact congrArg some h
theorem encBs_set (bs : List Bx) (i : Nat) (hi : i < bs.length) (x : Bx) : (bs.set i x).flatMap encB = ((bs.flatMap encB).set (i * 2) (.int .i64 (x.1.length : Int))).set (i * 2 + 1) (.slice x.2.1 (pack x.1).length x.2.2) := by
  apply List.ext_getElem?
  intro t
  have hl := flatMap_len encB 2 encB_len bs
  have hl2 := flatMap_len encB 2 encB_len (bs.set i x)
  rw [List.length_set] at hl2
  rw [List.getElem?_set, List.getElem?_set, List.length_set]
  by_cases ht : t < bs.length * 2
  · have et : t = t / 2 * 2 + t % 2 := by omega
    have h3 : t % 2 < 2 := Nat.mod_lt _ (by omega)
    have hq : t / 2 < bs.length := by omega
    have e1 := encBs_get (bs.set i x) (t / 2) (t % 2) (by rw [List.length_set]; exact hq) h3
    have e2 := encBs_get bs (t / 2) (t % 2) hq h3
    rw [← et] at e1 e2
    rw [e1, e2]
    have e3 : bAt (bs.set i x) (t / 2) = if t / 2 = i then x else bAt bs (t / 2) := by
      unfold bAt
      rw [List.getElem?_set]
      by_cases h : i = t / 2
      · rw [if_pos h, if_pos hi, if_pos h.symm]; rfl
      · rw [if_neg h, if_neg (fun e => h e.symm)]
    rw [e3]
    by_cases h : t / 2 = i
    · rw [if_pos h]
      rcases (show t % 2 = 0 ∨ t % 2 = 1 by omega) with hc | hc
      · rw [if_neg (by omega), if_pos (by omega), if_pos (by omega), hc]; rfl
      · rw [if_pos (by omega), if_pos (by omega), hc]; rfl
    · rw [if_neg h, if_neg (by omega), if_neg (by omega)]
  · rw [List.getElem?_eq_none (by omega), if_neg (by omega), if_neg (by omega), List.getElem?_eq_none (by omega)]
theorem bits_made (k : Nat) : (madeCells (Value.agg #[.int .i64 0, .slice none 0 0]).cells (k * 2)).toList = (List.replicate k (([], none, 0) : Bx)).flatMap encB := by
  have hl := flatMap_len encB 2 encB_len (List.replicate k (([], none, 0) : Bx))
  rw [List.length_replicate] at hl
  have hc : (Value.agg #[.int .i64 0, .slice none 0 0]).cells = #[.int .i64 0, .slice none 0 0] := rfl
  rw [hc]
  apply List.ext_getElem?
  intro t
  by_cases ht : t < k * 2
  · have e2 := encBs_get (List.replicate k (([], none, 0) : Bx)) (t / 2) (t % 2) (by simp; omega) (Nat.mod_lt _ (by omega))
    rw [show t / 2 * 2 + t % 2 = t by omega] at e2
    have e3 : bAt (List.replicate k (([], none, 0) : Bx)) (t / 2) = ([], none, 0) := by
      unfold bAt; rw [List.getElem?_replicate]; split <;> rfl
    rw [e2, e3]
    simp [madeCells, ht]
    rcases (show t % 2 = 0 ∨ t % 2 = 1 by omega) with h | h <;> simp [h, encB, pack_nil]
  · rw [List.getElem?_eq_none (by simp [madeCells]; omega), List.getElem?_eq_none (by omega)]
theorem info_bits : (Try.prog.info? 26).map (fun i => (i.zero, i.size, i.bytes)) = some (some (.agg #[.int .i64 0, .slice none 0 0]), 2, 32) := by kernel_rfl
/-- A row of bits of the call's own reads as its bits. -/
theorem own_rdr {w : World} {base g n cap : Nat} {bs : List Bx} (h : w.ownsRow base 26 2 (.slice (some ⟨g, 0, none⟩) n cap) n (bs.flatMap encB)) (hr : ∀ x ∈ bs, Rd w w.heap.size x.2.1 (pack x.1)) : RdR w w.heap.size (some ⟨g, 0, none⟩) (bs.map rx) := by
  by_cases h0 : bs = []
  · subst h0; exact .inl rfl
  · have hp : 0 < bs.length := List.length_pos_iff.2 h0
    have k0 := own_at h (encBs_get bs 0 0 hp (by omega))
    refine .inr ⟨g, 0, rfl, k0.2.2.2, fun i x hx => ?_⟩
    rw [List.getElem?_map] at hx
    obtain ⟨y, hy, rfl⟩ := Option.map_eq_some_iff.1 hx
    have hi : i < bs.length := (List.getElem?_eq_some_iff.1 hy).1
    have eb : bAt bs i = y := by unfold bAt; rw [hy]; rfl
    have a0 := (own_at h (encBs_get bs i 0 hi (by omega))).1
    have a1 := (own_at h (encBs_get bs i 1 hi (by omega))).1
    rw [eb] at a0 a1
    rw [Nat.zero_add]
    exact ⟨a0, a1, hr y (List.mem_of_getElem? hy)⟩

theorem own_keep {w w' : World} {base : Nat} {e : TypeId} {k n : Nat} {v : Value} {xs : List Value} (h : w.ownsRow base e k v n xs) (hk : ∀ j, j < w.heap.size → w'.heap[j]? = w.heap[j]?) : w'.ownsRow base e k v n xs := by
  refine ⟨h.1, ?_⟩
  rcases h.2 with h | ⟨g, cap, cur, h1, h2, h3, h4⟩
  · exact .inl h
  · exact .inr ⟨g, cap, cur, h1, h2, (hk g (Array.getElem?_eq_some_iff.1 h3).1).trans h3, h4⟩
/-- Bytes lie in no row of bits. -/
theorem rd_row {w : World} {base g n B : Nat} {bs : List Bx} {A : Option Addr} {by' : List Nat} (h : w.ownsRow base 26 2 (.slice (some ⟨g, 0, none⟩) n n) n (bs.flatMap encB)) (hr : Rd w B A by') (w' : World) (hw : ∀ b, b ≠ g → w'.heap[b]? = w.heap[b]?) : Rd w' B A by' := by
  rcases hr with hr | ⟨b, off, rfl, hb, hc⟩
  · exact .inl hr
  · by_cases h0 : by' = []
    · exact .inl h0
    · have hne : b ≠ g := by
        rintro rfl
        have hp : 0 < by'.length := List.length_pos_iff.2 h0
        have k0 := hc 0 hp
        rcases h.2 with ⟨h', _⟩ | ⟨g', cap', cur, hv, _, hg, h1, h2, h3, h4⟩
        · cases h'
        · simp only [Value.slice.injEq, Option.some.injEq, Addr.mk.injEq, and_true, true_and] at hv
          obtain ⟨rfl, rfl⟩ := hv
          rw [cell_at hg] at k0
          have hm : (Value.int .u8 ((by'[0]?.getD 0 : Nat) : Int)) ∈ cur.toList := by
            obtain ⟨hlt, e⟩ := Array.getElem?_eq_some_iff.1 k0
            rw [← e]; exact Array.getElem_mem_toList hlt
          rw [List.take_of_length_le (by simp [h3])] at h4
          rw [h4] at hm
          obtain ⟨x, _, hx⟩ := List.mem_flatMap.1 hm
          simp [encB] at hx
      exact .inr ⟨b, off, rfl, hb, fun i hi => (World.cell?_of_block (w := w) (a := ⟨b, off + i, none⟩) (hw b hne)).trans (hc i hi)⟩
/-- A slice of words, below a block. -/
def RdW (w : World) (B : Nat) (A : Option Addr) (W : List Wn) : Prop :=
  W = [] ∨ ∃ b off, A = some ⟨b, off, none⟩ ∧ b < B ∧ ∀ i x, W[i]? = some x → w.cell? ⟨b, off + i * 3, none⟩ = some (.int .i64 (x.1 : Int)) ∧ w.cell? ⟨b, off + i * 3 + 1, none⟩ = some (.int .i64 (x.2.1 : Int)) ∧ w.cell? ⟨b, off + i * 3 + 2, none⟩ = some (.int .u64 (x.2.2 : Int))
theorem RdW.below {w w' : World} {B B' : Nat} {A : Option Addr} {W : List Wn} (h : RdW w B A W) (hb : Below B w w') (hB : B ≤ B') : RdW w' B' A W := by
  rcases h with h | ⟨b, off, e, hlt, hc⟩
  · exact .inl h
  · refine .inr ⟨b, off, e, by omega, fun i x hx => ?_⟩
    obtain ⟨h1, h2, h3⟩ := hc i x hx
    exact ⟨(World.cell?_of_block (w := w) (a := ⟨b, off + i * 3, none⟩) (hb.block b hlt)).trans h1, (World.cell?_of_block (w := w) (a := ⟨b, off + i * 3 + 1, none⟩) (hb.block b hlt)).trans h2, (World.cell?_of_block (w := w) (a := ⟨b, off + i * 3 + 2, none⟩) (hb.block b hlt)).trans h3⟩
theorem RdW.at_ {w : World} {B : Nat} {A : Option Addr} {W : List Wn} (h : RdW w B A W) {i : Nat} {x : Wn} (hi : W[i]? = some x) :
    ∃ b off, A = some ⟨b, off, none⟩ ∧ b < B ∧ w.cell? ⟨b, off + i * 3, none⟩ = some (.int .i64 (x.1 : Int)) ∧ w.cell? ⟨b, off + i * 3 + 1, none⟩ = some (.int .i64 (x.2.1 : Int)) ∧ w.cell? ⟨b, off + i * 3 + 2, none⟩ = some (.int .u64 (x.2.2 : Int)) := by
  rcases h with h | ⟨b, off, e, hb, hc⟩
  · rw [h] at hi; simp at hi
  · exact ⟨b, off, e, hb, hc i x hi⟩
theorem own_rdw {w : World} {base n : Nat} {v : Value} {W : List Wn} (hn : W.length = n) (h : w.ownsRow base 60 3 v n (W.flatMap encW)) : ∃ A c, v = .slice A n c ∧ RdW w w.heap.size A W := by
  rcases h.2 with ⟨rfl, rfl⟩ | ⟨g, cap, cur, rfl, hb, hg, h1, h2, h3, h4⟩
  · exact ⟨none, 0, rfl, .inl (List.eq_nil_of_length_eq_zero hn)⟩
  · refine ⟨_, cap, rfl, ?_⟩
    refine .inr ⟨g, 0, rfl, (Array.getElem?_eq_some_iff.1 hg).1, fun i x hx => ?_⟩
    have hi : i < W.length := (List.getElem?_eq_some_iff.1 hx).1
    have eb : wAt W i = x := by unfold wAt; rw [hx]; rfl
    have a0 := (own_at h (encs_get W i 0 hi (by omega))).1
    have a1 := (own_at h (encs_get W i 1 hi (by omega))).1
    have a2 := (own_at h (encs_get W i 2 hi (by omega))).1
    rw [eb] at a0 a1 a2
    rw [Nat.zero_add]
    exact ⟨a0, a1, a2⟩
theorem codOf_snoc (U : List Wn) (x : Wn) (h : ∀ y ∈ U, y.1 ≠ x.1) (s : Nat) : codOf (U ++ [x]) s = if s = x.1 then code x else codOf U s := by
  unfold codOf
  rw [List.find?_append]
  by_cases hs : s = x.1
  · subst hs
    rw [if_pos rfl]
    have : U.find? (fun y => y.1 == x.1) = none := List.find?_eq_none.2 (fun y hy => by simpa using h y hy)
    rw [this]; simp
  · rw [if_neg hs]
    cases hf : U.find? (fun y => y.1 == s) with
    | some y => rfl
    | none =>
      have : ([x] : List Wn).find? (fun y => y.1 == s) = none := by simp; exact fun e => hs e.symm
      rw [this]; rfl
/-- Bits, one for each sign, and an error come back. -/
def GotC (w : World) (ls : List (List Bool)) (e : Ending) (w' : World) : Prop :=
  ∃ (A : Option Addr) (c : Nat) (bs : List Bx), e = .returned (.tuple #[.slice A ls.length c, .int .i64 0]) ∧ bs.map (fun x : Bx => x.1) = ls ∧ RdR w' w'.heap.size A (bs.map rx) ∧ Below w.heap.size w w'
/-- At each round's head: the first i words' codes stand. -/
def CoRel (l : List Nat) (w2 : World) (g : Nat) (p : Value) (wr : World) : Prop :=
  ∃ (i : Nat) (bs : List Bx), i ≤ (words l).length ∧ p = .int .i64 (i : Int) ∧ bs.map (fun x : Bx => x.1) = (List.range l.length).map (codOf ((words l).take i)) ∧
    wr.ownsRow w2.heap.size 26 2 (.slice (some ⟨g, 0, none⟩) l.length l.length) l.length (bs.flatMap encB) ∧ (∀ x ∈ bs, Rd wr wr.heap.size x.2.1 (pack x.1)) ∧ Below w2.heap.size w2 wr

set_option maxHeartbeats 2000000 in
theorem codes_ok (l : List Nat) (n : Nat) (hn : l.length = n) (h64 : n ≤ 64) (h24 : ∀ x ∈ l, x ≤ 24) (hr : tkn l ≤ 16777216) (A : Option Addr) (c : Nat) (w : World) (h : RdV w w.heap.size A (zc (ns l))) :
    Calls Try.prog 13 #[.slice A n c] w (GotC w (codes l)) := by
  obtain ⟨i0, hi, hz0, hz1, hz2⟩ := info_parts info_bits
  have HC := Lib.hid (wordsOf_ok l n hn h64 h24 hr A c w h)
  have HWd := Lib.hid (words_ok l h24)
  have HL : Hid ((words l).length ≤ 64) := by show _ ≤ _; rw [words_len]; have := uws_len l 0; omega
  have HR := Lib.hid hr
  have HN := Lib.hid hn
  clear h
  go_enter Try.func13, Try.ntmps13
  go_wp2_with fail
  refine HC.out.mono ?_
  rintro e w2 ⟨v, rfl, o2, b2⟩
  obtain ⟨Av, cv, rfl, rw2⟩ := own_rdw rfl o2
  have HO := Lib.hid rw2; have HB := Lib.hid b2
  clear o2 b2 rw2 hr
  go_wp2_with (at_make; refine wpList_make_full _ rfl _ _ 23 rfl w2.heap.size 26 i0 (.agg #[.int .i64 0, .slice none 0 0]) 2 Try.underlying23 hi hz0 hz1 _ _ _ _ n rfl rfl rfl rfl (by rw [hz2]; omega) (by unfold maxLen; omega) (Nat.le_refl _) ?_; intro w3 hown1 hgrow1)
  rw [bits_made] at hown1
  have HG : Hid (Below w2.heap.size w2 w3) := (Below.refl _ w2).grown hgrow1 (Nat.le_refl _) (fun k hk => by cases hk)
  have HO1 := Lib.hid hown1
  have hm64 : (words l).length ≤ 64 := HL.out
  clear hown1 hgrow1
  generalize hmm : (words l).length = m at *
  have HM := Lib.hid hmm; clear hmm
  have HGG : Hid (w2.heap.size = w2.heap.size) := rfl
  obtain ⟨g, hg⟩ : ∃ g, w2.heap.size = g := ⟨_, rfl⟩
  rw [hg] at HO1
  rw [hg]
  go_wp2
  go_loopw [22] (fun p wr => CoRel l w2 g p wr) (fun p _ => m - (intOf p).toNat)
  case atStart =>
    refine ⟨0, List.replicate n ([], none, 0), Nat.zero_le _, rfl, ?_, ?_, ?_, HG.out⟩
    · rw [HN.out]
      apply List.ext_getElem
      · simp
      · intro i h1 h2; simp [codOf]
    · rw [HN.out, hg]; exact HO1.out
    · intro x hx
      rw [(List.mem_replicate.1 hx).2]
      exact .inl rfl
  case round =>
    obtain ⟨i, bs, hi', rfl, hbs, hrow, hrd, hbel⟩ := hrel
    rw [HM.out] at hi'
    rw [HN.out] at hrow
    have hbn : bs.length = n := by have := congrArg List.length hbs; simpa [HN.out] using this
    by_cases hlt : i < m
    · have hiw : i < (words l).length := by rw [HM.out]; exact hlt
      have hW := HO.out.below hbel hbel.size
      have hxm := wAt_mem (words l) i hiw
      have hx1 := HWd.out.mem _ hxm
      have hx2 := words_lt HWd.out HR.out hxm
      have hxi : (words l)[i]? = some (wAt (words l) i) := by unfold wAt; rw [List.getElem?_eq_getElem hiw]; rfl
      have hsn := codOf_snoc ((words l).take i) (wAt (words l) i) (fun y hy => by
        obtain ⟨j, hj, rfl⟩ := List.getElem_of_mem hy
        rw [List.length_take] at hj
        rw [List.getElem_take]
        have := List.pairwise_iff_getElem.1 HWd.out.row j i (by omega) hiw (by omega)
        unfold wAt
        rw [List.getElem?_eq_getElem hiw]
        exact this.2.2)
      have htk : (words l).take (i + 1) = (words l).take i ++ [wAt (words l) i] := by
        rw [List.take_succ_eq_append_getElem hiw]; unfold wAt; rw [List.getElem?_eq_getElem hiw]; rfl
      rw [← htk] at hsn
      obtain ⟨b, off, rfl, hb, c0, c1, c2⟩ := hW.at_ hxi
      have hsn' : (wAt (words l) i).1 < n := by
        have := (List.getElem?_eq_some_iff.1 hx1.1).1
        omega
      have hcl : (code (wAt (words l) i)).length = (wAt (words l) i).2.1 := code_length _
      have HCode : Hid (code (wAt (words l) i) = nb (wAt (words l) i).2.2 (wAt (words l) i).2.1) := rfl
      generalize wAt (words l) i = x at *
      obtain ⟨s, wd, nm⟩ := x
      simp only at c0 c1 c2 hx1 hx2 hsn' hcl HCode hsn
      have hnd : nm / 2 ^ wd = 0 := Nat.div_eq_of_lt (by omega)
      have hp24 : 2 ^ wd ≤ 2 ^ 24 := Nat.pow_le_pow_right (by omega) hx1.2.2
      obtain ⟨L, hLL⟩ : ∃ L, code (s, wd, nm) = L := ⟨_, rfl⟩
      have HP : Hid (∀ V : World, Calls Try.prog 37 #[.agg #[.int .i64 0, .slice none 0 0], .int .u64 (nm : Int), .int .i64 (wd : Int)] V (Gv V (wd : Int) (pack L).length (pack L) 0)) := by
        intro V
        have := put_l [] L none 0 nm wd (by omega) hnd (by simp; omega) (by omega) (by rw [← hLL, HCode.out]; rfl) V (.inl rfl)
        have e1 : L.length = wd := by rw [← hLL]; exact hcl
        rw [e1] at this
        exact this
      rw [hLL] at hsn hcl
      have d0 := own_at hrow (encBs_get bs s 0 (by omega) (by omega))
      have d1 := own_at hrow (encBs_get bs s 1 (by omega) (by omega))
      have HRow := Lib.hid hrow; have HRd := Lib.hid hrd; have HBel := Lib.hid hbel; have HSn := Lib.hid hsn; have HBs := Lib.hid hbs
      have HCl := Lib.hid hcl
      clear hrow hrd hbel hsn hbs hcl hxm hxi htk hW hnd HCode hLL hx2
      rw [Nat.add_zero] at d0
      have HD : Hid (∀ w' : World, Below wr.heap.size wr w' → w'.ownsRow w2.heap.size 26 2 (.slice (some ⟨g, 0, none⟩) n n) n (bs.flatMap encB)) := fun w' hw => own_keep HRow.out hw.block
      have hgw : g < wr.heap.size := d0.2.2.2
      have hgb : w2.heap.size ≤ g := d0.2.2.1
      have HD0 : Hid (∀ w' : World, Below wr.heap.size wr w' → w'.cell? ⟨g, s * 2, none⟩ = some (.int .i64 ((bAt bs s).1.length : Int)) ∧ w'.frozen? ⟨g, s * 2, none⟩ = false ∧ w'.cell? ⟨g, s * 2 + 1, none⟩ = some (.slice (bAt bs s).2.1 (pack (bAt bs s).1).length (bAt bs s).2.2) ∧ w'.frozen? ⟨g, s * 2 + 1, none⟩ = false) := by
        intro w' hw
        have q0 := own_at (HD.out w' hw) (encBs_get bs s 0 (by omega) (by omega))
        have q1 := own_at (HD.out w' hw) (encBs_get bs s 1 (by omega) (by omega))
        exact ⟨q0.1, q0.2.1, q1.1, q1.2.1⟩
      clear d0 d1
      generalize hu0 : (Value.int .i64 ((bAt bs s).1.length : Int)) = u0 at *
      generalize hu1 : (Value.slice (bAt bs s).2.1 (pack (bAt bs s).1).length (bAt bs s).2.2) = u1 at *
      clear hu0 hu1
      go_wp2_with fail
      generalize hV : wr.alloc (.cells #[.int .i64 (s : Int), .int .i64 (wd : Int), .int .u64 (nm : Int)] 60) = V0
      have HV : Hid (Below wr.heap.size wr V0) := hV ▸ one_below _ _
      have HVs : Hid (wr.heap.size + 1 = V0.heap.size) := by show _ = _; rw [← hV, World.size_alloc]
      have HK0 : Hid (∀ w' : World, w'.heap[wr.heap.size]? = V0.heap[wr.heap.size]? → w'.cell? ⟨wr.heap.size, 0, none⟩ = some (.int .i64 (s : Int)) ∧ w'.cell? ⟨wr.heap.size, 1, none⟩ = some (.int .i64 (wd : Int)) ∧ w'.cell? ⟨wr.heap.size, 2, none⟩ = some (.int .u64 (nm : Int))) := by
        subst hV
        intro w' h
        have k0 := h.trans (World.alloc_heap_new wr (.cells #[.int .i64 (s : Int), .int .i64 (wd : Int), .int .u64 (nm : Int)] 60))
        exact ⟨(cell_at k0 _).trans rfl, (cell_at k0 _).trans rfl, (cell_at k0 _).trans rfl⟩
      clear hV
      have HK : Hid (∀ w' : World, Below V0.heap.size V0 w' → w'.cell? ⟨wr.heap.size, 0, none⟩ = some (.int .i64 (s : Int)) ∧ w'.cell? ⟨wr.heap.size, 1, none⟩ = some (.int .i64 (wd : Int)) ∧ w'.cell? ⟨wr.heap.size, 2, none⟩ = some (.int .u64 (nm : Int))) := fun w' h => HK0.out w' (h.block _ (by rw [← HVs.out]; omega))
      have HK2 : Hid (∀ w5 : World, Below V0.heap.size V0 w5 → ∀ (j j' : Nat) (u u' : Value) (w' : World), w' = (w5.setCell ⟨g, j, none⟩ u).setCell ⟨g, j', none⟩ u' → w'.cell? ⟨wr.heap.size, 0, none⟩ = some (.int .i64 (s : Int)) ∧ w'.cell? ⟨wr.heap.size, 1, none⟩ = some (.int .i64 (wd : Int)) ∧ w'.cell? ⟨wr.heap.size, 2, none⟩ = some (.int .u64 (nm : Int))) := by
        rintro w5 h j j' u u' w' rfl
        refine HK0.out _ ?_
        rw [Below.heap_setCell _ _ _ _ (show wr.heap.size ≠ g by omega), Below.heap_setCell _ _ _ _ (show wr.heap.size ≠ g by omega)]
        exact h.block _ (by rw [← HVs.out]; omega)
      go_region_held3 (fun w' => w'.cell? ⟨wr.heap.size, 0, none⟩ = some (.int .i64 (s : Int)) ∧ w'.cell? ⟨wr.heap.size, 1, none⟩ = some (.int .i64 (wd : Int)) ∧ w'.cell? ⟨wr.heap.size, 2, none⟩ = some (.int .u64 (nm : Int)))
        ((first | exact HK2.out w5 hk1.out _ _ _ _ _ rfl | exact HK.out _ hk1.out | exact HK.out _ (Below.refl _ _).drew))
        (first
          | (go_at_call 37; refine (HP.out _).mono ?_; rintro e w5 ⟨A1, c1', rfl, r1, B1⟩; have hk1 : Hid (Below V0.heap.size V0 w5) := ((Below.refl _ V0).drew).trans B1; have hr1 := Lib.hid r1; clear B1 r1; obtain ⟨q1, q2, q3, q4⟩ := HD0.out w5 (HV.out.trans (hk1.out.mono HV.out.size))))
      all_goals (
        have hb5 : Below wr.heap.size wr w5 := HV.out.trans (hk1.out.mono HV.out.size)
        have row5 := HD.out w5 hb5
        have hwl : (wd : Int) = (L.length : Int) := by rw [HCl.out]
        have HRow6 : Hid (((w5.setCell ⟨g, s * 2, none⟩ (.int .i64 (wd : Int))).setCell ⟨g, s * 2 + 1, none⟩ (.slice A1 (pack L).length c1')).ownsRow w2.heap.size 26 2 (.slice (some ⟨g, 0, none⟩) n n) n ((bs.set s (L, A1, c1')).flatMap encB)) := by
          show World.ownsRow _ _ _ _ _ _ _
          rw [encBs_set bs s (by omega), ← hwl]
          exact own_put (own_put row5 _ _) _ _
        have HRd6 : Hid (∀ x ∈ bs.set s (L, A1, c1'), Rd ((w5.setCell ⟨g, s * 2, none⟩ (.int .i64 (wd : Int))).setCell ⟨g, s * 2 + 1, none⟩ (.slice A1 (pack L).length c1')) ((w5.setCell ⟨g, s * 2, none⟩ (.int .i64 (wd : Int))).setCell ⟨g, s * 2 + 1, none⟩ (.slice A1 (pack L).length c1')).heap.size x.2.1 (pack x.1)) := by
          intro x hx
          have key : ∀ A' by', Rd w5 w5.heap.size A' by' → Rd ((w5.setCell ⟨g, s * 2, none⟩ (.int .i64 (wd : Int))).setCell ⟨g, s * 2 + 1, none⟩ (.slice A1 (pack L).length c1')) ((w5.setCell ⟨g, s * 2, none⟩ (.int .i64 (wd : Int))).setCell ⟨g, s * 2 + 1, none⟩ (.slice A1 (pack L).length c1')).heap.size A' by' := by
            intro A' by' h
            have h2 := rd_row row5 h ((w5.setCell ⟨g, s * 2, none⟩ (.int .i64 (wd : Int))).setCell ⟨g, s * 2 + 1, none⟩ (.slice A1 (pack L).length c1')) (fun b hb => by rw [Below.heap_setCell _ _ _ _ hb, Below.heap_setCell _ _ _ _ hb])
            simpa [World.setCell] using h2
          rcases List.mem_or_eq_of_mem_set hx with hx | rfl
          · exact key _ _ ((HRd.out x hx).below hb5 hb5.size)
          · exact key _ _ hr1.out
        have HB6 : Hid (Below w2.heap.size w2 ((w5.setCell ⟨g, s * 2, none⟩ (.int .i64 (wd : Int))).setCell ⟨g, s * 2 + 1, none⟩ (.slice A1 (pack L).length c1'))) := ((HBel.out.trans (hb5.mono HBel.out.size)).setCell hgb _).setCell hgb _
        have HBs6 : Hid ((bs.set s (L, A1, c1')).map (fun x : Bx => x.1) = (List.range l.length).map (codOf ((words l).take (i + 1)))) := by
          show _ = _
          rw [List.map_set, HBs.out]
          apply List.ext_getElem?
          intro t
          rw [List.getElem?_set, List.length_map, List.length_range, List.getElem?_map, List.getElem?_map]
          by_cases ht : t < l.length
          · rw [List.getElem?_range ht, Option.map_some, Option.map_some, HSn.out t]
            by_cases hst : s = t
            · rw [if_pos hst, if_pos (by omega), if_pos hst.symm]
            · rw [if_neg hst, if_neg (fun e => hst e.symm)]
          · rw [List.getElem?_eq_none (by simp; omega)]
            simp
            omega
        clear hwl hb5 row5 hr1 hk1 q1 q2 q3 q4 HK HK0 HK2 HD HD0
        go_wp2
        go_roundw
        case rel => exact ⟨i + 1, bs.set s (L, A1, c1'), by rw [HM.out]; omega, by go_num, HBs6.out, by rw [HN.out]; exact HRow6.out, HRd6.out, HB6.out⟩
        case measure => simp [intOf]; omega)
    · have he : (words l).take i = words l := List.take_of_length_le (by rw [HM.out]; omega)
      rw [he] at hbs
      have HBs : Hid (bs.map (fun x : Bx => x.1) = codes l) := hbs
      have HRr := Lib.hid (own_rdr hrow hrd)
      have HBel := Lib.hid hbel
      have HLn : Hid ((codes l).length = n) := by show _ = _; rw [codes_length, HN.out]
      clear hrow hrd hbel hbs he
      go_wp2
      go_ret2
      exact ⟨_, n, bs, by rw [HLn.out]; rfl, HBs.out, HRr.out, HB.out.trans (HBel.out.mono HB.out.size)⟩
end Go.Proofs.Ythfjfkbolfnkkaa
