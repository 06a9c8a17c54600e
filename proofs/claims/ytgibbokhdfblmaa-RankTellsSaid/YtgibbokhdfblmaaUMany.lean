/- What Many and Code of unary answer, for whatever numbers they are handed. -/
import Derived.Test.YtgibbokhdfblmaaUAdd
namespace Go.Proofs.Ytgibbokhdfblmaa
open Go.RowKit

set_option maxHeartbeats 400000 in
theorem out_of (n : Nat) (w : World) : Calls Try.prog 55 #[.int .u64 (n : Int)] w fun e w' => e = .returned (.bool (decide (8192 ≤ n))) ∧ w = w' := by
  have e : decide (8192 ≤ n) = decide ((8192 : Int) ≤ (n : Int)) := by rw [Bool.eq_iff_iff]; simp; omega
  rw [e]
  go_enter Try.func55, Try.ntmps55
  go_wp2
  go_ret
  exact ⟨rfl, rfl⟩

/-- At each round's head: none of the first i is out of range. -/
def IdxRel (ns : List Nat) (p : Value) : Prop := ∃ i : Nat, i ≤ ns.length ∧ p = .int .i64 (i : Int) ∧ (ns.take i).any (fun n => decide (8192 ≤ n)) = false

theorem any_snoc (ns : List Nat) (i : Nat) (h : i < ns.length) : (ns.take (i + 1)).any (fun n => decide (8192 ≤ n)) = ((ns.take i).any (fun n => decide (8192 ≤ n)) || decide (8192 ≤ ns[i]?.getD 0)) := by
  rw [take_snoc ns i h, List.any_append]; simp
theorem any_take (ns : List Nat) (i : Nat) (h : (ns.take i).any (fun n => decide (8192 ≤ n)) = true) : ns.any (fun n => decide (8192 ≤ n)) = true := by
  rw [List.any_eq_true] at h ⊢
  obtain ⟨x, hx, hp⟩ := h
  exact ⟨x, List.mem_of_mem_take hx, hp⟩

set_option maxHeartbeats 1000000 in
theorem index_any (ns : List Nat) (A : Option Addr) (n c : Nat) (hn : ns.length = n) (hn2 : n ≤ 9223372036854775807) (w : World) (h : RdV w w.heap.size A (nc ns)) :
    Calls Try.prog 84 #[.slice A n c, .func (.func 55) #[] #[]] w fun e w' => (∃ i : Int, e = .returned (.int .i64 i) ∧ decide (0 ≤ i) = ns.any (fun n => decide (8192 ≤ n))) ∧ w = w' := by
  have HR := Lib.hid h; clear h
  have HN := Lib.hid hn; clear hn
  go_enter Try.func84, Try.ntmps84
  go_wp2
  go_loop [8, 5] (fun p _ => IdxRel ns p) (fun p _ => n - (intOf p).toNat)
  case atStart => exact ⟨0, Nat.zero_le _, rfl, rfl⟩
  case round =>
    obtain ⟨i, hi, rfl, ht⟩ := hrel
    rw [HN.out] at hi
    by_cases hlt : i < n
    · have hin : i < ns.length := by rw [HN.out]; exact hlt
      obtain ⟨b, off, rfl, hb, hc⟩ := HR.out.at_ (nc_get ns i hin)
      have hs := any_snoc ns i hin
      have htk := any_take ns (i + 1)
      have HT := Lib.hid ht; clear ht
      generalize ns[i]?.getD 0 = x at *
      have HC := out_of x w
      cases hd : decide (8192 ≤ x)
      · rw [hd, HT.out] at hs
        have HS := Lib.hid hs; clear hs htk
        rw [hd] at HC
        have HC' := Lib.hid HC; clear HC hd
        go_wp2_with (go_at_call 55; refine HC'.out.mono ?_; rintro e w1 ⟨rfl, rfl⟩)
        go_round
        case rel => exact ⟨i + 1, by rw [HN.out]; omega, by go_num, HS.out⟩
        case measure => simp [intOf]; omega
      · rw [hd, HT.out] at hs
        have HS := Lib.hid (htk hs); clear hs htk
        rw [hd] at HC
        have HC' := Lib.hid HC; clear HC hd
        go_wp2_with (go_at_call 55; refine HC'.out.mono ?_; rintro e w1 ⟨rfl, rfl⟩)
        go_ret
        exact ⟨⟨(i : Int), rfl, by rw [HS.out]; simp⟩, rfl⟩
    · have HT : Hid (ns.any (fun n => decide (8192 ≤ n)) = false) := by
        rw [List.take_of_length_le (by rw [HN.out]; omega)] at ht
        exact ht
      clear ht
      go_wp2
      go_ret
      exact ⟨⟨-1, rfl, by rw [HT.out]; decide⟩, rfl⟩

set_option maxHeartbeats 400000 in
theorem contains_any (ns : List Nat) (A : Option Addr) (n c : Nat) (hn : ns.length = n) (hn2 : n ≤ 9223372036854775807) (w : World) (h : RdV w w.heap.size A (nc ns)) :
    Calls Try.prog 54 #[.slice A n c, .func (.func 55) #[] #[]] w fun e w' => e = .returned (.bool (ns.any (fun n => decide (8192 ≤ n)))) ∧ w = w' := by
  have HC := Lib.hid (index_any ns A n c hn hn2 w h)
  clear h hn
  go_enter Try.func54, Try.ntmps54
  go_wp2_with fail
  refine HC.out.mono ?_
  rintro e w1 ⟨⟨i, rfl, hi⟩, rfl⟩
  have HI := Lib.hid hi; clear hi
  go_wp2
  go_ret
  exact ⟨congrArg (fun b => Ending.returned (.bool b)) HI.out, rfl⟩

theorem up2 (w : World) (o p : Obj) : Below w.heap.size w ((w.alloc o).alloc p) := ((Below.refl _ w).alloc (Nat.le_refl _) _).alloc (by simp) _

/-- At each round's head: the codes of the first i numbers are written. -/
def ManyRel (w2 : World) (K : Nat) (ns : List Nat) (p : Value) (wr : World) : Prop :=
  ∃ i : Nat, i ≤ ns.length ∧ p = .int .i64 (i : Int) ∧ UW wr K (ucs (ns.take i)) ∧ (ucs (ns.take i)).length ≤ 8192 ∧ w2.grownBy wr (some K)

/-- The writer's bits are stored where the result lies. -/
theorem ufinish {w wr : World} {K r : Nat} {L : List Bool} (hw : UW wr K L) (hr : w.heap.size ≤ r) (hrb : wr.heap[r]? = some (.cells #[.int .i64 0, .slice none 0 0] 25 (0, 0))) (hb : Below w.heap.size w wr) :
    ∃ A c, (wr.cell? ⟨K, 0, none⟩ = some (.int .i64 (L.length : Int)) ∧ wr.cell? ⟨K, 1, none⟩ = some (.slice A (pack L).length c)) ∧
      (wr.cell? ⟨r, 0, none⟩ = some (.int .i64 0) ∧ wr.cell? ⟨r, 1, none⟩ = some (.slice none 0 0) ∧ wr.frozen? ⟨r, 0, none⟩ = false ∧ wr.frozen? ⟨r, 1, none⟩ = false) ∧
      Hid (Gave w L 0 (.returned (.tuple #[.agg #[.int .i64 (L.length : Int), .slice A (pack L).length c], .int .i64 0])) ((wr.setCell ⟨r, 0, none⟩ (.int .i64 (L.length : Int))).setCell ⟨r, 1, none⟩ (.slice A (pack L).length c))) := by
  obtain ⟨A, c, hK, hR⟩ := hw
  obtain ⟨c0, c1, _, _⟩ := blk_cells hK
  refine ⟨A, c, ⟨c0, c1⟩, blk_cells hrb, A, c, rfl, ?_, (hb.setCell (p := ⟨r, 0, none⟩) hr _).setCell (p := ⟨r, 1, none⟩) hr _⟩
  have r1 := hR.setK (i := 0) (.int .i64 (L.length : Int)) hrb
  have hr2 : (wr.setCell ⟨r, 0, none⟩ (.int .i64 (L.length : Int))).heap[r]? = some (.cells #[.int .i64 (L.length : Int), .slice none 0 0] 25 (0, 0)) := by
    rw [heap_set_same _ _ _ _ 25 _ hrb]; simp
  have r2 := r1.setK (i := 1) (.slice A (pack L).length c) hr2
  have e : ((wr.setCell ⟨r, 0, none⟩ (.int .i64 (L.length : Int))).setCell ⟨r, 1, none⟩ (.slice A (pack L).length c)).heap.size = wr.heap.size := by simp [World.setCell]
  show Rd _ _ A (pack L)
  rw [e]
  exact r2

set_option maxHeartbeats 400000 in
theorem many_range (ns : List Nat) (A : Option Addr) (c : Nat) (hn2 : ns.length ≤ 9223372036854775807) (w : World) (h : RdV w w.heap.size A (nc ns)) (ha : ns.any (fun n => decide (8192 ≤ n)) = true) :
    Calls Try.prog 17 #[.slice A ns.length c] w (Gave w [] 3) := by
  have hc0 := contains_any ns A ns.length c rfl hn2 (w.alloc (.cells #[.int .i64 0, .slice none 0 0] 25)) (h.on (one_below w _))
  rw [ha] at hc0
  have HC := Lib.hid hc0; clear hc0 h ha
  have HB := Lib.hid (one_below w (.cells #[.int .i64 0, .slice none 0 0] 25))
  generalize ns.length = n at *
  go_enter Try.func17, Try.ntmps17
  go_wp2_with fail
  refine HC.out.mono ?_
  rintro e w1 ⟨rfl, rfl⟩
  go_wp2
  exact bodyPost_ret (v := .tuple #[.agg #[.int .i64 0, .slice none 0 0], .int .i64 3]) (by simp [results, Try.results17, go_sem]) rfl ⟨none, 0, rfl, .inl rfl, HB.out⟩

set_option maxHeartbeats 1000000 in
theorem many_in (ns : List Nat) (L : List Bool) (A : Option Addr) (n c : Nat) (hn : ns.length = n) (hn2 : n ≤ 9223372036854775807) (w : World) (h : RdV w w.heap.size A (nc ns)) (ha : ns.any (fun n => decide (8192 ≤ n)) = false) (hL : L = ucs ns) :
    Calls Try.prog 17 #[.slice A n c] w (if 8192 < L.length then Gave w [] 8 else Gave w L 0) := by
  have hc0 := contains_any ns A n c hn hn2 (w.alloc (.cells #[.int .i64 0, .slice none 0 0] 25)) (h.on (one_below w _))
  rw [ha] at hc0
  have HC := Lib.hid hc0; clear hc0 ha
  have HR := Lib.hid h; clear h
  have HN := Lib.hid hn; clear hn
  have HL := Lib.hid hL; clear hL
  have HW0 : Hid (ManyRel ((w.alloc (.cells #[.int .i64 0, .slice none 0 0] 25)).alloc (.cells #[.int .i64 0, .slice none 0 0] 87)) (w.heap.size + 1) ns (.int .i64 0) ((w.alloc (.cells #[.int .i64 0, .slice none 0 0] 25)).alloc (.cells #[.int .i64 0, .slice none 0 0] 87))) := by
    refine ⟨0, Nat.zero_le _, rfl, ⟨none, 0, ?_, .inl (by rw [List.take_zero]; rfl)⟩, by rw [List.take_zero]; exact Nat.zero_le _, ⟨rfl, rfl, rfl, Nat.le_refl _, fun _ _ _ => rfl⟩⟩
    rw [List.take_zero]
    exact two_new w _ _
  obtain ⟨w2, hw2⟩ : ∃ w2, w2 = (w.alloc (.cells #[.int .i64 0, .slice none 0 0] 25)).alloc (.cells #[.int .i64 0, .slice none 0 0] 87) := ⟨_, rfl⟩
  have HB2 : Hid (w2.heap.size = w.heap.size + 2 ∧ Below w.heap.size w w2 ∧ w2.heap[w.heap.size]? = some (.cells #[.int .i64 0, .slice none 0 0] 25)) := by
    rw [hw2]
    exact ⟨two_size w _ _, up2 w _ _, (Below.heap_alloc _ _ _ (by simp)).trans (World.alloc_heap_new w _)⟩
  have HW2 := Lib.hid hw2; clear hw2
  generalize hQ : (if 8192 < L.length then Gave w [] 8 else Gave w L 0) = Q
  have HQ := Lib.hid hQ; clear hQ
  go_enter Try.func17, Try.ntmps17
  go_wp2_with fail
  refine HC.out.mono ?_
  rintro e w1 ⟨rfl, rfl⟩
  clear HC
  go_wp2
  rw [← HW2.out] at HW0 ⊢
  clear HW2
  go_loopw [14] (fun p wr => ManyRel w2 (w.heap.size + 1) ns p wr) (fun p _ => n - (intOf p).toNat)
  case atStart => exact HW0.out
  case round =>
    obtain ⟨i, hi, rfl, hu, hul, hg⟩ := hrel
    rw [HN.out] at hi
    obtain ⟨hz2, hb2, hr2⟩ := HB2.out
    have hlow : Below w.heap.size w wr := hb2.trans ⟨hg.os, hg.tape, hg.output, hg.size, fun k hk => hg.block k (by omega) (by simp; omega)⟩
    have hrb : wr.heap[w.heap.size]? = some (.cells #[.int .i64 0, .slice none 0 0] 25) := (hg.block _ (by omega) (by simp)).trans hr2
    have HG := Lib.hid hg; clear hg
    clear hb2 hr2
    have HZ := Lib.hid hz2; clear hz2
    by_cases hlt : i < n
    · have hin : i < ns.length := by rw [HN.out]; exact hlt
      obtain ⟨b, off, rfl, hb, hc⟩ := (HR.out.below hlow (Nat.le_refl _)).at_ (nc_get ns i hin)
      have hsn : ucs (ns.take (i + 1)) = ucs (ns.take i) ++ uc (ns[i]?.getD 0) := by rw [take_snoc ns i hin, ucs_snoc]
      have hle := ucs_take_le ns (i + 1)
      rw [← HL.out, hsn, List.length_append, uc_length] at hle
      generalize ns[i]?.getD 0 = x at *
      by_cases hfit : (ucs (ns.take i)).length + x + 1 ≤ 8192
      · have HA := Lib.hid (uadd_ok wr (w.heap.size + 1) (ucs (ns.take i)) _ x hfit rfl hu)
        have HS := Lib.hid hsn; clear hsn hu
        have hul2 : (ucs (ns.take i)).length + (x + 1) ≤ 8192 := by omega
        have HLow := Lib.hid hlow; clear hlow hrb
        go_wp2_with fail
        refine HA.out.mono ?_
        rintro e w3 ⟨rfl, hu3, hg3⟩
        go_wp2
        go_roundw
        case rel => exact ⟨i + 1, by rw [HN.out]; omega, by go_num, by rw [HS.out]; exact hu3, by rw [HS.out, List.length_append, uc_length]; exact hul2, grown_trans HG.out hg3⟩
        case measure => simp [intOf]; omega
      · have HA := Lib.hid (uadd_full wr (w.heap.size + 1) (ucs (ns.take i)) x hul (by omega) hu)
        have hbig : 8192 < L.length := by omega
        rw [if_pos hbig] at HQ
        clear hsn hu hfit hle hul hbig
        obtain ⟨d0, d1, g0, g1⟩ := blk_cells hrb
        have HLow := Lib.hid hlow; clear hlow hrb
        go_wp2_with fail
        refine HA.out.mono ?_
        rintro e w3 ⟨rfl, rfl⟩
        go_wp2
        refine bodyPost_ret (v := .tuple #[.agg #[.int .i64 0, .slice none 0 0], .int .i64 8]) (by simp [results, Try.results17, go_sem, d0, d1]) rfl ?_
        rw [← HQ.out]
        exact gave_zero HLow.out _ (Nat.le_refl _) 8
    · have e : i = n := by omega
      rw [e, List.take_of_length_le (by rw [HN.out]; omega), ← HL.out] at hu hul
      rw [if_neg (by omega)] at HQ
      obtain ⟨A3, c3, ⟨d0, d1⟩, ⟨d2, d3, g0, g1⟩, HF⟩ := ufinish hu (Nat.le_refl _) hrb hlow
      clear hu hul hrb hlow e
      go_wp2
      refine bodyPost_ret (v := .tuple #[.agg #[.int .i64 (L.length : Int), .slice A3 (pack L).length c3], .int .i64 0]) (by simp [results, Try.results17, go_sem, d2, d3]) rfl ?_
      rw [← HQ.out]
      exact HF.out

theorem many_any (ns : List Nat) (A : Option Addr) (c : Nat) (hn2 : ns.length ≤ 9223372036854775807) (w : World) (h : RdV w w.heap.size A (nc ns)) :
    Calls Try.prog 17 #[.slice A ns.length c] w (Gave w (if manyE ns = 0 then ucs ns else []) (manyE ns)) := by
  cases ha : ns.any (fun n => decide (8192 ≤ n))
  · have h1 := many_in ns _ A ns.length c rfl hn2 w h ha rfl
    by_cases hf : 8192 < (ucs ns).length
    · have e : manyE ns = 8 := by unfold manyE; rw [ha, if_neg (by decide), if_pos hf]
      rw [if_pos hf] at h1
      rw [e, if_neg (by decide)]
      exact h1
    · have e : manyE ns = 0 := by unfold manyE; rw [ha, if_neg (by decide), if_neg hf]
      rw [if_neg hf] at h1
      rw [e, if_pos rfl]
      exact h1
  · have e : manyE ns = 3 := by unfold manyE; rw [ha, if_pos rfl]
    rw [e, if_neg (by decide)]
    exact many_range ns A c hn2 w h ha

/-- Numbers whose codes have room. -/
theorem many_l (ns : List Nat) (L : List Bool) (A : Option Addr) (n c : Nat) (hn : ns.length = n) (hn2 : n ≤ 9223372036854775807) (he : manyE ns = 0) (hL : L = ucs ns) (w : World) (h : RdV w w.heap.size A (nc ns)) :
    Calls Try.prog 17 #[.slice A n c] w (Gv w (L.length : Int) (pack L).length (pack L) 0) := by
  subst hn
  have h1 := many_any ns A c hn2 w h
  rw [he, if_pos rfl, ← hL] at h1
  exact h1
theorem many_e (ns : List Nat) (A : Option Addr) (n c : Nat) (hn : ns.length = n) (hn2 : n ≤ 9223372036854775807) (e0 : Int) (he : manyE ns = e0) (h0 : e0 ≠ 0) (w : World) (h : RdV w w.heap.size A (nc ns)) :
    Calls Try.prog 17 #[.slice A n c] w (Gv w 0 0 (pack []) e0) := by
  subst hn
  have h1 := many_any ns A c hn2 w h
  rw [he, if_neg h0] at h1
  exact h1

theorem manyE_one (n : Nat) : manyE [n] = if 8192 ≤ n then 3 else 0 := by
  unfold manyE
  by_cases h : 8192 ≤ n
  · rw [if_pos (by simp; exact h), if_pos h]
  · rw [if_neg (by simp; omega), if_neg h, if_neg (by simp [ucs, uc_length]; omega)]
theorem ucs_one (n : Nat) : ucs [n] = uc n := by simp [ucs]

/-- One number, in a slice of its own. -/
theorem rdv_lit1 (w : World) (n : Nat) : RdV (w.alloc (.cells #[.int .u64 (n : Int)] 22)) (w.alloc (.cells #[.int .u64 (n : Int)] 22)).heap.size (some ⟨w.heap.size, 0, none⟩) (nc [n]) := by
  refine .inr ⟨w.heap.size, 0, rfl, by simp, fun i v hi => ?_⟩
  have e := World.alloc_heap_new w (.cells #[.int .u64 (n : Int)] 22)
  rcases Nat.eq_zero_or_pos i with rfl | h
  · simp [nc] at hi
    subst hi
    exact box_cell e
  · rw [List.getElem?_eq_none (by rw [nc_length]; simp; omega)] at hi; cases hi

set_option maxHeartbeats 400000 in
theorem code_any (n : Nat) (L : List Bool) (e0 : Int) (he : e0 = if 8192 ≤ n then 3 else 0) (hL : L = if 8192 ≤ n then [] else uc n) (w : World) :
    Calls Try.prog 15 #[.int .u64 (n : Int)] w (Gv w (L.length : Int) (pack L).length (pack L) e0) := by
  have h1 := many_any [n] (some ⟨w.heap.size + 1, 0, none⟩) 1 (by simp) ((w.alloc (.cells #[.int .i64 0, .slice none 0 0] 25)).alloc (.cells #[.int .u64 (n : Int)] 22)) (by
    have := rdv_lit1 (w.alloc (.cells #[.int .i64 0, .slice none 0 0] 25)) n
    simp only [World.size_alloc] at this ⊢
    exact this)
  have e1 : (if manyE [n] = 0 then ucs [n] else []) = L := by
    rw [hL, manyE_one, ucs_one]
    by_cases h : 8192 ≤ n
    · rw [if_pos h, if_pos h, if_neg (by decide)]
    · rw [if_neg h, if_neg h, if_pos rfl]
  rw [e1, manyE_one, ← he] at h1
  have HC := Lib.hid h1; clear h1 he hL e1
  go_enter Try.func15, Try.ntmps15
  go_wp2_with fail
  refine HC.out.mono ?_
  rintro e w1 ⟨A1, c1, rfl, R1, B1⟩
  have hs := two_size w (.cells #[.int .i64 0, .slice none 0 0] 25) (.cells #[.int .u64 (n : Int)] 22)
  have hs' : ((w.alloc (.cells #[.int .i64 0, .slice none 0 0] 25)).alloc (.cells #[.int .u64 (n : Int)] 22)).heap.size = w.heap.size + 2 := hs
  rw [hs'] at B1
  have hrb : w1.heap[w.heap.size]? = some (.cells #[.int .i64 0, .slice none 0 0] 25 (0, 0)) := (B1.block _ (by omega)).trans ((Below.heap_alloc _ _ _ (by simp)).trans (World.alloc_heap_new w _))
  have hlow : Below w.heap.size w w1 := (up2 w _ _).trans (B1.mono (by omega))
  obtain ⟨d0, d1, g0, g1⟩ := blk_cells hrb
  have HG : Hid (Gv w (L.length : Int) (pack L).length (pack L) e0 (.returned (.tuple #[.agg #[.int .i64 (L.length : Int), .slice A1 (pack L).length c1], .int .i64 e0])) ((w1.setCell ⟨w.heap.size, 0, none⟩ (.int .i64 (L.length : Int))).setCell ⟨w.heap.size, 1, none⟩ (.slice A1 (pack L).length c1))) := by
    refine ⟨A1, c1, rfl, ?_, (hlow.setCell (p := ⟨w.heap.size, 0, none⟩) (Nat.le_refl _) _).setCell (p := ⟨w.heap.size, 1, none⟩) (Nat.le_refl _) _⟩
    have r1 := R1.setK (i := 0) (.int .i64 (L.length : Int)) hrb
    have hr2 : (w1.setCell ⟨w.heap.size, 0, none⟩ (.int .i64 (L.length : Int))).heap[w.heap.size]? = some (.cells #[.int .i64 (L.length : Int), .slice none 0 0] 25 (0, 0)) := by
      rw [heap_set_same _ _ _ _ 25 _ hrb]; simp
    have r2 := r1.setK (i := 1) (.slice A1 (pack L).length c1) hr2
    have e : ((w1.setCell ⟨w.heap.size, 0, none⟩ (.int .i64 (L.length : Int))).setCell ⟨w.heap.size, 1, none⟩ (.slice A1 (pack L).length c1)).heap.size = w1.heap.size := by simp [World.setCell]
    rw [e]
    exact r2
  clear hrb hlow hs hs' R1 B1
  go_wp2
  exact bodyPost_ret (v := .tuple #[.agg #[.int .i64 (L.length : Int), .slice A1 (pack L).length c1], .int .i64 e0]) (by simp [results, Try.results15, go_sem, d0, d1]) rfl HG.out
end Go.Proofs.Ytgibbokhdfblmaa
