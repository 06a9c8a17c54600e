/- Texts of this proof, one behind the other (UAdd, UMany, UOnes, URead, UAllA, RefList, RefNumA, RefNum, RefPack, RefCheck, RefGen, HCat); each fact names its conditions. -/
import Derived.Test.YtndiocehkdbjkaaGreatJL2
import Derived.Laws.AppendOwnNone
import Derived.Lib.AppendZerosOnto
namespace Go.Proofs.YtndiocehkdbjkaaGreat

section
open Go.RowKit

/-- New bits are stored in a writer. -/
theorem UW.put {w w' : World} {K : Nat} {l L : List Bool} {A A' : Option Addr} {c c' : Nat} (hK : w.heap[K]? = some (.cells #[.int .i64 (l.length : Int), .slice A (pack l).length c] 304 (0, 0))) (hR : Rd w' w'.heap.size A' (pack L)) (hB : Below w.heap.size w w') :
    (w'.cell? ⟨K, 0, none⟩ = some (.int .i64 (l.length : Int)) ∧ w'.cell? ⟨K, 1, none⟩ = some (.slice A (pack l).length c) ∧ w'.frozen? ⟨K, 0, none⟩ = false ∧ w'.frozen? ⟨K, 1, none⟩ = false) ∧
    Hid (UW ((w'.setCell ⟨K, 0, none⟩ (.int .i64 (L.length : Int))).setCell ⟨K, 1, none⟩ (.slice A' (pack L).length c')) K L ∧ w.grownBy ((w'.setCell ⟨K, 0, none⟩ (.int .i64 (L.length : Int))).setCell ⟨K, 1, none⟩ (.slice A' (pack L).length c')) (some K)) := by
  have hlt : K < w.heap.size := (Array.getElem?_eq_some_iff.1 hK).1
  have hK1 := (hB.block K hlt).trans hK
  have hK2 := heap_set_same w' K 0 (.int .i64 (L.length : Int)) 304 _ hK1
  have hK3 := heap_set_same _ K 1 (.slice A' (pack L).length c') 304 _ hK2
  refine ⟨blk_cells hK1, ⟨A', c', ?_, ?_⟩, grown_trans (grown_of_below hB _) (grown_trans (grown_set _ _ _ _) (grown_set _ _ _ _))⟩
  · rw [hK3]; simp
  · have r1 := hR.setK (i := 0) (.int .i64 (L.length : Int)) hK1
    have hK2' : (w'.setCell ⟨K, 0, none⟩ (.int .i64 (L.length : Int))).heap[K]? = some (.cells #[.int .i64 (L.length : Int), .slice A (pack l).length c] 304 (0, 0)) := by rw [hK2]; simp
    have r2 := r1.setK (i := 1) (.slice A' (pack L).length c') hK2'
    have e : ((w'.setCell ⟨K, 0, none⟩ (.int .i64 (L.length : Int))).setCell ⟨K, 1, none⟩ (.slice A' (pack L).length c')).heap.size = w'.heap.size := by simp [World.setCell]
    rw [e]
    exact r2

set_option maxHeartbeats 400000 in
theorem uput_ok (w : World) (K : Nat) (l L : List Bool) (n k : Nat) (hk : k ≤ 64) (hn : n / 2 ^ k = 0) (hf : l.length + k ≤ 8192) (hn64 : n < 18446744073709551616) (hL : L = l ++ nb n k) (h : UW w K l) :
    Calls Tryz.prog 275 #[.pointer (some ⟨K, 0, none⟩), .int .u64 (n : Int), .int .i64 (k : Int)] w fun e w' => e = .returned (.tuple #[]) ∧ UW w' K L ∧ w.grownBy w' (some K) := by
  obtain ⟨A, c, hK, hR⟩ := h
  have HP := Lib.hid (put_l l L A c n k hk hn hf hn64 hL w hR)
  obtain ⟨c0, c1, f0, f1⟩ := blk_cells hK
  have HK := Lib.hid hK
  clear hK hR hn hL
  go_enter Tryz.func275, Tryz.ntmps275
  go_wp2_with fail
  refine HP.out.mono ?_
  rintro e w1 ⟨A1, c1', rfl, R1, B1⟩
  obtain ⟨⟨d0, d1, e0, e1⟩, HU⟩ := UW.put (c' := c1') HK.out R1 B1
  clear R1 B1 c0 c1 f0 f1
  go_wp2
  go_end0
  exact ⟨rfl, HU.out.1, HU.out.2⟩

/-- At each round's head: z noughts are still to come. -/
def AddRel (w : World) (K : Nat) (l : List Bool) (n : Nat) (p : Value) (wr : World) : Prop :=
  ∃ z : Nat, z ≤ n ∧ p = .int .i64 (z : Int) ∧ UW wr K (l ++ List.replicate (n - z) false) ∧ w.grownBy wr (some K)

set_option maxHeartbeats 1000000 in
theorem uadd_ok (w : World) (K : Nat) (l L : List Bool) (n : Nat) (hf : l.length + n + 1 ≤ 8192) (hL : L = l ++ uc n) (h : UW w K l) :
    Calls Tryz.prog 260 #[.pointer (some ⟨K, 0, none⟩), .int .u64 (n : Int)] w fun e w' => e = .returned (.int .i64 0) ∧ UW w' K L ∧ w.grownBy w' (some K) := by
  have HU := Lib.hid h
  obtain ⟨A, c, hK, hR⟩ := h
  obtain ⟨c0, c1, f0, f1⟩ := blk_cells hK
  clear hK hR f0 f1
  have HL := Lib.hid hL; clear hL
  have t0 : decide ((8192 : Int) - (l.length : Int) ≤ (n : Int)) = false := by simp; omega
  have hw : (0 : Int) ≤ 8192 - (l.length : Int) := by omega
  go_enter Tryz.func260, Tryz.ntmps260
  go_wp2_with fail
  go_loopw [5] (fun p wr => AddRel w K l n p wr) (fun p _ => (intOf p).toNat)
  case atStart => exact ⟨n, Nat.le_refl _, rfl, by rw [Nat.sub_self, List.replicate_zero, List.append_nil]; exact HU.out, ⟨rfl, rfl, rfl, Nat.le_refl _, fun _ _ _ => rfl⟩⟩
  case round =>
    obtain ⟨z, hz, rfl, hu, hg⟩ := hrel
    by_cases h64 : 64 ≤ z
    · have HU2 := Lib.hid (uput_ok wr K (l ++ List.replicate (n - z) false) (l ++ List.replicate (n - (z - 64)) false) 0 64 (by omega) (by simp) (by rw [List.length_append, List.length_replicate]; omega) (by omega) (by
        rw [nb_zeros, List.append_assoc, List.replicate_append_replicate]; congr 2; omega) hu)
      clear hu
      go_wp2_with fail
      refine HU2.out.mono ?_
      rintro e w1 ⟨rfl, hu1, hg1⟩
      go_wp2
      go_roundw
      case rel => exact ⟨z - 64, by omega, by go_num, hu1, grown_trans hg hg1⟩
      case measure => simp [intOf]; omega
    · have HU2 := Lib.hid (uput_ok wr K (l ++ List.replicate (n - z) false) L 1 (z + 1) (by omega) (by
          rw [Nat.div_eq_zero_iff]; right; exact Nat.one_lt_two_pow (by omega)) (by rw [List.length_append, List.length_replicate]; omega) (by omega) (by
        rw [nb_one, HL.out]; unfold uc; rw [List.append_assoc, ← List.append_assoc (List.replicate (n - z) false), List.replicate_append_replicate]; congr 3; omega) hu)
      clear hu
      go_wp2_with fail
      refine HU2.out.mono ?_
      rintro e w1 ⟨rfl, hu1, hg1⟩
      go_wp2
      go_ret
      exact ⟨rfl, hu1, grown_trans hg hg1⟩

set_option maxHeartbeats 400000 in
theorem uadd_full (w : World) (K : Nat) (l : List Bool) (n : Nat) (hl : l.length ≤ 8192) (hf : 8192 < l.length + n + 1) (h : UW w K l) :
    Calls Tryz.prog 260 #[.pointer (some ⟨K, 0, none⟩), .int .u64 (n : Int)] w fun e w' => e = .returned (.int .i64 8) ∧ w = w' := by
  obtain ⟨A, c, hK, hR⟩ := h
  obtain ⟨c0, c1, f0, f1⟩ := blk_cells hK
  clear hK hR f0 f1
  have t0 : decide ((8192 : Int) - (l.length : Int) ≤ (n : Int)) = true := by simp; omega
  have hw : (0 : Int) ≤ 8192 - (l.length : Int) := by omega
  go_enter Tryz.func260, Tryz.ntmps260
  go_wp2
  go_ret
  exact ⟨rfl, rfl⟩
end

section
open Go.RowKit

set_option maxHeartbeats 400000 in
theorem out_of (n : Nat) (w : World) : Calls Tryz.prog 259 #[.int .u64 (n : Int)] w fun e w' => e = .returned (.bool (decide (8192 ≤ n))) ∧ w = w' := by
  have e : decide (8192 ≤ n) = decide ((8192 : Int) ≤ (n : Int)) := by rw [Bool.eq_iff_iff]; simp; omega
  rw [e]
  go_enter Tryz.func259, Tryz.ntmps259
  go_wp2
  go_ret
  exact ⟨rfl, rfl⟩

/-- At each round's head: none of the first i is out of range. -/
def IdxRel (ns : List Nat) (p : Value) : Prop := ∃ i : Nat, i ≤ ns.length ∧ p = .int .i64 (i : Int) ∧ (ns.take i).any (fun n => decide (8192 ≤ n)) = false

theorem any_snoc (ns : List Nat) (i : Nat) (h : i < ns.length) : (ns.take (i + 1)).any (fun n => decide (8192 ≤ n)) = ((ns.take i).any (fun n => decide (8192 ≤ n)) || decide (8192 ≤ ns[i]?.getD 0)) := by
  rw [take_snoc ns i h, List.any_append]; simp
theorem any_take (ns : List Nat) (i : Nat) (h : (ns.take i).any (fun n => decide (8192 ≤ n)) = true) : ns.any (fun n => decide (8192 ≤ n)) = true := by
  rw [List.any_eq_true] at h ⊢
  obtain ⟨x, hx, hp⟩ := h
  exact ⟨x, List.mem_of_mem_take hx, hp⟩

set_option maxHeartbeats 1000000 in
theorem index_any (ns : List Nat) (A : Option Addr) (n c : Nat) (hn : ns.length = n) (hn2 : n ≤ 9223372036854775807) (w : World) (h : RdV w w.heap.size A (nc ns)) :
    Calls Tryz.prog 274 #[.slice A n c, .func (.func 259) #[] #[]] w fun e w' => (∃ i : Int, e = .returned (.int .i64 i) ∧ decide (0 ≤ i) = ns.any (fun n => decide (8192 ≤ n))) ∧ w = w' := by
  have HR := Lib.hid h; clear h
  have HN := Lib.hid hn; clear hn
  go_enter Tryz.func274, Tryz.ntmps274
  go_wp2
  go_loop [8, 5] (fun p _ => IdxRel ns p) (fun p _ => n - (intOf p).toNat)
  case atStart => exact ⟨0, Nat.zero_le _, rfl, rfl⟩
  case round =>
    obtain ⟨i, hi, rfl, ht⟩ := hrel
    rw [HN.out] at hi
    by_cases hlt : i < n
    · have hin : i < ns.length := by rw [HN.out]; exact hlt
      obtain ⟨b, off, rfl, hb, hc⟩ := HR.out.at_ (nc_get ns i hin)
      have hs := any_snoc ns i hin
      have htk := any_take ns (i + 1)
      have HT := Lib.hid ht; clear ht
      generalize ns[i]?.getD 0 = x at *
      have HC := out_of x w
      cases hd : decide (8192 ≤ x)
      · rw [hd, HT.out] at hs
        have HS := Lib.hid hs; clear hs htk
        rw [hd] at HC
        have HC' := Lib.hid HC; clear HC hd
        go_wp2_with (go_at_call 259; refine HC'.out.mono ?_; rintro e w1 ⟨rfl, rfl⟩)
        go_round
        case rel => exact ⟨i + 1, by rw [HN.out]; omega, by go_num, HS.out⟩
        case measure => simp [intOf]; omega
      · rw [hd, HT.out] at hs
        have HS := Lib.hid (htk hs); clear hs htk
        rw [hd] at HC
        have HC' := Lib.hid HC; clear HC hd
        go_wp2_with (go_at_call 259; refine HC'.out.mono ?_; rintro e w1 ⟨rfl, rfl⟩)
        go_ret
        exact ⟨⟨(i : Int), rfl, by rw [HS.out]; simp⟩, rfl⟩
    · have HT : Hid (ns.any (fun n => decide (8192 ≤ n)) = false) := by
        rw [List.take_of_length_le (by rw [HN.out]; omega)] at ht
        exact ht
      clear ht
      go_wp2
      go_ret
      exact ⟨⟨-1, rfl, by rw [HT.out]; decide⟩, rfl⟩

set_option maxHeartbeats 400000 in
theorem contains_any (ns : List Nat) (A : Option Addr) (n c : Nat) (hn : ns.length = n) (hn2 : n ≤ 9223372036854775807) (w : World) (h : RdV w w.heap.size A (nc ns)) :
    Calls Tryz.prog 258 #[.slice A n c, .func (.func 259) #[] #[]] w fun e w' => e = .returned (.bool (ns.any (fun n => decide (8192 ≤ n)))) ∧ w = w' := by
  have HC := Lib.hid (index_any ns A n c hn hn2 w h)
  clear h hn
  go_enter Tryz.func258, Tryz.ntmps258
  go_wp2_with fail
  refine HC.out.mono ?_
  rintro e w1 ⟨⟨i, rfl, hi⟩, rfl⟩
  have HI := Lib.hid hi; clear hi
  go_wp2
  go_ret
  exact ⟨congrArg (fun b => Ending.returned (.bool b)) HI.out, rfl⟩

/-- At each round's head: the codes of the first i numbers are written. -/
def ManyRel (w2 : World) (K : Nat) (ns : List Nat) (p : Value) (wr : World) : Prop :=
  ∃ i : Nat, i ≤ ns.length ∧ p = .int .i64 (i : Int) ∧ UW wr K (ucs (ns.take i)) ∧ (ucs (ns.take i)).length ≤ 8192 ∧ w2.grownBy wr (some K)

/-- The writer's bits are stored where the result lies. -/
theorem ufinish {w wr : World} {K r : Nat} {L : List Bool} (hw : UW wr K L) (hr : w.heap.size ≤ r) (hrb : wr.heap[r]? = some (.cells #[.int .i64 0, .slice none 0 0] 35 (0, 0))) (hb : Below w.heap.size w wr) :
    ∃ A c, (wr.cell? ⟨K, 0, none⟩ = some (.int .i64 (L.length : Int)) ∧ wr.cell? ⟨K, 1, none⟩ = some (.slice A (pack L).length c)) ∧
      (wr.cell? ⟨r, 0, none⟩ = some (.int .i64 0) ∧ wr.cell? ⟨r, 1, none⟩ = some (.slice none 0 0) ∧ wr.frozen? ⟨r, 0, none⟩ = false ∧ wr.frozen? ⟨r, 1, none⟩ = false) ∧
      Hid (Gave w L 0 (.returned (.tuple #[.agg #[.int .i64 (L.length : Int), .slice A (pack L).length c], .int .i64 0])) ((wr.setCell ⟨r, 0, none⟩ (.int .i64 (L.length : Int))).setCell ⟨r, 1, none⟩ (.slice A (pack L).length c))) := by
  obtain ⟨A, c, hK, hR⟩ := hw
  obtain ⟨c0, c1, _, _⟩ := blk_cells hK
  refine ⟨A, c, ⟨c0, c1⟩, blk_cells hrb, A, c, rfl, ?_, (hb.setCell (p := ⟨r, 0, none⟩) hr _).setCell (p := ⟨r, 1, none⟩) hr _⟩
  have r1 := hR.setK (i := 0) (.int .i64 (L.length : Int)) hrb
  have hr2 : (wr.setCell ⟨r, 0, none⟩ (.int .i64 (L.length : Int))).heap[r]? = some (.cells #[.int .i64 (L.length : Int), .slice none 0 0] 35 (0, 0)) := by
    rw [heap_set_same _ _ _ _ 35 _ hrb]; simp
  have r2 := r1.setK (i := 1) (.slice A (pack L).length c) hr2
  have e : ((wr.setCell ⟨r, 0, none⟩ (.int .i64 (L.length : Int))).setCell ⟨r, 1, none⟩ (.slice A (pack L).length c)).heap.size = wr.heap.size := by simp [World.setCell]
  show Rd _ _ A (pack L)
  rw [e]
  exact r2

set_option maxHeartbeats 400000 in
theorem many_range (ns : List Nat) (A : Option Addr) (c : Nat) (hn2 : ns.length ≤ 9223372036854775807) (w : World) (h : RdV w w.heap.size A (nc ns)) (ha : ns.any (fun n => decide (8192 ≤ n)) = true) :
    Calls Tryz.prog 243 #[.slice A ns.length c] w (Gave w [] 3) := by
  have hc0 := contains_any ns A ns.length c rfl hn2 (w.alloc (.cells #[.int .i64 0, .slice none 0 0] 35)) (h.on (one_below w _))
  rw [ha] at hc0
  have HC := Lib.hid hc0; clear hc0 h ha
  have HB := Lib.hid (one_below w (.cells #[.int .i64 0, .slice none 0 0] 35))
  generalize ns.length = n at *
  go_enter Tryz.func243, Tryz.ntmps243
  go_wp2_with fail
  refine HC.out.mono ?_
  rintro e w1 ⟨rfl, rfl⟩
  go_wp2
  exact bodyPost_ret (v := .tuple #[.agg #[.int .i64 0, .slice none 0 0], .int .i64 3]) (by simp [results, Tryz.results243, go_sem]) rfl ⟨none, 0, rfl, .inl rfl, HB.out⟩

set_option maxHeartbeats 1000000 in
theorem many_in (ns : List Nat) (L : List Bool) (A : Option Addr) (n c : Nat) (hn : ns.length = n) (hn2 : n ≤ 9223372036854775807) (w : World) (h : RdV w w.heap.size A (nc ns)) (ha : ns.any (fun n => decide (8192 ≤ n)) = false) (hL : L = ucs ns) :
    Calls Tryz.prog 243 #[.slice A n c] w (if 8192 < L.length then Gave w [] 8 else Gave w L 0) := by
  have hc0 := contains_any ns A n c hn hn2 (w.alloc (.cells #[.int .i64 0, .slice none 0 0] 35)) (h.on (one_below w _))
  rw [ha] at hc0
  have HC := Lib.hid hc0; clear hc0 ha
  have HR := Lib.hid h; clear h
  have HN := Lib.hid hn; clear hn
  have HL := Lib.hid hL; clear hL
  have HW0 : Hid (ManyRel ((w.alloc (.cells #[.int .i64 0, .slice none 0 0] 35)).alloc (.cells #[.int .i64 0, .slice none 0 0] 304)) (w.heap.size + 1) ns (.int .i64 0) ((w.alloc (.cells #[.int .i64 0, .slice none 0 0] 35)).alloc (.cells #[.int .i64 0, .slice none 0 0] 304))) := by
    refine ⟨0, Nat.zero_le _, rfl, ⟨none, 0, ?_, .inl (by rw [List.take_zero]; rfl)⟩, by rw [List.take_zero]; exact Nat.zero_le _, ⟨rfl, rfl, rfl, Nat.le_refl _, fun _ _ _ => rfl⟩⟩
    rw [List.take_zero]
    exact two_new w _ _
  obtain ⟨w2, hw2⟩ : ∃ w2, w2 = (w.alloc (.cells #[.int .i64 0, .slice none 0 0] 35)).alloc (.cells #[.int .i64 0, .slice none 0 0] 304) := ⟨_, rfl⟩
  have HB2 : Hid (w2.heap.size = w.heap.size + 2 ∧ Below w.heap.size w w2 ∧ w2.heap[w.heap.size]? = some (.cells #[.int .i64 0, .slice none 0 0] 35)) := by
    rw [hw2]
    exact ⟨two_size w _ _, up2 w _ _, (Below.heap_alloc _ _ _ (by simp)).trans (World.alloc_heap_new w _)⟩
  have HW2 := Lib.hid hw2; clear hw2
  generalize hQ : (if 8192 < L.length then Gave w [] 8 else Gave w L 0) = Q
  have HQ := Lib.hid hQ; clear hQ
  go_enter Tryz.func243, Tryz.ntmps243
  go_wp2_with fail
  refine HC.out.mono ?_
  rintro e w1 ⟨rfl, rfl⟩
  clear HC
  go_wp2
  rw [← HW2.out] at HW0 ⊢
  clear HW2
  go_loopw [14] (fun p wr => ManyRel w2 (w.heap.size + 1) ns p wr) (fun p _ => n - (intOf p).toNat)
  case atStart => exact HW0.out
  case round =>
    obtain ⟨i, hi, rfl, hu, hul, hg⟩ := hrel
    rw [HN.out] at hi
    obtain ⟨hz2, hb2, hr2⟩ := HB2.out
    have hlow : Below w.heap.size w wr := hb2.trans ⟨hg.os, hg.tape, hg.output, hg.size, fun k hk => hg.block k (by omega) (by simp; omega)⟩
    have hrb : wr.heap[w.heap.size]? = some (.cells #[.int .i64 0, .slice none 0 0] 35) := (hg.block _ (by omega) (by simp)).trans hr2
    have HG := Lib.hid hg; clear hg
    clear hb2 hr2
    have HZ := Lib.hid hz2; clear hz2
    by_cases hlt : i < n
    · have hin : i < ns.length := by rw [HN.out]; exact hlt
      obtain ⟨b, off, rfl, hb, hc⟩ := (HR.out.below hlow (Nat.le_refl _)).at_ (nc_get ns i hin)
      have hsn : ucs (ns.take (i + 1)) = ucs (ns.take i) ++ uc (ns[i]?.getD 0) := by rw [take_snoc ns i hin, ucs_snoc]
      have hle := ucs_take_le ns (i + 1)
      rw [← HL.out, hsn, List.length_append, uc_length] at hle
      generalize ns[i]?.getD 0 = x at *
      by_cases hfit : (ucs (ns.take i)).length + x + 1 ≤ 8192
      · have HA := Lib.hid (uadd_ok wr (w.heap.size + 1) (ucs (ns.take i)) _ x hfit rfl hu)
        have HS := Lib.hid hsn; clear hsn hu
        have hul2 : (ucs (ns.take i)).length + (x + 1) ≤ 8192 := by omega
        have HLow := Lib.hid hlow; clear hlow hrb
        go_wp2_with fail
        refine HA.out.mono ?_
        rintro e w3 ⟨rfl, hu3, hg3⟩
        go_wp2
        go_roundw
        case rel => exact ⟨i + 1, by rw [HN.out]; omega, by go_num, by rw [HS.out]; exact hu3, by rw [HS.out, List.length_append, uc_length]; exact hul2, grown_trans HG.out hg3⟩
        case measure => simp [intOf]; omega
      · have HA := Lib.hid (uadd_full wr (w.heap.size + 1) (ucs (ns.take i)) x hul (by omega) hu)
        have hbig : 8192 < L.length := by omega
        rw [if_pos hbig] at HQ
        clear hsn hu hfit hle hul hbig
        obtain ⟨d0, d1, g0, g1⟩ := blk_cells hrb
        have HLow := Lib.hid hlow; clear hlow hrb
        go_wp2_with fail
        refine HA.out.mono ?_
        rintro e w3 ⟨rfl, rfl⟩
        go_wp2
        refine bodyPost_ret (v := .tuple #[.agg #[.int .i64 0, .slice none 0 0], .int .i64 8]) (by simp [results, Tryz.results243, go_sem, d0, d1]) rfl ?_
        rw [← HQ.out]
        exact gave_zero HLow.out _ (Nat.le_refl _) 8
    · have e : i = n := by omega
      rw [e, List.take_of_length_le (by rw [HN.out]; omega), ← HL.out] at hu hul
      rw [if_neg (by omega)] at HQ
      obtain ⟨A3, c3, ⟨d0, d1⟩, ⟨d2, d3, g0, g1⟩, HF⟩ := ufinish hu (Nat.le_refl _) hrb hlow
      clear hu hul hrb hlow e
      go_wp2
      refine bodyPost_ret (v := .tuple #[.agg #[.int .i64 (L.length : Int), .slice A3 (pack L).length c3], .int .i64 0]) (by simp [results, Tryz.results243, go_sem, d2, d3]) rfl ?_
      rw [← HQ.out]
      exact HF.out

theorem many_any (ns : List Nat) (A : Option Addr) (c : Nat) (hn2 : ns.length ≤ 9223372036854775807) (w : World) (h : RdV w w.heap.size A (nc ns)) :
    Calls Tryz.prog 243 #[.slice A ns.length c] w (Gave w (if manyE ns = 0 then ucs ns else []) (manyE ns)) := by
  cases ha : ns.any (fun n => decide (8192 ≤ n))
  · have h1 := many_in ns _ A ns.length c rfl hn2 w h ha rfl
    by_cases hf : 8192 < (ucs ns).length
    · have e : manyE ns = 8 := by unfold manyE; rw [ha, if_neg (by decide), if_pos hf]
      rw [if_pos hf] at h1
      rw [e, if_neg (by decide)]
      exact h1
    · have e : manyE ns = 0 := by unfold manyE; rw [ha, if_neg (by decide), if_neg hf]
      rw [if_neg hf] at h1
      rw [e, if_pos rfl]
      exact h1
  · have e : manyE ns = 3 := by unfold manyE; rw [ha, if_pos rfl]
    rw [e, if_neg (by decide)]
    exact many_range ns A c hn2 w h ha

/-- Numbers whose codes have room. -/
theorem many_l (ns : List Nat) (L : List Bool) (A : Option Addr) (n c : Nat) (hn : ns.length = n) (hn2 : n ≤ 9223372036854775807) (he : manyE ns = 0) (hL : L = ucs ns) (w : World) (h : RdV w w.heap.size A (nc ns)) :
    Calls Tryz.prog 243 #[.slice A n c] w (Gv w (L.length : Int) (pack L).length (pack L) 0) := by
  subst hn
  have h1 := many_any ns A c hn2 w h
  rw [he, if_pos rfl, ← hL] at h1
  exact h1
theorem many_e (ns : List Nat) (A : Option Addr) (n c : Nat) (hn : ns.length = n) (hn2 : n ≤ 9223372036854775807) (e0 : Int) (he : manyE ns = e0) (h0 : e0 ≠ 0) (w : World) (h : RdV w w.heap.size A (nc ns)) :
    Calls Tryz.prog 243 #[.slice A n c] w (Gv w 0 0 (pack []) e0) := by
  subst hn
  have h1 := many_any ns A c hn2 w h
  rw [he, if_neg h0] at h1
  exact h1

theorem manyE_one (n : Nat) : manyE [n] = if 8192 ≤ n then 3 else 0 := by
  unfold manyE
  by_cases h : 8192 ≤ n
  · rw [if_pos (by simp; exact h), if_pos h]
  · rw [if_neg (by simp; omega), if_neg h, if_neg (by simp [ucs, uc_length]; omega)]
theorem ucs_one (n : Nat) : ucs [n] = uc n := by simp [ucs]

/-- One number, in a slice of its own. -/
theorem rdv_lit1 (w : World) (n : Nat) : RdV (w.alloc (.cells #[.int .u64 (n : Int)] 46)) (w.alloc (.cells #[.int .u64 (n : Int)] 46)).heap.size (some ⟨w.heap.size, 0, none⟩) (nc [n]) := by
  refine .inr ⟨w.heap.size, 0, rfl, by simp, fun i v hi => ?_⟩
  have e := World.alloc_heap_new w (.cells #[.int .u64 (n : Int)] 46)
  rcases Nat.eq_zero_or_pos i with rfl | h
  · simp [nc] at hi
    subst hi
    exact box_cell e
  · rw [List.getElem?_eq_none (by rw [nc_length]; simp; omega)] at hi; cases hi

set_option maxHeartbeats 400000 in
theorem code_any (n : Nat) (L : List Bool) (e0 : Int) (he : e0 = if 8192 ≤ n then 3 else 0) (hL : L = if 8192 ≤ n then [] else uc n) (w : World) :
    Calls Tryz.prog 213 #[.int .u64 (n : Int)] w (Gv w (L.length : Int) (pack L).length (pack L) e0) := by
  have h1 := many_any [n] (some ⟨w.heap.size + 1, 0, none⟩) 1 (by simp) ((w.alloc (.cells #[.int .i64 0, .slice none 0 0] 35)).alloc (.cells #[.int .u64 (n : Int)] 46)) (by
    have := rdv_lit1 (w.alloc (.cells #[.int .i64 0, .slice none 0 0] 35)) n
    simp only [World.size_alloc] at this ⊢
    exact this)
  have e1 : (if manyE [n] = 0 then ucs [n] else []) = L := by
    rw [hL, manyE_one, ucs_one]
    by_cases h : 8192 ≤ n
    · rw [if_pos h, if_pos h, if_neg (by decide)]
    · rw [if_neg h, if_neg h, if_pos rfl]
  rw [e1, manyE_one, ← he] at h1
  have HC := Lib.hid h1; clear h1 he hL e1
  go_enter Tryz.func213, Tryz.ntmps213
  go_wp2_with fail
  refine HC.out.mono ?_
  rintro e w1 ⟨A1, c1, rfl, R1, B1⟩
  have hs := two_size w (.cells #[.int .i64 0, .slice none 0 0] 35) (.cells #[.int .u64 (n : Int)] 46)
  have hs' : ((w.alloc (.cells #[.int .i64 0, .slice none 0 0] 35)).alloc (.cells #[.int .u64 (n : Int)] 46)).heap.size = w.heap.size + 2 := hs
  rw [hs'] at B1
  have hrb : w1.heap[w.heap.size]? = some (.cells #[.int .i64 0, .slice none 0 0] 35 (0, 0)) := (B1.block _ (by omega)).trans ((Below.heap_alloc _ _ _ (by simp)).trans (World.alloc_heap_new w _))
  have hlow : Below w.heap.size w w1 := (up2 w _ _).trans (B1.mono (by omega))
  obtain ⟨d0, d1, g0, g1⟩ := blk_cells hrb
  have HG : Hid (Gv w (L.length : Int) (pack L).length (pack L) e0 (.returned (.tuple #[.agg #[.int .i64 (L.length : Int), .slice A1 (pack L).length c1], .int .i64 e0])) ((w1.setCell ⟨w.heap.size, 0, none⟩ (.int .i64 (L.length : Int))).setCell ⟨w.heap.size, 1, none⟩ (.slice A1 (pack L).length c1))) := by
    refine ⟨A1, c1, rfl, ?_, (hlow.setCell (p := ⟨w.heap.size, 0, none⟩) (Nat.le_refl _) _).setCell (p := ⟨w.heap.size, 1, none⟩) (Nat.le_refl _) _⟩
    have r1 := R1.setK (i := 0) (.int .i64 (L.length : Int)) hrb
    have hr2 : (w1.setCell ⟨w.heap.size, 0, none⟩ (.int .i64 (L.length : Int))).heap[w.heap.size]? = some (.cells #[.int .i64 (L.length : Int), .slice none 0 0] 35 (0, 0)) := by
      rw [heap_set_same _ _ _ _ 35 _ hrb]; simp
    have r2 := r1.setK (i := 1) (.slice A1 (pack L).length c1) hr2
    have e : ((w1.setCell ⟨w.heap.size, 0, none⟩ (.int .i64 (L.length : Int))).setCell ⟨w.heap.size, 1, none⟩ (.slice A1 (pack L).length c1)).heap.size = w1.heap.size := by simp [World.setCell]
    rw [e]
    exact r2
  clear hrb hlow hs hs' R1 B1
  go_wp2
  exact bodyPost_ret (v := .tuple #[.agg #[.int .i64 (L.length : Int), .slice A1 (pack L).length c1], .int .i64 e0]) (by simp [results, Tryz.results213, go_sem, d0, d1]) rfl HG.out
end

section
open Go.RowKit Go.Shelf

attribute [local go_sem] Oper.semAt_some

/-- The positions of the 1 bits, the first bit being at position o. -/
def pos : Nat → List Bool → List Nat
  | _, [] => []
  | o, true :: l => o :: pos (o + 1) l
  | o, false :: l => pos (o + 1) l
theorem pos_snoc (l : List Bool) (b : Bool) : ∀ o, pos o (l ++ [b]) = pos o l ++ (if b = true then [o + l.length] else []) := by
  induction l with
  | nil => intro o; cases b <;> simp [pos]
  | cons x l ih =>
    intro o
    cases x
    · simp only [List.cons_append, pos, ih, List.length_cons]; congr 2; rw [show o + 1 + l.length = o + (l.length + 1) from by omega]
    · simp only [List.cons_append, pos, ih, List.length_cons]; congr 3; rw [show o + 1 + l.length = o + (l.length + 1) from by omega]
theorem pos_length (l : List Bool) : ∀ o, (pos o l).length ≤ l.length := by
  induction l with
  | nil => intro o; simp [pos]
  | cons x l ih => intro o; cases x <;> simp [pos] <;> have := ih (o + 1) <;> omega
theorem pos_bound (l : List Bool) : ∀ o, ∀ x ∈ pos o l, o ≤ x ∧ x < o + l.length := by
  induction l with
  | nil => intro o x hx; simp [pos] at hx
  | cons b l ih =>
    intro o x hx
    cases b
    · have := ih (o + 1) x hx; simp; omega
    · rcases List.mem_cons.1 hx with rfl | h
      · simp
      · have := ih (o + 1) x h; simp; omega

theorem pos_append (a b : List Bool) : ∀ o, pos o (a ++ b) = pos o a ++ pos (o + a.length) b := by
  induction a with
  | nil => intro o; simp [pos]
  | cons x a ih =>
    intro o
    cases x <;> simp [pos, ih, Nat.add_assoc, Nat.add_comm 1]
theorem pos_prefix (o : Nat) (m a b : List Bool) (h : m = a ++ b) : pos o a <+: pos o m := by
  rw [h, pos_append]; exact List.prefix_append _ _

/-- A position that is told to a visitor. -/
def clamp (fr x : Nat) : Nat := max fr (min x 8191)
theorem clamp_of (fr x : Nat) (h : fr ≤ x) (h2 : x < 8192) : clamp fr x = x := by unfold clamp; omega

/-- One bit, as Get tells it. -/
theorem get_bit (l : List Bool) (hl : l.length ≤ 8192) (A : Option Addr) (c i : Nat) (hi : i < l.length) (w : World) (h : Rd w w.heap.size A (pack l)) :
    Calls Tryz.prog 82 #[.agg #[.int .i64 (l.length : Int), .slice A (pack l).length c], .int .i64 (i : Int), .int .i64 1] w fun e w' => e = .returned (.tuple #[.int .u64 ((l[i]?.getD false).toNat : Int), .int .i64 0]) ∧ Below w.heap.size w w' := by
  refine get_l l hl A c i 1 _ (by omega) (by omega) ?_ w h
  rw [List.take_one, List.head?_drop, List.getElem?_eq_getElem hi]
  simp [num]

set_option maxRecDepth 100000 in
set_option maxHeartbeats 1000000 in
theorem ones1_in (n : Nat) (hn : 2 ≤ n) (lp Bf Bb B0 c : Nat) (A : Option Addr) (Q : Nat → Prop) (l : List Bool) (hl : l.length ≤ 8192) (fr : Nat) (hfr : fr ≤ l.length) (J Jx : List Nat → World → Prop)
    (hQb : Q Bb) (hQ : ∀ k, k < B0 → Q k)
    (W : World) (hQW : ∀ k, Q k → k < W.heap.size) (hJa : AbidesFrom W.heap.size J)
    (hY : ∀ pre x W, J pre W → pre.length < l.length - fr → YieldAt Fence.wide (n - 1) Tryz.prog lp #[.int .i64 (clamp fr x : Int)] W fun e W' =>
      (e = .returned (.bool true) ∧ J (pre ++ [x]) W' ∧ (KeepQ Q W W' ∧ W.heap.size ≤ W'.heap.size)) ∨ (e = .returned (.bool false) ∧ Jx (pre ++ [x]) W'))
    (hBf : W.cell? ⟨Bf, 0, none⟩ = some (.int .i64 (fr : Int))) (hBb0 : W.cell? ⟨Bb, 0, none⟩ = some (.int .i64 (l.length : Int))) (hBb : W.cell? ⟨Bb, 1, none⟩ = some (.slice A (pack l).length c))
    (hRd : Rd W B0 A (pack l)) (hB0 : B0 ≤ W.heap.size) (h0 : J [] W) :
    CallsIn Fence.wide n Tryz.prog 264 #[.func (.yield lp) #[] #[], .pointer (some ⟨Bf, 0, none⟩), .pointer (some ⟨Bb, 0, none⟩)] W fun e W' => (∃ v, e = .returned v) ∧
      ((∃ ys, ys = pos fr (l.drop fr) ∧ J ys W') ∨ (∃ pre, pre <+: pos fr (l.drop fr) ∧ Jx pre W')) := by
  refine callsIn_of_wp Tryz.func264 rfl trivial ?_ rfl
  simp only [Tryz.ntmps264, List.size_toArray, List.length_cons, List.length_nil, Nat.reduceAdd, Nat.reduceSub, Array.replicate_succ, Array.replicate_zero, List.push_toArray, List.append_toArray, List.nil_append, List.cons_append]
  gi_wp2
  gi_loopw [4] (fun p wr => ∃ i : Nat, fr ≤ i ∧ i ≤ l.length ∧ p = .int .i64 (i : Int) ∧ KeepQ Q W wr ∧ W.heap.size ≤ wr.heap.size ∧ J (pos fr ((l.drop fr).take (i - fr))) wr)
    (fun p _ => l.length - (intOf p).toNat)
  case atStart =>
    exact ⟨fr, Nat.le_refl _, hfr, rfl, fun _ _ => rfl, Nat.le_refl _, by rw [Nat.sub_self, List.take_zero]; exact h0⟩
  case round =>
    obtain ⟨i, hi1, hi2, rfl, hk, hsz, hJ⟩ := hrel
    have cb0 : wr.cell? ⟨Bb, 0, none⟩ = some (.int .i64 (l.length : Int)) := (World.cell?_of_block (w := W) (a := ⟨Bb, 0, none⟩) (hk Bb hQb)).trans hBb0
    by_cases hlt : i < l.length
    · have cb : wr.cell? ⟨Bb, 1, none⟩ = some (.slice A (pack l).length c) := (World.cell?_of_block (w := W) (a := ⟨Bb, 1, none⟩) (hk Bb hQb)).trans hBb
      have HG := Lib.hid (get_bit l hl A c i hlt wr (hRd.keep (by omega) (fun k hk' => hk k (hQ k hk'))))
      have HT := Lib.hid (take_bits l fr i hlt hi1)
      have hJw := fun W' (hb : Below wr.heap.size wr W') => hJa _ wr W' none hJ (grown_of_below hb none) (fun r e => by cases e)
      have HK := Lib.hid (⟨hk, hsz⟩ : KeepQ Q W wr ∧ W.heap.size ≤ wr.heap.size)
      have HJW := Lib.hid hJw
      clear hk hsz hJw hJ
      cases hx : l[i]?.getD false
      · rw [hx] at HG HT
        clear hx
        gi_wp2_with fail
        refine ⟨trivial, fun _ => by omega, ?_⟩
        refine (callsIn_wide.2 HG.out).mono ?_
        rintro e w1 ⟨rfl, hb1⟩
        have HB1 := Lib.hid hb1; clear hb1
        gi_wp2
        refine ⟨fun _ h => (by cases h), ?_⟩
        gi_wp2
        go_roundw
        case rel =>
          refine ⟨i + 1, by omega, by omega, by go_num, fun k hq => (HB1.out.block k (by have := hQW k hq; have := HK.out.2; omega)).trans (HK.out.1 k hq), Nat.le_trans HK.out.2 HB1.out.size, ?_⟩
          rw [HT.out, pos_snoc, if_neg (by decide), List.append_nil]
          exact HJW.out _ HB1.out
        case measure => simp [intOf]; omega
      · rw [hx] at HG HT
        clear hx
        gi_wp2_with fail
        refine ⟨trivial, fun _ => by omega, ?_⟩
        refine (callsIn_wide.2 HG.out).mono ?_
        rintro e w1 ⟨rfl, hb1⟩
        have hx := clamp_of fr i hi1 (by omega)
        obtain ⟨fn, tmps, assign, body, hy, hR⟩ := hY _ i w1 (HJW.out _ hb1) (by
          have := pos_length ((l.drop fr).take (i - fr)) fr
          rw [List.length_take, List.length_drop] at this
          omega)
        rw [hx] at hy
        clear hx
        have HB1 := Lib.hid hb1; clear hb1
        have HP : Hid (pos fr ((l.drop fr).take (i + 1 - fr)) = pos fr ((l.drop fr).take (i - fr)) ++ [i]) := by
          show _ = _
          rw [HT.out, pos_snoc, if_pos rfl, List.length_take, List.length_drop]
          congr 2
          omega
        gi_wp2
        refine ⟨fun _ => by omega, hR.mono ?_⟩
        rintro e W3 (⟨rfl, hJ3, hk3, hs3⟩ | ⟨rfl, hJx3⟩)
        · gi_wp2
          go_roundw
          case rel =>
            refine ⟨i + 1, by omega, by omega, by go_num, fun k hq => (hk3 k hq).trans ((HB1.out.block k (by have := hQW k hq; have := HK.out.2; omega)).trans (HK.out.1 k hq)), Nat.le_trans HK.out.2 (Nat.le_trans HB1.out.size hs3), ?_⟩
            rw [HP.out]
            exact hJ3
          case measure => simp [intOf]; omega
        · gi_wp2
          refine bodyPost_ret (results_none rfl _ _ _) rfl ?_
          refine ⟨⟨_, rfl⟩, .inr ⟨_, ?_, hJx3⟩⟩
          rw [← HP.out]
          have e2 : l.drop fr = (l.drop fr).take (i + 1 - fr) ++ (l.drop fr).drop (i + 1 - fr) := (List.take_append_drop _ _).symm
          exact pos_prefix fr _ _ _ e2
    · have e : i = l.length := by omega
      have HJ : Hid (J (pos fr (l.drop fr)) wr) := by
        rw [e, List.take_of_length_le (by rw [List.length_drop]; omega)] at hJ
        exact hJ
      clear e hJ
      gi_wp2
      go_end0
      exact ⟨⟨_, rfl⟩, .inl ⟨_, rfl, HJ.out⟩⟩

/-- What a visit of the 1 bits wants kept. -/
def KeepS (Q : Nat → Prop) (W W' : World) : Prop := KeepQ Q W W' ∧ W.heap.size ≤ W'.heap.size
theorem keepS_t {Q : Nat → Prop} {A B C : World} (h : KeepS Q A B) (k : KeepS Q B C) : KeepS Q A C := ⟨keepQ_t h.1 k.1, Nat.le_trans h.2 k.2⟩
theorem keepS_b {Q : Nat → Prop} {w : World} (hn : ∀ k, Q k → k < w.heap.size) (W : World) (l : Nat) (o o' : Obj) (hl : w.heap.size ≤ l) (h : W.heap[l]? = some o) (h1 : o.isCells = false) (h2 : o.isWalk = false) : KeepS Q W (W.putObj l o') :=
  ⟨keepQ_b hn W l o o' hl h h1 h2, by simp⟩

/-- The visit, as a contract. -/
theorem ones_stops (n : Nat) (hn : 2 ≤ n) (Bf Bb B0 c : Nat) (A : Option Addr) (Q : Nat → Prop) (l : List Bool) (hl : l.length ≤ 8192) (fr : Nat) (hfr : fr ≤ l.length)
    (hQb : Q Bb) (hQ : ∀ k, k < B0 → Q k) (w : World) (hQw : ∀ k, Q k → k < w.heap.size) (hB0 : B0 ≤ w.heap.size) (kf : Bf < w.heap.size)
    (hBf : w.cell? ⟨Bf, 0, none⟩ = some (.int .i64 (fr : Int))) (hBb0 : w.cell? ⟨Bb, 0, none⟩ = some (.int .i64 (l.length : Int))) (hBb : w.cell? ⟨Bb, 1, none⟩ = some (.slice A (pack l).length c)) (hRd : Rd w B0 A (pack l)) :
    SeqStopsK Fence.wide n Tryz.prog 264 #[.pointer (some ⟨Bf, 0, none⟩), .pointer (some ⟨Bb, 0, none⟩)] (fun x : Nat => #[Value.int .i64 (clamp fr x : Int)]) (KeepS Q) (fun ys => ys = pos fr (l.drop fr)) (fun pre => pre <+: pos fr (l.drop fr)) (l.length - fr) w :=
  fun lp J Jx W hW hJ _ hY h0 =>
    ones1_in n hn lp Bf Bb B0 c A Q l hl fr hfr J Jx hQb hQ W (fun k hk => Nat.lt_of_lt_of_le (hQw k hk) hW.size) hJ hY ((hW.cell (p := ⟨Bf, 0, none⟩) kf).trans hBf) ((hW.cell (p := ⟨Bb, 0, none⟩) (hQw Bb hQb)).trans hBb0) ((hW.cell (p := ⟨Bb, 1, none⟩) (hQw Bb hQb)).trans hBb) (hRd.below (hW.mono hB0) (Nat.le_refl _)) (Nat.le_trans hB0 hW.size) h0

set_option maxHeartbeats 1000000 in
/-- The maker of the visit. -/
theorem ones_in (n : Nat) (fr : Int) (len : Int) (A : Option Addr) (m c : Nat) (w : World) :
    CallsIn Fence.wide n Tryz.prog 249 #[.agg #[.int .i64 len, .slice A m c], .int .i64 fr] w fun e w' => e = .returned (.func (.func 264) #[] #[.pointer (some ⟨w.heap.size + 1, 0, none⟩), .pointer (some ⟨w.heap.size, 0, none⟩)]) ∧
      w' = (w.alloc (.cells #[.int .i64 len, .slice A m c] 35)).alloc (.cells #[.int .i64 fr] 3) := by
  refine callsIn_of_wp Tryz.func249 rfl trivial ?_ rfl
  simp only [Tryz.ntmps249, List.size_toArray, List.length_cons, List.length_nil, Nat.reduceAdd, Nat.reduceSub, Array.replicate_succ, Array.replicate_zero, List.push_toArray, List.append_toArray, List.nil_append, List.cons_append]
  gi_wp2
  go_ret
  exact ⟨rfl, rfl⟩
end

section
open Go.RowKit Go.Shelf

attribute [local go_sem] Oper.semAt_some

/-- A number, a position and an error come back. -/
def ReadP (w : World) (n to : Nat) (err : Int) (e : Ending) (w' : World) : Prop := e = .returned (.tuple #[.int .u64 (n : Int), .int .i64 (to : Int), .int .i64 err]) ∧ Below w.heap.size w w'

/-- The five blocks that Read begins with. -/
def r5 (w : World) (len : Int) (A : Option Addr) (n c : Nat) (p : Int) : World := ((((w.alloc (.cells #[.int .i64 len, .slice A n c] 35)).alloc (.cells #[.int .i64 p] 3)).alloc (.cells #[.int .u64 0] 46)).alloc (.cells #[.int .i64 0] 3)).alloc (.cells #[.int .i64 0] 23)
theorem r5_facts (w : World) (len : Int) (A : Option Addr) (n c : Nat) (p : Int) : (r5 w len A n c p).heap.size = w.heap.size + 5 ∧ Below w.heap.size w (r5 w len A n c p) ∧
    (r5 w len A n c p).heap[w.heap.size + 1]? = some (.cells #[.int .i64 p] 3) ∧ (r5 w len A n c p).heap[w.heap.size + 2]? = some (.cells #[.int .u64 0] 46) ∧ (r5 w len A n c p).heap[w.heap.size + 3]? = some (.cells #[.int .i64 0] 3) ∧ (r5 w len A n c p).heap[w.heap.size + 4]? = some (.cells #[.int .i64 0] 23) := by
  unfold r5
  obtain ⟨h0, _, h2, h3, h4⟩ := five w (.cells #[.int .i64 len, .slice A n c] 35) (.cells #[.int .i64 p] 3) (.cells #[.int .u64 0] 46) (.cells #[.int .i64 0] 3) (.cells #[.int .i64 0] 23)
  refine ⟨h0, ((up2 w _ _).alloc (by simp only [World.size_alloc]; omega) _).alloc (by simp only [World.size_alloc]; omega) _ |>.alloc (by simp only [World.size_alloc]; omega) _, ?_, h2, h3, h4⟩
  have n1 := World.alloc_heap_new (w.alloc (.cells #[.int .i64 len, .slice A n c] 35)) (.cells #[.int .i64 p] 3)
  simp only [World.size_alloc] at n1
  rw [Below.heap_alloc _ _ _ (by simp only [World.size_alloc]; omega), Below.heap_alloc _ _ _ (by simp only [World.size_alloc]; omega), Below.heap_alloc _ _ _ (by simp only [World.size_alloc]; omega)]
  exact n1

theorem check_r5 (len : Int) (A : Option Addr) (c : Nat) (bs : List Nat) (p : Int) (w : World) (hb : ∀ b ∈ bs, b < 256) (h : Rd w w.heap.size A bs) :
    Calls Tryz.prog 59 #[.agg #[.int .i64 len, .slice A bs.length c]] (r5 w len A bs.length c p) fun e w' => e = .returned (.int .i64 (chk len bs)) ∧ Below (w.heap.size + 5) (r5 w len A bs.length c p) w' := by
  obtain ⟨hz, hl, _⟩ := r5_facts w len A bs.length c p
  have := check_any len A c bs (r5 w len A bs.length c p) hb (h.below hl hl.size)
  rwa [hz] at this

theorem read_zero {w w1 : World} (hq : Below w.heap.size w w1) (err : Int) (v : Value) (hv : v = .tuple #[.int .u64 0, .int .i64 0, .int .i64 err]) :
    ReadP w 0 0 err (.returned v) (((w1.setCell ⟨w.heap.size + 1 + 1, 0, none⟩ (.int .u64 0)).setCell ⟨w.heap.size + 1 + 1 + 1, 0, none⟩ (.int .i64 0)).setCell ⟨w.heap.size + 1 + 1 + 1 + 1, 0, none⟩ (.int .i64 err)) :=
  ⟨by rw [hv]; rfl, ((hq.setCell (p := ⟨w.heap.size + 1 + 1, 0, none⟩) (by simp only; omega) _).setCell (p := ⟨w.heap.size + 1 + 1 + 1, 0, none⟩) (by simp only; omega) _).setCell (p := ⟨w.heap.size + 1 + 1 + 1 + 1, 0, none⟩) (by simp only; omega) _⟩

set_option maxHeartbeats 400000 in
theorem read_bad (len : Int) (A : Option Addr) (c : Nat) (bs : List Nat) (p : Int) (w : World) (hb : ∀ b ∈ bs, b < 256) (h : Rd w w.heap.size A bs) (hc : chk len bs ≠ 0) :
    Calls Tryz.prog 224 #[.agg #[.int .i64 len, .slice A bs.length c], .int .i64 p] w (ReadP w 0 0 (chk len bs)) := by
  have HC := Lib.hid (check_r5 len A c bs p w hb h)
  have HF := Lib.hid (r5_facts w len A bs.length c p)
  have hcb : (chk len bs != 0) = true := by simpa using hc
  clear hc hb h
  generalize chk len bs = e0 at *
  generalize bs.length = nn at *
  go_enter Tryz.func224, Tryz.ntmps224
  go_wp2_with (go_at_call 59; refine HC.out.mono ?_; rintro e w1 ⟨rfl, hq⟩; unfold r5 at hq; obtain ⟨hc1, hf1⟩ := old_cells hq)
  exact bodyPost_ret (v := .tuple #[.int .u64 0, .int .i64 0, .int .i64 e0]) (by simp [results, Tryz.results224, go_sem, hc1]) rfl (read_zero (HF.out.2.1.trans (hq.mono (by omega))) e0 _ rfl)

set_option maxHeartbeats 400000 in
theorem read_range (l : List Bool) (hl : l.length ≤ 8192) (A : Option Addr) (c : Nat) (p : Int) (w : World) (h : Rd w w.heap.size A (pack l)) (hp : p < 0 ∨ (l.length : Int) < p) :
    Calls Tryz.prog 224 #[.agg #[.int .i64 (l.length : Int), .slice A (pack l).length c], .int .i64 p] w (ReadP w 0 0 3) := by
  have hc0 := check_r5 (l.length : Int) A c (pack l) p w (pack_lt l) h
  rw [chk_pack l hl] at hc0
  have HC := Lib.hid hc0; clear hc0 h
  have HF := Lib.hid (r5_facts w (l.length : Int) A (pack l).length c p)
  generalize (pack l).length = nn at *
  generalize l.length = ln at *
  have hp2 : p < 0 ∨ (0 ≤ p ∧ (ln : Int) < p) := by omega
  clear hp
  rcases hp2 with hp | ⟨hp0, hp⟩
  · have t1 : decide (p < 0) = true := by simp; omega
    go_enter Tryz.func224, Tryz.ntmps224
    go_wp2_with (go_at_call 59; refine HC.out.mono ?_; rintro e w1 ⟨rfl, hq⟩; unfold r5 at hq; obtain ⟨hc1, hf1⟩ := old_cells hq)
    exact bodyPost_ret (v := .tuple #[.int .u64 0, .int .i64 0, .int .i64 3]) (by simp [results, Tryz.results224, go_sem, hc1]) rfl (read_zero (HF.out.2.1.trans (hq.mono (by omega))) 3 _ rfl)
  · have t1 : decide (p < 0) = false := by simp; omega
    have t2 : decide ((ln : Int) < p) = true := by simp; omega
    go_enter Tryz.func224, Tryz.ntmps224
    go_wp2_with (go_at_call 59; refine HC.out.mono ?_; rintro e w1 ⟨rfl, hq⟩; unfold r5 at hq; obtain ⟨hc1, hf1⟩ := old_cells hq)
    exact bodyPost_ret (v := .tuple #[.int .u64 0, .int .i64 0, .int .i64 3]) (by simp [results, Tryz.results224, go_sem, hc1]) rfl (read_zero (HF.out.2.1.trans (hq.mono (by omega))) 3 _ rfl)

/-- The blocks that Read's visit keeps: s: the heap's size where Read began; N: where the visit began. -/
def rkept (s N : Nat) (k : Nat) : Prop := k < s + 2 ∨ k = N ∨ k = N + 1

set_option maxRecDepth 100000 in
set_option maxHeartbeats 2000000 in
theorem read_in (l : List Bool) (hl : l.length ≤ 8192) (A : Option Addr) (c : Nat) (p : Nat) (w : World) (h : Rd w w.heap.size A (pack l)) (hp : p ≤ l.length) (rn rt : Nat) (re : Int)
    (hr : (pos p (l.drop p) = [] ∧ rn = 0 ∧ rt = 0 ∧ re = 7) ∨ (∃ x xs, pos p (l.drop p) = x :: xs ∧ rn = x - p ∧ rt = x + 1 ∧ re = 0)) :
    Calls Tryz.prog 224 #[.agg #[.int .i64 (l.length : Int), .slice A (pack l).length c], .int .i64 (p : Int)] w (ReadP w rn rt re) := by
  have hc0 := check_r5 (l.length : Int) A c (pack l) (p : Int) w (pack_lt l) h
  rw [chk_pack l hl] at hc0
  have HC := Lib.hid hc0; clear hc0
  have HF := Lib.hid (r5_facts w (l.length : Int) A (pack l).length c (p : Int))
  have HR := Lib.hid h; clear h
  have HP := Lib.hid hr; clear hr
  have t1 : decide ((p : Int) < 0) = false := by simp
  have t2 : decide ((l.length : Int) < (p : Int)) = false := by simp; omega
  refine (callsIn_wide (n := 4)).1 ?_
  refine callsIn_of_wp_marks Tryz.func224 rfl trivial ?_ rfl
  simp only [Tryz.ntmps224, List.size_toArray, List.length_cons, List.length_nil, Nat.reduceAdd, Nat.reduceSub, Array.replicate_succ, Array.replicate_zero, List.push_toArray, List.append_toArray, List.nil_append, List.cons_append]
  gi_wp2_with (first | (refine ⟨trivial, ?_⟩; gi_at_call 249; refine (ones_in 3 _ _ _ _ _ _).mono ?_; rintro e w' ⟨rfl, rfl⟩) | (refine ⟨trivial, ?_⟩; gi_at_call 59; refine (callsIn_wide.2 HC.out).mono ?_; rintro e w1 ⟨rfl, hq⟩; unfold r5 at hq; obtain ⟨hc1, hf1⟩ := old_cells hq; have hs1 : w.heap.size + 5 ≤ w1.heap.size := (by have := hq.size; rw [show (((((w.alloc _).alloc _).alloc _).alloc _).alloc _).heap.size = w.heap.size + 5 from (r5_facts w (l.length : Int) A (pack l).length c (p : Int)).1] at this; exact this); have hs2 : w.heap.size + 1 < w1.heap.size := (by omega)))
  simp only [Nat.add_assoc, Nat.reduceAdd]
  obtain ⟨hz0, hl0, k1, k2, k3, k4⟩ := HF.out
  have hw0 : Below w.heap.size w w1 := hl0.trans (hq.mono (by omega))
  have b1 := (hq.block (w.heap.size + 1) (by omega)).trans k1
  have b2 := (hq.block (w.heap.size + 2) (by omega)).trans k2
  have b3 := (hq.block (w.heap.size + 3) (by omega)).trans k3
  have b4 := (hq.block (w.heap.size + 4) (by omega)).trans k4
  clear hz0 hl0 k1 k2 k3 k4 hc1 hf1 HF hq
  have hnew0 := World.alloc_heap_new w1 (.cells #[.int .i64 (l.length : Int), .slice A (pack l).length c] 35)
  have hnew1 := World.alloc_heap_new (w1.alloc (.cells #[.int .i64 (l.length : Int), .slice A (pack l).length c] 35)) (.cells #[.int .i64 (p : Int)] 3)
  rw [World.size_alloc] at hnew1
  have hnew0 := (Below.heap_alloc (w1.alloc (.cells #[.int .i64 (l.length : Int), .slice A (pack l).length c] 35)) (.cells #[.int .i64 (p : Int)] 3) w1.heap.size (by simp)).trans hnew0
  have hup := up2 w1 (.cells #[.int .i64 (l.length : Int), .slice A (pack l).length c] 35) (.cells #[.int .i64 (p : Int)] 3)
  have hz : ((w1.alloc (.cells #[.int .i64 (l.length : Int), .slice A (pack l).length c] 35)).alloc (.cells #[.int .i64 (p : Int)] 3)).heap.size = w1.heap.size + 2 := two_size w1 _ _
  generalize (w1.alloc (.cells #[.int .i64 (l.length : Int), .slice A (pack l).length c] 35)).alloc (.cells #[.int .i64 (p : Int)] 3) = w5 at *
  replace b1 := (hup.block _ (by omega)).trans b1
  replace b2 := (hup.block _ (by omega)).trans b2
  replace b3 := (hup.block _ (by omega)).trans b3
  replace b4 := (hup.block _ (by omega)).trans b4
  have hlow : Below w.heap.size w w5 := hw0.trans (hup.mono (by omega))
  clear hup hw0
  have hvis : ∀ k, rkept w.heap.size w1.heap.size k → k < w5.heap.size := by rintro k (h | h | h) <;> omega
  refine wpIn_rangeFunc_ownG rfl (by decide) (gf := 264) (lb := #[.pointer (some ⟨w1.heap.size + 1, 0, none⟩), .pointer (some ⟨w1.heap.size, 0, none⟩)]) rfl trivial (enters_of Tryz.func264 (by kernel_rfl) rfl)
    (ones_stops 3 (by decide) (w1.heap.size + 1) w1.heap.size w.heap.size c A (rkept w.heap.size w1.heap.size) l hl p hp (.inr (.inl rfl)) (fun k hk => .inl (by omega)) w5 hvis (by omega) (by omega)
      (box_cell hnew1) (blk_cells hnew0).1 (blk_cells hnew0).2.1 (HR.out.below hlow (Nat.le_refl _)))
    (fun h k => keepS_t h k) (keepS_b hvis) (Below.refl _ _) (fun _ => rfl)
    (fun pre X => (pre = [] ∧ Boxed X (w.heap.size + 2) 46 (.int .u64 0) ∧ Boxed X (w.heap.size + 3) 3 (.int .i64 0) ∧ Boxed X (w.heap.size + 4) 23 (.int .i64 0)) ∧ (Fr (rkept w.heap.size w1.heap.size) w5 X ∧ w5.heap.size ≤ X.heap.size))
    (fun cd pre X => (cd = .ret ∧ ∃ x, pre = [x] ∧ Boxed X (w.heap.size + 2) 46 (.int .u64 ((clamp p x - p : Nat) : Int)) ∧ Boxed X (w.heap.size + 3) 3 (.int .i64 ((clamp p x + 1 : Nat) : Int)) ∧ Boxed X (w.heap.size + 4) 23 (.int .i64 0)) ∧ (Fr (rkept w.heap.size w1.heap.size) w5 X ∧ w5.heap.size ≤ X.heap.size))
    (OwnFrom.and (Own.from (fun s X Y row hs hg hr => ⟨hs.1, box_own _ 46 (fun _ : Unit => .int .u64 0) () X Y row hs.2.1 hg hr, box_own _ 3 (fun _ : Unit => .int .i64 0) () X Y row hs.2.2.1 hg hr, box_own _ 23 (fun _ : Unit => .int .i64 0) () X Y row hs.2.2.2 hg hr⟩) _) (fr_own _ w5 w5.heap.size (Nat.le_refl _) hvis))
    (fun cd => OwnFrom.and (Own.from (fun s X Y row hs hg hr => by
      obtain ⟨h1, x, h2, h3, h4, h5⟩ := hs
      exact ⟨h1, x, h2, box_own _ 46 (fun _ : Unit => _) () X Y row h3 hg hr, box_own _ 3 (fun _ : Unit => _) () X Y row h4 hg hr, box_own _ 23 (fun _ : Unit => _) () X Y row h5 hg hr⟩) _) (fr_own _ w5 w5.heap.size (Nat.le_refl _) hvis))
    ⟨⟨rfl, b2, b3, b4⟩, Fr.refl _ _, Nat.le_refl _⟩
    ?a1 ?assign ?body ?done ?stop
  case assign =>
    intro lp x X K hK
    gi_wp2
    exact hK
  case body =>
    rintro lp pre x X ⟨⟨rfl, h2, h3, h4⟩, hfr, hzz⟩ hlt
    have ca : X.cell? ⟨w.heap.size + 1, 0, none⟩ = some (.int .i64 (p : Int)) := box_cell ((hfr.block _ (.inl (by omega))).trans b1)
    have c2 := h2.cell
    have c3 := h3.cell
    have c4 := h4.cell
    have f2 := h2.frozen
    have f3 := h3.frozen
    have f4 := h4.frozen
    have hcl : p ≤ clamp p x ∧ clamp p x ≤ 8192 := by unfold clamp; omega
    obtain ⟨q1, q2⟩ := hcl
    generalize hcx : clamp p x = cx at *
    have HCX := Lib.hid hcx; clear hcx
    gi_wp2
    rw [show ((cx : Int) - (p : Int)) = ((cx - p : Nat) : Int) from by omega, show (cx : Int) + 1 = ((cx + 1 : Nat) : Int) from by omega]
    have n2 : ¬ rkept w.heap.size w1.heap.size (w.heap.size + 2) := by rintro (h | h | h) <;> omega
    have n3 : ¬ rkept w.heap.size w1.heap.size (w.heap.size + 3) := by rintro (h | h | h) <;> omega
    have n4 : ¬ rkept w.heap.size w1.heap.size (w.heap.size + 4) := by rintro (h | h | h) <;> omega
    have hfr2 := ((hfr.setCell (p := ⟨w.heap.size + 2, 0, none⟩) n2 (.int .u64 ((cx - p : Nat) : Int))).setCell (p := ⟨w.heap.size + 3, 0, none⟩) n3 (.int .i64 ((cx + 1 : Nat) : Int))).setCell (p := ⟨w.heap.size + 4, 0, none⟩) n4 (.int .i64 0)
    have g2 := (((h2.set (.int .u64 ((cx - p : Nat) : Int))).kept (grownBy_setCell' _ (w.heap.size + 3) (.int .i64 ((cx + 1 : Nat) : Int))) (by simp)).kept (grownBy_setCell' _ (w.heap.size + 4) (.int .i64 0)) (by simp))
    have g3 := (((h3.kept (grownBy_setCell' _ (w.heap.size + 2) (.int .u64 ((cx - p : Nat) : Int))) (by simp)).set (.int .i64 ((cx + 1 : Nat) : Int))).kept (grownBy_setCell' _ (w.heap.size + 4) (.int .i64 0)) (by simp))
    have g4 := (((h4.kept (grownBy_setCell' _ (w.heap.size + 2) (.int .u64 ((cx - p : Nat) : Int))) (by simp)).kept (grownBy_setCell' _ (w.heap.size + 3) (.int .i64 ((cx + 1 : Nat) : Int))) (by simp)).set (.int .i64 0))
    refine ⟨(((KeepsOthers.setCell _ _ _).trans (KeepsOthers.setCell _ _ _)).trans (KeepsOthers.setCell _ _ _)).from _, ⟨rfl, x, rfl, ?_, ?_, g4⟩, hfr2, by simpa [World.setCell] using hzz⟩
    · rw [HCX.out]; exact g2
    · rw [HCX.out]; exact g3
  case done =>
    rintro D ys X hD rfl ⟨⟨he, h2, h3, h4⟩, hfr, hzz⟩ hK
    obtain ⟨rfl, rfl, rfl⟩ : rn = 0 ∧ rt = 0 ∧ re = 7 := by
      rcases HP.out with ⟨_, h⟩ | ⟨x, xs, h, _⟩
      · exact h
      · rw [he] at h; cases h
    have c2 := h2.cell
    have c3 := h3.cell
    have c4 := h4.cell
    have f2 := h2.frozen
    have f3 := h3.frozen
    have f4 := h4.frozen
    have HL : Hid (Below w.heap.size w X) := hlow.trans (hfr.below (fun j hj => .inl (by omega)))
    clear he
    gi_wp2
    have hK' := (((KeepsOthers.setCell X ⟨w.heap.size + 2, 0, none⟩ (.int .u64 0)).trans (KeepsOthers.setCell _ ⟨w.heap.size + 3, 0, none⟩ (.int .i64 0))).trans (KeepsOthers.setCell _ ⟨w.heap.size + 4, 0, none⟩ (.int .i64 7))).same D _ hK rfl
    refine ⟨by simp, .inl ⟨_, _, rfl, run_takeDeferred hK', ?_⟩⟩
    have g2 := ((((h2.set (.int .u64 0)).kept (grownBy_setCell' _ (w.heap.size + 3) (.int .i64 0)) (by simp)).kept (grownBy_setCell' _ (w.heap.size + 4) (.int .i64 7)) (by simp)).kept (grownBy_putObj' _ D (.deferred none)) (by simp; omega)).cell
    have g3 := ((((h3.kept (grownBy_setCell' _ (w.heap.size + 2) (.int .u64 0)) (by simp)).set (.int .i64 0)).kept (grownBy_setCell' _ (w.heap.size + 4) (.int .i64 7)) (by simp)).kept (grownBy_putObj' _ D (.deferred none)) (by simp; omega)).cell
    have g4 := ((((h4.kept (grownBy_setCell' _ (w.heap.size + 2) (.int .u64 0)) (by simp)).kept (grownBy_setCell' _ (w.heap.size + 3) (.int .i64 0)) (by simp)).set (.int .i64 7)).kept (grownBy_putObj' _ D (.deferred none)) (by simp; omega)).cell
    refine ⟨.tuple #[.int .u64 0, .int .i64 0, .int .i64 7], ?_, rfl, (((HL.out.setCell (p := ⟨w.heap.size + 2, 0, none⟩) (by simp only; omega) _).setCell (p := ⟨w.heap.size + 3, 0, none⟩) (by simp only; omega) _).setCell (p := ⟨w.heap.size + 4, 0, none⟩) (by simp only; omega) _).trans (belowK_b (w := w) (Nat.le_refl _) _ D _ _ (by omega) hK' rfl rfl)⟩
    simp [results, Tryz.results224, go_sem, g2, g3, g4]
  case stop =>
    rintro D cd pre X hD hpre ⟨⟨rfl, x, rfl, h2, h3, h4⟩, hfr, hzz⟩ hK
    obtain ⟨rfl, rfl, rfl⟩ : rn = clamp p x - p ∧ rt = clamp p x + 1 ∧ re = 0 := by
      rcases HP.out with ⟨h, _⟩ | ⟨y, ys, h, h2, h3, h4⟩
      · rw [h] at hpre; simp at hpre
      · rw [h] at hpre
        obtain rfl : x = y := by simpa using hpre
        have hb := pos_bound (l.drop p) p x (by rw [h]; simp)
        rw [List.length_drop] at hb
        rw [clamp_of p x hb.1 (by omega)]
        exact ⟨h2, h3, h4⟩
    have HL : Hid (Below w.heap.size w X) := hlow.trans (hfr.below (fun j hj => .inl (by omega)))
    gi_wp2
    refine ⟨by simp, .inl ⟨_, _, rfl, run_takeDeferred hK, ?_⟩⟩
    have g2 := (h2.kept (grownBy_putObj' _ D (.deferred none)) (by simp; omega)).cell
    have g3 := (h3.kept (grownBy_putObj' _ D (.deferred none)) (by simp; omega)).cell
    have g4 := (h4.kept (grownBy_putObj' _ D (.deferred none)) (by simp; omega)).cell
    refine ⟨.tuple #[.int .u64 ((clamp p x - p : Nat) : Int), .int .i64 ((clamp p x + 1 : Nat) : Int), .int .i64 0], ?_, rfl, HL.out.trans (belowK_b (w := w) (Nat.le_refl _) _ D _ _ (by omega) hK rfl rfl)⟩
    generalize clamp p x = cx at *
    simp [results, Tryz.results224, go_sem, g2, g3, g4]
end

section
open Go.RowKit Go.Shelf

attribute [local go_sem] Oper.semAt_some

/-- How far it is from the position after the last code to a 1 bit, as a number of 64 bits. -/
def gap (a x : Nat) : Nat := if a ≤ x then x - a else 18446744073709551616 - (a - x)
/-- The position after the last one. -/
def aft (pre : List Nat) : Nat := match pre.getLast? with | none => 0 | some x => clamp 0 x + 1
def gaps : Nat → List Nat → List Nat
  | _, [] => []
  | a, x :: xs => gap a (clamp 0 x) :: gaps (clamp 0 x + 1) xs
theorem gaps_length : ∀ (xs : List Nat) (a : Nat), (gaps a xs).length = xs.length
  | [], _ => rfl
  | x :: xs, a => by simp [gaps, gaps_length xs]
theorem aft_snoc (pre : List Nat) (x : Nat) : aft (pre ++ [x]) = clamp 0 x + 1 := by simp [aft]
theorem gaps_snoc (xs : List Nat) (x : Nat) : ∀ a, gaps a (xs ++ [x]) = gaps a xs ++ [gap (match xs.getLast? with | none => a | some y => clamp 0 y + 1) (clamp 0 x)] := by
  induction xs with
  | nil => intro a; simp [gaps]
  | cons y ys ih =>
    intro a
    simp only [List.cons_append, gaps, ih]
    congr 3
    cases ys with
    | nil => simp
    | cons z zs =>
      rw [List.getLast?_cons_cons]
      cases hq : (z :: zs).getLast? with
      | none => simp at hq
      | some q => rfl
theorem gaps_snoc0 (xs : List Nat) (x : Nat) : gaps 0 (xs ++ [x]) = gaps 0 xs ++ [gap (aft xs) (clamp 0 x)] := by rw [gaps_snoc]; rfl
theorem aft_le (xs : List Nat) : aft xs ≤ 8192 := by
  unfold aft
  split
  · omega
  · unfold clamp; omega
theorem clamp0_le (x : Nat) : clamp 0 x ≤ 8191 := by unfold clamp; omega

/-- Numbers, a position and an error come back. -/
def AllP (w : World) (ns : List Nat) (to : Nat) (err : Int) (e : Ending) (w' : World) : Prop :=
  ∃ A c, e = .returned (.tuple #[.slice A ns.length c, .int .i64 (to : Int), .int .i64 err]) ∧ RdV w' w'.heap.size A (nc ns) ∧ Below w.heap.size w w'

theorem check_two (len : Int) (A : Option Addr) (c : Nat) (bs : List Nat) (p : Int) (w : World) (hb : ∀ b ∈ bs, b < 256) (h : Rd w w.heap.size A bs) :
    Calls Tryz.prog 59 #[.agg #[.int .i64 len, .slice A bs.length c]] ((w.alloc (.cells #[.int .i64 len, .slice A bs.length c] 35)).alloc (.cells #[.int .i64 p] 3)) fun e w' => e = .returned (.int .i64 (chk len bs)) ∧ Below (w.heap.size + 2) ((w.alloc (.cells #[.int .i64 len, .slice A bs.length c] 35)).alloc (.cells #[.int .i64 p] 3)) w' := by
  have hu := up2 w (.cells #[.int .i64 len, .slice A bs.length c] 35) (.cells #[.int .i64 p] 3)
  have hz : ((w.alloc (.cells #[.int .i64 len, .slice A bs.length c] 35)).alloc (.cells #[.int .i64 p] 3)).heap.size = w.heap.size + 2 := two_size w _ _
  have := check_any len A c bs _ hb (h.below hu hu.size)
  rwa [hz] at this

/-- The blocks that All's visit keeps: s: the heap's size where All began; N: where it laid its own boxes. -/
def akept (N : Nat) (k : Nat) : Prop := k < N ∨ k = N + 2 ∨ k = N + 3

/-- The list so far, in its box. -/
def ARow (X : World) (N : Nat) (pre : List Nat) : Prop :=
  ∃ v, Boxed X N 164 v ∧ X.ownsRow N 46 1 v pre.length (nc (gaps 0 pre))
theorem aRow_own (N : Nat) : Own (fun (pre : List Nat) X => ARow X N pre) := by
  rintro pre X Y row ⟨v, hb, ho⟩ hg hr
  refine ⟨v, box_own N 164 (fun _ : Unit => v) () X Y row hb hg hr, ho.kept hg ?_⟩
  rcases ho.2 with ⟨rfl, _⟩ | ⟨g, cap, cur, rfl, _, hgb, _⟩
  · exact .inl rfl
  · refine .inr fun e' => ?_
    obtain ⟨o, h1, h2⟩ := hr g (by simpa [Value.ownBlock] using e'.symm)
    rw [hgb] at h1; cases h1; cases h2

theorem gap_wrap (pa cx : Nat) (h1 : pa ≤ 8192) (h2 : cx ≤ 8191) : ∃ g : Nat, IntKind.u64.wrap ((cx : Int) - (pa : Int)) = (g : Int) ∧ gap pa cx = g := by
  refine ⟨gap pa cx, ?_, rfl⟩
  rw [IntKind.wrap_u64]
  unfold gap
  split <;> omega

/-- One number more: behind the append, and behind the two stores. -/
theorem all_step {X w3 w5 : World} {N k g' cap' cx : Nat} {Av : Option Addr} {cv : Nat} {xs ys : List Value} {tmp : Obj} {b0 : Int}
    (hbv : Boxed X N 164 (.slice Av k cv)) (hba : Boxed X (N + 1) 3 (.int .i64 b0)) (hrow : X.ownsRow N 46 1 (.slice Av k cv) k xs)
    (hgrow : (X.alloc tmp).grownBy w3 (Value.slice Av k cv).ownBlock) (hown' : w3.ownsRow N 46 1 (.slice (some ⟨g', 0, none⟩) (k + 1) cap') (k + 1) ys)
    (h2 : ∃ cs, w5.heap[N + 2]? = some (.cells cs 35 (0, 0))) (h3 : ∃ cs, w5.heap[N + 3]? = some (.cells cs 3 (0, 0)))
    (hfr : Fr (akept N) w5 X) (hXs : N ≤ X.heap.size) (hz : N + 4 ≤ w5.heap.size) (hzz : w5.heap.size ≤ X.heap.size) :
    w3.cell? ⟨N, 0, none⟩ = some (.slice Av k cv) ∧ w3.frozen? ⟨N, 0, none⟩ = false ∧ w3.cell? ⟨N + 1, 0, none⟩ = some (.int .i64 b0) ∧ w3.frozen? ⟨N + 1, 0, none⟩ = false ∧
    Hid (Boxed ((w3.setCell ⟨N, 0, none⟩ (.slice (some ⟨g', 0, none⟩) (k + 1) cap')).setCell ⟨N + 1, 0, none⟩ (.int .i64 ((cx : Int) + 1))) N 164 (.slice (some ⟨g', 0, none⟩) (k + 1) cap') ∧
      ((w3.setCell ⟨N, 0, none⟩ (.slice (some ⟨g', 0, none⟩) (k + 1) cap')).setCell ⟨N + 1, 0, none⟩ (.int .i64 ((cx : Int) + 1))).ownsRow N 46 1 (.slice (some ⟨g', 0, none⟩) (k + 1) cap') (k + 1) ys ∧
      Boxed ((w3.setCell ⟨N, 0, none⟩ (.slice (some ⟨g', 0, none⟩) (k + 1) cap')).setCell ⟨N + 1, 0, none⟩ (.int .i64 ((cx : Int) + 1))) (N + 1) 3 (.int .i64 ((cx : Int) + 1)) ∧
      Fr (akept N) X ((w3.setCell ⟨N, 0, none⟩ (.slice (some ⟨g', 0, none⟩) (k + 1) cap')).setCell ⟨N + 1, 0, none⟩ (.int .i64 ((cx : Int) + 1)))) := by
  have hv1 : Boxed w3 N 164 (.slice Av k cv) := (hbv.alloc tmp).kept hgrow (hbv.not_row (by decide) hrow)
  have ha1 : Boxed w3 (N + 1) 3 (.int .i64 b0) := (hba.alloc tmp).kept hgrow (hba.not_row (by decide) hrow)
  have hne : some N ≠ (Value.slice (some ⟨g', 0, none⟩) (k + 1) cap').ownBlock := hv1.not_row (by decide) hown'
  have hne2 : some (N + 1) ≠ (Value.slice (some ⟨g', 0, none⟩) (k + 1) cap').ownBlock := ha1.not_row (by decide) hown'
  refine ⟨hv1.cell, hv1.frozen, ha1.cell, ha1.frozen, (hv1.set _).other (by omega) _, ?_, ((ha1.other (by omega) _).set _), ?_⟩
  · exact (hown'.kept (grownBy_setCell' w3 N _) (.inr hne.symm)).kept (grownBy_setCell' _ (N + 1) _) (.inr hne2.symm)
  · have nN : ¬ akept N N := by rintro (h | h | h) <;> omega
    have nN1 : ¬ akept N (N + 1) := by rintro (h | h | h) <;> omega
    refine ((((Fr.refl (akept N) X).alloc ?_ tmp).grown hgrow ?_ ?_ ?_).setCell (p := ⟨N, 0, none⟩) nN _).setCell (p := ⟨N + 1, 0, none⟩) nN1 _
    · rintro j (h | h | h) <;> omega
    · rintro j (h | h | h) <;> simp <;> omega
    · intro j hj hk
      rcases hk with h | h | h
      · have := (hrow.lt j hj).1; omega
      · obtain ⟨cs, hcs⟩ := h2
        exact row_ne25 ((hfr.block (N + 2) (.inr (.inl rfl))).trans hcs) (by decide) hrow j hj h
      · obtain ⟨cs, hcs⟩ := h3
        exact row_ne25 ((hfr.block (N + 3) (.inr (.inr rfl))).trans hcs) (by decide) hrow j hj h
    · intro j o hj ho
      exact own_cells (hrow.alloc tmp) j o hj ho
end

section
open Go.RowKit

/-- Cells of bits, as ints. -/
def ic (l : List Bool) : List Value := l.map fun b => Value.int .i64 (b.toNat : Int)
theorem ic_length (l : List Bool) : (ic l).length = l.length := by simp [ic]
theorem ic_append (a b : List Bool) : ic (a ++ b) = ic a ++ ic b := by simp [ic]
theorem ic_get (l : List Bool) (i : Nat) (h : i < l.length) : (ic l)[i]? = some (.int .i64 ((l[i]?.getD false).toNat : Int)) := by
  simp [ic, List.getElem?_map, List.getElem?_eq_getElem h]
theorem ic_one (l : List Bool) : ∀ u ∈ ic l, u.oneCell' = true := by
  intro u hu
  simp only [ic, List.mem_map] at hu
  obtain ⟨x, _, rfl⟩ := hu
  rfl

theorem info3 : (Tryz.prog.info? 3).map (fun i => (i.zero, i.size, i.bytes)) = some (some (.int .i64 0), 1, 8) := by kernel_rfl
theorem own_slice3 {w : World} {base : Nat} {v : Value} {n : Nat} {xs : List Value} (h : w.ownsRow base 3 1 v n xs) : ∃ A c, v = .slice A n c := by
  rcases h.2 with ⟨rfl, rfl⟩ | ⟨g, cap, cur, rfl, _⟩
  · exact ⟨none, 0, rfl⟩
  · exact ⟨_, cap, rfl⟩

theorem own_base {w : World} {base base' : Nat} {e : TypeId} {size n : Nat} {v : Value} {xs : List Value} (h : w.ownsRow base e size v n xs) (hb : base' ≤ base) : w.ownsRow base' e size v n xs := by
  refine ⟨h.1, ?_⟩
  rcases h.2 with h | ⟨g, cap, cur, h1, h2, h3⟩
  · exact .inl h
  · exact .inr ⟨g, cap, cur, h1, by omega, h3⟩

/-- The bit at a position, of bytes. -/
def bitAt (bs : List Nat) (i : Nat) : Bool := bs[i / 8]?.getD 0 / 2 ^ (7 - i % 8) % 2 == 1
theorem unpack_take_succ (n : Nat) (bs : List Nat) (i : Nat) (h : i < n) : (unpack n bs).take (i + 1) = (unpack n bs).take i ++ [bitAt bs i] := by
  rw [List.take_succ_eq_append_getElem (by rw [unpack_length]; exact h)]
  simp [unpack, bitAt]

/-- At each outer round's head: i bits are told, in a row of the call's own. -/
def BLRel (w1 : World) (m : Nat) (bs : List Nat) (v p : Value) (wr : World) : Prop :=
  ∃ i : Nat, i ≤ m ∧ p = .int .i64 (i : Int) ∧ wr.ownsRow w1.heap.size 3 1 v i (ic ((unpack m bs).take i)) ∧ Below w1.heap.size w1 wr

/-- At each inner round's head: the byte has been halved k times. -/
def HalfRel (x s : Nat) (v p : Value) : Prop := ∃ k : Nat, k ≤ s ∧ p = .int .i64 (k : Int) ∧ v = .int .i64 ((x / 2 ^ k : Nat) : Int)

/-- What comes back: a row of the call's own. -/
def Listed (w : World) (l : List Bool) (e : Ending) (w' : World) : Prop :=
  ∃ A c, e = .returned (.slice A l.length c) ∧ w'.ownsRow w.heap.size 3 1 (.slice A l.length c) l.length (ic l) ∧ Below w.heap.size w w'

set_option maxRecDepth 100000 in
set_option maxHeartbeats 2000000 in
theorem bitList_any (m : Nat) (hm : m ≤ 8192) (A : Option Addr) (n c : Nat) (bs : List Nat) (hn : bs.length = n) (hmb : m ≤ 8 * n) (hb : ∀ b ∈ bs, b < 256) (w : World) (h : Rd w w.heap.size A bs) (L : List Bool) (hL : L = unpack m bs) :
    Calls Tryz.prog 66 #[.agg #[.int .i64 (m : Int), .slice A n c]] w (Listed w L) := by
  obtain ⟨i0, hi, hz0, hz1, hz2⟩ := info_parts info3
  have HR := Lib.hid h; clear h
  have HN := Lib.hid hn; clear hn
  have HL := Lib.hid hL; clear hL
  have HBy := Lib.hid hb; clear hb
  obtain ⟨w1, hw1⟩ : ∃ w1, w1 = w.alloc (.cells #[.int .i64 (m : Int), .slice A n c] 35) := ⟨_, rfl⟩
  have HW1 : Hid (w1.heap.size = w.heap.size + 1 ∧ Below w.heap.size w w1 ∧ w1.heap[w.heap.size]? = some (.cells #[.int .i64 (m : Int), .slice A n c] 35)) := by
    rw [hw1]; exact ⟨World.size_alloc _ _, one_below w _, World.alloc_heap_new w _⟩
  have HE := Lib.hid hw1; clear hw1
  go_enter Tryz.func66, Tryz.ntmps66
  go_wp2
  rw [← HE.out]
  go_loopw [3, 4] (fun v p wr => BLRel w1 m bs v p wr) (fun _ p _ => m - (intOf p).toNat)
  case atStart => exact ⟨0, Nat.zero_le _, rfl, ⟨rfl, .inl ⟨rfl, rfl⟩⟩, Below.refl _ _⟩
  case round =>
    obtain ⟨i, him, rfl, hrow, hbel⟩ := hrel
    obtain ⟨Av, cv, rfl⟩ := own_slice3 hrow
    obtain ⟨hz, hlow, hbx⟩ := HW1.out
    obtain ⟨d0, d1, _, _⟩ := blk_cells ((hbel.block _ (by omega)).trans hbx)
    by_cases hlt : i < m
    · obtain ⟨b, off, rfl, hbb, hc⟩ : ∃ b off, A = some ⟨b, off, none⟩ ∧ b < w.heap.size ∧ ∀ i, i < bs.length → w.cell? ⟨b, off + i, none⟩ = some (.int .u8 ((bs[i]?.getD 0 : Nat) : Int)) := by
        rcases HR.out with h | h
        · exfalso; have := HN.out; rw [h] at this; simp at this; omega
        · exact h
      have cx : wr.cell? ⟨b, off + i / 8, none⟩ = some (.int .u8 ((bs[i / 8]?.getD 0 : Nat) : Int)) :=
        ((hlow.trans (hbel.mono (by omega))).cell (p := ⟨b, off + i / 8, none⟩) hbb).trans (hc (i / 8) (by rw [HN.out]; omega))
      have hx := getD_lt bs HBy.out (i / 8)
      have HU := Lib.hid (unpack_take_succ m bs i hlt)
      have HBt : Hid (bitAt bs i = (bs[i / 8]?.getD 0 / 2 ^ (7 - i % 8) % 2 == 1)) := rfl
      generalize bitAt bs i = bt at *
      generalize bs[i / 8]?.getD 0 = x at *
      have i0' : (0 : Int) ≤ (i : Int) / 8 := by omega
      have i1' : (i : Int) / 8 < (n : Int) := by omega
      have i2' : ((i : Int) / 8).toNat = i / 8 := by omega
      clear hc
      have HBel := Lib.hid hbel; clear hbel
      have HZ := Lib.hid (⟨hz, hlow, hbx⟩ : _ ∧ _ ∧ _); clear hz hlow hbx
      go_wp2
      go_loop [5, 6] (fun v p => HalfRel x (7 - i % 8) v p) (fun _ p => (7 - i % 8) - (intOf p).toNat)
      case atStart => exact ⟨0, Nat.zero_le _, rfl, by rw [Nat.pow_zero, Nat.div_one]⟩
      case round =>
        obtain ⟨k, hk, rfl, rfl⟩ := hrel
        have hxk : x / 2 ^ k ≤ x := Nat.div_le_self _ _
        have HH : Hid (x / 2 ^ (k + 1) = x / 2 ^ k / 2) := by show _ = _; rw [Nat.pow_succ, Nat.div_div_eq_div_mul]
        by_cases hks : k < 7 - i % 8
        · have t1 : (k : Int) < 7 - (i : Int) % 8 := by omega
          generalize x / 2 ^ k = y at *
          go_wp2
          go_round
          case rel => exact ⟨k + 1, by omega, by go_num, by rw [HH.out]; go_num⟩
          case measure => simp [intOf]; omega
        · have t1 : ¬ (k : Int) < 7 - (i : Int) % 8 := by omega
          have e : k = 7 - i % 8 := by omega
          have HV : Hid (((bt.toNat : Nat) : Int) = ((x / 2 ^ k : Nat) : Int) % 2) := by
            show _ = _
            rw [HBt.out, e]
            generalize x / 2 ^ (7 - i % 8) = y
            rcases (show y % 2 = 0 ∨ y % 2 = 1 by omega) with h | h
            · rw [h]; simp; omega
            · rw [h]; simp; omega
          clear e HH
          generalize x / 2 ^ k = y at *
          go_wp2_with (at_builtin; refine wpList_append_own _ rfl _ _ 22 rfl w1.heap.size 3 i0 (.int .i64 0) 1 8 Tryz.underlying22 hi hz0 hz1 hz2 rfl (by decide) _ _ _ rfl (hrow.alloc _) ⟨wr.heap.size, 0, none⟩ 1 1 [.int .i64 ((y : Int) % 2)] rfl rfl (cell_one_new _ _ _) (by simp [Value.oneCell']) (by unfold maxLen; omega) (by omega) (by have := HBel.out.size; simp; omega) ?_; intro v' w3 hown' hgrow _; obtain ⟨g', cap', rfl⟩ := ownsRow_succ hown')
          have HGr := Lib.hid hgrow; clear hgrow
          have HOw := Lib.hid hown'; clear hown'
          go_roundw
          case rel =>
            refine ⟨i + 1, by omega, by go_num, ?_, (HBel.out.alloc HBel.out.size _).grown HGr.out (by have := HBel.out.size; simp; omega) (fun k hk => (hrow.lt k hk).1)⟩
            rw [HU.out, ic_append]
            have e1 : ic [bt] = [.int .i64 ((y : Int) % 2)] := by simp only [ic, List.map_cons, List.map_nil]; rw [HV.out]
            rw [e1]
            exact HOw.out
          case measure => simp [intOf]; omega
    · have e : i = m := by omega
      subst e
      rw [List.take_of_length_le (by rw [unpack_length]; omega), ← HL.out] at hrow
      have hLl : L.length = i := by rw [HL.out, unpack_length]
      have HF : Hid (Listed w L (.returned (.slice Av i cv)) wr) := by
        refine ⟨Av, cv, by rw [hLl], ?_, hlow.trans (hbel.mono (by omega))⟩
        rw [hLl]
        exact own_base hrow (by omega)
      clear hrow hLl hbx
      go_wp2
      go_ret
      exact HF.out
end

section
set_option maxRecDepth 100000
set_option linter.unusedVariables false
open Go.RowKit

set_option maxHeartbeats 400000 in
theorem between_any (n lo hi : Int) (w : World) : Calls Tryz.prog 61 #[.int .i64 n, .int .i64 lo, .int .i64 hi] w fun e w' => e = .returned (.bool (decide (lo ≤ n ∧ n ≤ hi))) ∧ w = w' := by
  by_cases h1 : lo ≤ n
  · by_cases h2 : n ≤ hi
    · have e : decide (lo ≤ n ∧ n ≤ hi) = true := by simp; omega
      have t1 : decide (lo ≤ n) = true := by simp; omega
      have t2 : decide (n ≤ hi) = true := by simp; omega
      rw [e]
      go_enter Tryz.func61, Tryz.ntmps61
      go_wp2
      go_ret
      exact ⟨rfl, rfl⟩
    · have e : decide (lo ≤ n ∧ n ≤ hi) = false := by simp; omega
      have t1 : decide (lo ≤ n) = true := by simp; omega
      have t2 : decide (n ≤ hi) = false := by simp; omega
      rw [e]
      go_enter Tryz.func61, Tryz.ntmps61
      go_wp2
      go_ret
      exact ⟨rfl, rfl⟩
  · have e : decide (lo ≤ n ∧ n ≤ hi) = false := by simp; omega
    have t1 : decide (lo ≤ n) = false := by simp; omega
    rw [e]
    go_enter Tryz.func61, Tryz.ntmps61
    go_wp2
    go_ret
    exact ⟨rfl, rfl⟩
theorem between_yes (n lo hi : Int) (h : lo ≤ n ∧ n ≤ hi) (w : World) : Calls Tryz.prog 61 #[.int .i64 n, .int .i64 lo, .int .i64 hi] w fun e w' => e = .returned (.bool true) ∧ w = w' := by
  have := between_any n lo hi w
  rwa [decide_eq_true h] at this
theorem between_no (n lo hi : Int) (h : ¬ (lo ≤ n ∧ n ≤ hi)) (w : World) : Calls Tryz.prog 61 #[.int .i64 n, .int .i64 lo, .int .i64 hi] w fun e w' => e = .returned (.bool false) ∧ w = w' := by
  have := between_any n lo hi w
  rwa [decide_eq_false h] at this

theorem own_set {w : World} {base g n cap i : Nat} {e : TypeId} {xs : List Value} (h : w.ownsRow base e 1 (.slice (some ⟨g, 0, none⟩) n cap) n xs) (u : Value) :
    (w.setCell ⟨g, i, none⟩ u).ownsRow base e 1 (.slice (some ⟨g, 0, none⟩) n cap) n (xs.set i u) := by
  refine ⟨by rw [List.length_set]; exact h.1, .inr ?_⟩
  rcases h.2 with ⟨h, _⟩ | ⟨g', cap', cur, hv, hb, hh, h1, h2, h3, h4⟩
  · cases h
  · simp only [Value.slice.injEq, Option.some.injEq, Addr.mk.injEq, and_true] at hv
    obtain ⟨rfl, _, rfl⟩ := hv
    refine ⟨g, cap, cur.setIfInBounds i u, rfl, hb, heap_set_same _ _ _ _ _ _ hh, h1, h2, by simpa using h3, ?_⟩
    rw [Array.toList_setIfInBounds, List.take_set, h4]
theorem own_cell {w : World} {base g n cap i : Nat} {e : TypeId} {xs : List Value} {v : Value} (h : w.ownsRow base e 1 (.slice (some ⟨g, 0, none⟩) n cap) n xs) (hi : xs[i]? = some v) :
    w.cell? ⟨g, i, none⟩ = some v ∧ w.frozen? ⟨g, i, none⟩ = false := by
  have hh := h.cells (g := g) rfl i v hi
  have ha : (⟨g, 0, none⟩ : Addr).add i = ⟨g, i, none⟩ := by unfold Addr.add; split <;> simp_all
  rw [ha] at hh
  refine ⟨hh, ?_⟩
  rcases h.2 with ⟨h, _⟩ | ⟨g', cap', cur, hv, hb, hg, _⟩
  · cases h
  · simp only [Value.slice.injEq, Option.some.injEq, Addr.mk.injEq, and_true] at hv
    obtain ⟨rfl, _⟩ := hv
    simp [World.frozen?, hg]
theorem made_zero (k : Nat) : (madeCells (Value.int .i64 0).cells (k * 1)).toList = ic (List.replicate k false) := by
  rw [show (Value.int .i64 0).cells = #[Value.int .i64 0] from rfl, toList_madeCells_one, Nat.mul_one]
  simp [ic]
end

section
set_option maxRecDepth 100000
set_option linter.unusedVariables false
open Go.RowKit

/-- At each round's head: i bits have been read as a number. -/
def BNRel (l : List Bool) (v p : Value) : Prop := ∃ i : Nat, i ≤ l.length ∧ p = .int .i64 (i : Int) ∧ v = .int .u64 (num (l.take i) : Int)

set_option maxHeartbeats 1000000 in
theorem bitNum_any (l : List Bool) (n : Nat) (hn : l.length = n) (hl : n ≤ 64) (A : Option Addr) (c : Nat) (w : World) (h : RdV w w.heap.size A (ic l)) :
    Calls Tryz.prog 158 #[.slice A n c] w fun e w' => e = .returned (.int .u64 (num l : Int)) ∧ w = w' := by
  have HR := Lib.hid h; clear h
  have HN := Lib.hid hn; clear hn
  go_enter Tryz.func158, Tryz.ntmps158
  go_wp2
  go_loop [3, 4] (fun v p => BNRel l v p) (fun _ p => n - (intOf p).toNat)
  case atStart => exact ⟨0, Nat.zero_le _, rfl, rfl⟩
  case round =>
    obtain ⟨i, hi, rfl, rfl⟩ := hrel
    rw [HN.out] at hi
    by_cases hlt : i < n
    · have hil : i < l.length := by rw [HN.out]; exact hlt
      obtain ⟨b, off, rfl, hb, hc⟩ := HR.out.at_ (ic_get l i hil)
      have HS : Hid (num (l.take (i + 1)) = 2 * num (l.take i) + (l[i]?.getD false).toNat) := by
        show _ = _
        rw [List.take_succ_eq_append_getElem hil, num_snoc, List.getElem?_eq_getElem hil]; rfl
      have hnl : num (l.take i) < 2 ^ 63 := Nat.lt_of_lt_of_le (num_lt _) (Nat.pow_le_pow_right (by omega) (by rw [List.length_take]; omega))
      have hbl := Bool.toNat_le (l[i]?.getD false)
      generalize l[i]?.getD false = bt at *
      generalize num (l.take i) = y at *
      have hy2 : (2 : Int) * (y : Int) < 18446744073709551615 := by omega
      go_wp2
      go_round
      case rel => exact ⟨i + 1, by rw [HN.out]; omega, by go_num, by rw [HS.out]; go_num⟩
      case measure => simp [intOf]; omega
    · have HE : Hid (num (l.take i) = num l) := by show _ = _; rw [List.take_of_length_le (by rw [HN.out]; omega)]
      go_wp2
      go_ret
      exact ⟨by rw [← HE.out]; rfl, rfl⟩

/-- At each round's head: q places are still to be filled. -/
def NBRel (w : World) (n k : Nat) (v p : Value) (wr : World) : Prop :=
  ∃ q : Nat, q ≤ k ∧ p = .int .i64 ((q : Int) - 1) ∧ v = .int .u64 ((n / 2 ^ (k - q) : Nat) : Int) ∧ wr.ownsRow w.heap.size 3 1 (.slice (some ⟨w.heap.size, 0, none⟩) k k) k (ic (List.replicate q false ++ (nb n k).drop q)) ∧ Below w.heap.size w wr

theorem nb_fill (n k q : Nat) (h : q < k) : (ic (List.replicate (q + 1) false ++ (nb n k).drop (q + 1))).set q (.int .i64 ((n / 2 ^ (k - (q + 1)) % 2 : Nat) : Int)) = ic (List.replicate q false ++ (nb n k).drop q) := by
  have e1 : (nb n k).drop q = (n / 2 ^ (k - (q + 1)) % 2 == 1) :: (nb n k).drop (q + 1) := by
    rw [List.drop_eq_getElem_cons (by rw [nb_length]; exact h)]
    congr 1
    simp only [nb, List.getElem_map, List.getElem_range]
    rw [show k - 1 - q = k - (q + 1) from by omega]
  have e2 : (((n / 2 ^ (k - (q + 1)) % 2 == 1).toNat : Nat) : Int) = ((n / 2 ^ (k - (q + 1)) % 2 : Nat) : Int) := by
    generalize n / 2 ^ (k - (q + 1)) = y
    rcases (show y % 2 = 0 ∨ y % 2 = 1 by omega) with h | h <;> rw [h] <;> rfl
  rw [e1, List.replicate_succ', List.append_assoc]
  simp only [ic, List.map_append, List.map_cons, List.singleton_append]
  rw [List.set_append_right _ _ (by simp)]
  simp only [List.length_map, List.length_replicate, Nat.sub_self, List.set_cons_zero, e2]

set_option maxHeartbeats 1000000 in
theorem numBits_any (n k : Nat) (hk : k ≤ 64) (hn : n < 18446744073709551616) (L : List Bool) (hL : L = nb n k) (w : World) :
    Calls Tryz.prog 231 #[.int .u64 (n : Int), .int .i64 (k : Int)] w (Listed w L) := by
  obtain ⟨i0, hi, hz0, hz1, hz2⟩ := info_parts info3
  have HL := Lib.hid hL; clear hL
  go_enter Tryz.func231, Tryz.ntmps231
  go_wp2_with (first | (at_make; refine wpList_make_full _ rfl _ _ 22 rfl w.heap.size 3 i0 (.int .i64 0) 1 Tryz.underlying22 hi hz0 hz1 _ _ _ _ k rfl rfl rfl rfl (by rw [hz2]; omega) (by unfold maxLen; omega) (by omega) ?_; intro w1 hown1 hgrow1; rw [made_zero] at hown1; have HO := Lib.hid hown1; have HG : Hid (Below w.heap.size w w1) := (Below.refl _ w).grown hgrow1 (Nat.le_refl _) (fun k hk => by cases hk); clear hown1 hgrow1))
  go_loopw [0, 6] (fun v p wr => NBRel w n k v p wr) (fun _ p _ => (intOf p + 1).toNat)
  case atStart => exact ⟨k, Nat.le_refl _, rfl, by rw [Nat.sub_self, Nat.pow_zero, Nat.div_one], by rw [List.drop_of_length_le (by rw [nb_length]; omega), List.append_nil]; exact HO.out, HG.out⟩
  case round =>
    obtain ⟨q, hqk, hp, rfl, hrow, hbel⟩ := hrel
    have hyn : n / 2 ^ (k - q) ≤ n := Nat.div_le_self _ _
    rcases q with _ | q
    · have hp' := hp.trans (show Value.int .i64 (((0 : Nat) : Int) - 1) = Value.int .i64 (-1) from rfl)
      clear hp
      subst hp'
      have HF : Hid (Listed w L (.returned (.slice (some ⟨w.heap.size, 0, none⟩) k k)) wr) := by
        have hLl : L.length = k := by rw [HL.out, nb_length]
        refine ⟨_, k, by rw [hLl], ?_, hbel⟩
        rw [hLl, HL.out]
        simpa using hrow
      clear hrow hbel
      generalize n / 2 ^ (k - 0) = y at *
      go_wp2
      go_ret
      exact HF.out
    · have hp' := hp.trans (show Value.int .i64 (((q + 1 : Nat) : Int) - 1) = Value.int .i64 (q : Int) from by congr 1; omega)
      clear hp
      subst hp'
      have HS := Lib.hid (own_set (i := q) hrow (.int .i64 ((n / 2 ^ (k - (q + 1)) % 2 : Nat) : Int)))
      rw [nb_fill n k q (by omega)] at HS
      obtain ⟨cq, fq⟩ := own_cell hrow (i := q) (ic_get _ q (by rw [List.length_append, List.length_replicate]; omega))
      have HBel := Lib.hid hbel; clear hbel hrow
      have HH : Hid (n / 2 ^ (k - q) = n / 2 ^ (k - (q + 1)) / 2) := by
        show _ = _
        rw [show k - q = k - (q + 1) + 1 from by omega, Nat.pow_succ, Nat.div_div_eq_div_mul]
      generalize ((List.replicate (q + 1) false ++ (nb n k).drop (q + 1))[q]?.getD false).toNat = oldv at *
      generalize n / 2 ^ (k - (q + 1)) = y at *
      have iq0 : (0 : Int) ≤ (q : Int) := by omega
      have iq1 : (q : Int) < (k : Int) := by omega
      go_wp2
      refine ⟨⟨q, by omega, rfl, by rw [HH.out]; go_num, ?_, HBel.out.setCell (p := ⟨w.heap.size, q, none⟩) (Nat.le_refl _) _⟩, by simp [intOf]⟩
      have e : ((y : Int) % 2) = ((y % 2 : Nat) : Int) := by omega
      rw [e]
      exact HS.out
end

section
set_option maxRecDepth 100000
set_option linter.unusedVariables false
open Go.RowKit

/-- k bits from position i on, as a number; 0 behind the end. -/
def pk (l : List Bool) (i : Nat) : Nat → Nat
  | 0 => 0
  | k + 1 => 2 * pk l i k + bt l (i + k)
theorem pk_lt (l : List Bool) (i k : Nat) : pk l i k < 2 ^ k := by
  induction k with
  | zero => simp [pk]
  | succ k ih => have := bt_le l (i + k); rw [pk, Nat.pow_succ]; omega
theorem pk_eight (l : List Bool) (j : Nat) : pk l (8 * j) 8 = byteAt l j := by
  unfold byteAt
  simp only [pk, Nat.add_zero]
  omega
theorem pack_take_succ (l : List Bool) (j : Nat) (h : 8 * j < l.length) : (pack l).take (j + 1) = (pack l).take j ++ [byteAt l j] := by
  have hj : j < (pack l).length := by rw [pack_length]; omega
  rw [List.take_succ_eq_append_getElem hj]
  have := pack_get l j
  rw [List.getElem?_eq_getElem hj] at this
  rw [← this]; rfl

def PKRel (l : List Bool) (i : Nat) (v p : Value) : Prop := ∃ k : Nat, k ≤ 8 ∧ p = .int .i64 (k : Int) ∧ v = .int .i64 (pk l i k : Int)

/-- At each outer round's head: j bytes lie in a row of the call's own. -/
def PBRel (w w1 : World) (l : List Bool) (p : Value) (wr : World) : Prop :=
  ∃ j : Nat, 8 * j < l.length + 8 ∧ p = .int .i64 ((8 * j : Nat) : Int) ∧ ∃ v, wr.heap[w.heap.size + 1]? = some (.cells #[.int .i64 (l.length : Int), v] 35 (0, 0)) ∧ wr.ownsRow (w.heap.size + 2) 5 1 v ((pack l).take j).length (bc ((pack l).take j)) ∧ Below (w.heap.size + 1) w1 wr ∧ w1.heap.size ≤ wr.heap.size

/-- Bits come back. -/
def PkP (w : World) (l : List Bool) (e : Ending) (w' : World) : Prop :=
  ∃ A c, e = .returned (.agg #[.int .i64 (l.length : Int), .slice A (pack l).length c]) ∧ Rd w' w'.heap.size A (pack l) ∧ Below w.heap.size w w'

/-- One byte more: behind the append, and behind the store. -/
theorem pb_step {wr w3 w1 : World} {s k g' cap' ln : Nat} {Av : Option Addr} {cv : Nat} {xs ys : List Value} {tmp : Obj}
    (hblk : wr.heap[s + 1]? = some (.cells #[.int .i64 (ln : Int), .slice Av k cv] 35 (0, 0))) (hrow : wr.ownsRow (s + 2) 5 1 (.slice Av k cv) k xs) (hbel : Below (s + 1) w1 wr) (hz : s + 2 ≤ w1.heap.size) (hzz : w1.heap.size ≤ wr.heap.size)
    (hgrow : (wr.alloc tmp).grownBy w3 (Value.slice Av k cv).ownBlock) (hown' : w3.ownsRow (s + 2) 5 1 (.slice (some ⟨g', 0, none⟩) (k + 1) cap') (k + 1) ys) :
    (w3.cell? ⟨s + 1, 1, none⟩ = some (.slice Av k cv) ∧ w3.frozen? ⟨s + 1, 1, none⟩ = false) ∧
    Hid ((w3.setCell ⟨s + 1, 1, none⟩ (.slice (some ⟨g', 0, none⟩) (k + 1) cap')).heap[s + 1]? = some (.cells #[.int .i64 (ln : Int), .slice (some ⟨g', 0, none⟩) (k + 1) cap'] 35 (0, 0)) ∧
      (w3.setCell ⟨s + 1, 1, none⟩ (.slice (some ⟨g', 0, none⟩) (k + 1) cap')).ownsRow (s + 2) 5 1 (.slice (some ⟨g', 0, none⟩) (k + 1) cap') (k + 1) ys ∧
      Below (s + 1) w1 (w3.setCell ⟨s + 1, 1, none⟩ (.slice (some ⟨g', 0, none⟩) (k + 1) cap')) ∧ w1.heap.size ≤ (w3.setCell ⟨s + 1, 1, none⟩ (.slice (some ⟨g', 0, none⟩) (k + 1) cap')).heap.size) := by
  have hne : ∀ j, (Value.slice Av k cv).ownBlock = some j → s + 2 ≤ j := fun j hj => (hrow.lt j hj).1
  have h3 : w3.heap[s + 1]? = some (.cells #[.int .i64 (ln : Int), .slice Av k cv] 35 (0, 0)) :=
    (hgrow.block (s + 1) (by simp; omega) (fun e => by have := hne _ e.symm; omega)).trans ((Below.heap_alloc _ _ _ (by omega)).trans hblk)
  have hb3 : Below (s + 1) w1 w3 := (hbel.alloc (by omega) tmp).grown hgrow (by simp; omega) (fun j hj => by have := hne j hj; omega)
  obtain ⟨_, c1, _, f1⟩ := blk_cells h3
  have hg : s + 2 ≤ g' := (hown'.lt g' rfl).1
  refine ⟨⟨c1, f1⟩, ?_, ?_, hb3.setCell (p := ⟨s + 1, 1, none⟩) (Nat.le_refl _) _, by simpa [World.setCell] using hb3.size⟩
  · rw [heap_set_same _ _ _ _ 35 _ h3]; simp
  · refine hown'.kept (row := some (s + 1)) (grown_set _ _ _ _) (.inr ?_)
    simp [Value.ownBlock]; omega

set_option maxRecDepth 100000 in
set_option maxHeartbeats 2000000 in
theorem packBits_any (l : List Bool) (n : Nat) (hn : l.length = n) (hl : n ≤ 8192) (A : Option Addr) (c : Nat) (w : World) (h : RdV w w.heap.size A (ic l)) :
    Calls Tryz.prog 33 #[.slice A n c] w (PkP w l) := by
  subst hn
  obtain ⟨i0, hi, hz0, hz1, hz2⟩ := info_parts info5
  have HR := Lib.hid h; clear h
  obtain ⟨w1, hw1⟩ : ∃ w1, w1 = (w.alloc (.cells #[.int .i64 0, .slice none 0 0] 35)).alloc (.cells #[.int .i64 (l.length : Int), .slice none 0 0] 35) := ⟨_, rfl⟩
  have HW1 : Hid (w1.heap.size = w.heap.size + 2 ∧ Below w.heap.size w w1 ∧ w1.heap[w.heap.size]? = some (.cells #[.int .i64 0, .slice none 0 0] 35) ∧ w1.heap[w.heap.size + 1]? = some (.cells #[.int .i64 (l.length : Int), .slice none 0 0] 35)) := by
    rw [hw1]; exact ⟨two_size w _ _, up2 w _ _, (Below.heap_alloc _ _ _ (by simp)).trans (World.alloc_heap_new w _), two_new w _ _⟩
  have HE := Lib.hid hw1; clear hw1
  go_enter Tryz.func33, Tryz.ntmps33
  go_wp2
  rw [← HE.out]
  go_loopw [4] (fun p wr => PBRel w w1 l p wr) (fun p _ => l.length + 8 - (intOf p).toNat)
  case atStart => exact ⟨0, by omega, rfl, .slice none 0 0, HW1.out.2.2.2, ⟨rfl, .inl ⟨rfl, rfl⟩⟩, Below.refl _ _, Nat.le_refl _⟩
  case round =>
    obtain ⟨j, hj, rfl, v, hblk, hrow, hbel, hsz⟩ := hrel
    obtain ⟨Av, cv, rfl⟩ := own_slice hrow
    obtain ⟨d0, d1, f0, f1⟩ := blk_cells hblk
    by_cases hlt : 8 * j < l.length
    · have HU := Lib.hid (pack_take_succ l j hlt)
      have hjl : ((pack l).take j).length = j := by rw [List.length_take, pack_length]; omega
      rw [hjl] at hrow hblk d1
      have HRw : Hid (RdV wr w.heap.size A (ic l)) := HR.out.below (HW1.out.2.1.trans (hbel.mono (by omega))) (Nat.le_refl _)
      have HP8 := Lib.hid (pk_eight l j)
      have HBlk := Lib.hid hblk; clear hblk
      have HBel := Lib.hid hbel; clear hbel
      have HSz := Lib.hid hsz; clear hsz
      have hjn : ((8 * j : Nat) : Int) < (l.length : Int) := by omega
      have hjb : j ≤ 1024 := by omega
      generalize hq : 8 * j = q at *
      have HQ := Lib.hid hq; clear hq
      go_wp2
      go_loop [5, 6] (fun v p => PKRel l q v p) (fun _ p => 8 - (intOf p).toNat)
      case atStart => exact ⟨0, Nat.zero_le _, rfl, rfl⟩
      case round =>
        obtain ⟨k, hk, rfl, rfl⟩ := hrel
        have hpl := pk_lt l q k
        have hp2 : 2 ^ k ≤ 2 ^ 8 := Nat.pow_le_pow_right (by omega) hk
        have hpk : pk l q k < 256 := by omega
        clear hpl hp2
        by_cases hks : k < 8
        · have HS : Hid (pk l q (k + 1) = 2 * pk l q k + bt l (q + k)) := rfl
          have hqk : (q : Int) + (k : Int) = ((q + k : Nat) : Int) := by omega
          by_cases hin : q + k < l.length
          · obtain ⟨b, off, rfl, hb, hc⟩ := HRw.out.at_ (ic_get l (q + k) hin)
            have HBt : Hid (bt l (q + k) = (l[q + k]?.getD false).toNat) := rfl
            have hbl := Bool.toNat_le (l[q + k]?.getD false)
            generalize l[q + k]?.getD false = bb at *
            generalize bt l (q + k) = bq at *
            generalize pk l q k = y at *
            have t1 : (q : Int) + (k : Int) < (l.length : Int) := by omega
            have i0' : (0 : Int) ≤ (q : Int) + (k : Int) := by omega
            have i2' : ((q : Int) + (k : Int)).toNat = q + k := by omega
            clear hqk
            go_wp2
            go_round
            case rel => exact ⟨k + 1, by omega, by go_num, by rw [HS.out, HBt.out]; go_num⟩
            case measure => simp [intOf]; omega
          · have HBt : Hid (bt l (q + k) = 0) := bt_beyond l _ (by omega)
            generalize bt l (q + k) = bq at *
            generalize pk l q k = y at *
            have t1 : ¬ (q : Int) + (k : Int) < (l.length : Int) := by omega
            clear hqk
            go_wp2
            go_round
            case rel => exact ⟨k + 1, by omega, by go_num, by rw [HS.out, HBt.out]; go_num⟩
            case measure => simp [intOf]; omega
        · have e8 : k = 8 := by omega
          have HV : Hid (pk l q k = byteAt l j) := by show _ = _; rw [e8]; exact HP8.out
          clear e8
          generalize byteAt l j = y8 at *
          generalize pk l q k = y at *
          have hy256 : (y : Int) < 256 := by omega
          go_wp2_with (at_builtin; refine wpList_append_own _ rfl _ _ 33 rfl (w.heap.size + 2) 5 i0 (.int .u8 0) 1 1 Tryz.underlying33 hi hz0 hz1 hz2 rfl (by decide) _ _ _ rfl (hrow.alloc _) ⟨wr.heap.size, 0, none⟩ 1 1 [.int .u8 (y : Int)] rfl rfl (cell_one_new _ _ _) (by simp [Value.oneCell']) (by unfold maxLen; omega) (by omega) (by have := HSz.out; have := HW1.out.1; simp; omega) ?_; intro v' w3 hown' hgrow _; obtain ⟨g', cap', rfl⟩ := ownsRow_succ hown'; obtain ⟨⟨e1, e2⟩, HF⟩ := pb_step (ln := l.length) HBlk.out hrow HBel.out (by have := HW1.out.1; omega) HSz.out hgrow hown'; clear hgrow hown')
          go_roundw
          case rel =>
            have hq := HQ.out
            obtain ⟨F1, F2, F3, F4⟩ := HF.out
            refine ⟨j + 1, by omega, ?_, _, F1, ?_, F3, F4⟩
            · rw [← hq]; go_num
            · have e1 : ((pack l).take (j + 1)).length = j + 1 := by rw [HU.out, List.length_append, hjl]; rfl
              rw [e1, HU.out, bc_append, ← HV.out]
              exact F2
          case measure => simp [intOf]; omega
    · have hpt : (pack l).take j = pack l := List.take_of_length_le (by rw [pack_length]; omega)
      rw [hpt] at hrow hblk d1
      have hrb : wr.heap[w.heap.size]? = some (.cells #[.int .i64 0, .slice none 0 0] 35) := (hbel.block _ (by omega)).trans HW1.out.2.2.1
      have hlow : Below w.heap.size w wr := HW1.out.2.1.trans (hbel.mono (by omega))
      obtain ⟨r0, r1, k0, k1⟩ := blk_cells hrb
      have HF : Hid (PkP w l (.returned (.agg #[.int .i64 (l.length : Int), .slice Av (pack l).length cv])) ((wr.setCell ⟨w.heap.size, 0, none⟩ (.int .i64 (l.length : Int))).setCell ⟨w.heap.size, 1, none⟩ (.slice Av (pack l).length cv))) := by
        refine ⟨Av, cv, rfl, ?_, (hlow.setCell (p := ⟨w.heap.size, 0, none⟩) (Nat.le_refl _) _).setCell (p := ⟨w.heap.size, 1, none⟩) (Nat.le_refl _) _⟩
        have q1 := (own_rd hrow).setK (i := 0) (.int .i64 (l.length : Int)) hrb
        have hr2 : (wr.setCell ⟨w.heap.size, 0, none⟩ (.int .i64 (l.length : Int))).heap[w.heap.size]? = some (.cells #[.int .i64 (l.length : Int), .slice none 0 0] 35 (0, 0)) := by
          rw [heap_set_same _ _ _ _ 35 _ hrb]; simp
        have q2 := q1.setK (i := 1) (.slice Av (pack l).length cv) hr2
        have e : ((wr.setCell ⟨w.heap.size, 0, none⟩ (.int .i64 (l.length : Int))).setCell ⟨w.heap.size, 1, none⟩ (.slice Av (pack l).length cv)).heap.size = wr.heap.size := by simp [World.setCell]
        rw [e]
        exact q2
      have hge : ¬ ((8 * j : Nat) : Int) < (l.length : Int) := by omega
      clear hrow hblk hbel hrb hlow hpt
      generalize 8 * j = q at *
      go_wp2
      exact bodyPost_ret (v := .agg #[.int .i64 (l.length : Int), .slice Av (pack l).length cv]) (by simp [results, Tryz.results33, go_sem, r0, r1]) rfl HF.out
end

section
set_option maxRecDepth 100000
set_option linter.unusedVariables false
open Go.RowKit

theorem last_bits : ∀ x : Fin 256, ∀ r : Fin 8, decide (x.val * 2 ^ r.val % 256 = 0) = decide (∀ j : Fin 8, r.val ≤ j.val → x.val / 2 ^ (7 - j.val) % 2 = 0) := by decide +kernel

/-- Nothing stands behind the last bit. -/
theorem stray_iff (n : Nat) (bs : List Nat) (hb : ∀ b ∈ bs, b < 256) (hl : bs.length = (n + 7) / 8) : stray n bs = false ↔ ∀ i, n ≤ i → i < 8 * bs.length → bitAt bs i = false := by
  unfold stray
  by_cases hr : n % 8 = 0
  · simp only [hr, bne_self_eq_false, Bool.false_and, true_iff]
    intro i h1 h2
    omega
  · have hk : bs.length - 1 = n / 8 := by omega
    have e0 : (n % 8 != 0) = true := by simpa using hr
    rw [hk, e0, Bool.true_and]
    have hx := getD_lt bs hb (n / 8)
    have key := last_bits ⟨bs[n / 8]?.getD 0, hx⟩ ⟨n % 8, Nat.mod_lt _ (by omega)⟩
    simp only at key
    rw [decide_eq_decide] at key
    rw [bne_eq_false_iff_eq, key]
    constructor
    · intro h i h1 h2
      have hq : i / 8 = n / 8 := by omega
      have := h ⟨i % 8, Nat.mod_lt _ (by omega)⟩ (by simp only; omega)
      unfold bitAt
      rw [hq]
      simp only at this
      rw [this]; rfl
    · intro h j hj
      have := h (8 * (n / 8) + j.val) (by omega) (by have := j.isLt; omega)
      unfold bitAt at this
      have hj8 := j.isLt
      rw [show (8 * (n / 8) + j.val) / 8 = n / 8 from by omega, show (8 * (n / 8) + j.val) % 8 = j.val from by omega] at this
      simpa using this

def CKRel (n : Nat) (bs : List Nat) (M : Nat) (p : Value) : Prop := ∃ i : Nat, n ≤ i ∧ i ≤ M ∧ p = .int .i64 (i : Int) ∧ ∀ t, n ≤ t → t < i → bitAt bs t = false

theorem unpack_get (m : Nat) (bs : List Nat) (i : Nat) (h : i < m) : (unpack m bs)[i]?.getD false = bitAt bs i := by
  rw [List.getElem?_eq_getElem (by rw [unpack_length]; exact h)]
  simp [unpack, bitAt]

set_option maxHeartbeats 400000 in
theorem rcheck_out (len : Int) (A : Option Addr) (n c : Nat) (w : World) (h : ¬ (0 ≤ len ∧ len ≤ 8192)) :
    Calls Tryz.prog 114 #[.agg #[.int .i64 len, .slice A n c]] w fun e w' => e = .returned (.int .i64 3) ∧ Below w.heap.size w w' := by
  have HC := Lib.hid (between_no len 0 8192 h)
  clear h
  go_enter Tryz.func114, Tryz.ntmps114
  go_wp2_with (go_at_call 61; refine (HC.out _).mono ?_; rintro e w1 ⟨rfl, rfl⟩)
  go_ret
  exact ⟨rfl, one_below w _⟩
set_option maxHeartbeats 400000 in
theorem rcheck_len (m : Nat) (hm : m ≤ 8192) (A : Option Addr) (n c : Nat) (w : World) (hn : n ≠ (m + 7) / 8) :
    Calls Tryz.prog 114 #[.agg #[.int .i64 (m : Int), .slice A n c]] w fun e w' => e = .returned (.int .i64 1) ∧ Below w.heap.size w w' := by
  have HC := Lib.hid (between_yes (m : Int) 0 8192 ⟨by omega, by omega⟩)
  by_cases hr : m % 8 = 0
  · have t1 : ¬ (0 : Int) < (m : Int) % 8 := by omega
    have t2 : ((n : Int) != (m : Int) / 8) = true := by simp; omega
    clear hn hr
    go_enter Tryz.func114, Tryz.ntmps114
    go_wp2_with (go_at_call 61; refine (HC.out _).mono ?_; rintro e w1 ⟨rfl, rfl⟩)
    go_ret
    exact ⟨rfl, one_below w _⟩
  · have t1 : (0 : Int) < (m : Int) % 8 := by omega
    have t2 : ((n : Int) != (m : Int) / 8 + 1) = true := by simp; omega
    clear hn hr
    go_enter Tryz.func114, Tryz.ntmps114
    go_wp2_with (go_at_call 61; refine (HC.out _).mono ?_; rintro e w1 ⟨rfl, rfl⟩)
    go_ret
    exact ⟨rfl, one_below w _⟩

/-- BitList, called from BitsCheck. -/
theorem bl_of (m N : Nat) (hN : N ≤ 1024) (A : Option Addr) (c : Nat) (bs : List Nat) (hn : bs.length = N) (hb : ∀ b ∈ bs, b < 256) (w : World) (h : Rd w w.heap.size A bs) :
    Calls Tryz.prog 66 #[.agg #[.int .i64 ((8 * N : Nat) : Int), .slice A N c]] (w.alloc (.cells #[.int .i64 (m : Int), .slice A N c] 35)) fun e w' => ∃ B d, e = .returned (.slice B (8 * N) d) ∧ RdV w' w'.heap.size B (ic (unpack (8 * N) bs)) ∧ Below (w.heap.size + 1) (w.alloc (.cells #[.int .i64 (m : Int), .slice A N c] 35)) w' := by
  refine (bitList_any (8 * N) (by omega) A N c bs hn (Nat.le_refl _) hb _ (h.on (one_below w _)) _ rfl).mono ?_
  rintro e w' ⟨B, d, rfl, ho, hbl⟩
  rw [unpack_length] at ho ⊢
  rw [World.size_alloc] at hbl
  exact ⟨B, d, rfl, own_rdv ho, hbl⟩

set_option maxRecDepth 100000 in
set_option maxHeartbeats 2000000 in
theorem rcheck_in (m : Nat) (hm : m ≤ 8192) (A : Option Addr) (N c : Nat) (bs : List Nat) (hn : bs.length = N) (hb : ∀ b ∈ bs, b < 256) (w : World) (h : Rd w w.heap.size A bs) (hN : N = (m + 7) / 8) (cv : Int) (hcv : cv = if stray m bs = true then 1 else 0) :
    Calls Tryz.prog 114 #[.agg #[.int .i64 (m : Int), .slice A N c]] w fun e w' => e = .returned (.int .i64 cv) ∧ Below w.heap.size w w' := by
  have HC := Lib.hid (between_yes (m : Int) 0 8192 ⟨by omega, by omega⟩)
  have HB := Lib.hid (bl_of m N (by omega) A c bs hn hb w h)
  have hsi := stray_iff m bs hb (by rw [hn]; exact hN)
  rw [hn] at hsi
  have HSI := Lib.hid hsi; clear hsi h hb
  have HN := Lib.hid hn; clear hn
  have HCV := Lib.hid hcv; clear hcv
  have hMm : m ≤ 8 * N := by omega
  have hN2 : N ≤ 1024 := by omega
  have h8 : (8 : Int) * (N : Int) = ((8 * N : Nat) : Int) := by omega
  have H8 := Lib.hid h8; clear h8
  by_cases hr : m % 8 = 0
  all_goals
    first
      | (have t1 : ¬ (0 : Int) < (m : Int) % 8 := by omega
         have hq : (m : Int) / 8 = (N : Int) := by omega
         have t2 : ((N : Int) != (m : Int) / 8) = false := by simp; omega)
      | (have t1 : (0 : Int) < (m : Int) % 8 := by omega
         have hq : (m : Int) / 8 + 1 = (N : Int) := by omega
         have t2 : ((N : Int) != (m : Int) / 8 + 1) = false := by simp; omega)
    have HQ := Lib.hid hq; clear hq hr hN
    go_enter Tryz.func114, Tryz.ntmps114
    go_wp2_with (go_at_call 61; refine (HC.out _).mono ?_; rintro e w1 ⟨rfl, rfl⟩)
    rw [HQ.out, H8.out]
    refine HB.out.mono ?_
    rintro e w2 ⟨B, d, rfl, R2, B2⟩
    obtain ⟨p1, q1⟩ := box_at B2
    have HB2 : Hid (Below w.heap.size w w2) := (one_below w _).trans (B2.mono (by omega))
    have HR2 := Lib.hid R2; clear R2 B2 HB H8 HQ
    generalize hM : 8 * N = M at *
    have HM := Lib.hid hM; clear hM
    have hM2 : M ≤ 8192 := by have := HM.out; omega
    go_wp2
    go_loop [5] (fun p => CKRel m bs M p) (fun p => M - (intOf p).toNat)
    case atStart => exact ⟨m, Nat.le_refl _, hMm, rfl, fun t h1 h2 => by omega⟩
    case round =>
      obtain ⟨i, hi1, hi2, rfl, hz⟩ := hrel
      by_cases hlt : i < M
      · obtain ⟨b, off, rfl, hb, hc⟩ := HR2.out.at_ (ic_get (unpack M bs) i (by rw [unpack_length]; exact hlt))
        rw [unpack_get M bs i hlt] at hc
        cases hbit : bitAt bs i
        · rw [hbit] at hc
          have HZ : Hid (∀ t, m ≤ t → t < i + 1 → bitAt bs t = false) := fun t h1 h2 => by
            rcases Nat.lt_or_ge t i with h | h
            · exact hz t h1 h
            · have e : t = i := by omega
              rw [e]; exact hbit
          clear hz hbit
          go_wp2
          go_round
          case rel => exact ⟨i + 1, by omega, by omega, by go_num, HZ.out⟩
          case measure => simp [intOf]; omega
        · rw [hbit] at hc
          have HCV1 : Hid (cv = 1) := by
            have hs : stray m bs = true := by
              cases hs : stray m bs
              · have := (HSI.out.1 hs) i hi1 hlt
                rw [hbit] at this; cases this
              · rfl
            show cv = 1
            rw [HCV.out, hs, if_pos rfl]
          clear hz hbit
          go_wp2
          go_ret
          exact ⟨by rw [HCV1.out]; rfl, HB2.out⟩
      · have HCV0 : Hid (cv = 0) := by
          have hs : stray m bs = false := HSI.out.2 (fun t h1 h2 => hz t h1 (by omega))
          show cv = 0
          rw [HCV.out, hs, if_neg (by decide)]
        clear hz
        go_wp2
        go_ret
        exact ⟨by rw [HCV0.out]; rfl, HB2.out⟩

theorem rcheck_any (len : Int) (A : Option Addr) (c : Nat) (bs : List Nat) (hb : ∀ b ∈ bs, b < 256) (w : World) (h : Rd w w.heap.size A bs) :
    Calls Tryz.prog 114 #[.agg #[.int .i64 len, .slice A bs.length c]] w fun e w' => e = .returned (.int .i64 (chk len bs)) ∧ Below w.heap.size w w' := by
  unfold chk
  by_cases h0 : 0 ≤ len ∧ len ≤ 8192
  · rw [if_neg (by omega)]
    obtain ⟨m, rfl⟩ := Int.eq_ofNat_of_zero_le h0.1
    rw [Int.toNat_natCast]
    by_cases hn : bs.length = (m + 7) / 8
    · rw [if_neg (by omega)]
      exact rcheck_in m (by omega) A bs.length c bs rfl hb w h hn _ rfl
    · rw [if_pos hn]
      exact rcheck_len m (by omega) A bs.length c w hn
  · rw [if_pos (by omega)]
    exact rcheck_out len A bs.length c w h0
end

section
set_option maxRecDepth 100000
set_option linter.unusedVariables false
open Go.RowKit

theorem app3 {w : World} {ops : Array Oper} {rest : List Oper} {o : Oper} {a : Act} {Q : Exit → Act → World → Prop} (hgd : o.guard = none) (s x : Operand)
    (ho : o.op = .call { callee := .builtin .append, args := #[s, x], argTypes := #[22, 22] }) (base : Nat)
    (v : Value) (n : Nat) (xs : List Value) (hs : a.eval s = v) (hown : w.ownsRow base 3 1 v n xs)
    (A : Option Addr) (m c : Nat) (news : List Value) (hx : a.eval x = .slice A m c) (hr : RdV w w.heap.size A news) (hlen : news.length = m) (h1 : ∀ u ∈ news, u.oneCell' = true) (hc : A = none → c = 0)
    (hb : (n + m) * 8 ≤ 140737488355328) (hbase : base ≤ w.heap.size)
    (h : ∀ v' w', w'.ownsRow base 3 1 v' (n + m) (xs ++ news) → w.grownBy w' v.ownBlock → wpList Tryz.prog ops Q rest (a.put o.dst v') w') : wpList Tryz.prog ops Q (o :: rest) a w := by
  obtain ⟨i0, hi, hz0, hz1, hz2⟩ := info_parts info3
  rcases A with _ | ad
  · obtain rfl : news = [] := by
      rcases hr with h | ⟨b, off, h, _⟩
      · exact h
      · cases h
    obtain rfl : m = 0 := by simpa using hlen.symm
    obtain rfl := hc rfl
    refine wpList_append_own_none hgd s x 22 ho base 3 i0 1 Tryz.underlying22 hi v n xs hs hown hx ?_
    refine h v w ?_ (World.grownBy.refl w _)
    simpa using hown
  · refine wpList_append_own w hgd s x 22 ho base 3 i0 (.int .i64 0) 1 8 Tryz.underlying22 hi hz0 hz1 hz2 rfl (by decide) v n xs hs hown ad m c news hx (by omega) ?_ h1 (by unfold maxLen; omega) hb hbase (fun v' w' h2 h3 _ => h v' w' h2 h3)
    rcases hr with rfl | ⟨b, off, e, _, hcell⟩
    · intro j u hu; simp at hu
    · cases e
      intro j u hu
      have ha : (⟨b, off, none⟩ : Addr).add j = ⟨b, off + j, none⟩ := by unfold Addr.add; split <;> simp_all
      rw [ha]
      exact hcell j u hu
theorem own_below {w w' : World} {base : Nat} {e : TypeId} {size n : Nat} {v : Value} {xs : List Value} (h : w.ownsRow base e size v n xs) (hb : Below w.heap.size w w') : w'.ownsRow base e size v n xs :=
  h.kept (grown_of_below hb none) (by cases v.ownBlock <;> simp)
theorem own_none {w : World} {base : Nat} {e : TypeId} {A : Option Addr} {n c : Nat} {xs : List Value} (h : w.ownsRow base e 1 (.slice A n c) n xs) : A = none → c = 0 := by
  rintro rfl
  rcases h.2 with ⟨h, _⟩ | ⟨g, cap, cur, h, _⟩
  · simp at h; exact h.2
  · cases h

/-- Bits are stored where the result lies. -/
theorem gv_store {w w1 : World} {L : List Bool} {A : Option Addr} {c r : Nat} (R1 : Rd w1 w1.heap.size A (pack L)) (hr : w.heap.size ≤ r) (hrb : w1.heap[r]? = some (.cells #[.int .i64 0, .slice none 0 0] 35 (0, 0))) (hlow : Below w.heap.size w w1) :
    (w1.cell? ⟨r, 0, none⟩ = some (.int .i64 0) ∧ w1.cell? ⟨r, 1, none⟩ = some (.slice none 0 0) ∧ w1.frozen? ⟨r, 0, none⟩ = false ∧ w1.frozen? ⟨r, 1, none⟩ = false) ∧
    Hid (Gave w L 0 (.returned (.tuple #[.agg #[.int .i64 (L.length : Int), .slice A (pack L).length c], .int .i64 0])) ((w1.setCell ⟨r, 0, none⟩ (.int .i64 (L.length : Int))).setCell ⟨r, 1, none⟩ (.slice A (pack L).length c))) := by
  refine ⟨blk_cells hrb, A, c, rfl, ?_, (hlow.setCell (p := ⟨r, 0, none⟩) hr _).setCell (p := ⟨r, 1, none⟩) hr _⟩
  have r1 := R1.setK (i := 0) (.int .i64 (L.length : Int)) hrb
  have hr2 : (w1.setCell ⟨r, 0, none⟩ (.int .i64 (L.length : Int))).heap[r]? = some (.cells #[.int .i64 (L.length : Int), .slice none 0 0] 35 (0, 0)) := by
    rw [heap_set_same _ _ _ _ 35 _ hrb]; simp
  have r2 := r1.setK (i := 1) (.slice A (pack L).length c) hr2
  have e : ((w1.setCell ⟨r, 0, none⟩ (.int .i64 (L.length : Int))).setCell ⟨r, 1, none⟩ (.slice A (pack L).length c)).heap.size = w1.heap.size := by simp [World.setCell]
  show Rd _ _ A (pack L)
  rw [e]
  exact r2

/-- BitsCheck, called at the beginning. -/
theorem rcheck_begun (len : Int) (A : Option Addr) (c : Nat) (bs : List Nat) (w : World) (hb : ∀ b ∈ bs, b < 256) (h : Rd w w.heap.size A bs) (e0 : Int) (he : chk len bs = e0) :
    Calls Tryz.prog 114 #[.agg #[.int .i64 len, .slice A bs.length c]] ((w.alloc (.cells #[.int .i64 len, .slice A bs.length c] 35)).alloc (.cells #[.int .i64 0, .slice none 0 0] 35)) fun e w' => e = .returned (.int .i64 e0) ∧ Below (w.heap.size + 2) ((w.alloc (.cells #[.int .i64 len, .slice A bs.length c] 35)).alloc (.cells #[.int .i64 0, .slice none 0 0] 35)) w' := by
  have := rcheck_any len A c bs hb (begun w len A bs.length c) (h.below (begun_below w len A bs.length c) (by rw [begun_size]; omega))
  rw [begun_size, he] at this
  exact this

theorem rcheck_one (len : Int) (A : Option Addr) (c : Nat) (bs : List Nat) (w : World) (hb : ∀ b ∈ bs, b < 256) (h : Rd w w.heap.size A bs) (e0 : Int) (he : chk len bs = e0) :
    Calls Tryz.prog 114 #[.agg #[.int .i64 len, .slice A bs.length c]] (w.alloc (.cells #[.int .i64 len, .slice A bs.length c] 35)) fun e w' => e = .returned (.int .i64 e0) ∧ Below (w.heap.size + 1) (w.alloc (.cells #[.int .i64 len, .slice A bs.length c] 35)) w' := by
  have := rcheck_any len A c bs hb (w.alloc (.cells #[.int .i64 len, .slice A bs.length c] 35)) (h.on (one_below w _))
  rw [World.size_alloc, he] at this
  exact this

theorem RdV.cut {w : World} {B : Nat} {A : Option Addr} {vs : List Value} (h : RdV w B A vs) (p k : Nat) : RdV w B (A.map (·.add p)) ((vs.drop p).take k) := by
  rcases h with rfl | ⟨b, off, rfl, hb, hc⟩
  · left; simp
  · have ha : (⟨b, off, none⟩ : Addr).add p = ⟨b, off + p, none⟩ := by unfold Addr.add; split <;> simp_all
    refine .inr ⟨b, off + p, by rw [Option.map_some, ha], hb, fun i v hi => ?_⟩
    rw [List.getElem?_take] at hi
    split at hi
    · rw [List.getElem?_drop] at hi
      rw [Nat.add_assoc]
      exact hc (p + i) v hi
    · cases hi
theorem ic_cut (l : List Bool) (p k : Nat) : ic ((l.drop p).take k) = ((ic l).drop p).take k := by simp [ic, List.map_take, List.map_drop]

theorem own_cap {w : World} {base : Nat} {e : TypeId} {A : Option Addr} {n c : Nat} {xs : List Value} (h : w.ownsRow base e 1 (.slice A n c) n xs) : n ≤ c := by
  rcases h.2 with ⟨h, h2⟩ | ⟨g, cap, cur, h, _, _, h2, _⟩
  · omega
  · simp only [Value.slice.injEq] at h; omega

/-- app3, at a step of a region that draws its order. -/
theorem app3s {w : World} {ops : Array Oper} {o : Oper} {a : Act} {K : Act → World → Prop} {Q : Exit → Act → World → Prop} {E : Prop} (hgd : o.guard = none) (s x : Operand)
    (ho : o.op = .call { callee := .builtin .append, args := #[s, x], argTypes := #[22, 22] }) (base : Nat)
    (v : Value) (n : Nat) (xs : List Value) (hs : a.eval s = v) (hown : w.ownsRow base 3 1 v n xs)
    (A : Option Addr) (m c : Nat) (news : List Value) (hx : a.eval x = .slice A m c) (hr : RdV w w.heap.size A news) (hlen : news.length = m) (h1 : ∀ u ∈ news, u.oneCell' = true) (hc : A = none → c = 0)
    (hb : (n + m) * 8 ≤ 140737488355328) (hbase : base ≤ w.heap.size)
    (h : ∀ v' w', w'.ownsRow base 3 1 v' (n + m) (xs ++ news) → w.grownBy w' v.ownBlock → K (a.put o.dst v') w') : if Region.wanted o (yielded ops a.tmps) = true then Oper.wp Tryz.prog o a w K Q else E := by
  have hw : Region.wanted o (yielded ops a.tmps) = true := by simp [Region.wanted, hgd]
  rw [if_pos hw]
  obtain ⟨i0, hi, hz0, hz1, hz2⟩ := info_parts info3
  have key : ∃ v' w', (Builtin.append_ #[22, 22] o.type #[v, .slice A m c]).run Tryz.prog w = .ok v' w' ∧ w'.ownsRow base 3 1 v' (n + m) (xs ++ news) ∧ w.grownBy w' v.ownBlock := by
    rcases A with _ | ad
    · obtain rfl : news = [] := by
        rcases hr with h | ⟨b, off, h, _⟩
        · exact h
        · cases h
      obtain rfl : m = 0 := by simpa using hlen.symm
      obtain rfl := hc rfl
      exact ⟨v, w, run_append_owned_none (P := Tryz.prog) (w := w) base 22 o.type 3 i0 1 Tryz.underlying22 hi v n xs hown, by simpa using hown, World.grownBy.refl w _⟩
    · have hcells : ∀ j u, news[j]? = some u → w.cell? (ad.add j) = some u := by
        rcases hr with rfl | ⟨b, off, e, _, hcell⟩
        · intro j u hu; simp at hu
        · cases e
          intro j u hu
          have ha : (⟨b, off, none⟩ : Addr).add j = ⟨b, off + j, none⟩ := by unfold Addr.add; split <;> simp_all
          rw [ha]
          exact hcell j u hu
      obtain ⟨v', w', hrun, h2, h3, _⟩ := run_append_own (P := Tryz.prog) w base 22 o.type 3 i0 (.int .i64 0) 1 8 Tryz.underlying22 hi hz0 hz1 hz2 rfl (by decide) v n xs hown ad m c news (by omega) hcells h1 (by unfold maxLen; omega) hb hbase
      exact ⟨v', w', hrun, h2, h3⟩
  obtain ⟨v', w', hrun, h2, h3⟩ := key
  unfold Oper.wp execOp
  simp only [ho, resolve, invoke, builtin, Sem.run_bind, Sem.run_pure, Result.andThen_ok, List.map_toArray, List.map_cons, List.map_nil, hs, hx, hrun]
  exact h v' w' h2 h3

theorem own_drew {w : World} {base : Nat} {e : TypeId} {size n : Nat} {v : Value} {xs : List Value} (h : w.ownsRow base e size v n xs) : w.drew.ownsRow base e size v n xs := h
theorem rdv_drew {w : World} {A : Option Addr} {xs : List Value} (h : RdV w w.heap.size A xs) : RdV w.drew w.drew.heap.size A xs := h
theorem listed_drew {w : World} {l : List Bool} {e : Ending} {w' : World} (h : Listed w.drew l e w') : ∃ A c, e = .returned (.slice A l.length c) ∧ w'.ownsRow w.heap.size 3 1 (.slice A l.length c) l.length (ic l) ∧ Below w.heap.size w w' := by
  obtain ⟨A, c, h1, h2, h3⟩ := h
  exact ⟨A, c, h1, h2, ((Below.refl _ w).drew).trans h3⟩
theorem join_grown {B : Nat} {w2 w4 w5 : World} {base : Nat} {A : Option Addr} {n c : Nat} {xs : List Value} (hk4 : Below B w2 w4) (hB : B ≤ base) (hB4 : B ≤ w4.heap.size) (ho : w4.ownsRow base 3 1 (.slice A n c) n xs) (hg : w4.grownBy w5 (Value.slice A n c).ownBlock) : Below B w2 w5 :=
  hk4.grown hg hB4 (fun j hj => Nat.le_trans hB (ho.lt j hj).1)
end

section
set_option maxRecDepth 100000
set_option linter.unusedVariables false
open Go.RowKit Go.Shelf Go.Lib

theorem cell_atC {w : World} {W : Nat} {t : TypeId} {cs : Array Value} (h : w.heap[W]? = some (.cells cs t (0, 0))) (i : Nat) : w.cell? ⟨W, i, none⟩ = cs[i]? := by simp [World.cell?, h]
theorem grown_lowC {w w' : World} {B : Nat} {v : Value} {n k : Nat} {T : TypeId} {xs : List Value} (h : w.grownBy w' v.ownBlock) (ho : w.ownsRow B T k v n xs) (hB : B ≤ w.heap.size) : Below B w w' := by
  refine ⟨h.os, h.tape, h.output, h.size, fun j hj => h.block j (by omega) ?_⟩
  intro e
  rcases ho.2 with ⟨rfl, _⟩ | ⟨g, cap, cur, rfl, hb, _⟩
  · simp [Value.ownBlock] at e
  · simp only [Value.ownBlock, Option.some.injEq] at e
    omega
theorem ns_append (a b : List Nat) : ns (a ++ b) = ns a ++ ns b := by simp [ns]

set_option maxHeartbeats 4000000 in
theorem grow_nil (n : Nat) (hn : n ≤ 1000000) (w : World) :
    Calls Tryz.prog 170 #[.slice none 0 0, .int .i64 (n : Int)] w fun e w' => ∃ A c, e = .returned (.slice A 0 c) ∧ w'.ownsRow w.heap.size 3 1 (.slice A 0 c) 0 [] ∧ Below w.heap.size w w' := by
  obtain ⟨i0, hi, hz0, hz1, hz2⟩ := info_parts info3
  have h1 : decide ((n : Int) < 0) = false := by simp
  have h3 : IntKind.i64.wrap ((n : Int) - 0) = (n : Int) := by rw [Int.sub_zero]; exact IntWalk.i64_in _ (by omega)
  by_cases h0 : n = 0
  · subst h0
    go_enter Tryz.func170, Tryz.ntmps170
    go_wp2
    go_ret
    exact ⟨none, 0, rfl, ⟨rfl, .inl ⟨rfl, rfl⟩⟩, Below.refl _ _⟩
  · have h4 : decide (0 < (n : Int)) = true := by simp; omega
    have h5 : decide ((n : Int) > 0) = true := by simp; omega
    have h6 : (0 : Int) < (n : Int) := by omega
    have h7 : ¬ ((n : Int) < 0) := by omega
    have hold : (Builtin.firstCells i0.size 0 (.slice none 0 0)).run Tryz.prog w.drew = .ok ([] : List Value).toArray w.drew := run_firstCells_none w.drew i0.size 0 0 0
    have hrz : ∀ ty, (Builtin.append_ #[22, 3] ty #[.slice none 0 0, .int .i64 (n : Int)]).run Tryz.prog w =
        .ok (.slice (some ⟨w.heap.size, 0, none⟩) n (grownCap w n 0 3)) (w.drew.alloc (.cells ((([] : List Value).toArray ++ Builtin.zeroCells (Value.int .i64 0).cells n) ++ Builtin.zeroCells (Value.int .i64 0).cells (grownCap w n 0 3 - n)) 3)) := fun ty => by
      have h := Lib.run_append_grow_zeros w 22 3 ty 3 i0 (.int .i64 0) .i64 .i64 Tryz.underlying22 Tryz.underlying3 hi hz0 none 0 0 [] hold n (by omega) (by omega) (by omega) (by omega)
        (by rw [hz2]; omega) (by rw [Nat.zero_add]; exact growslice_fits (by omega) (by rw [hz2]; omega))
      rw [Nat.zero_add] at h
      exact h
    have hGn : n ≤ grownCap w n 0 3 := grownCap_ge w _ _ _
    have hGm : grownCap w n 0 3 ≤ maxLen := grownCap_le_maxLen w n 0 3 (by unfold maxLen; omega)
    obtain ⟨G, hG⟩ : ∃ G, G = grownCap w n 0 3 := ⟨_, rfl⟩
    rw [← hG] at hrz hGn hGm
    have hG63 : G ≤ 9223372036854775807 := by unfold maxLen at hGm; omega
    obtain ⟨cs, hcs⟩ : ∃ cs, cs = (([] : List Value).toArray ++ Builtin.zeroCells (Value.int .i64 0).cells n) ++ Builtin.zeroCells (Value.int .i64 0).cells (G - n) := ⟨_, rfl⟩
    have hsz : cs.size = G * 1 := by
      rw [hcs]; simp [Builtin.zeroCells, Value.cells]; omega
    rw [← hcs] at hrz
    have HO : Hid ((w.drew.alloc (.cells cs 3)).ownsRow w.heap.size 3 1 (.slice (some ⟨w.heap.size, 0, none⟩) 0 G) 0 [] ∧ Below w.heap.size w (w.drew.alloc (.cells cs 3))) :=
      ⟨⟨rfl, .inr ⟨w.heap.size, G, cs, rfl, Nat.le_refl _, World.alloc_heap_new w.drew (.cells cs 3), Nat.zero_le _, hGm, hsz, by simp⟩⟩, ((Below.refl w.heap.size w).drew).alloc (Nat.le_refl _) _⟩
    clear hold hG hcs hsz
    go_enter Tryz.func170, Tryz.ntmps170
    go_wp2_with (at_builtin; refine Lib.wpList_append_run _ rfl _ _ _ _ rfl _ _ rfl rfl _ _ (hrz _) ?_)
    all_goals (go_ret; exact ⟨_, _, rfl, HO.out.1, HO.out.2⟩)
theorem add_plU (b off k : Nat) : (⟨b, off, none⟩ : Addr).add k = ⟨b, off + k, none⟩ := by unfold Addr.add; split <;> simp_all
theorem rdv_newsU {w : World} {B : Nat} {a : Addr} {vs : List Value} (h : RdV w B (some a) vs) : ∀ j u, vs[j]? = some u → w.cell? (a.add j) = some u := by
  intro j u hu
  obtain ⟨b, off, e, hb, hc⟩ := h.at_ hu
  cases e
  rw [add_plU]; exact hc
theorem own_zero {w : World} {base n c : Nat} {e : TypeId} {xs : List Value} (h : w.ownsRow base e 1 (.slice none n c) n xs) : n = 0 := by
  rcases h.2 with ⟨h, h0⟩ | ⟨g, cap, cur, h, _⟩
  · exact h0
  · simp at h
theorem rdv_none_nil {w : World} {B : Nat} {l : List Nat} (h : RdV w B none (zc (ns l))) : l = [] := by
  rcases h with h | ⟨b, off, h, _⟩
  · cases l with
    | nil => rfl
    | cons x t => simp [zc, ns] at h
  · cases h
/-- At each round's head: so many are counted. -/
def SzRel (n1 n2 : Nat) (p s : Value) : Prop := (p = .int .i64 0 ∧ s = .int .i64 0) ∨ (p = .int .i64 1 ∧ s = .int .i64 (n1 : Int)) ∨ (p = .int .i64 2 ∧ s = .int .i64 ((n1 + n2 : Nat) : Int))
/-- At each round's head: so many lists are in the row. -/
def CtRel (l1 l2 : List Nat) (w : World) (v p : Value) (wr : World) : Prop :=
  ∃ (i : Nat) (l : List Nat), ((i = 0 ∧ l = []) ∨ (i = 1 ∧ l = l1) ∨ (i = 2 ∧ l = l1 ++ l2)) ∧ p = .int .i64 (i : Int) ∧ wr.ownsRow w.heap.size 3 1 v l.length (zc (ns l)) ∧ Below w.heap.size w wr
set_option maxHeartbeats 8000000 in
theorem concat_two (l1 l2 : List Nat) (n1 n2 : Nat) (hn1 : l1.length = n1) (hn2 : l2.length = n2) (h1 : n1 ≤ 100000) (h2 : n2 ≤ 100000) (A1 A2 : Option Addr) (c1 c2 : Nat) (hA1 : A1 = none → c1 = 0) (hA2 : A2 = none → c2 = 0) (S : Nat) (w : World)
    (hS : w.heap[S]? = some (.cells #[.slice A1 n1 c1, .slice A2 n2 c2] 22 (0, 0))) (r1 : RdV w w.heap.size A1 (zc (ns l1))) (r2 : RdV w w.heap.size A2 (zc (ns l2))) :
    Calls Tryz.prog 130 #[.slice (some ⟨S, 0, none⟩) 2 2] w fun e w' => ∃ A c, e = .returned (.slice A (n1 + n2) c) ∧ w'.ownsRow w.heap.size 3 1 (.slice A (n1 + n2) c) (n1 + n2) (zc (ns (l1 ++ l2))) ∧ Below w.heap.size w w' := by
  obtain ⟨i0, hi, hz0, hz1, hz2⟩ := info_parts info3
  have hSw : S < w.heap.size := (Array.getElem?_eq_some_iff.1 hS).1
  have HX1 := Lib.hid r1; have HX2 := Lib.hid r2; have HN1 := Lib.hid hn1; have HN2 := Lib.hid hn2
  have HG := Lib.hid (grow_nil (n1 + n2) (by omega))
  have k0 : w.cell? ⟨S, 0, none⟩ = some (.slice A1 n1 c1) := by rw [cell_atC hS]; rfl
  have k1 : w.cell? ⟨S, 1, none⟩ = some (.slice A2 n2 c2) := by rw [cell_atC hS]; rfl
  have HK : Hid (∀ V, Below w.heap.size w V → V.cell? ⟨S, 0, none⟩ = some (.slice A1 n1 c1) ∧ V.cell? ⟨S, 1, none⟩ = some (.slice A2 n2 c2)) := fun V hV => ⟨(hV.cell (p := ⟨S, 0, none⟩) hSw).trans k0, (hV.cell (p := ⟨S, 1, none⟩) hSw).trans k1⟩
  clear r1 r2 hn1 hn2 hS
  go_enter Tryz.func130, Tryz.ntmps130
  go_wp2
  go_loopw [3, 11] (fun s p wr => SzRel n1 n2 p s ∧ wr = w) (fun _ p _ => 2 - (intOf p).toNat)
  case atStart => exact ⟨.inl ⟨rfl, rfl⟩, rfl⟩
  case round =>
    obtain ⟨hsz, hw⟩ := hrel
    have hw2 := hw.symm
    subst hw2
    clear hw
    rcases hsz with ⟨rfl, rfl⟩ | ⟨rfl, rfl⟩ | ⟨rfl, rfl⟩
    · have t1 : IntKind.i64.wrap (0 + (n1 : Int)) = (n1 : Int) := by rw [Int.zero_add]; exact IntWalk.i64_in _ (by omega)
      have t2 : decide ((n1 : Int) < 0) = false := by simp
      go_wp2
      go_roundw
      case rel => exact ⟨.inr (.inl ⟨rfl, rfl⟩), by trivial⟩
      case measure => simp [intOf]
    · have t1 : IntKind.i64.wrap ((n1 : Int) + (n2 : Int)) = ((n1 + n2 : Nat) : Int) := by rw [← Int.natCast_add]; exact IntWalk.i64_in _ (by omega)
      have t2 : decide (((n1 + n2 : Nat) : Int) < 0) = false := by simp; omega
      go_wp2
      go_roundw
      case rel => exact ⟨.inr (.inr ⟨rfl, by go_num⟩), by trivial⟩
      case measure => simp [intOf]
    · clear k0 k1
      go_wp2_with fail
      refine (HG.out w).mono ?_
      rintro e w1 ⟨Av, cv, rfl, hrow, hbel⟩
      have HR := Lib.hid hrow; have HB := Lib.hid hbel
      clear hrow hbel HG
      go_wp2
      go_loopw [6, 27] (fun v p V => CtRel l1 l2 w v p V) (fun _ p _ => 2 - (intOf p).toNat)
      case atStart => exact ⟨0, [], .inl ⟨rfl, rfl⟩, rfl, HR.out, HB.out⟩
      case round =>
        obtain ⟨i, l, hcase, rfl, hrow, hbel⟩ := hrel
        rcases hcase with ⟨rfl, rfl⟩ | ⟨rfl, rfl⟩ | ⟨rfl, rfl⟩
        · obtain ⟨k0, k1⟩ := HK.out _ hbel
          obtain ⟨Av2, cv2, rfl⟩ := own_slice3 hrow
          simp only [List.length_nil] at hrow
          have hX := HX1.out.on hbel
          have HB0 := Lib.hid hbel
          clear hbel HR HB
          cases A1 with
          | none =>
            have hc := hA1 rfl
            have hl0 := rdv_none_nil hX
            subst hc
            obtain rfl : n1 = 0 := by rw [← HN1.out, hl0]; rfl
            have HL0 := Lib.hid hl0
            clear hl0
            clear hX
            go_wp2_with (at_builtin; refine wpList_append_own_none rfl _ _ 22 rfl w.heap.size 3 i0 1 Tryz.underlying22 hi _ _ _ rfl hrow rfl ?_)
            all_goals (
              go_roundw
              case rel => first | exact ⟨1, l1, .inr (.inl ⟨rfl, rfl⟩), rfl, by rw [HL0.out]; exact hrow, HB0.out⟩ | exact ⟨_, _, _, ⟨1, l1, .inr (.inl ⟨rfl, rfl⟩), rfl, by rw [HL0.out]; exact hrow, HB0.out⟩, rfl, rfl, rfl⟩
              case measure => simp [intOf])
          | some a =>
            have HNw := Lib.hid (rdv_newsU hX)
            have HLz : Hid ((zc (ns l1)).length = n1 * 1) := by show _ = _; rw [zc_length, ns_length, HN1.out, Nat.mul_one]
            have HOn := Lib.hid (zc_one (ns l1))
            clear hX
            go_wp2_with (at_builtin; refine wpList_append_own _ rfl _ _ 22 rfl w.heap.size 3 i0 (.int .i64 0) 1 8 Tryz.underlying22 hi hz0 hz1 hz2 rfl (by decide) _ _ _ rfl hrow a n1 c1 (zc (ns l1)) rfl HLz.out HNw.out HOn.out (by unfold maxLen; omega) (by omega) HB0.out.size ?_; intro v' w3 hown' hgrow _; obtain ⟨Av', cv', rfl⟩ := own_slice3 hown')
            have HO : Hid (w3.ownsRow w.heap.size 3 1 (.slice Av' (0 + n1) cv') l1.length (zc (ns l1))) := by
              show World.ownsRow _ _ _ _ _ _ _
              rw [HN1.out]
              have := hown'
              simpa [zc, ns] using this
            have HB : Hid (Below w.heap.size w w3) := HB0.out.trans (grown_lowC hgrow hrow HB0.out.size)
            clear hown' hgrow hrow HB0 k0 k1
            go_wp2
            go_roundw
            case rel => exact ⟨1, l1, .inr (.inl ⟨rfl, rfl⟩), rfl, by first | exact HO.out | simpa using HO.out, HB.out⟩
            case measure => simp [intOf]
        · obtain ⟨k0, k1⟩ := HK.out _ hbel
          obtain ⟨Av2, cv2, rfl⟩ := own_slice3 hrow
          have hX := HX2.out.on hbel
          have HB0 := Lib.hid hbel
          have HLen : Hid ((l ++ l2).length = n1 + n2) := by show _ = _; rw [List.length_append, HN1.out, HN2.out]
          generalize hk : l.length = k at *
          have HKk := Lib.hid hk
          have hkn : Hid (k = n1) := HN1.out
          have hk1 : k ≤ 100000 := by have := hkn.out; omega
          clear hk hbel HR HB
          cases A2 with
          | none =>
            have hc := hA2 rfl
            have hl0 := rdv_none_nil hX
            subst hc
            obtain rfl : n2 = 0 := by rw [← HN2.out, hl0]; rfl
            have HL0 := Lib.hid hl0
            clear hl0
            clear hX
            go_wp2_with (at_builtin; refine wpList_append_own_none rfl _ _ 22 rfl w.heap.size 3 i0 1 Tryz.underlying22 hi _ _ _ rfl hrow rfl ?_)
            all_goals (
              go_roundw
              case rel => first | exact ⟨2, l ++ l2, .inr (.inr ⟨rfl, rfl⟩), rfl, by rw [HL0.out, List.append_nil, HKk.out]; exact hrow, HB0.out⟩ | exact ⟨_, _, _, ⟨2, l ++ l2, .inr (.inr ⟨rfl, rfl⟩), rfl, by rw [HL0.out, List.append_nil, HKk.out]; exact hrow, HB0.out⟩, rfl, rfl, rfl⟩
              case measure => simp [intOf])
          | some a =>
            have HNw := Lib.hid (rdv_newsU hX)
            have HLz : Hid ((zc (ns l2)).length = n2 * 1) := by show _ = _; rw [zc_length, ns_length, HN2.out, Nat.mul_one]
            have HOn := Lib.hid (zc_one (ns l2))
            clear hX
            go_wp2_with (at_builtin; refine wpList_append_own _ rfl _ _ 22 rfl w.heap.size 3 i0 (.int .i64 0) 1 8 Tryz.underlying22 hi hz0 hz1 hz2 rfl (by decide) _ _ _ rfl hrow a n2 c2 (zc (ns l2)) rfl HLz.out HNw.out HOn.out (by unfold maxLen; omega) (by omega) HB0.out.size ?_; intro v' w3 hown' hgrow _; obtain ⟨Av', cv', rfl⟩ := own_slice3 hown')
            have HO : Hid (w3.ownsRow w.heap.size 3 1 (.slice Av' (k + n2) cv') (l ++ l2).length (zc (ns (l ++ l2)))) := by
              show World.ownsRow _ _ _ _ _ _ _
              rw [HLen.out, ns_append, zc_append, ← hkn.out]; exact hown'
            have HB : Hid (Below w.heap.size w w3) := HB0.out.trans (grown_lowC hgrow hrow HB0.out.size)
            clear hown' hgrow hrow HB0 k0 k1
            go_wp2
            go_roundw
            case rel => exact ⟨2, l ++ l2, .inr (.inr ⟨rfl, rfl⟩), rfl, HO.out, HB.out⟩
            case measure => simp [intOf]
        · have hl : (l1 ++ l2).length = n1 + n2 := by rw [List.length_append, HN1.out, HN2.out]
          rw [hl] at hrow
          obtain ⟨Av2, cv2, rfl⟩ := own_slice3 hrow
          have HR2 := Lib.hid hrow; have HB2 := Lib.hid hbel
          clear hrow hbel HR HB
          go_wp2
          go_ret
          exact ⟨_, _, rfl, HR2.out, HB2.out⟩
end
end Go.Proofs.YtndiocehkdbjkaaGreat
