/- The document's own Put, Get and Cut answer what Put, Get and Cut answer, for whatever they are handed. -/
import Derived.Test.YtabmmamaihiljaaRefCheck
import Derived.Test.YtabmmamaihiljaaUApp
namespace Go.Proofs.Ytabmmamaihiljaa
open Go.RowKit

theorem app3 {w : World} {ops : Array Oper} {rest : List Oper} {o : Oper} {a : Act} {Q : Exit → Act → World → Prop} (hgd : o.guard = none) (s x : Operand)
    (ho : o.op = .call { callee := .builtin .append, args := #[s, x], argTypes := #[51, 51] }) (base : Nat)
    (v : Value) (n : Nat) (xs : List Value) (hs : a.eval s = v) (hown : w.ownsRow base 3 1 v n xs)
    (A : Option Addr) (m c : Nat) (news : List Value) (hx : a.eval x = .slice A m c) (hr : RdV w w.heap.size A news) (hlen : news.length = m) (h1 : ∀ u ∈ news, u.oneCell' = true) (hc : A = none → c = 0)
    (hb : (n + m) * 8 ≤ 140737488355328) (hbase : base ≤ w.heap.size)
    (h : ∀ v' w', w'.ownsRow base 3 1 v' (n + m) (xs ++ news) → w.grownBy w' v.ownBlock → wpList Try.prog ops Q rest (a.put o.dst v') w') : wpList Try.prog ops Q (o :: rest) a w := by
  obtain ⟨i0, hi, hz0, hz1, hz2⟩ := info_parts info3
  rcases A with _ | ad
  · obtain rfl : news = [] := by
      rcases hr with h | ⟨b, off, h, _⟩
      · exact h
      · cases h
    obtain rfl : m = 0 := by simpa using hlen.symm
    obtain rfl := hc rfl
    refine wpList_append_own_none hgd s x 51 ho base 3 i0 1 Try.underlying51 hi v n xs hs hown hx ?_
    refine h v w ?_ (World.grownBy.refl w _)
    simpa using hown
  · refine wpList_append_own w hgd s x 51 ho base 3 i0 (.int .i64 0) 1 8 Try.underlying51 hi hz0 hz1 hz2 rfl (by decide) v n xs hs hown ad m c news hx (by omega) ?_ h1 (by unfold maxLen; omega) hb hbase (fun v' w' h2 h3 _ => h v' w' h2 h3)
    rcases hr with rfl | ⟨b, off, e, _, hcell⟩
    · intro j u hu; simp at hu
    · cases e
      intro j u hu
      have ha : (⟨b, off, none⟩ : Addr).add j = ⟨b, off + j, none⟩ := by unfold Addr.add; split <;> simp_all
      rw [ha]
      exact hcell j u hu
theorem own_below {w w' : World} {base : Nat} {e : TypeId} {size n : Nat} {v : Value} {xs : List Value} (h : w.ownsRow base e size v n xs) (hb : Below w.heap.size w w') : w'.ownsRow base e size v n xs :=
  h.kept (grown_of_below hb none) (by cases v.ownBlock <;> simp)
theorem own_none {w : World} {base : Nat} {e : TypeId} {A : Option Addr} {n c : Nat} {xs : List Value} (h : w.ownsRow base e 1 (.slice A n c) n xs) : A = none → c = 0 := by
  rintro rfl
  rcases h.2 with ⟨h, _⟩ | ⟨g, cap, cur, h, _⟩
  · simp at h; exact h.2
  · cases h

/-- Bits are stored where the result lies. -/
theorem gv_store {w w1 : World} {L : List Bool} {A : Option Addr} {c r : Nat} (R1 : Rd w1 w1.heap.size A (pack L)) (hr : w.heap.size ≤ r) (hrb : w1.heap[r]? = some (.cells #[.int .i64 0, .slice none 0 0] 24 (0, 0))) (hlow : Below w.heap.size w w1) :
    (w1.cell? ⟨r, 0, none⟩ = some (.int .i64 0) ∧ w1.cell? ⟨r, 1, none⟩ = some (.slice none 0 0) ∧ w1.frozen? ⟨r, 0, none⟩ = false ∧ w1.frozen? ⟨r, 1, none⟩ = false) ∧
    Hid (Gave w L 0 (.returned (.tuple #[.agg #[.int .i64 (L.length : Int), .slice A (pack L).length c], .int .i64 0])) ((w1.setCell ⟨r, 0, none⟩ (.int .i64 (L.length : Int))).setCell ⟨r, 1, none⟩ (.slice A (pack L).length c))) := by
  refine ⟨blk_cells hrb, A, c, rfl, ?_, (hlow.setCell (p := ⟨r, 0, none⟩) hr _).setCell (p := ⟨r, 1, none⟩) hr _⟩
  have r1 := R1.setK (i := 0) (.int .i64 (L.length : Int)) hrb
  have hr2 : (w1.setCell ⟨r, 0, none⟩ (.int .i64 (L.length : Int))).heap[r]? = some (.cells #[.int .i64 (L.length : Int), .slice none 0 0] 24 (0, 0)) := by
    rw [heap_set_same _ _ _ _ 24 _ hrb]; simp
  have r2 := r1.setK (i := 1) (.slice A (pack L).length c) hr2
  have e : ((w1.setCell ⟨r, 0, none⟩ (.int .i64 (L.length : Int))).setCell ⟨r, 1, none⟩ (.slice A (pack L).length c)).heap.size = w1.heap.size := by simp [World.setCell]
  show Rd _ _ A (pack L)
  rw [e]
  exact r2

/-- BitsCheck, called at the beginning. -/
theorem rcheck_begun (len : Int) (A : Option Addr) (c : Nat) (bs : List Nat) (w : World) (hb : ∀ b ∈ bs, b < 256) (h : Rd w w.heap.size A bs) (e0 : Int) (he : chk len bs = e0) :
    Calls Try.prog 24 #[.agg #[.int .i64 len, .slice A bs.length c]] ((w.alloc (.cells #[.int .i64 len, .slice A bs.length c] 24)).alloc (.cells #[.int .i64 0, .slice none 0 0] 24)) fun e w' => e = .returned (.int .i64 e0) ∧ Below (w.heap.size + 2) ((w.alloc (.cells #[.int .i64 len, .slice A bs.length c] 24)).alloc (.cells #[.int .i64 0, .slice none 0 0] 24)) w' := by
  have := rcheck_any len A c bs hb (begun w len A bs.length c) (h.below (begun_below w len A bs.length c) (by rw [begun_size]; omega))
  rw [begun_size, he] at this
  exact this

set_option maxRecDepth 100000 in
set_option maxHeartbeats 1000000 in
theorem rput_bad (len : Int) (A : Option Addr) (c : Nat) (bs : List Nat) (n width : Int) (w : World) (hb : ∀ b ∈ bs, b < 256) (h : Rd w w.heap.size A bs) (e0 : Int) (he : chk len bs = e0) (h0 : e0 ≠ 0) :
    Calls Try.prog 18 #[.agg #[.int .i64 len, .slice A bs.length c], .int .u64 n, .int .i64 width] w (Gave w [] e0) := by
  have HC := Lib.hid (rcheck_begun len A c bs w hb h e0 he)
  have t1 : (e0 == 0) = false := by simpa using h0
  have t2 : (e0 != 0) = true := by simpa using h0
  clear h0 he hb h
  have HB := Lib.hid (begun_below w len A bs.length c)
  generalize bs.length = nn at *
  go_enter Try.func18, Try.ntmps18
  go_wp2_with fail
  refine HC.out.mono ?_
  rintro e w1 ⟨rfl, hq⟩
  obtain ⟨hc1, hf1⟩ := old_cells hq
  go_wp2
  exact bodyPost_ret (v := .tuple #[.agg #[.int .i64 0, .slice none 0 0], .int .i64 e0]) (by simp [results, Try.results18, go_sem, hc1]) rfl (gave_zero (HB.out.trans (hq.mono (by omega))) _ (by omega) e0)

set_option maxRecDepth 100000 in
set_option maxHeartbeats 1000000 in
theorem rput_err (l : List Bool) (hl : l.length ≤ 8192) (A : Option Addr) (c : Nat) (n : Nat) (width : Int) (w : World) (h : Rd w w.heap.size A (pack l)) (hn64 : n < 18446744073709551616) (e0 : Int)
    (hw : (¬ (0 ≤ width ∧ width ≤ 64) ∧ e0 = 3) ∨ (∃ k : Nat, width = (k : Int) ∧ k ≤ 64 ∧ n / 2 ^ k ≠ 0 ∧ e0 = 3) ∨ (∃ k : Nat, width = (k : Int) ∧ k ≤ 64 ∧ n / 2 ^ k = 0 ∧ 8192 < l.length + k ∧ e0 = 8)) :
    Calls Try.prog 18 #[.agg #[.int .i64 (l.length : Int), .slice A (pack l).length c], .int .u64 (n : Int), .int .i64 width] w (Gave w [] e0) := by
  have HC := Lib.hid (rcheck_begun (l.length : Int) A c (pack l) w (pack_lt l) h 0 (chk_pack l hl))
  clear h
  have HB := Lib.hid (begun_below w (l.length : Int) A (pack l).length c)
  generalize (pack l).length = nn at *
  generalize l.length = ln at *
  rcases hw with ⟨hw, rfl⟩ | ⟨k, rfl, hk, hn, rfl⟩ | ⟨k, rfl, hk, hn, hf, rfl⟩
  · have HW := Lib.hid (between_no width 0 64 hw)
    clear hw
    go_enter Try.func18, Try.ntmps18
    go_wp2_with fail
    refine HC.out.mono ?_
    rintro e w1 ⟨rfl, hq⟩
    obtain ⟨hc1, hf1⟩ := old_cells hq
    go_wp2_with (go_at_call 42; refine (HW.out _).mono ?_; rintro e w2 ⟨rfl, rfl⟩)
    exact bodyPost_ret (v := .tuple #[.agg #[.int .i64 0, .slice none 0 0], .int .i64 3]) (by simp [results, Try.results18, go_sem, hc1]) rfl (gave_zero (HB.out.trans (hq.mono (by omega))) _ (by omega) 3)
  · have HW := Lib.hid (between_yes (k : Int) 0 64 ⟨by omega, by omega⟩)
    have HFi := Lib.hid (fits_any n k hk hn64 false (by simp only [decide_eq_false hn]))
    clear hn
    go_enter Try.func18, Try.ntmps18
    go_wp2_with fail
    refine HC.out.mono ?_
    rintro e w1 ⟨rfl, hq⟩
    obtain ⟨hc1, hf1⟩ := old_cells hq
    go_wp2_with (first | (go_at_call 42; refine (HW.out _).mono ?_; rintro e w2 ⟨rfl, rfl⟩) | (go_at_call 43; refine (HFi.out _).mono ?_; rintro e w3 ⟨rfl, rfl⟩))
    exact bodyPost_ret (v := .tuple #[.agg #[.int .i64 0, .slice none 0 0], .int .i64 3]) (by simp [results, Try.results18, go_sem, hc1]) rfl (gave_zero (HB.out.trans (hq.mono (by omega))) _ (by omega) 3)
  · have HW := Lib.hid (between_yes (k : Int) 0 64 ⟨by omega, by omega⟩)
    have HFi := Lib.hid (fits_any n k hk hn64 true (by simp only [decide_eq_true hn]))
    have t3 : decide ((8192 : Int) < (ln : Int) + (k : Int)) = true := by simp; omega
    clear hn
    go_enter Try.func18, Try.ntmps18
    go_wp2_with fail
    refine HC.out.mono ?_
    rintro e w1 ⟨rfl, hq⟩
    obtain ⟨hc1, hf1⟩ := old_cells hq
    go_wp2_with (first | (go_at_call 42; refine (HW.out _).mono ?_; rintro e w2 ⟨rfl, rfl⟩) | (go_at_call 43; refine (HFi.out _).mono ?_; rintro e w3 ⟨rfl, rfl⟩))
    exact bodyPost_ret (v := .tuple #[.agg #[.int .i64 0, .slice none 0 0], .int .i64 8]) (by simp [results, Try.results18, go_sem, hc1]) rfl (gave_zero (HB.out.trans (hq.mono (by omega))) _ (by omega) 8)

set_option maxRecDepth 100000 in
set_option maxHeartbeats 2000000 in
theorem rput_ok (l L : List Bool) (A : Option Addr) (c : Nat) (n k : Nat) (w : World) (h : Rd w w.heap.size A (pack l)) (hk : k ≤ 64) (hn : n / 2 ^ k = 0) (hf : l.length + k ≤ 8192) (hn64 : n < 18446744073709551616) (hL : L = l ++ nb n k) :
    Calls Try.prog 18 #[.agg #[.int .i64 (l.length : Int), .slice A (pack l).length c], .int .u64 (n : Int), .int .i64 (k : Int)] w (Gave w L 0) := by
  have HC := Lib.hid (rcheck_begun (l.length : Int) A c (pack l) w (pack_lt l) h 0 (chk_pack l (by omega)))
  have HB := Lib.hid (begun_below w (l.length : Int) A (pack l).length c)
  have HW := Lib.hid (between_yes (k : Int) 0 64 ⟨by omega, by omega⟩)
  have HFi := Lib.hid (fits_any n k hk hn64 true (by simp only [decide_eq_true hn]))
  have t3 : decide ((8192 : Int) < (l.length : Int) + (k : Int)) = false := by simp; omega
  have HBL : Hid (∀ w1, Below w.heap.size w w1 → Calls Try.prog 33 #[.agg #[.int .i64 (l.length : Int), .slice A (pack l).length c]] w1 (Listed w1 l)) := fun w1 hq =>
    bitList_any l.length (by omega) A (pack l).length c (pack l) rfl (by rw [pack_length]; omega) (pack_lt l) w1 (h.below hq hq.size) l (unpack_pack l).symm
  have HNB := Lib.hid (numBits_any n k hk hn64 _ rfl)
  have HL := Lib.hid hL; clear hL
  clear hn h
  go_enter Try.func18, Try.ntmps18
  go_wp2_with fail
  refine HC.out.mono ?_
  rintro e w1 ⟨rfl, hq⟩
  have hs1 : w.heap.size + 2 ≤ w1.heap.size := by have := hq.size; rw [begun_size'] at this; exact this
  have HQ1 : Hid (Below w.heap.size w w1) := HB.out.trans (hq.mono (by omega))
  have hrb1 : w1.heap[w.heap.size + 1]? = some (.cells #[.int .i64 0, .slice none 0 0] 24 (0, 0)) := (hq.block _ (by omega)).trans (begun_res w _ A _ c)
  have HRB1 := Lib.hid hrb1; clear hrb1
  obtain ⟨hc1, hf1⟩ := old_cells hq
  go_wp2_with (first | (go_at_call 42; refine (HW.out _).mono ?_; rintro e w2 ⟨rfl, rfl⟩) | (go_at_call 43; refine (HFi.out _).mono ?_; rintro e w3 ⟨rfl, rfl⟩) | (go_at_call 33; refine (HBL.out _ HQ1.out).mono ?_; rintro e w2 ⟨A1, c1, rfl, ho1, hb1⟩; have HO1 := Lib.hid ho1; have HB1 := Lib.hid hb1; clear ho1 hb1 hc1 hf1) | (go_at_call 45; refine (HNB.out _).mono ?_; rintro e w3 ⟨A2, c2, rfl, ho2, hb2⟩; have HO2 := Lib.hid ho2; have HB2 := Lib.hid hb2; have HO1' := Lib.hid (own_below HO1.out hb2); clear ho2 hb2) | (at_builtin; refine app3 rfl _ _ rfl w1.heap.size (.slice A1 l.length c1) l.length (ic l) rfl HO1'.out A2 (nb n k).length c2 (ic (nb n k)) rfl (own_rdv HO2.out) (ic_length _) (ic_one _) (own_none HO2.out) (by rw [nb_length]; omega) (Nat.le_trans HB1.out.size HB2.out.size) ?_; intro v3 w4 hown3 hgrow3; obtain ⟨A3, c3, rfl⟩ := own_slice3 hown3; have HO3 := Lib.hid hown3; have HB3 : Hid (Below w1.heap.size w1 w4) := (HB1.out.trans (HB2.out.mono HB1.out.size)).grown hgrow3 (Nat.le_trans HB1.out.size HB2.out.size) (fun j hj => (HO1'.out.lt j hj).1); clear hown3 hgrow3))
  have HLe : Hid (L.length = l.length + (nb n k).length) := by show _ = _; rw [HL.out, List.length_append]
  have HR3 : Hid (RdV w4 w4.heap.size A3 (ic L)) := by
    have := own_rdv HO3.out
    rw [← ic_append, ← HL.out] at this
    exact this
  refine (packBits_any L _ HLe.out (by rw [nb_length]; omega) A3 c3 w4 HR3.out).mono ?_
  rintro e w5 ⟨A4, c4, rfl, R4, B4⟩
  have hlow : Below w.heap.size w w5 := (HQ1.out.trans (HB3.out.mono (by omega))).trans (B4.mono (by have := HB3.out.size; omega))
  have hrb : w5.heap[w.heap.size + 1]? = some (.cells #[.int .i64 0, .slice none 0 0] 24 (0, 0)) := by
    rw [B4.block _ (by have := HB3.out.size; omega), HB3.out.block _ (by omega)]
    exact HRB1.out
  obtain ⟨⟨d0, d1, g0, g1⟩, HG⟩ := gv_store (L := L) (c := c4) R4 (by omega) hrb hlow
  clear hlow hrb R4 B4
  go_wp2
  exact bodyPost_ret (v := .tuple #[.agg #[.int .i64 (L.length : Int), .slice A4 (pack L).length c4], .int .i64 0]) (by simp [results, Try.results18, go_sem, d0, d1]) rfl HG.out

theorem rput_any (len : Int) (A : Option Addr) (c : Nat) (bs : List Nat) (n : Nat) (width : Int) (w : World) (hb : ∀ b ∈ bs, b < 256) (h : Rd w w.heap.size A bs) (hn64 : n < 18446744073709551616) :
    Calls Try.prog 18 #[.agg #[.int .i64 len, .slice A bs.length c], .int .u64 (n : Int), .int .i64 width] w
      (Gave w (if putL len bs n width = 0 then unpack len.toNat bs ++ nb n width.toNat else []) (putL len bs n width)) := by
  by_cases hc : chk len bs = 0
  · obtain ⟨l, rfl, hl, rfl⟩ := chk_zero len bs hb hc
    by_cases hw : 0 ≤ width ∧ width ≤ 64
    · obtain ⟨k, rfl⟩ := Int.eq_ofNat_of_zero_le hw.1
      by_cases hn : n / 2 ^ k = 0
      · by_cases hf : 8192 < l.length + k
        · have e : putL (l.length : Int) (pack l) n (k : Int) = 8 := by unfold putL; rw [if_neg (by omega), Int.toNat_natCast, if_neg (by omega), if_pos (by omega)]
          rw [e, if_neg (by decide)]
          exact rput_err l hl A c n k w h hn64 8 (.inr (.inr ⟨k, rfl, by omega, hn, hf, rfl⟩))
        · have e : putL (l.length : Int) (pack l) n (k : Int) = 0 := by unfold putL; rw [if_neg (by omega), Int.toNat_natCast, if_neg (by omega), if_neg (by omega)]
          rw [e, if_pos rfl, Int.toNat_natCast, Int.toNat_natCast, unpack_pack]
          exact rput_ok l _ A c n k w h (by omega) hn (by omega) hn64 rfl
      · have e : putL (l.length : Int) (pack l) n (k : Int) = 3 := by unfold putL; rw [if_neg (by omega), Int.toNat_natCast, if_pos (.inr (.inr hn))]
        rw [e, if_neg (by decide)]
        exact rput_err l hl A c n k w h hn64 3 (.inr (.inl ⟨k, rfl, by omega, hn, rfl⟩))
    · have e : putL (l.length : Int) (pack l) n width = 3 := by unfold putL; rw [if_neg (by omega), if_pos (by omega)]
      rw [e, if_neg (by decide)]
      exact rput_err l hl A c n width w h hn64 3 (.inl ⟨hw, rfl⟩)
  · have e : putL len bs n width = chk len bs := by unfold putL; rw [if_pos hc]
    rw [e, if_neg hc]
    exact rput_bad len A c bs n width w hb h _ rfl hc
end Go.Proofs.Ytabmmamaihiljaa
