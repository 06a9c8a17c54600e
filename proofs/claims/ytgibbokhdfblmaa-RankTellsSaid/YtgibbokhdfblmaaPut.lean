/- What Put answers, for whatever bits, number and width it is handed. -/
import Derived.Test.YtgibbokhdfblmaaCheck
namespace Go.Proofs.Ytgibbokhdfblmaa
open Go.RowKit

/-- A number in so many bits, the highest one first. -/
def nb (n width : Nat) : List Bool := (List.range width).map fun i => n / 2 ^ (width - 1 - i) % 2 == 1
theorem nb_length (n width : Nat) : (nb n width).length = width := by simp [nb]
theorem nb_take_succ (n width j : Nat) (h : j < width) : (nb n width).take (j + 1) = (nb n width).take j ++ [n / 2 ^ (width - 1 - j) % 2 == 1] := by
  rw [List.take_succ_eq_append_getElem (by rw [nb_length]; exact h)]
  simp [nb]

/-- Bits and an error come back. -/
def Gave (w : World) (l : List Bool) (err : Int) (e : Ending) (w' : World) : Prop :=
  ∃ A c, e = .returned (.tuple #[.agg #[.int .i64 (l.length : Int), .slice A (pack l).length c], .int .i64 err]) ∧ Rd w' w'.heap.size A (pack l) ∧ Below w.heap.size w w'

theorem old_cells {B : Nat} {W w1 : World} (h : Below B W w1) : (∀ b o, b < B → w1.cell? ⟨b, o, none⟩ = W.cell? ⟨b, o, none⟩) ∧ (∀ b o, b < B → w1.frozen? ⟨b, o, none⟩ = W.frozen? ⟨b, o, none⟩) :=
  ⟨fun b o hb => h.cell (p := ⟨b, o, none⟩) hb, fun b o hb => h.frozen (p := ⟨b, o, none⟩) hb⟩

theorem pow_test' (n k : Nat) (h : n / 2 ^ k = 0) : ((n : Int) / 2 ^ k != 0) = false := by
  have e : (n : Int) / 2 ^ k = ((n / 2 ^ k : Nat) : Int) := by simp
  rw [e, h]; rfl
theorem pow_test (n k : Nat) (h : n / 2 ^ k ≠ 0) : ((n : Int) / 2 ^ k != 0) = true := by
  have e : (n : Int) / 2 ^ k = ((n / 2 ^ k : Nat) : Int) := by simp
  rw [e]
  generalize n / 2 ^ k = y at *
  rw [bne_iff_ne]; omega

theorem and_bit (n q : Nat) (hn : n < 18446744073709551616) : bits .and .u64 ((n : Int) / 2 ^ q) 1 % 256 = ((n / 2 ^ q % 2 == 1).toNat : Int) := by
  have e : (n : Int) / 2 ^ q = ((n / 2 ^ q : Nat) : Int) := by simp
  have h1 : n / 2 ^ q ≤ n := Nat.div_le_self _ _
  rw [e]
  have := u64_and_nat (n / 2 ^ q) 1 (by omega) (by omega)
  rw [show ((1 : Nat) : Int) = 1 from rfl] at this
  rw [this, Nat.and_one_is_mod]
  rcases (show n / 2 ^ q % 2 = 0 ∨ n / 2 ^ q % 2 = 1 by omega) with h | h <;> rw [h] <;> rfl

theorem unpack_pack (l : List Bool) : unpack l.length (pack l) = l := by
  apply pack_inj
  · rw [unpack_length]
  · exact pack_unpack _ _ (pack_lt l) (pack_length l) (stray_pack l)

/-- A zero value and an error, stored where the result lies. -/
theorem gave_zero {w w1 : World} (hq : Below w.heap.size w w1) (r : Nat) (hr : w.heap.size ≤ r) (err : Int) :
    Gave w [] err (.returned (.tuple #[.agg #[.int .i64 0, .slice none 0 0], .int .i64 err])) ((w1.setCell ⟨r, 0, none⟩ (.int .i64 0)).setCell ⟨r, 1, none⟩ (.slice none 0 0)) :=
  ⟨none, 0, rfl, .inl rfl, (hq.setCell (p := ⟨r, 0, none⟩) hr _).setCell (p := ⟨r, 1, none⟩) hr _⟩

/-- The two blocks that Put, Get and Cut begin with. -/
def begun (w : World) (len : Int) (A : Option Addr) (n c : Nat) : World := (w.alloc (.cells #[.int .i64 len, .slice A n c] 25)).alloc (.cells #[.int .i64 0, .slice none 0 0] 25)
theorem begun_below (w : World) (len : Int) (A : Option Addr) (n c : Nat) : Below w.heap.size w (begun w len A n c) := ((Below.refl _ w).alloc (Nat.le_refl _) _).alloc (by simp) _
theorem begun_size (w : World) (len : Int) (A : Option Addr) (n c : Nat) : (begun w len A n c).heap.size = w.heap.size + 2 := by
  unfold begun; rw [World.size_alloc, World.size_alloc]

/-- Check, called at the beginning. -/
theorem check_begun (len : Int) (A : Option Addr) (c : Nat) (bs : List Nat) (w : World) (hb : ∀ b ∈ bs, b < 256) (h : Rd w w.heap.size A bs) :
    Calls Try.prog 43 #[.agg #[.int .i64 len, .slice A bs.length c]] ((w.alloc (.cells #[.int .i64 len, .slice A bs.length c] 25)).alloc (.cells #[.int .i64 0, .slice none 0 0] 25)) fun e w' => e = .returned (.int .i64 (chk len bs)) ∧ Below (w.heap.size + 2) ((w.alloc (.cells #[.int .i64 len, .slice A bs.length c] 25)).alloc (.cells #[.int .i64 0, .slice none 0 0] 25)) w' := by
  have := check_any len A c bs (begun w len A bs.length c) hb (h.below (begun_below w len A bs.length c) (by rw [begun_size]; omega))
  rwa [begun_size] at this

set_option maxHeartbeats 400000 in
theorem put_bad (len : Int) (A : Option Addr) (c : Nat) (bs : List Nat) (n width : Int) (w : World) (hb : ∀ b ∈ bs, b < 256) (h : Rd w w.heap.size A bs) (hc : chk len bs ≠ 0) :
    Calls Try.prog 64 #[.agg #[.int .i64 len, .slice A bs.length c], .int .u64 n, .int .i64 width] w (Gave w [] (chk len bs)) := by
  have HC := Lib.hid (check_begun len A c bs w hb h)
  have hcb : (chk len bs != 0) = true := by simpa using hc
  clear hc hb h
  have HB := Lib.hid (begun_below w len A bs.length c)
  generalize chk len bs = e0 at *
  generalize bs.length = nn at *
  go_enter Try.func64, Try.ntmps64
  go_wp2_with (go_at_call 43; refine HC.out.mono ?_; rintro e w1 ⟨rfl, hq⟩; obtain ⟨hc1, hf1⟩ := old_cells hq)
  exact bodyPost_ret (v := .tuple #[.agg #[.int .i64 0, .slice none 0 0], .int .i64 e0]) (by simp [results, Try.results64, go_sem, hc1]) rfl (gave_zero (HB.out.trans (hq.mono (by omega))) _ (by omega) e0)

set_option maxHeartbeats 400000 in
theorem put_width (l : List Bool) (hl : l.length ≤ 8192) (A : Option Addr) (c : Nat) (n width : Int) (w : World) (h : Rd w w.heap.size A (pack l)) (hw : width < 0 ∨ 64 < width) :
    Calls Try.prog 64 #[.agg #[.int .i64 (l.length : Int), .slice A (pack l).length c], .int .u64 n, .int .i64 width] w (Gave w [] 3) := by
  have hc0 := check_begun (l.length : Int) A c (pack l) w (pack_lt l) h
  rw [chk_pack l hl] at hc0
  have HC := Lib.hid hc0; clear hc0
  clear h
  have HB := Lib.hid (begun_below w (l.length : Int) A (pack l).length c)
  generalize (pack l).length = nn at *
  generalize l.length = ln at *
  rcases hw with hw | hw
  · go_enter Try.func64, Try.ntmps64
    go_wp2_with (go_at_call 43; refine HC.out.mono ?_; rintro e w1 ⟨rfl, hq⟩; obtain ⟨hc1, hf1⟩ := old_cells hq)
    exact bodyPost_ret (v := .tuple #[.agg #[.int .i64 0, .slice none 0 0], .int .i64 3]) (by simp [results, Try.results64, go_sem, hc1]) rfl (gave_zero (HB.out.trans (hq.mono (by omega))) _ (by omega) 3)
  · have hw0 : decide (width < 0) = false := by simp; omega
    go_enter Try.func64, Try.ntmps64
    go_wp2_with (go_at_call 43; refine HC.out.mono ?_; rintro e w1 ⟨rfl, hq⟩; obtain ⟨hc1, hf1⟩ := old_cells hq)
    exact bodyPost_ret (v := .tuple #[.agg #[.int .i64 0, .slice none 0 0], .int .i64 3]) (by simp [results, Try.results64, go_sem, hc1]) rfl (gave_zero (HB.out.trans (hq.mono (by omega))) _ (by omega) 3)

set_option maxHeartbeats 400000 in
theorem put_big (l : List Bool) (hl : l.length ≤ 8192) (A : Option Addr) (c : Nat) (n k : Nat) (w : World) (h : Rd w w.heap.size A (pack l)) (hk : k ≤ 64) (hn : n / 2 ^ k ≠ 0) :
    Calls Try.prog 64 #[.agg #[.int .i64 (l.length : Int), .slice A (pack l).length c], .int .u64 (n : Int), .int .i64 (k : Int)] w (Gave w [] 3) := by
  have hc0 := check_begun (l.length : Int) A c (pack l) w (pack_lt l) h
  rw [chk_pack l hl] at hc0
  have HC := Lib.hid hc0; clear hc0
  clear h
  have HB := Lib.hid (begun_below w (l.length : Int) A (pack l).length c)
  generalize (pack l).length = nn at *
  generalize l.length = ln at *
  have hnb : ((n : Int) / 2 ^ k != 0) = true := pow_test n k hn
  clear hn
  go_enter Try.func64, Try.ntmps64
  go_wp2_with (go_at_call 43; refine HC.out.mono ?_; rintro e w1 ⟨rfl, hq⟩; obtain ⟨hc1, hf1⟩ := old_cells hq)
  exact bodyPost_ret (v := .tuple #[.agg #[.int .i64 0, .slice none 0 0], .int .i64 3]) (by simp [results, Try.results64, go_sem, hc1]) rfl (gave_zero (HB.out.trans (hq.mono (by omega))) _ (by omega) 3)

set_option maxHeartbeats 400000 in
theorem put_full (l : List Bool) (hl : l.length ≤ 8192) (A : Option Addr) (c : Nat) (n k : Nat) (w : World) (h : Rd w w.heap.size A (pack l)) (hk : k ≤ 64) (hn : n / 2 ^ k = 0) (hf : 8192 < l.length + k) :
    Calls Try.prog 64 #[.agg #[.int .i64 (l.length : Int), .slice A (pack l).length c], .int .u64 (n : Int), .int .i64 (k : Int)] w (Gave w [] 8) := by
  have hc0 := check_begun (l.length : Int) A c (pack l) w (pack_lt l) h
  rw [chk_pack l hl] at hc0
  have HC := Lib.hid hc0; clear hc0
  clear h
  have HB := Lib.hid (begun_below w (l.length : Int) A (pack l).length c)
  generalize (pack l).length = nn at *
  generalize l.length = ln at *
  have hnb : ((n : Int) / 2 ^ k != 0) = false := pow_test' n k hn
  clear hn
  go_enter Try.func64, Try.ntmps64
  go_wp2_with (go_at_call 43; refine HC.out.mono ?_; rintro e w1 ⟨rfl, hq⟩; obtain ⟨hc1, hf1⟩ := old_cells hq)
  exact bodyPost_ret (v := .tuple #[.agg #[.int .i64 0, .slice none 0 0], .int .i64 8]) (by simp [results, Try.results64, go_sem, hc1]) rfl (gave_zero (HB.out.trans (hq.mono (by omega))) _ (by omega) 8)

/-- A row of the call's own reads as its bytes. -/
theorem own_rd {w : World} {base : Nat} {A : Option Addr} {n c : Nat} {bs : List Nat} (h : w.ownsRow base 5 1 (.slice A n c) n (bc bs)) : Rd w w.heap.size A bs := by
  rcases h.2 with ⟨e, h0⟩ | ⟨g, cap, cur, e, _, hg, _⟩
  · have := h.1
    rw [bc_length, h0] at this
    exact .inl (List.eq_nil_of_length_eq_zero (by omega))
  · simp only [Value.slice.injEq] at e
    obtain ⟨rfl, _, _⟩ := e
    refine .inr ⟨g, 0, rfl, (Array.getElem?_eq_some_iff.1 hg).1, fun i hi => ?_⟩
    have hh := h.cells (g := g) rfl i _ (bc_get bs i hi)
    have ha : (⟨g, 0, none⟩ : Addr).add i = ⟨g, 0 + i, none⟩ := by unfold Addr.add; split <;> simp_all
    rw [ha] at hh
    exact hh

theorem own_slice {w : World} {base : Nat} {v : Value} {n : Nat} {xs : List Value} (h : w.ownsRow base 5 1 v n xs) : ∃ A c, v = .slice A n c := by
  rcases h.2 with ⟨rfl, rfl⟩ | ⟨g, cap, cur, rfl, _⟩
  · exact ⟨none, 0, rfl⟩
  · exact ⟨_, cap, rfl⟩

theorem blk_cells {w : World} {W : Nat} {t : TypeId} {a v : Value} (hW : w.heap[W]? = some (.cells #[a, v] t (0, 0))) :
    w.cell? ⟨W, 0, none⟩ = some a ∧ w.cell? ⟨W, 1, none⟩ = some v ∧ w.frozen? ⟨W, 0, none⟩ = false ∧ w.frozen? ⟨W, 1, none⟩ = false := by
  simp [World.cell?, World.frozen?, hW]

/-- The writer's bits are stored where the result lies. -/
theorem finish {w wr : World} {S : Nat → Prop} {W r : Nat} {L : List Bool} {a b : Value} (hw : Wr wr S W L) (hr : w.heap.size ≤ r) (hSr : S r) (hrb : wr.heap[r]? = some (.cells #[a, b] 25 (0, 0))) (hb : Below w.heap.size w wr) :
    ∃ A c, (wr.cell? ⟨W, 0, none⟩ = some (.int .i64 (L.length : Int)) ∧ wr.cell? ⟨W, 1, none⟩ = some (.slice A (pack L).length c)) ∧
      (wr.cell? ⟨r, 0, none⟩ = some a ∧ wr.cell? ⟨r, 1, none⟩ = some b ∧ wr.frozen? ⟨r, 0, none⟩ = false ∧ wr.frozen? ⟨r, 1, none⟩ = false) ∧
      Hid (Gave w L 0 (.returned (.tuple #[.agg #[.int .i64 (L.length : Int), .slice A (pack L).length c], .int .i64 0])) ((wr.setCell ⟨r, 0, none⟩ (.int .i64 (L.length : Int))).setCell ⟨r, 1, none⟩ (.slice A (pack L).length c))) := by
  obtain ⟨v, hW, ho, _, hg⟩ := hw
  obtain ⟨A, c, rfl⟩ := own_slice ho
  obtain ⟨c0, c1, _, _⟩ := blk_cells hW
  refine ⟨A, c, ⟨c0, c1⟩, blk_cells hrb, A, c, rfl, ?_, (hb.setCell (p := ⟨r, 0, none⟩) hr _).setCell (p := ⟨r, 1, none⟩) hr _⟩
  have k1 : ∀ (w' : World) (u : Value) (i : Nat), w'.ownsRow 0 5 1 (.slice A (pack L).length c) (pack L).length (bc (pack L)) → (w'.setCell ⟨r, i, none⟩ u).ownsRow 0 5 1 (.slice A (pack L).length c) (pack L).length (bc (pack L)) := by
    intro w' u i h
    refine h.kept (row := some r) ⟨rfl, rfl, rfl, by simp [World.setCell], fun k _ hk => Below.heap_setCell _ _ _ _ (fun e => hk (by rw [e]))⟩ ?_
    right
    intro e
    exact hg r e hSr
  have := own_rd (k1 _ (.slice A (pack L).length c) 1 (k1 _ (.int .i64 (L.length : Int)) 0 ho))
  exact this

theorem begun_size' (w : World) (len : Int) (A : Option Addr) (n c : Nat) : ((w.alloc (.cells #[.int .i64 len, .slice A n c] 25)).alloc (.cells #[.int .i64 0, .slice none 0 0] 25)).heap.size = w.heap.size + 2 := begun_size w len A n c

theorem begun_res (w : World) (len : Int) (A : Option Addr) (n c : Nat) : ((w.alloc (.cells #[.int .i64 len, .slice A n c] 25)).alloc (.cells #[.int .i64 0, .slice none 0 0] 25)).heap[w.heap.size + 1]? = some (.cells #[.int .i64 0, .slice none 0 0] 25) := two_new w _ _

/-- A writer that has just been laid. -/
theorem Wr.laid {w : World} {S : Nat → Prop} {l : List Bool} {v : Value} {base : Nat} (ho : w.ownsRow base 5 1 v (pack l).length (bc (pack l))) (hS : ∀ k, S k → k < base) (hb : base ≤ w.heap.size) :
    Wr (w.alloc (.cells #[.int .i64 (l.length : Int), v] 100)) S w.heap.size l := by
  refine ⟨v, World.alloc_heap_new w _, ?_, fun h => by have := hS _ h; omega, fun g hg h => ?_⟩
  · have := ho.alloc (.cells #[.int .i64 (l.length : Int), v] 100)
    refine ⟨this.1, ?_⟩
    rcases this.2 with h | ⟨g, cap, cur, h1, _, h2⟩
    · exact .inl h
    · exact .inr ⟨g, cap, cur, h1, Nat.zero_le _, h2⟩
  · have := (ho.lt g hg).1
    have := hS _ h
    omega

/-- At each round's head: q bits are still to come. -/
def PutRel (w w2 : World) (l : List Bool) (n k W : Nat) (p : Value) (wr : World) : Prop :=
  ∃ q : Nat, q ≤ k ∧ p = .int .i64 ((q : Int) - 1) ∧ Wr wr (fun k => k < w.heap.size + 2) W (l ++ (nb n k).take (k - q)) ∧ Fr (fun k => k < w.heap.size + 2) w2 wr

theorem putRel_start {w w1 w2 : World} {l : List Bool} {n k : Nat} {A : Option Addr} {c : Nat} (hs : w.heap.size + 2 ≤ w1.heap.size) (ho : w2.ownsRow w1.heap.size 5 1 (.slice A (pack l).length c) (pack l).length (bc (pack l))) (hb : Below w1.heap.size w1 w2) :
    PutRel w w2 l n k w2.heap.size (.int .i64 ((k : Int) - 1)) (w2.alloc (.cells #[.int .i64 (l.length : Int), .slice A (pack l).length c] 100)) := by
  have := hb.size
  refine ⟨k, Nat.le_refl _, rfl, ?_, (Fr.refl _ w2).alloc (fun j hj => by omega) _⟩
  rw [Nat.sub_self, List.take_zero, List.append_nil]
  exact Wr.laid ho (fun j hj => by omega) this

set_option maxHeartbeats 1000000 in
theorem put_ok (l L : List Bool) (A : Option Addr) (c : Nat) (n k : Nat) (w : World) (h : Rd w w.heap.size A (pack l)) (hk : k ≤ 64) (hn : n / 2 ^ k = 0) (hf : l.length + k ≤ 8192) (hn64 : n < 18446744073709551616) (hL : L = l ++ nb n k) :
    Calls Try.prog 64 #[.agg #[.int .i64 (l.length : Int), .slice A (pack l).length c], .int .u64 (n : Int), .int .i64 (k : Int)] w (Gave w L 0) := by
  have HL := Lib.hid hL; clear hL
  have hc0 := check_begun (l.length : Int) A c (pack l) w (pack_lt l) h
  rw [chk_pack l (by omega)] at hc0
  have HC := Lib.hid hc0; clear hc0
  have HB := Lib.hid (begun_below w (l.length : Int) A (pack l).length c)
  have HCP : Hid (∀ w1, Below (w.heap.size + 2) (begun w (l.length : Int) A (pack l).length c) w1 → Calls Try.prog 67 #[.agg #[.int .i64 (l.length : Int), .slice A (pack l).length c]] w1 (Copied w1 (l.length : Int) (pack l).length (pack l))) := fun w1 hq => by
    have hs := hq.size
    rw [begun_size] at hs
    exact copy_any _ w1 A c (pack l) (by rw [pack_length]; omega) (h.below ((begun_below w _ A _ c).trans (hq.mono (by omega))) (by omega))
  clear h
  have hnb : ((n : Int) / 2 ^ k != 0) = false := pow_test' n k hn
  clear hn
  have t1 : decide ((k : Int) < 0) = false := by simp
  have t2 : decide (64 < (k : Int)) = false := by simp; omega
  have t3 : decide (8192 < (l.length : Int) + (k : Int)) = false := by simp; omega
  go_enter Try.func64, Try.ntmps64
  go_wp2_with (first | (go_at_call 43; refine HC.out.mono ?_; rintro e w1 ⟨rfl, hq⟩; obtain ⟨hc1, hf1⟩ := old_cells hq) | (go_at_call 67; refine (HCP.out _ hq).mono ?_; rintro e w2 ⟨A2, c2, rfl, ho2, hb2⟩))
  have hs0 : w.heap.size + 2 ≤ w1.heap.size := by have := hq.size; rw [begun_size'] at this; exact this
  have HW0 : Hid (PutRel w w2 l n k (w2.heap.size) (.int .i64 ((k : Int) - 1)) (w2.alloc (.cells #[.int .i64 (l.length : Int), .slice A2 (pack l).length c2] 100))) := putRel_start hs0 ho2 hb2
  have HQ := Lib.hid hq; clear hq
  have HB2 := Lib.hid hb2; clear hb2 ho2 hc1 hf1
  clear HC HCP
  go_loopw [10] (fun p wr => PutRel w w2 l n k (w2.heap.size) p wr) (fun p _ => (intOf p + 1).toNat)
  case atStart => exact HW0.out
  case round =>
    obtain ⟨q, hqk, hp, hw, hfr⟩ := hrel
    rcases q with _ | q
    · have hp' := hp.trans (show Value.int .i64 (((0 : Nat) : Int) - 1) = Value.int .i64 (-1) from rfl)
      clear hp
      subst hp'
      rw [Nat.sub_zero, List.take_of_length_le (by rw [nb_length]; omega)] at hw
      rw [← HL.out] at hw
      have hwb : wr.heap[w.heap.size + 1]? = some (.cells #[.int .i64 0, .slice none 0 0] 25 (0, 0)) := by
        rw [hfr.block _ (by omega), HB2.out.block _ (by omega), HQ.out.block _ (by omega)]
        exact begun_res w _ A _ c
      have hlow : Below w.heap.size w wr := (HB.out.trans (HQ.out.mono (by omega))).trans ((HB2.out.mono (by omega)).trans (hfr.below (fun j hj => by omega)))
      obtain ⟨A3, c3, ⟨d0, d1⟩, ⟨d2, d3, g0, g1⟩, HG⟩ := finish hw (r := w.heap.size + 1) (by omega) (by omega) hwb hlow
      clear hwb hlow hw hfr hqk
      go_wp2
      exact bodyPost_ret (v := .tuple #[.agg #[.int .i64 (L.length : Int), .slice A3 (pack L).length c3], .int .i64 0]) (by simp [results, Try.results64, go_sem, d2, d3]) rfl HG.out
    · have hp' := hp.trans (show Value.int .i64 (((q + 1 : Nat) : Int) - 1) = Value.int .i64 (q : Int) from by congr 1; omega)
      clear hp
      subst hp'
      have HW := Lib.hid hw; clear hw
      have HS : Hid (w.heap.size + 2 ≤ wr.heap.size) := by
        have h1 := hfr.size
        have h2 := HB2.out.size
        show _ ≤ _
        omega
      go_wp2_with fail
      rw [and_bit n q hn64]
      refine (addBit_any wr _ (fun j hj => by have := HS.out; omega) _ _ _ (by rw [List.length_append, List.length_take, nb_length]; omega) HW.out).mono ?_
      rintro e w3 ⟨rfl, hw3, hfr3⟩
      go_wp2
      go_roundw
      case rel =>
        refine ⟨q, by omega, by go_num, ?_, hfr.trans hfr3⟩
        rw [List.append_assoc] at hw3
        have e1 : k - q = k - (q + 1) + 1 := by omega
        rw [e1, nb_take_succ n k _ (by omega), show k - 1 - (k - (q + 1)) = q from by omega]
        exact hw3
      case measure => simp [intOf]

/-- What Put answers. -/
def putL (len : Int) (bs : List Nat) (n : Nat) (width : Int) : Int := if chk len bs ≠ 0 then chk len bs else if width < 0 ∨ 64 < width ∨ n / 2 ^ width.toNat ≠ 0 then 3 else if 8192 < len + width then 8 else 0

theorem put_any (len : Int) (A : Option Addr) (c : Nat) (bs : List Nat) (n : Nat) (width : Int) (w : World) (hb : ∀ b ∈ bs, b < 256) (h : Rd w w.heap.size A bs) (hn64 : n < 18446744073709551616) :
    Calls Try.prog 64 #[.agg #[.int .i64 len, .slice A bs.length c], .int .u64 (n : Int), .int .i64 width] w
      (Gave w (if putL len bs n width = 0 then unpack len.toNat bs ++ nb n width.toNat else []) (putL len bs n width)) := by
  by_cases hc : chk len bs = 0
  · obtain ⟨l, rfl, hl, rfl⟩ := chk_zero len bs hb hc
    by_cases hw : width < 0 ∨ 64 < width
    · have e : putL (l.length : Int) (pack l) n width = 3 := by unfold putL; rw [if_neg (by omega), if_pos (by omega)]
      rw [e, if_neg (by decide)]
      exact put_width l hl A c n width w h hw
    · obtain ⟨k, rfl⟩ := Int.eq_ofNat_of_zero_le (show 0 ≤ width by omega)
      by_cases hn : n / 2 ^ k = 0
      · by_cases hf : 8192 < l.length + k
        · have e : putL (l.length : Int) (pack l) n (k : Int) = 8 := by unfold putL; rw [if_neg (by omega), Int.toNat_natCast, if_neg (by omega), if_pos (by omega)]
          rw [e, if_neg (by decide)]
          exact put_full l hl A c n k w h (by omega) hn hf
        · have e : putL (l.length : Int) (pack l) n (k : Int) = 0 := by unfold putL; rw [if_neg (by omega), Int.toNat_natCast, if_neg (by omega), if_neg (by omega)]
          rw [e, if_pos rfl, Int.toNat_natCast, Int.toNat_natCast, unpack_pack]
          exact put_ok l _ A c n k w h (by omega) hn (by omega) hn64 rfl
      · have e : putL (l.length : Int) (pack l) n (k : Int) = 3 := by unfold putL; rw [if_neg (by omega), Int.toNat_natCast, if_pos (.inr (.inr hn))]
        rw [e, if_neg (by decide)]
        exact put_big l hl A c n k w h (by omega) hn
  · have e : putL len bs n width = chk len bs := by unfold putL; rw [if_pos hc]
    rw [e, if_neg hc]
    exact put_bad len A c bs n width w hb h hc
end Go.Proofs.Ytgibbokhdfblmaa
